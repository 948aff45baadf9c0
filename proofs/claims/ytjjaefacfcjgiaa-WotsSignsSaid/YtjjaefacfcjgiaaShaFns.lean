import Derived.WalkKit
import Derived.Laws.ShiftsVarLaws
import Derived.Deep.QuietTactic
import Derived.BigQuiet
import Derived.Outline
import Derived.Lib.Hide
import Derived.Test.YtjjaefacfcjgiaaRows
import Derived.Test.YtjjaefacfcjgiaaShaPlain
import Derived.Test.YtjjaefacfcjgiaaPreds
/-
  Turns of words: the program's and the reference's.
-/
namespace Go.Proofs.Ytjjaefacfcjgiaa
set_option linter.unusedVariables false
open Go.RowKit

theorem or_u32_nat (p q r i : Nat) (hi : i ≤ 32) (hq : q < 2 ^ i) (hr : p * 2 ^ i + q < 4294967296) : bits .or .u32 ((p * 2 ^ i : Nat) : Int) (q : Int) = ((p * 2 ^ i + q : Nat) : Int) := by
  have h1 : q < 4294967296 := by omega
  have h2 : p * 2 ^ i < 4294967296 := by omega
  rw [u32_or _ _ (by omega) (by omega) (by omega) (by omega)]
  congr 1
  rw [Int.toNat_natCast, Int.toNat_natCast, Nat.mul_comm p, Nat.two_pow_add_eq_or_of_lt hq]
theorem or_u32_comm (a b : Int) : bits .or .u32 a b = bits .or .u32 b a := by
  show IntKind.u32.wrap _ = IntKind.u32.wrap _
  rw [BitVec.or_comm]
/-- what lies above and what lies below -/
theorem rotr_or (x : Int) (n : Nat) (hx : 0 ≤ x ∧ x < 4294967296) (hn : 0 < n ∧ n < 32) : bits .or .u32 (x * 2 ^ (32 - n) % 4294967296) (x / 2 ^ n) = rotr x n := by
  obtain ⟨X, rfl⟩ := Int.eq_ofNat_of_zero_le hx.1
  have hX : X < 4294967296 := by omega
  have e32 : 2 ^ n * 2 ^ (32 - n) = 4294967296 := by rw [← Nat.pow_add, show n + (32 - n) = 32 from by omega]
  have e1 : (X * 2 ^ (32 - n)) % 4294967296 = X % 2 ^ n * 2 ^ (32 - n) := by
    rw [← e32, Nat.mul_mod_mul_right]
  have hp : 0 < 2 ^ n := Nat.two_pow_pos n
  have hq : X / 2 ^ n < 2 ^ (32 - n) := by
    rw [Nat.div_lt_iff_lt_mul hp, Nat.mul_comm, e32]; exact hX
  have hm : X % 2 ^ n < 2 ^ n := Nat.mod_lt _ hp
  have hr : X % 2 ^ n * 2 ^ (32 - n) + X / 2 ^ n < 4294967296 := by
    have h1 : (X % 2 ^ n + 1) * 2 ^ (32 - n) ≤ 2 ^ n * 2 ^ (32 - n) := Nat.mul_le_mul_right _ hm
    rw [e32, Nat.add_mul, Nat.one_mul] at h1
    omega
  have h := or_u32_nat (X % 2 ^ n) (X / 2 ^ n) 0 (32 - n) (by omega) hq hr
  rw [← e1] at h
  have c1 : (X : Int) * 2 ^ (32 - n) % 4294967296 = ((X * 2 ^ (32 - n) % 4294967296 : Nat) : Int) := by simp
  have c2 : (X : Int) / 2 ^ n = ((X / 2 ^ n : Nat) : Int) := by simp
  rw [c1, c2, h, e1]
  unfold rotr
  simp
  omega
theorem rotr_range (x : Int) (n : Nat) (hx : 0 ≤ x ∧ x < 4294967296) (hn : 0 < n ∧ n < 32) : 0 ≤ rotr x n ∧ rotr x n < 4294967296 := by
  rw [← rotr_or x n hx hn]
  show 0 ≤ IntKind.u32.wrap _ ∧ IntKind.u32.wrap _ < _
  rw [IntKind.wrap_u32']; omega

/-- a word's bits -/
def bv (x : Int) : BitVec 32 := BitVec.ofInt 32 x
theorem bv_nat (b : BitVec 32) : bv (IntKind.u32.wrap (b.toNat : Int)) = b := by
  have h := b.isLt
  rw [IntKind.wrap_u32', show ((b.toNat : Int) % 4294967296) = (b.toNat : Int) from by omega]
  unfold bv; rw [BitVec.ofInt_natCast, BitVec.ofNat_toNat]; simp
theorem bv_and (a b : Int) : bv (bits .and .u32 a b) = bv a &&& bv b := bv_nat _
theorem bv_or (a b : Int) : bv (bits .or .u32 a b) = bv a ||| bv b := bv_nat _
theorem bv_xor (a b : Int) : bv (bits .xor .u32 a b) = bv a ^^^ bv b := bv_nat _
theorem or_bv (a b : Int) : bits .or .u32 a b = IntKind.u32.wrap ((bv a ||| bv b).toNat : Int) := rfl
theorem xor_bv (a b : Int) : bits .xor .u32 a b = IntKind.u32.wrap ((bv a ^^^ bv b).toNat : Int) := rfl
theorem max_bv : bv IntKind.u32.max = BitVec.allOnes 32 := by decide
/-- 'or' where the two share no bit -/
theorem chs_or (e f g : Int) : bits .or .u32 (bits .and .u32 e f) (bits .and .u32 (bits .xor .u32 IntKind.u32.max e) g) = chs e f g := by
  have hm : (4294967295 : Int) = IntKind.u32.max := by decide
  unfold chs
  rw [or_bv, xor_bv (bits .and .u32 e f), hm]
  simp only [bv_and, bv_xor, max_bv]
  congr 3
  apply BitVec.eq_of_getLsbD_eq
  intro i hi
  simp only [BitVec.getLsbD_or, BitVec.getLsbD_and, BitVec.getLsbD_xor, BitVec.getLsbD_allOnes, hi, decide_true]
  cases (bv e).getLsbD i <;> cases (bv f).getLsbD i <;> cases (bv g).getLsbD i <;> rfl

theorem rotl_at : ∀ n : Nat, n < 32 → 0 < n → bits .and .u64 (IntKind.u64.wrap (-(n : Int))) 31 = ((32 - n : Nat) : Int) := by decide +kernel

set_option maxHeartbeats 400000 in
theorem rotl_any (x : Int) (n : Nat) (hx : 0 ≤ x ∧ x < 4294967296) (hn : 0 < n ∧ n < 32) (w : World) :
    Calls Try.prog 56 #[.int .u32 x, .int .i64 (-(n : Int))] w fun e w' => e = .returned (.int .u32 (rotr x n)) ∧ w = w' := by
  have hs := rotl_at n hn.2 hn.1
  have hr := rotr_or x n hx hn
  obtain ⟨m, hm⟩ : ∃ m, 32 - n = m := ⟨_, rfl⟩
  have hm1 : 0 < m ∧ m < 32 := by omega
  have hn2 : n = 32 - m := by omega
  rw [hm] at hs hr
  rw [hn2] at hr ⊢
  rw [hn2] at hs
  have Hr := Lib.hid hr
  clear hr hm hn2 hn
  go_enter Try.func56, Try.ntmps56
  go_wp2
  go_ret
  exact ⟨ret_int Hr.out, rfl⟩

set_option maxHeartbeats 400000 in
theorem turn_any (x : Int) (n : Nat) (hx : 0 ≤ x ∧ x < 4294967296) (hn : 0 < n ∧ n < 32) (w : World) :
    Calls Try.prog 42 #[.int .u32 x, .int .u64 n] w fun e w' => e = .returned (.int .u32 (rotr x n)) ∧ w = w' := by
  have Hr := Lib.hid (rotr_or x n hx hn)
  go_enter Try.func42, Try.ntmps42
  go_wp2
  go_ret
  exact ⟨ret_int ((or_u32_comm _ _).trans Hr.out), rfl⟩
end Go.Proofs.Ytjjaefacfcjgiaa
