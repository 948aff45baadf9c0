import Derived.Laws.BitsLemmas
import Derived.Laws.BitsAllLaws
import Derived.Laws.Bits64
import Derived.IntWalk
import Derived.Test.YtfenmhddlojahaaGreatBase
import Derived.Test.YtfenmhddlojahaaGreatGrowth
import Derived.Test.YtfenmhddlojahaaGreatUps
namespace Go.Proofs.YtfenmhddlojahaaGreat
/-
  How many bits of a number are one: bits.OnesCount; a number is a power of two just where one is.
-/
section
section
set_option linter.unusedVariables false

theorem and_256 (a b d e : Nat) (hd : d < 256) (he : e < 256) : (256 * a + d) &&& (256 * b + e) = 256 * (a &&& b) + (d &&& e) := by
  have h1 : ((256 * a + d) &&& (256 * b + e)) / 2 ^ 8 = a &&& b := by
    rw [Nat.and_div_two_pow]
    congr 1 <;> omega
  have h2 : ((256 * a + d) &&& (256 * b + e)) % 2 ^ 8 = d &&& e := by
    rw [Nat.and_mod_two_pow]
    congr 1 <;> omega
  omega

/-- one octet, so many times -/
def rep (c : Nat) : Nat → Nat
  | 0 => 0
  | n + 1 => 256 * rep c n + c

theorem rep_succ (c n : Nat) : rep c (n + 1) = 256 * rep c n + c := rfl

def f1 (B : Nat) : Nat := (B / 2 &&& 85) + (B &&& 85)
def f2 (B : Nat) : Nat := (B / 4 &&& 51) + (B &&& 51)
def f3 (B : Nat) : Nat := (B / 16 + B) &&& 15
/-- how many bits of an octet are one -/
def g8 (B : Nat) : Nat := f3 (f2 (f1 B))
def S1 (n x : Nat) : Nat := (x / 2 &&& rep 85 n) + (x &&& rep 85 n)
def S2 (n x : Nat) : Nat := (x / 4 &&& rep 51 n) + (x &&& rep 51 n)
def S3 (n x : Nat) : Nat := (x / 16 + x) &&& rep 15 n

theorem k1 : ∀ b : Fin 2, ∀ B : Fin 256, (128 * b.val + B.val / 2) &&& 85 = B.val / 2 &&& 85 := by decide +kernel
theorem k2 : ∀ b : Fin 4, ∀ B : Fin 256, (64 * b.val + B.val / 4) &&& 51 = B.val / 4 &&& 51 := by decide +kernel
theorem k3 : ∀ b : Fin 5, ∀ C : Fin 73, (16 * b.val + C.val) &&& 15 = C.val &&& 15 := by decide +kernel
theorem f1_lt : ∀ B : Fin 256, f1 B.val < 256 := by decide +kernel
theorem f21_le : ∀ B : Fin 256, f2 (f1 B.val) ≤ 68 ∧ f2 (f1 B.val) % 16 ≤ 4 := by decide +kernel
theorem g8_none : ∀ B : Fin 256, g8 B.val = 0 → B.val = 0 := by decide +kernel
theorem g8_one : ∀ B : Fin 256, g8 B.val = 1 → ∃ i : Fin 8, B.val = 2 ^ i.val := by decide +kernel
theorem g8_le : ∀ B : Fin 256, g8 B.val ≤ 8 := by decide +kernel

theorem S1_succ (n q B : Nat) (hB : B < 256) : S1 (n + 1) (256 * q + B) = 256 * S1 n q + f1 B := by
  have e : (256 * q + B) / 2 = 256 * (q / 2) + (128 * (q % 2) + B / 2) := by omega
  have k := k1 ⟨q % 2, by omega⟩ ⟨B, hB⟩
  simp only at k
  unfold S1 f1
  rw [rep_succ, e, and_256 _ _ _ _ (by omega) (by omega), and_256 _ _ _ _ hB (by omega), k]
  omega
theorem S2_succ (n q B : Nat) (hB : B < 256) : S2 (n + 1) (256 * q + B) = 256 * S2 n q + f2 B := by
  have e : (256 * q + B) / 4 = 256 * (q / 4) + (64 * (q % 4) + B / 4) := by omega
  have k := k2 ⟨q % 4, by omega⟩ ⟨B, hB⟩
  simp only at k
  unfold S2 f2
  rw [rep_succ, e, and_256 _ _ _ _ (by omega) (by omega), and_256 _ _ _ _ hB (by omega), k]
  omega
theorem S3_succ (n q C : Nat) (hC : C ≤ 68) (hq : q % 16 ≤ 4) : S3 (n + 1) (256 * q + C) = 256 * S3 n q + f3 C := by
  have e : (256 * q + C) / 16 + (256 * q + C) = 256 * (q / 16 + q) + (16 * (q % 16) + (C / 16 + C)) := by omega
  have k := k3 ⟨q % 16, by omega⟩ ⟨C / 16 + C, by omega⟩
  simp only at k
  unfold S3 f3
  rw [rep_succ, e, and_256 _ _ _ _ (by omega) (by omega), k]

/-- how many of each octet's bits are one, octet by octet -/
def pops : Nat → Nat → Nat
  | 0, _ => 0
  | n + 1, x => 256 * pops n (x / 256) + g8 (x % 256)
theorem S21_low (n x : Nat) : S2 n (S1 n x) % 16 ≤ 4 := by
  cases n with
  | zero => simp [S2, rep]
  | succ n =>
    have hB : x % 256 < 256 := Nat.mod_lt _ (by omega)
    have h1 := f1_lt ⟨x % 256, hB⟩
    have h2 := f21_le ⟨x % 256, hB⟩
    simp only at h1 h2
    rw [show S1 (n + 1) x = S1 (n + 1) (256 * (x / 256) + x % 256) from by congr 1; omega, S1_succ _ _ _ hB, S2_succ _ _ _ h1]
    omega
theorem pops_eq : ∀ n x, S3 n (S2 n (S1 n x)) = pops n x
  | 0, x => by simp [S3, rep, pops]
  | n + 1, x => by
    have hB : x % 256 < 256 := Nat.mod_lt _ (by omega)
    have h1 := f1_lt ⟨x % 256, hB⟩
    have h2 := f21_le ⟨x % 256, hB⟩
    simp only at h1 h2
    rw [show S1 (n + 1) x = S1 (n + 1) (256 * (x / 256) + x % 256) from by congr 1; omega, S1_succ _ _ _ hB, S2_succ _ _ _ h1, S3_succ _ _ _ h2.1 (S21_low n _), pops_eq n]
    rfl

/-- the count as the code reckons it -/
def a1 (x : Nat) : Nat := (x / 2 &&& 6148914691236517205) + (x &&& 6148914691236517205)
def a2 (x : Nat) : Nat := (x / 4 &&& 3689348814741910323) + (x &&& 3689348814741910323)
def a3 (x : Nat) : Nat := (x / 16 + x) &&& 1085102592571150095
def a4 (x : Nat) : Nat := x + x / 256
def a5 (x : Nat) : Nat := x + x / 65536
def a6 (x : Nat) : Nat := x + x / 4294967296
def cnt (x : Nat) : Nat := a6 (a5 (a4 (a3 (a2 (a1 x))))) % 128
theorem rep_vals : rep 85 8 = 6148914691236517205 ∧ rep 51 8 = 3689348814741910323 ∧ rep 15 8 = 1085102592571150095 := by decide +kernel
theorem a3_pops (x : Nat) : a3 (a2 (a1 x)) = pops 8 x := by
  rw [← pops_eq]
  unfold a1 a2 a3 S1 S2 S3
  rw [rep_vals.1, rep_vals.2.1, rep_vals.2.2]
theorem sum8 (c0 c1 c2 c3 c4 c5 c6 c7 y : Nat) (h0 : c0 ≤ 8) (h1 : c1 ≤ 8) (h2 : c2 ≤ 8) (h3 : c3 ≤ 8) (h4 : c4 ≤ 8) (h5 : c5 ≤ 8) (h6 : c6 ≤ 8) (h7 : c7 ≤ 8)
    (hy : y = 256 * (256 * (256 * (256 * (256 * (256 * (256 * (256 * 0 + c7) + c6) + c5) + c4) + c3) + c2) + c1) + c0) : a6 (a5 (a4 y)) % 128 = c0 + c1 + c2 + c3 + c4 + c5 + c6 + c7 := by
  -- y has the fields c0 to c7
  obtain ⟨R, hR⟩ : ∃ R, R = 256 * (256 * (256 * (256 * (256 * (256 * c7 + c6) + c5) + c4) + c3) + c2) + c1 := ⟨_, rfl⟩
  have y1 : y = 256 * R + c0 := by clear h0 h1 h2 h3 h4 h5 h6 h7; omega
  have e1 : y / 256 = R := by clear hy hR; omega
  obtain ⟨z, hz⟩ : ∃ z, z = a4 y := ⟨_, rfl⟩
  have z1 : z = y + R := by rw [hz]; unfold a4; rw [e1]
  obtain ⟨Z, hZ⟩ : ∃ Z, Z = 256 * (256 * (256 * (256 * (256 * c7 + (c6 + c7)) + (c5 + c6)) + (c4 + c5)) + (c3 + c4)) + (c2 + c3) := ⟨_, rfl⟩
  have z2 : z = 65536 * Z + (256 * (c1 + c2) + (c0 + c1)) := by clear h0 h1 h2 h3 h4 h5 h6 h7 e1 hz hy; omega
  have z3 : z / 65536 = Z := by clear hZ hR y1 e1 hz z1 hy h3 h4 h5 h6 h7; omega
  obtain ⟨u, hu⟩ : ∃ u, u = a5 z := ⟨_, rfl⟩
  have u1 : u = z + Z := by rw [hu]; unfold a5; rw [z3]
  obtain ⟨U, hU⟩ : ∃ U, U = 256 * (256 * (256 * c7 + (c6 + c7)) + (c5 + c6 + c7)) + (c4 + c5 + c6 + c7) := ⟨_, rfl⟩
  have u2 : u = 4294967296 * U + (256 * (256 * (256 * (c3 + c4 + c5 + c6) + (c2 + c3 + c4 + c5)) + (c1 + c2 + c3 + c4)) + (c0 + c1 + c2 + c3)) := by clear h0 h1 h2 h3 h4 h5 h6 h7 e1 hz hy z3 z1 y1 hR hu; omega
  have u3 : u / 4294967296 = U := by clear hU hZ hR y1 e1 hz z1 hy z2 z3 hu u1 h7; omega
  rw [← hz, ← hu]
  unfold a6
  rw [u3]
  obtain ⟨V, hV⟩ : ∃ V, V = 256 * (256 * c7 + (c6 + c7)) + (c5 + c6 + c7) := ⟨_, rfl⟩
  have U2 : U = 256 * V + (c4 + c5 + c6 + c7) := by rw [hU, hV]
  clear hU hV hZ hR y1 e1 hz z1 hy z2 z3 hu u1 u3
  omega
theorem cnt_sum (x : Nat) : cnt x = g8 (x % 256) + g8 (x / 256 % 256) + g8 (x / 256 / 256 % 256) + g8 (x / 256 / 256 / 256 % 256) + g8 (x / 256 / 256 / 256 / 256 % 256) + g8 (x / 256 / 256 / 256 / 256 / 256 % 256) + g8 (x / 256 / 256 / 256 / 256 / 256 / 256 % 256) + g8 (x / 256 / 256 / 256 / 256 / 256 / 256 / 256 % 256) := by
  have h : ∀ y, g8 (y % 256) ≤ 8 := fun y => g8_le ⟨y % 256, Nat.mod_lt _ (by omega)⟩
  unfold cnt
  rw [a3_pops]
  exact sum8 _ _ _ _ _ _ _ _ _ (h _) (h _) (h _) (h _) (h _) (h _) (h _) (h _) rfl
theorem cnt_pow : ∀ K : Fin 64, cnt (2 ^ K.val) = 1 := by decide +kernel
/-- JUST ONE BIT IS ONE IN A POWER OF TWO, AND IN NO OTHER NUMBER. -/
theorem cnt_one (x : Nat) (hx : x < 18446744073709551616) : cnt x = 1 ↔ ∃ K, x = 2 ^ K := by
  constructor
  · intro h
    rw [cnt_sum] at h
    have z : ∀ y, g8 (y % 256) = 0 → y % 256 = 0 := fun y => g8_none ⟨y % 256, Nat.mod_lt _ (by omega)⟩
    have o : ∀ y, g8 (y % 256) = 1 → ∃ i : Nat, y % 256 = 2 ^ i := fun y h => by
      obtain ⟨i, hi⟩ := g8_one ⟨y % 256, Nat.mod_lt _ (by omega)⟩ h
      exact ⟨i.val, hi⟩
    have z0 := z x
    have z1 := z (x / 256)
    have z2 := z (x / 256 / 256)
    have z3 := z (x / 256 / 256 / 256)
    have z4 := z (x / 256 / 256 / 256 / 256)
    have z5 := z (x / 256 / 256 / 256 / 256 / 256)
    have z6 := z (x / 256 / 256 / 256 / 256 / 256 / 256)
    have z7 := z (x / 256 / 256 / 256 / 256 / 256 / 256 / 256)
    have o0 := o x
    have o1 := o (x / 256)
    have o2 := o (x / 256 / 256)
    have o3 := o (x / 256 / 256 / 256)
    have o4 := o (x / 256 / 256 / 256 / 256)
    have o5 := o (x / 256 / 256 / 256 / 256 / 256)
    have o6 := o (x / 256 / 256 / 256 / 256 / 256 / 256)
    have o7 := o (x / 256 / 256 / 256 / 256 / 256 / 256 / 256)
    have hx' : x = 256 * (256 * (256 * (256 * (256 * (256 * (256 * (x / 256 / 256 / 256 / 256 / 256 / 256 / 256 % 256) + x / 256 / 256 / 256 / 256 / 256 / 256 % 256) + x / 256 / 256 / 256 / 256 / 256 % 256) + x / 256 / 256 / 256 / 256 % 256) + x / 256 / 256 / 256 % 256) + x / 256 / 256 % 256) + x / 256 % 256) + x % 256 := by omega
    clear z o
    generalize x / 256 / 256 / 256 / 256 / 256 / 256 / 256 % 256 = b7 at *
    generalize x / 256 / 256 / 256 / 256 / 256 / 256 % 256 = b6 at *
    generalize x / 256 / 256 / 256 / 256 / 256 % 256 = b5 at *
    generalize x / 256 / 256 / 256 / 256 % 256 = b4 at *
    generalize x / 256 / 256 / 256 % 256 = b3 at *
    generalize x / 256 / 256 % 256 = b2 at *
    generalize x / 256 % 256 = b1 at *
    generalize x % 256 = b0 at *
    generalize g8 b0 = c0 at *
    generalize g8 b1 = c1 at *
    generalize g8 b2 = c2 at *
    generalize g8 b3 = c3 at *
    generalize g8 b4 = c4 at *
    generalize g8 b5 = c5 at *
    generalize g8 b6 = c6 at *
    generalize g8 b7 = c7 at *
    have key : ∀ j i, x = 2 ^ i * 2 ^ j → ∃ K, x = 2 ^ K := fun j i e => ⟨i + j, by rw [e, Nat.pow_add]⟩
    by_cases e0 : c0 = 0
    · by_cases e1 : c1 = 0
      · by_cases e2 : c2 = 0
        · by_cases e3 : c3 = 0
          · by_cases e4 : c4 = 0
            · by_cases e5 : c5 = 0
              · by_cases e6 : c6 = 0
                · obtain ⟨i, hi⟩ := o7 (by omega)
                  have := z0 e0; have := z1 e1; have := z2 e2; have := z3 e3; have := z4 e4; have := z5 e5; have := z6 e6
                  exact key 56 i (by omega)
                · obtain ⟨i, hi⟩ := o6 (by omega)
                  have := z0 e0; have := z1 e1; have := z2 e2; have := z3 e3; have := z4 e4; have := z5 e5; have := z7 (by omega)
                  exact key 48 i (by omega)
              · obtain ⟨i, hi⟩ := o5 (by omega)
                have := z0 e0; have := z1 e1; have := z2 e2; have := z3 e3; have := z4 e4; have := z6 (by omega); have := z7 (by omega)
                exact key 40 i (by omega)
            · obtain ⟨i, hi⟩ := o4 (by omega)
              have := z0 e0; have := z1 e1; have := z2 e2; have := z3 e3; have := z5 (by omega); have := z6 (by omega); have := z7 (by omega)
              exact key 32 i (by omega)
          · obtain ⟨i, hi⟩ := o3 (by omega)
            have := z0 e0; have := z1 e1; have := z2 e2; have := z4 (by omega); have := z5 (by omega); have := z6 (by omega); have := z7 (by omega)
            exact key 24 i (by omega)
        · obtain ⟨i, hi⟩ := o2 (by omega)
          have := z0 e0; have := z1 e1; have := z3 (by omega); have := z4 (by omega); have := z5 (by omega); have := z6 (by omega); have := z7 (by omega)
          exact key 16 i (by omega)
      · obtain ⟨i, hi⟩ := o1 (by omega)
        have := z0 e0; have := z2 (by omega); have := z3 (by omega); have := z4 (by omega); have := z5 (by omega); have := z6 (by omega); have := z7 (by omega)
        exact key 8 i (by omega)
    · obtain ⟨i, hi⟩ := o0 (by omega)
      have := z1 (by omega); have := z2 (by omega); have := z3 (by omega); have := z4 (by omega); have := z5 (by omega); have := z6 (by omega); have := z7 (by omega)
      exact key 0 i (by omega)
  · rintro ⟨K, rfl⟩
    have hK : K < 64 := by
      rcases Nat.lt_or_ge K 64 with h | h
      · exact h
      · have := Nat.pow_le_pow_right (show 0 < 2 by omega) h
        omega
    exact cnt_pow ⟨K, hK⟩
end

section
set_option linter.unusedVariables false
open Go.RowKit

theorem and64 (a : Nat) (A : Int) (c : Nat) (C : Int) (hA : A = a) (hC : C = c) (ha : a < 18446744073709551616) (hc : c < 18446744073709551616) : bits .and .u64 A C = ((a &&& c : Nat) : Int) := by
  subst hA; subst hC; exact u64_and_nat a c ha hc
theorem wrap64 (a : Nat) (A : Int) (hA : A = a) (ha : a < 18446744073709551616) : IntKind.u64.wrap A = (a : Int) := by
  subst hA; rw [IntKind.wrap_u64]; omega
theorem i64_and127 (n : Nat) : bits .and .i64 (n : Int) 127 = ((n % 128 : Nat) : Int) := by
  have h3 : (BitVec.ofInt 64 127).toNat = 2 ^ 7 - 1 := by decide
  have key : (BitVec.ofInt 64 (n : Int) &&& BitVec.ofInt 64 127).toNat = ((n : Int) % ((2 ^ 64 : Nat) : Int)).toNat % 2 ^ 7 := by
    rw [BitVec.toNat_and, BitVec.toNat_ofInt, h3, Nat.and_two_pow_sub_one_eq_mod]
  show IntKind.i64.wrap ((BitVec.ofInt 64 (n : Int) &&& BitVec.ofInt 64 127).toNat : Nat) = _
  rw [key, IntKind.wrap_i64]
  omega

/-- the other of two neighbours -/
theorem xor_one (j : Nat) : j ^^^ 1 = if j % 2 = 1 then j - 1 else j + 1 := by
  have h1 : (j ^^^ 1) / 2 ^ 1 = j / 2 := by rw [Nat.xor_div_two_pow]; simp
  have h2 : (j ^^^ 1) % 2 ^ 1 = (j % 2) ^^^ 1 := by rw [Nat.xor_mod_two_pow]
  have h3 : j % 2 = 0 ∨ j % 2 = 1 := by omega
  rcases h3 with h | h
  · rw [h, show (0 ^^^ 1 : Nat) = 1 from rfl] at h2; rw [if_neg (by omega)]; omega
  · rw [h, show (1 ^^^ 1 : Nat) = 0 from rfl] at h2; rw [if_pos h]; omega
theorem i64_xor1 (j : Nat) (hj : j < 4611686018427387904) : bits .xor .i64 (j : Int) 1 = ((if j % 2 = 1 then j - 1 else j + 1 : Nat) : Int) := by
  have h1 : (BitVec.ofInt 64 1).toNat = 1 := by decide
  have key : (BitVec.ofInt 64 (j : Int) ^^^ BitVec.ofInt 64 1).toNat = j ^^^ 1 := by
    rw [BitVec.toNat_xor, BitVec.toNat_ofInt, h1]
    congr 1
    omega
  show IntKind.i64.wrap ((BitVec.ofInt 64 (j : Int) ^^^ BitVec.ofInt 64 1).toNat : Nat) = _
  rw [key, xor_one, IntKind.wrap_i64]
  split <;> omega
end
end

/-
  bits.TrailingZeros: its table is where the row says; what it answers is from 0 to 63.
-/
section
section
set_option linter.unusedVariables false
open Go.RowKit

end
end
end Go.Proofs.YtfenmhddlojahaaGreat
