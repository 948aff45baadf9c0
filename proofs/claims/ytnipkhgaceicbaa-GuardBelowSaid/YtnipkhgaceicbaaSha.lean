import Derived.WalkKit
import Derived.Laws.ShiftsVarLaws
import Derived.Deep.QuietTactic
import Derived.BigQuiet
import Derived.Outline
import Derived.Lib.Hide
import Derived.IntWalk
import Derived.Laws.Rows
import Derived.BigRegion
import Derived.Great.BuildSlice
import Derived.Deep.RegionWith
import Derived.Test.YtnipkhgaceicbaaBase
import Derived.Test.YtnipkhgaceicbaaRows
import Derived.Test.YtnipkhgaceicbaaGrowth
import Derived.Test.YtnipkhgaceicbaaOct
import Derived.Test.YtnipkhgaceicbaaUps
namespace Go.Proofs.Ytnipkhgaceicbaa
section
/-
  SHA-256 in plain mathematics: words are integers from 0 to below 2^32.
-/
section
set_option linter.unusedVariables false

/-- x turned right by n -/
def rotr (x : Int) (n : Nat) : Int := x / 2 ^ n + x % 2 ^ n * 2 ^ (32 - n)
/-- S0 and S1 -/
def big (x : Int) (i j k : Nat) : Int := bits .xor .u32 (bits .xor .u32 (rotr x i) (rotr x j)) (rotr x k)
/-- s0 and s1 -/
def sml (x : Int) (i j k : Nat) : Int := bits .xor .u32 (bits .xor .u32 (rotr x i) (rotr x j)) (x / 2 ^ k)
def chs (e f g : Int) : Int := bits .xor .u32 (bits .and .u32 e f) (bits .and .u32 (bits .xor .u32 4294967295 e) g)
def maj (a b c : Int) : Int := bits .xor .u32 (bits .xor .u32 (bits .and .u32 a b) (bits .and .u32 a c)) (bits .and .u32 b c)

/-- the eight words -/
structure St where
  a : Int
  b : Int
  c : Int
  d : Int
  e : Int
  f : Int
  g : Int
  h : Int

def t1 (s : St) (k w : Int) : Int := (s.h + big s.e 6 11 25 + chs s.e s.f s.g + k + w) % 4294967296
def t2 (s : St) : Int := (big s.a 2 13 22 + maj s.a s.b s.c) % 4294967296
def rnd (s : St) (k w : Int) : St := ⟨(t1 s k w + t2 s) % 4294967296, s.a, s.b, s.c, (s.d + t1 s k w) % 4294967296, s.e, s.f, s.g⟩
def comp (ws ks : List Int) (s : St) : Nat → St
  | 0 => s
  | k + 1 => rnd (comp ws ks s k) (ks[k]?.getD 0) (ws[k]?.getD 0)
def addSt (s t : St) : St := ⟨(s.a + t.a) % 4294967296, (s.b + t.b) % 4294967296, (s.c + t.c) % 4294967296, (s.d + t.d) % 4294967296, (s.e + t.e) % 4294967296, (s.f + t.f) % 4294967296, (s.g + t.g) % 4294967296, (s.h + t.h) % 4294967296⟩
def St.list (s : St) : List Int := [s.a, s.b, s.c, s.d, s.e, s.f, s.g, s.h]

/-- the word behind the first of them -/
def schedNext (l : List Int) : Int :=
  (sml (l[l.length - 2]?.getD 0) 17 19 10 + l[l.length - 7]?.getD 0 + sml (l[l.length - 15]?.getD 0) 7 18 3 + l[l.length - 16]?.getD 0) % 4294967296
def sched (b : List Int) : Nat → List Int
  | 0 => b
  | k + 1 => sched b k ++ [schedNext (sched b k)]
/-- the first k words of the block at a place -/
def blkWords (p : List Int) (q k : Nat) : List Int := (List.range k).map fun t => wordUp p (q + 4 * t) 4
/-- all 64 -/
def allWords (p : List Int) (q : Nat) : List Int := sched (blkWords p q 16) 48

def hSt : St := ⟨0x6a09e667, 0xbb67ae85, 0x3c6ef372, 0xa54ff53a, 0x510e527f, 0x9b05688c, 0x1f83d9ab, 0x5be0cd19⟩
def kL : List Int := [
  0x428a2f98, 0x71374491, 0xb5c0fbcf, 0xe9b5dba5, 0x3956c25b, 0x59f111f1, 0x923f82a4, 0xab1c5ed5,
  0xd807aa98, 0x12835b01, 0x243185be, 0x550c7dc3, 0x72be5d74, 0x80deb1fe, 0x9bdc06a7, 0xc19bf174,
  0xe49b69c1, 0xefbe4786, 0x0fc19dc6, 0x240ca1cc, 0x2de92c6f, 0x4a7484aa, 0x5cb0a9dc, 0x76f988da,
  0x983e5152, 0xa831c66d, 0xb00327c8, 0xbf597fc7, 0xc6e00bf3, 0xd5a79147, 0x06ca6351, 0x14292967,
  0x27b70a85, 0x2e1b2138, 0x4d2c6dfc, 0x53380d13, 0x650a7354, 0x766a0abb, 0x81c2c92e, 0x92722c85,
  0xa2bfe8a1, 0xa81a664b, 0xc24b8b70, 0xc76c51a3, 0xd192e819, 0xd6990624, 0xf40e3585, 0x106aa070,
  0x19a4c116, 0x1e376c08, 0x2748774c, 0x34b0bcb5, 0x391c0cb3, 0x4ed8aa4a, 0x5b9cca4f, 0x682e6ff3,
  0x748f82ee, 0x78a5636f, 0x84c87814, 0x8cc70208, 0x90befffa, 0xa4506ceb, 0xbef9a3f7, 0xc67178f2]

def blockSt (s : St) (p : List Int) (q : Nat) : St := addSt s (comp (allWords p q) kL s 64)
/-- the state behind the first blocks -/
def takeSt (s : St) (p : List Int) : Nat → St
  | 0 => s
  | i + 1 => blockSt (takeSt s p i) p (64 * i)

/-- how many zeros -/
def zerosOf (n : Nat) : Nat := (55 + 64 - n % 64) % 64
def padTail (n : Nat) : List Int := 128 :: (List.replicate (zerosOf n) 0 ++ octAll (8 * n) 8)
def padB (bs : List Int) : List Int := bs ++ padTail bs.length
def sumSt (bs : List Int) : St := takeSt hSt (padB bs) ((padB bs).length / 64)
/-- THE SUM. -/
def sumB (bs : List Int) : List Int := wordsB (sumSt bs).list

theorem padTail_length (n : Nat) : (padTail n).length = zerosOf n + 9 := by
  simp [padTail, octAll_length]
theorem padB_length (bs : List Int) : (padB bs).length = bs.length + zerosOf bs.length + 9 := by
  unfold padB; rw [List.length_append, padTail_length]; omega
theorem padB_64 (bs : List Int) : (padB bs).length % 64 = 0 := by
  rw [padB_length]; unfold zerosOf; omega
theorem sumB_length (bs : List Int) : (sumB bs).length = 32 := by
  unfold sumB; rw [wordsB_length]; rfl

/-- words so far, and zeros up to 64 -/
def fill64 (l : List Int) : List Int := l ++ List.replicate (64 - l.length) 0
theorem fill64_nil : fill64 [] = List.replicate 64 0 := rfl
theorem fill64_full (l : List Int) (h : l.length = 64) : fill64 l = l := by simp [fill64, h]
theorem fill64_length (l : List Int) (h : l.length ≤ 64) : (fill64 l).length = 64 := by simp [fill64]; omega
theorem fill64_at (l : List Int) (j : Nat) (h : j < l.length) : (fill64 l)[j]?.getD 0 = l[j]?.getD 0 := by
  unfold fill64; rw [List.getElem?_append_left h]
theorem fill64_set (l : List Int) (x : Int) (h : l.length < 64) : (fill64 l).set l.length x = fill64 (l ++ [x]) := by
  unfold fill64
  rw [List.set_append_right _ _ (Nat.le_refl _), Nat.sub_self, List.append_assoc]
  congr 1
  rw [show 64 - l.length = (64 - (l ++ [x]).length) + 1 from by simp; omega, List.replicate_succ, List.set_cons_zero]
  rfl
theorem blkWords_length (p : List Int) (q k : Nat) : (blkWords p q k).length = k := by simp [blkWords]
theorem blkWords_succ (p : List Int) (q k : Nat) : blkWords p q (k + 1) = blkWords p q k ++ [wordUp p (q + 4 * k) 4] := by simp [blkWords, List.range_succ]
theorem sched_length (b : List Int) (k : Nat) : (sched b k).length = b.length + k := by
  induction k with
  | zero => rfl
  | succ k ih => simp [sched, ih]; omega
theorem allWords_length (p : List Int) (q : Nat) : (allWords p q).length = 64 := by simp [allWords, sched_length, blkWords_length]

/-- all are words -/
def U32s (l : List Int) : Prop := ∀ j : Nat, 0 ≤ l[j]?.getD 0 ∧ l[j]?.getD 0 < 4294967296
theorem U32s.nil : U32s [] := fun j => by simp
theorem U32s.snoc {l : List Int} {x : Int} (h : U32s l) (hx : 0 ≤ x ∧ x < 4294967296) : U32s (l ++ [x]) := by
  intro j
  rcases Nat.lt_trichotomy j l.length with hj | hj | hj
  · rw [List.getElem?_append_left hj]; exact h j
  · subst hj; simpa using hx
  · rw [List.getElem?_eq_none (by simp; omega)]; decide
theorem wordUp_u32 (bs : List Int) (h : U8s bs) (p : Nat) : 0 ≤ wordUp bs p 4 ∧ wordUp bs p 4 < 4294967296 := by
  have := wordUp_range bs h p 4
  omega
theorem blkWords_u32 (p : List Int) (h : U8s p) (q k : Nat) : U32s (blkWords p q k) := by
  induction k with
  | zero => exact U32s.nil
  | succ k ih => rw [blkWords_succ]; exact ih.snoc (wordUp_u32 p h _)
theorem schedNext_u32 (l : List Int) : 0 ≤ schedNext l ∧ schedNext l < 4294967296 := by unfold schedNext; omega
theorem sched_u32 (b : List Int) (h : U32s b) (k : Nat) : U32s (sched b k) := by
  induction k with
  | zero => exact h
  | succ k ih => exact ih.snoc (schedNext_u32 _)
theorem bits_u32 (o : BinOp) (a b : Int) (h : o = .xor ∨ o = .and ∨ o = .or) : 0 ≤ bits o .u32 a b ∧ bits o .u32 a b < 4294967296 := by
  rcases h with rfl | rfl | rfl
  all_goals
    show 0 ≤ IntKind.u32.wrap _ ∧ IntKind.u32.wrap _ < _
    rw [IntKind.wrap_u32']; omega
theorem big_u32 (x : Int) (i j k : Nat) : 0 ≤ big x i j k ∧ big x i j k < 4294967296 := bits_u32 _ _ _ (.inl rfl)
theorem sml_u32 (x : Int) (i j k : Nat) : 0 ≤ sml x i j k ∧ sml x i j k < 4294967296 := bits_u32 _ _ _ (.inl rfl)

structure St.Ok (s : St) : Prop where
  a : 0 ≤ s.a ∧ s.a < 4294967296
  b : 0 ≤ s.b ∧ s.b < 4294967296
  c : 0 ≤ s.c ∧ s.c < 4294967296
  d : 0 ≤ s.d ∧ s.d < 4294967296
  e : 0 ≤ s.e ∧ s.e < 4294967296
  f : 0 ≤ s.f ∧ s.f < 4294967296
  g : 0 ≤ s.g ∧ s.g < 4294967296
  h : 0 ≤ s.h ∧ s.h < 4294967296
theorem rnd_ok {s : St} (h : s.Ok) (k w : Int) : (rnd s k w).Ok :=
  ⟨by show 0 ≤ _ % _ ∧ _ % _ < _; omega, h.a, h.b, h.c, by show 0 ≤ _ % _ ∧ _ % _ < _; omega, h.e, h.f, h.g⟩
theorem comp_ok {s : St} (h : s.Ok) (ws ks : List Int) (k : Nat) : (comp ws ks s k).Ok := by
  induction k with
  | zero => exact h
  | succ k ih => exact rnd_ok ih _ _
theorem addSt_ok (s t : St) : (addSt s t).Ok := by
  constructor <;> (show 0 ≤ _ % _ ∧ _ % _ < _; omega)
theorem blockSt_ok (s : St) (p : List Int) (q : Nat) : (blockSt s p q).Ok := addSt_ok _ _
theorem hSt_ok : hSt.Ok := by constructor <;> decide
theorem takeSt_ok {s : St} (h : s.Ok) (p : List Int) (i : Nat) : (takeSt s p i).Ok := by
  cases i with
  | zero => exact h
  | succ i => exact blockSt_ok _ _ _
theorem kL_u32 : U32s kL := by
  intro j
  by_cases h : j < 64
  · revert j; decide +kernel
  · rw [List.getElem?_eq_none (by show 64 ≤ j; omega)]; decide
theorem St.list_u32 {s : St} (h : s.Ok) : U32s s.list := by
  intro j
  match j with
  | 0 => exact h.a
  | 1 => exact h.b
  | 2 => exact h.c
  | 3 => exact h.d
  | 4 => exact h.e
  | 5 => exact h.f
  | 6 => exact h.g
  | 7 => exact h.h
  | j + 8 => rw [List.getElem?_eq_none (by show 8 ≤ j + 8; omega)]; decide

theorem addSt_at (s t : St) (k : Nat) (hk : k < 8) : (addSt s t).list[k]?.getD 0 = (s.list[k]?.getD 0 + t.list[k]?.getD 0) % 4294967296 := by
  have h : k = 0 ∨ k = 1 ∨ k = 2 ∨ k = 3 ∨ k = 4 ∨ k = 5 ∨ k = 6 ∨ k = 7 := by omega
  rcases h with rfl | rfl | rfl | rfl | rfl | rfl | rfl | rfl <;> rfl
theorem St.len (s : St) : s.list.length = 8 := rfl

/-- the octets of a block -/
def blockOf (p : List Int) (q : Nat) : List Int := (p.drop q).take 64
theorem blockOf_length (p : List Int) (q : Nat) (h : q + 64 ≤ p.length) : (blockOf p q).length = 64 := by simp [blockOf]; omega
theorem blockOf_at (p : List Int) (q j : Nat) (h : j < 64) : (blockOf p q)[j]?.getD 0 = p[q + j]?.getD 0 := by
  unfold blockOf; rw [List.getElem?_take, if_pos h, List.getElem?_drop]
theorem blockOf_u8s (p : List Int) (h : U8s p) (q : Nat) : U8s (blockOf p q) := by
  intro j hj
  have hj' : j < 64 := by simp [blockOf] at hj; omega
  rw [blockOf_at p q j hj']; exact h.at p (q + j)
theorem wordUp_congr (a b : List Int) (p q : Nat) : ∀ k, (∀ j, j < k → a[p + j]?.getD 0 = b[q + j]?.getD 0) → wordUp a p k = wordUp b q k
  | 0, _ => rfl
  | k + 1, h => by unfold wordUp; rw [wordUp_congr a b p q k (fun j hj => h j (by omega)), h k (by omega)]
theorem blkWords_congr (a b : List Int) (p q : Nat) (k : Nat) (h : ∀ j, j < 4 * k → a[p + j]?.getD 0 = b[q + j]?.getD 0) : blkWords a p k = blkWords b q k := by
  unfold blkWords
  apply List.map_congr_left
  intro t ht
  have ht' := List.mem_range.1 ht
  exact wordUp_congr a b _ _ 4 fun j hj => by rw [Nat.add_assoc, Nat.add_assoc]; exact h _ (by omega)
theorem blockSt_block (s : St) (p : List Int) (q : Nat) : blockSt s (blockOf p q) 0 = blockSt s p q := by
  unfold blockSt allWords
  rw [blkWords_congr (blockOf p q) p 0 q 16 fun j hj => by rw [Nat.zero_add]; exact blockOf_at p q j (by omega)]
theorem blockSt_congr (s : St) (a b : List Int) (p q : Nat) (h : ∀ j, j < 64 → a[p + j]?.getD 0 = b[q + j]?.getD 0) : blockSt s a p = blockSt s b q := by
  unfold blockSt allWords
  rw [blkWords_congr a b p q 16 h]
theorem takeSt_succ (s : St) (p : List Int) (i : Nat) : takeSt s p (i + 1) = blockSt (takeSt s p i) (blockOf p (64 * i)) 0 := by rw [blockSt_block]; rfl
theorem takeSt_congr (s : St) (a b : List Int) : ∀ i, (∀ j, j < 64 * i → a[j]?.getD 0 = b[j]?.getD 0) → takeSt s a i = takeSt s b i
  | 0, _ => rfl
  | i + 1, h => by
    unfold takeSt
    rw [takeSt_congr s a b i (fun j hj => h j (by omega))]
    exact blockSt_congr _ _ _ _ _ fun j hj => h _ (by omega)
/-- some blocks, then others -/
theorem takeSt_append (s : St) (a b : List Int) (n : Nat) (ha : a.length = 64 * n) : ∀ m, takeSt (takeSt s a n) b m = takeSt s (a ++ b) (n + m)
  | 0 => takeSt_congr s a (a ++ b) n fun j hj => by rw [List.getElem?_append_left (by omega)]
  | m + 1 => by
    show blockSt (takeSt (takeSt s a n) b m) b (64 * m) = blockSt (takeSt s (a ++ b) (n + m)) (a ++ b) (64 * (n + m))
    rw [takeSt_append s a b n ha m]
    exact blockSt_congr _ _ _ _ _ fun j hj => by
      rw [List.getElem?_append_right (by omega), show 64 * (n + m) + j - a.length = 64 * m + j from by omega]

theorem abc_a : (takeSt hSt (padB [97, 98, 99]) 1).a = 0xba7816bf := by decide +kernel
end

/-
  Turns of words: the program's and the reference's.
-/
section
set_option linter.unusedVariables false
open Go.RowKit

theorem or_u32_nat (p q r i : Nat) (hi : i ≤ 32) (hq : q < 2 ^ i) (hr : p * 2 ^ i + q < 4294967296) : bits .or .u32 ((p * 2 ^ i : Nat) : Int) (q : Int) = ((p * 2 ^ i + q : Nat) : Int) := by
  have h1 : q < 4294967296 := by omega
  have h2 : p * 2 ^ i < 4294967296 := by omega
  rw [u32_or _ _ (by omega) (by omega) (by omega) (by omega)]
  congr 1
  rw [Int.toNat_natCast, Int.toNat_natCast, Nat.mul_comm p, Nat.two_pow_add_eq_or_of_lt hq]
theorem or_u32_comm (a b : Int) : bits .or .u32 a b = bits .or .u32 b a := by
  show IntKind.u32.wrap _ = IntKind.u32.wrap _
  rw [BitVec.or_comm]
/-- what lies above and what lies below -/
theorem rotr_or (x : Int) (n : Nat) (hx : 0 ≤ x ∧ x < 4294967296) (hn : 0 < n ∧ n < 32) : bits .or .u32 (x * 2 ^ (32 - n) % 4294967296) (x / 2 ^ n) = rotr x n := by
  obtain ⟨X, rfl⟩ := Int.eq_ofNat_of_zero_le hx.1
  have hX : X < 4294967296 := by omega
  have e32 : 2 ^ n * 2 ^ (32 - n) = 4294967296 := by rw [← Nat.pow_add, show n + (32 - n) = 32 from by omega]
  have e1 : (X * 2 ^ (32 - n)) % 4294967296 = X % 2 ^ n * 2 ^ (32 - n) := by
    rw [← e32, Nat.mul_mod_mul_right]
  have hp : 0 < 2 ^ n := Nat.two_pow_pos n
  have hq : X / 2 ^ n < 2 ^ (32 - n) := by
    rw [Nat.div_lt_iff_lt_mul hp, Nat.mul_comm, e32]; exact hX
  have hm : X % 2 ^ n < 2 ^ n := Nat.mod_lt _ hp
  have hr : X % 2 ^ n * 2 ^ (32 - n) + X / 2 ^ n < 4294967296 := by
    have h1 : (X % 2 ^ n + 1) * 2 ^ (32 - n) ≤ 2 ^ n * 2 ^ (32 - n) := Nat.mul_le_mul_right _ hm
    rw [e32, Nat.add_mul, Nat.one_mul] at h1
    omega
  have h := or_u32_nat (X % 2 ^ n) (X / 2 ^ n) 0 (32 - n) (by omega) hq hr
  rw [← e1] at h
  have c1 : (X : Int) * 2 ^ (32 - n) % 4294967296 = ((X * 2 ^ (32 - n) % 4294967296 : Nat) : Int) := by simp
  have c2 : (X : Int) / 2 ^ n = ((X / 2 ^ n : Nat) : Int) := by simp
  rw [c1, c2, h, e1]
  unfold rotr
  simp
  omega
theorem rotr_range (x : Int) (n : Nat) (hx : 0 ≤ x ∧ x < 4294967296) (hn : 0 < n ∧ n < 32) : 0 ≤ rotr x n ∧ rotr x n < 4294967296 := by
  rw [← rotr_or x n hx hn]
  show 0 ≤ IntKind.u32.wrap _ ∧ IntKind.u32.wrap _ < _
  rw [IntKind.wrap_u32']; omega

/-- a word's bits -/
def bv (x : Int) : BitVec 32 := BitVec.ofInt 32 x
theorem bv_nat (b : BitVec 32) : bv (IntKind.u32.wrap (b.toNat : Int)) = b := by
  have h := b.isLt
  rw [IntKind.wrap_u32', show ((b.toNat : Int) % 4294967296) = (b.toNat : Int) from by omega]
  unfold bv; rw [BitVec.ofInt_natCast, BitVec.ofNat_toNat]; simp
theorem bv_and (a b : Int) : bv (bits .and .u32 a b) = bv a &&& bv b := bv_nat _
theorem bv_or (a b : Int) : bv (bits .or .u32 a b) = bv a ||| bv b := bv_nat _
theorem bv_xor (a b : Int) : bv (bits .xor .u32 a b) = bv a ^^^ bv b := bv_nat _
theorem or_bv (a b : Int) : bits .or .u32 a b = IntKind.u32.wrap ((bv a ||| bv b).toNat : Int) := rfl
theorem xor_bv (a b : Int) : bits .xor .u32 a b = IntKind.u32.wrap ((bv a ^^^ bv b).toNat : Int) := rfl
theorem max_bv : bv IntKind.u32.max = BitVec.allOnes 32 := by decide
/-- 'or' where the two share no bit -/
theorem chs_or (e f g : Int) : bits .or .u32 (bits .and .u32 e f) (bits .and .u32 (bits .xor .u32 IntKind.u32.max e) g) = chs e f g := by
  have hm : (4294967295 : Int) = IntKind.u32.max := by decide
  unfold chs
  rw [or_bv, xor_bv (bits .and .u32 e f), hm]
  simp only [bv_and, bv_xor, max_bv]
  congr 3
  apply BitVec.eq_of_getLsbD_eq
  intro i hi
  simp only [BitVec.getLsbD_or, BitVec.getLsbD_and, BitVec.getLsbD_xor, BitVec.getLsbD_allOnes, hi, decide_true]
  cases (bv e).getLsbD i <;> cases (bv f).getLsbD i <;> cases (bv g).getLsbD i <;> rfl

theorem rotl_at : ∀ n : Nat, n < 32 → 0 < n → bits .and .u64 (IntKind.u64.wrap (-(n : Int))) 31 = ((32 - n : Nat) : Int) := by decide +kernel

set_option maxHeartbeats 400000 in
theorem rotl_any (x : Int) (n : Nat) (hx : 0 ≤ x ∧ x < 4294967296) (hn : 0 < n ∧ n < 32) (w : World) :
    Calls Try.prog 94 #[.int .u32 x, .int .i64 (-(n : Int))] w fun e w' => e = .returned (.int .u32 (rotr x n)) ∧ w = w' := by
  have hs := rotl_at n hn.2 hn.1
  have hr := rotr_or x n hx hn
  obtain ⟨m, hm⟩ : ∃ m, 32 - n = m := ⟨_, rfl⟩
  have hm1 : 0 < m ∧ m < 32 := by omega
  have hn2 : n = 32 - m := by omega
  rw [hm] at hs hr
  rw [hn2] at hr ⊢
  rw [hn2] at hs
  have Hr := Lib.hid hr
  clear hr hm hn2 hn
  go_enter Try.func94, Try.ntmps94
  go_wp2
  go_ret
  exact ⟨ret_int Hr.out, rfl⟩

end

/-
  turned and shifted.
-/
section
set_option linter.unusedVariables false
open Go.RowKit

set_option maxHeartbeats 400000 in
theorem turned_any (x : Int) (i j k : Nat) (hx : 0 ≤ x ∧ x < 4294967296) (hi : 0 < i ∧ i < 32) (hj : 0 < j ∧ j < 32) (hk : 0 < k ∧ k < 32) (w : World) :
    Calls Try.prog 90 #[.int .u32 x, .int .i64 i, .int .i64 j, .int .i64 k] w fun e w' => e = .returned (.int .u32 (big x i j k)) ∧ w = w' := by
  go_enter Try.func90, Try.ntmps90
  go_wp2_with fail
  refine (rotl_any x i hx hi _).mono ?_
  rintro e w' ⟨rfl, rfl⟩
  go_wp2_with fail
  refine (rotl_any x j hx hj _).mono ?_
  rintro e w' ⟨rfl, rfl⟩
  go_wp2_with fail
  refine (rotl_any x k hx hk _).mono ?_
  rintro e w' ⟨rfl, rfl⟩
  go_wp2
  go_ret
  exact ⟨rfl, rfl⟩

theorem rotl_quiet (x : Int) (n : Nat) (hx : 0 ≤ x ∧ x < 4294967296) (hn : 0 < n ∧ n < 32) (w : World) (q : Nat) :
    Calls Try.prog 94 #[.int .u32 x, .int .i64 (-(n : Int))] (w.drewN q) fun e w'' => e = .returned (.int .u32 (rotr x n)) ∧ ∃ m, w'' = w.drewN m :=
  (rotl_any x n hx hn (w.drewN q)).mono fun _ _ ⟨he, hm⟩ => ⟨he, q, hm.symm⟩

set_option maxHeartbeats 400000 in
theorem shifted_any (x : Int) (i j k : Nat) (hx : 0 ≤ x ∧ x < 4294967296) (hi : 0 < i ∧ i < 32) (hj : 0 < j ∧ j < 32) (hk : 0 < k ∧ k < 32) (w : World) :
    Calls Try.prog 93 #[.int .u32 x, .int .i64 i, .int .i64 j, .int .i64 k] w fun e w' => e = .returned (.int .u32 (sml x i j k)) ∧ ∃ n, w' = w.drewN n := by
  have wi : IntKind.i64.wrap (-(i : Int)) = -(i : Int) := IntWalk.i64_in _ (by omega)
  have wj : IntKind.i64.wrap (-(j : Int)) = -(j : Int) := IntWalk.i64_in _ (by omega)
  go_enter Try.func93, Try.ntmps93
  go_wp2
  go_quiet ((with_reducible (first | exact rotl_quiet x i hx hi _ _ | exact rotl_quiet x j hx hj _ _)))
  clear wi wj
  go_wp2
  go_ret
  exact ⟨rfl, _, rfl⟩
end

/-
  The words of a block.
-/
section
set_option linter.unusedVariables false
open Go.RowKit

theorem size_arr64 : (Try.prog.info? 132).map (·.size) = some 64 := by kernel_rfl

theorem Calls.quiet_same {P : Program} {f : FuncId} {args : Array Value} {w : World} {n : Nat} {v : Value} (h : Calls P f args (w.drewN n) fun e w' => e = .returned v ∧ ∃ m, w' = (w.drewN n).drewN m) :
    Calls P f args (w.drewN n) fun e w'' => e = .returned v ∧ ∃ m, w'' = w.drewN m := Calls.quiet_of h

set_option maxRecDepth 100000 in
set_option maxHeartbeats 1000000 in
theorem schedule_any (v : Value) (bs : List Int) (w : World) (hv : Ints .u8 w v bs) (hu : U8s bs) (hlen : bs.length = 64) :
    Calls Try.prog 89 #[v] w fun e w' => e = .returned (.agg ((allWords bs 0).map (Value.int .u32)).toArray) ∧ Below w.heap.size w w' := by
  have Hlen := Lib.hid hlen
  have Hu := Lib.hid hu
  have Hv := Lib.hid hv
  clear hlen hu hv
  go_enter Try.func89, Try.ntmps89
  go_wp2
  go_loopw [4, 7] (fun _ i wr => ∃ k : Nat, k ≤ 16 ∧ i = .int .i64 k ∧ Arr wr (w.heap.size + 1) 132 (fill64 (blkWords bs 0 k)) ∧ Arr wr w.heap.size 132 (List.replicate 64 0) ∧ Below w.heap.size w wr)
    (fun _ i _ => 16 - (intOf i).toNat)
  case atStart =>
    exact ⟨0, Nat.zero_le _, rfl, heap_alloc2_new w _ _, heap_alloc2_old w _ _, ((Below.refl _ w).alloc (Nat.le_refl _) _).alloc (by simp) _⟩
  case round =>
    obtain ⟨k, hk, rfl, hA, hR, hB⟩ := hrel
    by_cases hlt : k < 16
    · have hword := word_in v bs (4 * k)
      have hs := blkWords_succ bs 0 k
      rw [Nat.zero_add] at hs
      have hl := blkWords_length bs 0 k
      have Hs := Lib.hid hs
      have Hl := Lib.hid hl
      have hi4 : ((4 * k : Nat) : Int) = 4 * (k : Int) := by omega
      rw [hi4] at hword
      have Hw := Lib.hid hword
      clear hword hs hl hi4
      go_wp2_with fail
      refine (Hw.out _ (Hv.out.kept hB) Hu.out (by have := Hlen.out; omega) (by have := Hlen.out; omega)).mono ?_
      rintro e w1 ⟨rfl, hB1⟩
      have hA1 := hA.below hB1
      have hR1 := hR.below hB1
      have hB2 := hB.trans (hB1.mono hB.size)
      have hfr := hA1.free k
      have hce := hA1.cell k (by rw [fill64_length _ (by have := Hl.out; omega)]; omega)
      go_wp2
      go_roundw
      case rel =>
        refine ⟨k + 1, by omega, by go_num, ?_, hR1.other (by simp) _, hB2.setCell (by simp) _⟩
        have := hA1.set k (wordUp bs (4 * k) 4)
        rw [Hs.out, ← fill64_set _ _ (by have := Hl.out; omega), Hl.out]
        exact this
      case measure => simp [intOf]; omega
    · obtain rfl : k = 16 := by omega
      have h16 : sched (blkWords bs 0 16) 0 = blkWords bs 0 16 := rfl
      rw [← h16] at hA
      clear h16
      have HB := Lib.hid hB
      clear hB
      go_wp2
      go_loopw [17] (fun i wr => ∃ k : Nat, k ≤ 48 ∧ i = .int .i64 k ∧ Arr wr (w.heap.size + 1) 132 (fill64 (sched (blkWords bs 0 16) k)) ∧ Arr wr w.heap.size 132 (List.replicate 64 0) ∧ Below w.heap.size w wr)
        (fun i _ => 48 - (intOf i).toNat)
      case atStart => exact ⟨0, Nat.zero_le _, rfl, hA, hR, HB.out⟩
      case round =>
        clear hA hR
        obtain ⟨k, hk, rfl, hA, hR, hB⟩ := hrel
        by_cases hlt : k < 48
        · obtain ⟨l, hl⟩ : ∃ l, sched (blkWords bs 0 16) k = l := ⟨_, rfl⟩
          have hll : l.length = 16 + k := by rw [← hl, sched_length, blkWords_length]
          have hu32 : U32s l := by rw [← hl]; exact sched_u32 _ (blkWords_u32 _ Hu.out _ _) _
          have hs : sched (blkWords bs 0 16) (k + 1) = l ++ [schedNext l] := by rw [← hl]; rfl
          rw [hl] at hA
          obtain ⟨t, ht⟩ : ∃ t : Nat, t = 16 + k := ⟨_, rfl⟩
          rw [← ht] at hll
          have hc : ∀ j, j < t → wr.cell? ⟨w.heap.size + 1, j, none⟩ = some (.int .u32 (l[j]?.getD 0)) := by
            intro j hj
            rw [hA.cell j (by rw [fill64_length _ (by omega)]; omega), fill64_at l j (by omega)]
          have hn : schedNext l = (sml (l[t - 2]?.getD 0) 17 19 10 + l[t - 7]?.getD 0 + sml (l[t - 15]?.getD 0) 7 18 3 + l[t - 16]?.getD 0) % 4294967296 := by unfold schedNext; rw [hll]
          have c2 := hc (t - 2) (by omega)
          have c7 := hc (t - 7) (by omega)
          have c15 := hc (t - 15) (by omega)
          have c16 := hc (t - 16) (by omega)
          have u2 := hu32 (t - 2)
          have u7 := hu32 (t - 7)
          have u15 := hu32 (t - 15)
          have u16 := hu32 (t - 16)
          obtain ⟨x2, e2⟩ : ∃ x, l[t - 2]?.getD 0 = x := ⟨_, rfl⟩
          obtain ⟨x7, e7⟩ : ∃ x, l[t - 7]?.getD 0 = x := ⟨_, rfl⟩
          obtain ⟨x15, e15⟩ : ∃ x, l[t - 15]?.getD 0 = x := ⟨_, rfl⟩
          obtain ⟨x16, e16⟩ : ∃ x, l[t - 16]?.getD 0 = x := ⟨_, rfl⟩
          rw [e2] at c2 u2 hn
          rw [e7] at c7 u7 hn
          rw [e15] at c15 u15 hn
          rw [e16] at c16 u16 hn
          obtain ⟨t2, f2⟩ : ∃ x, t - 2 = x := ⟨_, rfl⟩
          obtain ⟨t7, f7⟩ : ∃ x, t - 7 = x := ⟨_, rfl⟩
          obtain ⟨t15, f15⟩ : ∃ x, t - 15 = x := ⟨_, rfl⟩
          obtain ⟨t16, f16⟩ : ∃ x, t - 16 = x := ⟨_, rfl⟩
          rw [f2] at c2
          rw [f7] at c7
          rw [f15] at c15
          rw [f16] at c16
          have w2 : IntKind.i64.wrap ((t : Int) - 2) = t2 := by rw [IntWalk.i64_in _ (by omega)]; omega
          have w7 : IntKind.i64.wrap ((t : Int) - 7) = t7 := by rw [IntWalk.i64_in _ (by omega)]; omega
          have w15 : IntKind.i64.wrap ((t : Int) - 15) = t15 := by rw [IntWalk.i64_in _ (by omega)]; omega
          have w16 : IntKind.i64.wrap ((t : Int) - 16) = t16 := by rw [IntWalk.i64_in _ (by omega)]; omega
          have b2 : t2 < 64 ∧ t7 < 64 ∧ t15 < 64 ∧ t16 < 64 ∧ t < 64 := by omega
          have h16 : (16 : Int) + (k : Int) = (t : Int) := by omega
          have s1 : ∀ q, Calls Try.prog 93 #[.int .u32 x2, .int .i64 17, .int .i64 19, .int .i64 10] (wr.drewN q) fun e w'' => e = .returned (.int .u32 (sml x2 17 19 10)) ∧ ∃ m, w'' = wr.drewN m :=
            fun q => Calls.quiet_of (shifted_any x2 17 19 10 u2 (by omega) (by omega) (by omega) _)
          have s2 : ∀ q, Calls Try.prog 93 #[.int .u32 x15, .int .i64 7, .int .i64 18, .int .i64 3] (wr.drewN q) fun e w'' => e = .returned (.int .u32 (sml x15 7 18 3)) ∧ ∃ m, w'' = wr.drewN m :=
            fun q => Calls.quiet_of (shifted_any x15 7 18 3 u15 (by omega) (by omega) (by omega) _)
          have m1 := sml_u32 x2 17 19 10
          have m2 := sml_u32 x15 7 18 3
          have Hs := Lib.hid hs
          have Hn := Lib.hid hn
          have Hll := Lib.hid hll
          have S1 := Lib.hid s1
          have S2 := Lib.hid s2
          have Ht := Lib.hid ht
          clear hs hn hll s1 s2 ht hc hu32 e2 e7 e15 e16 f2 f7 f15 f16 hl
          go_wp2
          refine region_quiet_tail 23 (by kernel_rfl) (by kernel_rfl) ?_
          simp only [List.take_succ_cons, List.take_zero, List.drop_succ_cons, List.drop_zero]
          repeat (any_goals (first | go_big_quiet_step ((with_reducible (first | exact S1.out _ | exact S2.out _))) | quiet_step ((with_reducible (first | exact S1.out _ | exact S2.out _)))))
          refine wpQuiet_nil ?_
          intro q
          have hA2 := hA.drewN q
          have hR2 := hR.drewN q
          have hB2 : Below w.heap.size w (wr.drewN q) := hB.trans ⟨rfl, rfl, rfl, Nat.le_refl _, fun _ _ => rfl⟩
          change wpList _ _ _ _ _ _
          generalize wr.drewN q = wq at hA2 hR2 hB2 ⊢
          have hfr := hA2.free t
          have hce := hA2.cell t (by rw [fill64_length _ (by have := Hll.out; omega)]; omega)
          clear hA hR hB S1 S2 w2 w7 w15 w16 c2 c7 c15 c16
          go_wp2
          go_roundw
          case rel =>
            refine ⟨k + 1, by omega, by go_num, ?_, hR2.other (by simp) _, hB2.setCell (by simp) _⟩
            have hset := hA2.set t (schedNext l)
            rw [← Hll.out, fill64_set _ _ (by have := Hll.out; omega), ← Hs.out, Hll.out] at hset
            rw [← Hn.out]; exact hset
          case measure => simp [intOf]; omega
        · obtain rfl : k = 48 := by omega
          have hf : fill64 (sched (blkWords bs 0 16) 48) = allWords bs 0 := fill64_full _ (allWords_length bs 0)
          rw [hf] at hA
          clear hf
          have hl := allWords_length bs 0
          obtain ⟨l, hle⟩ : ∃ l, allWords bs 0 = l := ⟨_, rfl⟩
          rw [hle] at hA hl
          have Hle := Lib.hid hle
          clear hle
          have Hl := Lib.hid hl
          clear hl
          go_wp2_with (first | (refine wpList_load_row rfl 132 (.tmp 3) rfl _ rfl 132 _ (0, 0) _ hA Try.underlying132 rfl (by rw [size_arr64]; simp [Hl.out]) ?_) | (refine wpList_store_row rfl 132 (.tmp 2) (.tmp 46) rfl _ _ rfl rfl 132 _ hR (by rw [size_arr64]; simp [Hl.out]) (by simp [Hl.out]) (oneCell_words l) ?_))
          have hR2 := hR.setRow l
          exact bodyPost_ret (results_cell_row rfl _ _ w.heap.size 132 _ (0, 0) _ rfl hR2 Try.underlying132 rfl (by rw [size_arr64]; simp [Hl.out])) rfl ⟨by rw [Hle.out], hB.grown (grownBy_setRow _ _ _) hB.size (fun j e => by cases e; exact Nat.le_refl _)⟩
end

/-
  The rounds of a block.
-/
section
set_option linter.unusedVariables false
open Go.RowKit

theorem turned_quiet {W : World} (x : Int) (i j k : Nat) (hx : 0 ≤ x ∧ x < 4294967296) (hi : 0 < i ∧ i < 32) (hj : 0 < j ∧ j < 32) (hk : 0 < k ∧ k < 32) (q : Nat) :
    Calls Try.prog 90 #[.int .u32 x, .int .i64 i, .int .i64 j, .int .i64 k] (W.drewN q) fun e w'' => e = .returned (.int .u32 (big x i j k)) ∧ ∃ m, w'' = W.drewN m :=
  (turned_any x i j k hx hi hj hk (W.drewN q)).mono fun _ _ ⟨he, hm⟩ => ⟨he, q, hm.symm⟩

theorem Arr.st {W : World} {B : Nat} {t : TypeId} {s : St} (h : Arr W B t s.list) :
    W.cell? ⟨B, 0, none⟩ = some (.int .u32 s.a) ∧ W.cell? ⟨B, 1, none⟩ = some (.int .u32 s.b) ∧ W.cell? ⟨B, 2, none⟩ = some (.int .u32 s.c) ∧ W.cell? ⟨B, 3, none⟩ = some (.int .u32 s.d) ∧
    W.cell? ⟨B, 4, none⟩ = some (.int .u32 s.e) ∧ W.cell? ⟨B, 5, none⟩ = some (.int .u32 s.f) ∧ W.cell? ⟨B, 6, none⟩ = some (.int .u32 s.g) ∧ W.cell? ⟨B, 7, none⟩ = some (.int .u32 s.h) := by
  have e : s.list.length = 8 := rfl
  exact ⟨h.cell 0 (by omega), h.cell 1 (by omega), h.cell 2 (by omega), h.cell 3 (by omega), h.cell 4 (by omega), h.cell 5 (by omega), h.cell 6 (by omega), h.cell 7 (by omega)⟩

theorem index_st (r : St) (k : Nat) (hk : k < 8) (w : World) : (Instr.index 130 (.agg #[.int .u32 r.a, .int .u32 r.b, .int .u32 r.c, .int .u32 r.d, .int .u32 r.e, .int .u32 r.f, .int .u32 r.g, .int .u32 r.h]) (.int .i64 k)).run Try.prog w = .ok (.int .u32 (r.list[k]?.getD 0)) w := by
  obtain ⟨a, b, c, d, e, f, g, h⟩ := r
  match k, hk with
  | 0, _ => change _ = _; kernel_rfl
  | 1, _ => change _ = _; kernel_rfl
  | 2, _ => change _ = _; kernel_rfl
  | 3, _ => change _ = _; kernel_rfl
  | 4, _ => change _ = _; kernel_rfl
  | 5, _ => change _ = _; kernel_rfl
  | 6, _ => change _ = _; kernel_rfl
  | 7, _ => change _ = _; kernel_rfl

set_option maxRecDepth 100000 in
set_option maxHeartbeats 2000000 in
theorem mix_any (S Kb : Nat) (v : Value) (bs : List Int) (st : St) (w : World) (hst : st.Ok) (hv : Ints .u8 w v bs) (hu : U8s bs) (hlen : bs.length = 64) (hS : Arr w S 130 st.list) (hK : Arr w Kb 132 kL) :
    Calls Try.prog 85 #[.pointer (some ⟨S, 0, none⟩), v, .pointer (some ⟨Kb, 0, none⟩)] w fun e w' => e = .returned (.tuple #[]) ∧ Arr w' S 130 (blockSt st bs 0).list ∧ w.grownBy w' (some S) := by
  obtain ⟨sc, hsc⟩ : ∃ sc, allWords bs 0 = sc := ⟨_, rfl⟩
  have hscl : sc.length = 64 := by rw [← hsc]; exact allWords_length bs 0
  have hsu : U32s sc := by rw [← hsc]; exact sched_u32 _ (blkWords_u32 _ hu _ _) _
  have hbl : blockSt st bs 0 = addSt st (comp sc kL st 64) := by unfold blockSt; rw [hsc]
  have hsch := schedule_any v bs w hv hu hlen
  rw [hsc] at hsch
  rw [hbl]
  have Hl := Lib.hid hscl
  have Hsu := Lib.hid hsu
  have Hsch := Lib.hid hsch
  clear hscl hsu hsch hbl hsc hv hu hlen
  go_enter Try.func85, Try.ntmps85
  go_wp2_with fail
  refine Hsch.out.mono ?_
  rintro e w1 ⟨rfl, hB1⟩
  have hS1 := hS.below hB1
  have hK1 := hK.below hB1
  go_wp2_with (refine wpList_store_arr rfl 132 (.tmp 6) (.tmp 21) rfl w1.heap.size (List.replicate 64 0) sc rfl rfl 132 (Arr.new w1 132 (List.replicate 64 0)) (by rw [size_arr64, Hl.out]) (by rw [Hl.out]; rfl) ?_; intro w2 hW2 hg2)
  have hB2 : Below w1.heap.size w1 w2 := ((Below.refl _ w1).alloc (Nat.le_refl _) _).grown hg2 (by simp) (fun k e => by cases e; exact Nat.le_refl _)
  have hS2 := hS1.below hB2
  have hK2 := hK1.below hB2
  have hB : Below w.heap.size w w2 := hB1.trans (hB2.mono hB1.size)
  clear hS1 hK1 hB1 hB2 hg2 hS hK
  have HS := Lib.hid hS2
  obtain ⟨c0, c1, c2, c3, c4, c5, c6, c7⟩ := hS2.st
  clear hS2
  go_wp2
  go_quiet (fail)
  clear c0 c1 c2 c3 c4 c5 c6 c7
  go_wp2
  go_loopw [7, 8, 9, 10, 11, 12, 13, 14, 54] (fun a b c d e f g h i wr => ∃ (k n : Nat) (r : St), k ≤ 64 ∧ i = .int .i64 k ∧ r = comp sc kL st k ∧ wr = w2.drewN n ∧
      a = .int .u32 r.a ∧ b = .int .u32 r.b ∧ c = .int .u32 r.c ∧ d = .int .u32 r.d ∧ e = .int .u32 r.e ∧ f = .int .u32 r.f ∧ g = .int .u32 r.g ∧ h = .int .u32 r.h)
    (fun _ _ _ _ _ _ _ _ i _ => 64 - (intOf i).toNat)
  case atStart => exact ⟨0, nq, st, Nat.zero_le _, rfl, rfl, rfl, rfl, rfl, rfl, rfl, rfl, rfl, rfl, rfl⟩
  case round =>
    obtain ⟨k, n, r, hk, rfl, hr, rfl, rfl, rfl, rfl, rfl, rfl, rfl, rfl, rfl⟩ := hrel
    have hok : r.Ok := by rw [hr]; exact comp_ok hst _ _ _
    by_cases hlt : k < 64
    · have hs : comp sc kL st (k + 1) = rnd r (kL[k]?.getD 0) (sc[k]?.getD 0) := by rw [hr]; rfl
      have hKn := hK2.drewN n
      have hWn := hW2.drewN n
      generalize hwn : w2.drewN n = wn at hKn hWn ⊢
      have ck := hKn.cell k (by show k < 64; omega)
      have cw := hWn.cell k (by rw [Hl.out]; omega)
      have uk := kL_u32 k
      have uw := Hsu.out k
      obtain ⟨x, hx⟩ : ∃ x, kL[k]?.getD 0 = x := ⟨_, rfl⟩
      obtain ⟨y, hy⟩ : ∃ y, sc[k]?.getD 0 = y := ⟨_, rfl⟩
      rw [hx] at ck uk hs
      rw [hy] at cw uw hs
      obtain ⟨a, b, c, d, e, f, g, h'⟩ := r
      obtain ⟨oa, ob, oc, od, oe, of, og, oh⟩ := hok
      have Hs := Lib.hid hs
      have T1 : Hid (∀ q, Calls Try.prog 90 #[.int .u32 e, .int .i64 6, .int .i64 11, .int .i64 25] (wn.drewN q) fun e' w'' => e' = .returned (.int .u32 (big e 6 11 25)) ∧ ∃ m, w'' = wn.drewN m) :=
        fun q => turned_quiet e 6 11 25 oe (by omega) (by omega) (by omega) q
      have T2 : Hid (∀ wx, Calls Try.prog 90 #[.int .u32 a, .int .i64 2, .int .i64 13, .int .i64 22] wx fun e' w'' => e' = .returned (.int .u32 (big a 2 13 22)) ∧ wx = w'') :=
        fun wx => turned_any a 2 13 22 oa (by omega) (by omega) (by omega) wx
      have m1 := big_u32 e 6 11 25
      have m2 := big_u32 a 2 13 22
      have Hwn := Lib.hid hwn
      clear hs hx hy hr hwn hKn hWn
      go_wp2
      go_quiet ((with_reducible exact T1.out _))
      go_wp2_with fail
      refine (T2.out _).mono ?_
      rintro e' w'' ⟨rfl, rfl⟩
      go_wp2
      go_roundw
      case rel =>
        rw [chs_or]
        exact ⟨k + 1, n + nq, rnd ⟨a, b, c, d, e, f, g, h'⟩ x y, by omega, by go_num, Hs.out.symm, by rw [← Hwn.out, World.drewN_drewN], rfl, rfl, rfl, rfl, rfl, rfl, rfl, rfl⟩
      case measure => simp [intOf]; omega
    · obtain rfl : k = 64 := by omega
      have Hr := Lib.hid hr
      clear hr
      have hSn := HS.out.drewN n
      have hBn : Below w.heap.size w (w2.drewN n) := hB.trans ⟨rfl, rfl, rfl, Nat.le_refl _, fun _ _ => rfl⟩
      generalize w2.drewN n = wn at hSn hBn ⊢
      have hA0 : st.list = (addSt st r).list.take 0 ++ st.list.drop 0 := rfl
      rw [hA0] at hSn
      clear hA0 hW2 hK2 hB
      go_wp2
      go_loopw [116] (fun i wr => ∃ k : Nat, k ≤ 8 ∧ i = .int .i64 k ∧ Arr wr S 130 ((addSt st r).list.take k ++ st.list.drop k) ∧ w.grownBy wr (some S))
        (fun i _ => 8 - (intOf i).toNat)
      case atStart => exact ⟨0, Nat.zero_le _, rfl, hSn, grown_of_below _ hBn⟩
      case round =>
        clear hSn hBn
        obtain ⟨k, hk, rfl, hA, hG⟩ := hrel
        by_cases hlt : k < 8
        · have hidx := index_st r k hlt
          have hadd := addSt_at st r k hlt
          have hck := hA.cell k (by rw [over_length k (by rw [St.len, St.len]), St.len]; exact hlt)
          rw [over_at k (by rw [St.len, St.len]) (by rw [St.len]; exact hlt)] at hck
          have u1 := St.list_u32 hst k
          have u2 := St.list_u32 hok k
          obtain ⟨x, hx⟩ : ∃ x, st.list[k]?.getD 0 = x := ⟨_, rfl⟩
          obtain ⟨y, hy⟩ : ∃ y, r.list[k]?.getD 0 = y := ⟨_, rfl⟩
          rw [hx] at hck u1 hadd
          rw [hy] at hidx u2 hadd
          have Hadd := Lib.hid hadd
          clear hx hy hadd
          go_wp2
          refine region_quiet_tail 9 (by kernel_rfl) (by kernel_rfl) ?_
          simp only [List.take_succ_cons, List.take_zero, List.drop_succ_cons, List.drop_zero]
          repeat (any_goals (first | go_big_quiet_step (fail) | quiet_step (fail)))
          refine wpQuiet_nil ?_
          intro q
          have hA2 := hA.drewN q
          have hG2 : w.grownBy (wr.drewN q) (some S) := ⟨hG.os, hG.tape, hG.output, hG.size, hG.block⟩
          change wpList _ _ _ _ _ _
          generalize wr.drewN q = wq at hA2 hG2 ⊢
          have hfr := hA2.free k
          have hce := hA2.cell k (by rw [over_length k (by rw [St.len, St.len]), St.len]; exact hlt)
          clear hA hG hck hidx
          go_wp2
          go_roundw
          case rel =>
            refine ⟨k + 1, by omega, by go_num, ?_, grownBy_trans' hG2 (grownBy_setCell _ _ _)⟩
            have hset := hA2.set k ((x + y) % 4294967296)
            rw [← Hadd.out, over_set k (by rw [St.len, St.len]) (by rw [St.len]; exact hlt), Hadd.out] at hset
            exact hset
          case measure => simp [intOf]; omega
        · obtain rfl : k = 8 := by omega
          have hA : Arr wr S 130 (addSt st r).list := hA
          go_wp2
          go_end0
          rw [← Hr.out]
          exact ⟨rfl, hA, hG⟩
end

/-
  The state goes through blocks.
-/
section
set_option linter.unusedVariables false
open Go.RowKit

set_option maxRecDepth 100000 in
set_option maxHeartbeats 1000000 in
theorem take_any (S Kb : Nat) (v : Value) (xs : List Int) (st : St) (w : World) (hst : st.Ok) (hv : IntsOff S .u8 w v xs) (hu : U8s xs) (hlen : xs.length ≤ 281474976710656) (hS : Arr w S 130 st.list) (hK : Arr w Kb 132 kL) (hne : Kb ≠ S) :
    Calls Try.prog 75 #[.pointer (some ⟨S, 0, none⟩), v, .pointer (some ⟨Kb, 0, none⟩)] w fun e w' => e = .returned (.tuple #[]) ∧ Arr w' S 130 (takeSt st xs (xs.length / 64)).list ∧ w.grownBy w' (some S) := by
  have hv0 := hv
  obtain ⟨a, cap, rfl, hcap, _⟩ := hv0
  have Hv := Lib.hid hv
  have Hu := Lib.hid hu
  clear hv hu
  go_enter Try.func75, Try.ntmps75
  go_wp2
  go_loopw [10] (fun i wr => ∃ k : Nat, k ≤ xs.length / 64 ∧ i = .int .i64 k ∧ Arr wr S 130 (takeSt st xs k).list ∧ w.grownBy wr (some S))
    (fun i _ => xs.length / 64 - (intOf i).toNat)
  case atStart => exact ⟨0, Nat.zero_le _, rfl, hS, World.grownBy.refl _ _⟩
  case round =>
    clear hS
    obtain ⟨k, hk, rfl, hA, hG⟩ := hrel
    by_cases hlt : k < xs.length / 64
    · have hvr := Hv.out.grown hG
      obtain ⟨a', cap', he, _, _, hc⟩ := hvr
      simp only [Value.slice.injEq, true_and] at he
      obtain ⟨rfl, rfl⟩ := he
      rcases hc with rfl | ⟨b, off, rfl, hb, hc⟩
      · simp at hlt
      have hsc := takeSt_succ st xs k
      have hI : Ints .u8 wr (.slice (some ⟨b, off + k * 64, none⟩) ((k + 1) * 64 - k * 64) (cap - k * 64)) (blockOf xs (64 * k)) := by
        have hl := blockOf_length xs (64 * k) (by omega)
        have e1 : (k + 1) * 64 - k * 64 = (blockOf xs (64 * k)).length := by rw [hl]; omega
        refine ⟨_, cap - k * 64, by rw [e1], by rw [hl]; omega, by simp, .inr ⟨b, off + k * 64, rfl, fun j hj => ?_⟩⟩
        rw [hl] at hj
        rw [blockOf_at xs _ j hj, show off + k * 64 + j = off + (64 * k + j) from by omega]
        exact hc _ (by omega)
      have hm := mix_any S Kb _ (blockOf xs (64 * k)) (takeSt st xs k) wr (takeSt_ok hst _ _) hI (blockOf_u8s xs Hu.out _) (blockOf_length xs (64 * k) (by omega)) hA (hK.grown hG (fun e => hne (Option.some.inj e)))
      rw [← hsc] at hm
      have Hm := Lib.hid hm
      have hnc : ¬ cap = k * 64 := by omega
      have hk1 : k * 64 ≤ (k + 1) * 64 := by omega
      have hk2 : (k + 1) * 64 ≤ xs.length := by omega
      clear hm hI hsc hc
      go_wp2_with fail
      refine Hm.out.mono ?_
      rintro e w2 ⟨rfl, hA2, hG2⟩
      have hG3 := grownBy_trans' hG hG2
      clear hA hG hG2
      go_wp2
      go_roundw
      case rel => exact ⟨k + 1, by omega, by go_num, hA2, hG3⟩
      case measure => simp [intOf]; omega
    · obtain rfl : k = xs.length / 64 := by omega
      go_wp2
      go_end0
      exact ⟨rfl, hA, hG⟩
end

/-
  The first words.
-/
section
set_option linter.unusedVariables false
open Go.RowKit

theorem size_state : (Try.prog.info? 130).map (·.size) = some 8 := by kernel_rfl
theorem size_u32 : (Try.prog.info? 98).map (·.size) = some 1 := by kernel_rfl
theorem zero_state : ((Try.prog.info? 130).bind (·.zero)).map (·.cells.size) = some 8 := by kernel_rfl
theorem zero_arr64 : ((Try.prog.info? 132).bind (·.zero)).map (·.cells.size) = some 64 := by kernel_rfl

set_option maxRecDepth 100000 in
set_option maxHeartbeats 1000000 in
theorem start_any (w : World) : Calls Try.prog 73 #[] w fun e w' => e = .returned (.agg (hSt.list.map (Value.int .u32)).toArray) ∧ Below w.heap.size w w' := by
  go_enter Try.func73, Try.ntmps73
  go_wp2_with (first | (refine wpList_buildFlatArr rfl 130 98 8 _ rfl .u32 hSt.list Try.underlying130 size_u32 zero_state rfl ?_) | (refine wpList_store_arr rfl 130 (.tmp 0) (.tmp 1) rfl w.heap.size (List.replicate 8 0) hSt.list rfl rfl 130 (Arr.new w 130 (List.replicate 8 0)) (by rw [size_state]; rfl) rfl ?_; intro w2 hA2 hG2))
  exact bodyPost_ret (results_cell_row rfl _ _ w.heap.size 130 _ (0, 0) _ rfl hA2 Try.underlying130 rfl (by rw [size_state]; rfl)) rfl ⟨rfl, ((Below.refl _ w).alloc (Nat.le_refl _) _).grown hG2 (by simp) (fun j e => by cases e; exact Nat.le_refl _)⟩

set_option maxRecDepth 100000 in
set_option maxHeartbeats 1000000 in
theorem constants_any (w : World) : Calls Try.prog 74 #[] w fun e w' => e = .returned (.agg (kL.map (Value.int .u32)).toArray) ∧ Below w.heap.size w w' := by
  go_enter Try.func74, Try.ntmps74
  go_wp2_with (first | (refine wpList_buildFlatArr rfl 132 98 64 _ rfl .u32 kL Try.underlying132 size_u32 zero_arr64 rfl ?_) | (refine wpList_store_arr rfl 132 (.tmp 0) (.tmp 1) rfl w.heap.size (List.replicate 64 0) kL rfl rfl 132 (Arr.new w 132 (List.replicate 64 0)) (by rw [size_arr64]; rfl) rfl ?_; intro w2 hA2 hG2))
  exact bodyPost_ret (results_cell_row rfl _ _ w.heap.size 132 _ (0, 0) _ rfl hA2 Try.underlying132 rfl (by rw [size_arr64]; rfl)) rfl ⟨rfl, ((Below.refl _ w).alloc (Nat.le_refl _) _).grown hG2 (by simp) (fun j e => by cases e; exact Nat.le_refl _)⟩
end

/-
  The padding.
-/
section
set_option linter.unusedVariables false
open Go.RowKit

set_option maxRecDepth 100000 in
theorem made_u8 (k : Nat) (hk : k ≤ 281474976710656) (u : World) : (Instr.makeSlice 74 (.int .i64 k) (.int .i64 k)).run Try.prog u =
      .ok (.slice (some ⟨u.heap.size, 0, none⟩) k k) (u.alloc (.cells (((List.replicate k (0 : Int)).map (Value.int .u8)).toArray) 5)) := by
  obtain ⟨i0, hi, hz0, hz1, hz2⟩ := info_parts info_u8
  have h := run_make (P := Try.prog) (w := u) 74 5 i0 (.int .u8 0) Try.underlying74 hi hz0 .i64 .i64 (k : Int) (k : Int) (by omega) (by omega) (by rw [hz2]; omega) (by omega)
  rw [h, hz1]
  simp only [Int.toNat_natCast, Nat.mul_one]
  congr 3
  apply Array.ext_getElem?
  intro j
  simp [madeCells, Value.cells, Array.getElem?_map]
  by_cases hj : j < k <;> simp [hj, Nat.mod_one]

/-- Join: what it makes lies behind what was there -/
theorem join_own {w wx : World} {vs : Value} {ls : List (List Int)} (xs : List Int) (hr : Rows8 wx vs ls) (hu : Up w wx) (hf : ls.flatten = xs) (hl : ls.length ≤ 1000) (hx : xs.length ≤ 281474976710656) :
    Calls Try.prog 57 #[vs] wx fun e w' => ∃ g, e = .returned (.slice (some ⟨g, 0, none⟩) xs.length xs.length) ∧ w'.ownsRow w.heap.size 5 1 (.slice (some ⟨g, 0, none⟩) xs.length xs.length) xs.length (xs.map (Value.int .u8)) ∧ Up w w' ∧ wx.heap.size ≤ g := by
  subst hf
  refine (join_any vs _ wx hr (by omega) hx).mono ?_
  rintro e w' ⟨rfl, hrow, hb⟩
  exact ⟨wx.heap.size, rfl, ownsRow_base hrow hu.size, hu.trans hb, Nat.le_refl _⟩

/-- one of the parts, in whatever world it is asked for -/
theorem pad_flat (n z : Nat) (h : zerosOf n = z) : [[(128 : Int)], List.replicate z 0, octAll (8 * n) 8].flatten = padTail n := by
  unfold padTail; rw [h]; simp

set_option maxRecDepth 100000 in
set_option maxHeartbeats 1000000 in
theorem padding_any (n : Nat) (hn : n ≤ 281474976710656) (w : World) :
    Calls Try.prog 76 #[.int .i64 n] w fun e w' => ∃ v, e = .returned v ∧ w'.ownsRow w.heap.size 5 1 v (padTail n).length ((padTail n).map (Value.int .u8)) ∧ Below w.heap.size w w' := by
  obtain ⟨z, hz⟩ : ∃ z, zerosOf n = z := ⟨_, rfl⟩
  have hzl : z < 64 := by rw [← hz]; unfold zerosOf; omega
  have hz1 : (55 - (n : Int) % 64 + 64) % 64 = (z : Int) := by rw [← hz]; unfold zerosOf; omega
  have Hpl := Lib.hid (padTail_length n)
  have Hf := Lib.hid (pad_flat n z hz)
  have Hput : Hid (∀ wx, Calls Try.prog 83 #[.int .i64 (8 * (n : Int)), .int .i64 8] wx fun e w' => ∃ g cap, e = .returned (.slice (some ⟨g, 0, none⟩) 8 cap) ∧ Ints .u8 w' (.slice (some ⟨g, 0, none⟩) 8 cap) (octAll (8 * n) 8) ∧ Up wx w') := by
    intro wx
    refine (put_any (8 * n) 8 (by omega) (by omega) 8 (by decide) wx).mono ?_
    rintro e w' ⟨v, rfl, hr, hb⟩
    have e8 : IntKind.u64.wrap (8 * (n : Int)) = 8 * n := by rw [IntKind.wrap_u64]; omega
    rw [e8] at hr
    obtain ⟨g, cap, rfl⟩ := ownsRow_succ hr
    exact ⟨g, cap, rfl, Ints.of_row hr, hb⟩
  have Hjoin : Hid (∀ wx vs, Rows8 wx vs [[128], List.replicate z 0, octAll (8 * n) 8] → Up w wx → Calls Try.prog 57 #[vs] wx fun e w' => ∃ v, e = .returned v ∧ w'.ownsRow w.heap.size 5 1 v (padTail n).length ((padTail n).map (Value.int .u8)) ∧ Up w w') := by
    intro wx vs hr hu
    refine (join_any vs _ wx hr (by simp) (by rw [Hf.out, Hpl.out]; unfold zerosOf; omega)).mono ?_
    rintro e w' ⟨rfl, hrow, hb⟩
    rw [Hf.out] at hrow
    exact ⟨_, by rw [Hf.out], ownsRow_base hrow hu.size, hu.trans hb⟩
  have Hmk := made_u8 z (by omega)
  have h8 : IntKind.i64.wrap (8 * (n : Int)) = 8 * n := IntWalk.i64_in _ (by omega)
  go_enter Try.func76, Try.ntmps76
  go_wp2
  generalize hzz : (55 - (n : Int) % 64 + 64) % 64 = zz
  obtain rfl : zz = z := hzz.symm.trans hz1
  clear hzz hz1 hz
  go_region_with ((first | (go_at_call 83; refine (Hput.out _).mono ?_; rintro e w1 ⟨g1, c1, rfl, hI1, hB1⟩) | (go_at_call 57; refine (Hjoin.out _ _ ?_ ?_).mono ?_; (focus (refine Rows8.new3 _ _ _ _ _ _ _ _ _ (by simp) ?_ ?_ ?_ <;> (repeat (first | (with_reducible exact hI1) | ((with_reducible refine Ints.newc _ _ _ _ _ _ _ ?_ ?_ ?_) <;> (simp; done)) | (with_reducible refine Ints.alloc ?_ _) | (with_reducible refine Ints.drew ?_) | (with_reducible refine Ints.up ?_ hB1))))); (focus (repeat (first | (with_reducible exact Up.refl _) | (with_reducible refine Up.drew ?_) | (with_reducible refine Up.alloc ?_ _) | (with_reducible refine Up.trans ?_ hB1)))); rintro e w2 ⟨v2, rfl, hr2, hB2⟩)))
  all_goals
    go_wp2
    go_ret
    exact ⟨_, rfl, hr2, hB2⟩
end

/-
  Pad and Sum.
-/
section
set_option linter.unusedVariables false
open Go.RowKit

theorem padTail_u8s (n : Nat) : U8s (padTail n) := U8s.cons (by omega) ((U8s.replicate _).append (octAll_u8s _ _))
/-- the sum's state, in two parts -/
theorem sumSt_parts (bs : List Int) (M : Nat) (hM : M = 64 * (bs.length / 64)) : sumSt bs = takeSt (takeSt hSt (bs.take M) (M / 64)) (bs.drop M ++ padTail bs.length) ((bs.drop M ++ padTail bs.length).length / 64) := by
  have hl : (bs.take M).length = 64 * (M / 64) := by rw [List.length_take]; omega
  rw [takeSt_append hSt _ _ (M / 64) hl, ← List.append_assoc, List.take_append_drop]
  unfold sumSt
  have h2 : (padB bs).length = M + (bs.drop M ++ padTail bs.length).length := by
    rw [padB_length, List.length_append, List.length_drop, padTail_length]; omega
  show takeSt hSt (bs ++ padTail bs.length) _ = _
  rw [h2]
  congr 1
  omega
set_option maxRecDepth 100000 in
set_option maxHeartbeats 4000000 in
/-- V: what lies behind the whole blocks, as the walk spells it -/
theorem sum_case (a : Option Addr) (cap : Nat) (bs : List Int) (M : Nat) (X : List Int) (V : Value) (w : World) (hl : bs.length ≤ 281474976710656) (hm64 : M ≤ bs.length) (hmM : (bs.length : Int) - (bs.length : Int) % 64 = (M : Int))
    (Hsum : Hid (sumSt bs = takeSt (takeSt hSt (bs.take M) (M / 64)) X (X.length / 64))) (HlM : Hid ((bs.take M).length = M))
    (Hxl : Hid (X.length ≤ 281474976710656)) (Hxu : Hid (U8s X)) (Hv : Hid (Ints .u8 w (.slice a bs.length cap) bs)) (Hu : Hid (U8s bs))
    (Hp : Hid (∀ wx, Calls Try.prog 76 #[.int .i64 bs.length] wx fun e w' => ∃ g c, e = .returned (.slice (some ⟨g, 0, none⟩) (padTail bs.length).length c) ∧ Ints .u8 w' (.slice (some ⟨g, 0, none⟩) (padTail bs.length).length c) (padTail bs.length) ∧ Up wx w'))
    (hV : (M = cap ∧ bs.length ≤ cap ∧ V = .slice a 0 0) ∨ (¬ cap = M ∧ ∃ ad, a = some ad ∧ V = .slice (some (ad.add M)) (bs.length - M) (cap - M)) ∨ (¬ cap = M ∧ ∃ b off, a = some ⟨b, off, none⟩ ∧ V = .slice (some ⟨b, off + M, none⟩) (bs.length - M) (cap - M)))
    (HX : Hid ([bs.drop M, padTail bs.length].flatten = X)) (HT : Hid (∀ wx, Up w wx → Ints .u8 wx V (bs.drop M))) :
    Calls Try.prog 58 #[.slice a bs.length cap] w fun e w' => ∃ r, e = .returned r ∧ w'.ownsRow w.heap.size 5 1 r 32 ((sumB bs).map (Value.int .u8)) ∧ Below w.heap.size w w' := by
  have hcap : bs.length ≤ cap := by obtain ⟨_, _, he, h, _⟩ := Hv.out; simp only [Value.slice.injEq, true_and] at he; omega
  rcases hV with ⟨rfl, hle, rfl⟩ | ⟨hcM, ad, rfl, rfl⟩ | ⟨hcM, b, off, rfl, rfl⟩
  all_goals
    go_enter Try.func58, Try.ntmps58
    go_wp2_with fail
    generalize hq : (bs.length : Int) - (bs.length : Int) % 64 = q
    obtain rfl : q = (M : Int) := hq.symm.trans hmM
    clear hq
    refine (start_any _).mono ?_
    rintro e w1 ⟨rfl, hU1⟩
    go_wp2_with fail
    refine (constants_any _).mono ?_
    rintro e w2 ⟨rfl, hU2⟩
    have hU2 : Up w w2 := Up.trans hU1 hU2
    go_wp2_with (first | (go_at_call 75; fail) | (refine wpList_store_arr rfl 130 (.tmp 4) (.tmp 12) rfl w2.heap.size (List.replicate 8 0) hSt.list rfl rfl 130 (heap_alloc2_old w2 _ _) (by rw [size_state]; rfl) rfl ?_; intro w3 hS3 hG3; have hK3 : Arr w3 (w2.heap.size + 1) 132 (List.replicate 64 0) := Arr.grown (heap_alloc2_new w2 _ _) hG3 (by simp)) | (refine wpList_store_arr rfl 132 (.tmp 5) (.tmp 13) rfl (w2.heap.size + 1) (List.replicate 64 0) kL rfl rfl 132 hK3 (by rw [size_arr64]; rfl) rfl ?_; intro w4 hK4 hG4))
    have hU4 : Up w w4 := (((Below.alloc hU2 hU2.size _).alloc (Up.alloc hU2 _).size _).grown hG3 (by have := (Up.alloc (Up.alloc hU2 (.cells #[] 0)) (.cells #[] 0)).size; simp at this ⊢; omega) (fun k e => by cases e; exact hU2.size)).grown hG4 (by have := hU2.size; have := hG3.size; simp at this; omega) (fun k e => by cases e; have := hU2.size; omega)
    have hS4 := hS3.grown hG4 (by simp)
    have hv4 : IntsOff w2.heap.size .u8 w4 _ (bs.take M) := IntsOff.of_old (Hv.out.pre M hm64) hU4 hU2.size
    have hb4 : IntsOff w2.heap.size .u8 w4 _ bs := IntsOff.of_old Hv.out hU4 hU2.size
    with_reducible refine Calls.mono (take_any w2.heap.size (w2.heap.size + 1) _ (bs.take M) hSt w4 hSt_ok hv4 (Hu.out.take M) (by have := HlM.out; omega) hS4 hK4 (by omega)) ?_
    rintro e w5 ⟨rfl, hS5, hG5⟩
    rw [HlM.out] at hS5
    have hU5 : Up w w5 := Below.grown hU4 hG5 hU4.size (fun k e => by cases e; exact hU2.size)
    have hK5 := hK4.grown hG5 (by simp)
    have hb5 := (hb4.grown hG5).ints
    have hS5l := hU2.size
    have Hjoin : Hid (∀ wx vs, Rows8 wx vs [bs.drop M, padTail bs.length] → Up w5 wx → Calls Try.prog 57 #[vs] wx fun e w' => ∃ g, e = .returned (.slice (some ⟨g, 0, none⟩) X.length X.length) ∧ IntsOff w2.heap.size .u8 w' (.slice (some ⟨g, 0, none⟩) X.length X.length) X ∧ Up w5 w') := by
      intro wx vs hr hu
      refine (join_own (w := w5) X hr hu HX.out (by simp) Hxl.out).mono ?_
      rintro e w' ⟨g, rfl, hrow, hU', hg⟩
      exact ⟨g, rfl, IntsOff.of_row hrow hS5.lt, hU'⟩
    have Htake : Hid (∀ wx g, IntsOff w2.heap.size .u8 wx (.slice (some ⟨g, 0, none⟩) X.length X.length) X → Up w5 wx →
        Calls Try.prog 75 #[.pointer (some ⟨w2.heap.size, 0, none⟩), .slice (some ⟨g, 0, none⟩) X.length X.length, .pointer (some ⟨w2.heap.size + 1, 0, none⟩)] wx fun e w' => e = .returned (.tuple #[]) ∧ Arr w' w2.heap.size 130 (sumSt bs).list ∧ Up w w') := by
      intro wx g hi hu
      refine (take_any w2.heap.size (w2.heap.size + 1) _ X (takeSt hSt (bs.take M) (M / 64)) wx (takeSt_ok hSt_ok _ _) hi Hxu.out Hxl.out (hS5.below hu) (hK5.below hu) (by omega)).mono ?_
      rintro e w' ⟨rfl, hS', hG'⟩
      refine ⟨rfl, ?_, Below.grown (Up.trans hU5 hu) hG' (Up.trans hU5 hu).size (fun k e => by cases e; exact hU2.size)⟩
      rw [Hsum.out]; exact hS'
    have HU2 := Lib.hid hU2.size
    have HU5 : Up w w5 := hU5
    clear hU5 hK5 hv4 hb4 hS4 hG3 hG4 hG5 hS3 hK3 hK4 hS5l hU4 hU1 hU2 hS5
    have Hb5 := Lib.hid hb5
    clear hb5
    go_wp2
    go_region_with ((first | (go_at_call 76; (with_reducible refine Calls.mono (Hp.out _) ?_); rintro e w6 ⟨g6, c6, rfl, hI6, hB6⟩) | (go_at_call 57; (with_reducible refine Calls.mono (Hjoin.out _ _ (Rows8.new2 _ _ _ _ _ _ _ rfl (HT.out _ (Up.trans (Up.drew HU5) hB6)) hI6) (Up.alloc (Up.trans (Up.drew1 w5) hB6) _)) ?_); rintro e w7 ⟨g7, rfl, hI7, hB7⟩) | (go_at_call 75; (with_reducible refine Calls.mono (Htake.out _ g7 hI7 hB7) ?_); rintro e w8 ⟨rfl, hA8, hB8⟩)))
    have hI8 := hA8.ints
    have hw := words_any _ (sumSt bs).list w8 hI8 (fun j _ => St.list_u32 (takeSt_ok hSt_ok _ _) j) (by rw [St.len]; omega)
    rw [St.len] at hw
    have Hw := Lib.hid hw
    clear hA8 hI8 hw hI7 hI6 hB6 hB7
    go_wp2_with fail
    refine Hw.out.mono ?_
    rintro e w9 ⟨r, rfl, hr, hB9⟩
    have Hr := Lib.hid (ownsRow_base hr hB8.size)
    have hU9 := Up.trans hB8 hB9
    clear hr hB8 hB9
    go_wp2
    go_ret
    exact ⟨_, rfl, Hr.out, hU9⟩

set_option maxRecDepth 100000 in
set_option maxHeartbeats 2000000 in
theorem sum_big (v : Value) (bs : List Int) (w : World) (hv : Ints .u8 w v bs) (hu : U8s bs) (hl : bs.length ≤ 281474976710656) :
    Calls Try.prog 58 #[v] w fun e w' => ∃ r, e = .returned r ∧ w'.ownsRow w.heap.size 5 1 r 32 ((sumB bs).map (Value.int .u8)) ∧ Below w.heap.size w w' := by
  have hv0 := hv
  obtain ⟨a, cap, rfl, hcap, h3, h4⟩ := hv0
  obtain ⟨M, hM⟩ : ∃ M, 64 * (bs.length / 64) = M := ⟨_, rfl⟩
  have hm64 : M ≤ bs.length := by omega
  have hmM : (bs.length : Int) - (bs.length : Int) % 64 = (M : Int) := by omega
  have Hsum := Lib.hid (sumSt_parts bs M hM.symm)
  have hlM : (bs.take M).length = M := by rw [List.length_take]; omega
  have HlM := Lib.hid hlM
  have hxl : (bs.drop M ++ padTail bs.length).length ≤ 281474976710656 := by rw [List.length_append, List.length_drop, padTail_length]; unfold zerosOf; omega
  have Hxl := Lib.hid hxl
  have Hfl : Hid ([bs.drop M, padTail bs.length].flatten = bs.drop M ++ padTail bs.length) := by show _ = _; simp
  have Hxu := Lib.hid ((hu.drop M).append (padTail_u8s bs.length))
  have Hv := Lib.hid hv
  have Hu := Lib.hid hu
  have Hp : Hid (∀ wx, Calls Try.prog 76 #[.int .i64 bs.length] wx fun e w' => ∃ g c, e = .returned (.slice (some ⟨g, 0, none⟩) (padTail bs.length).length c) ∧ Ints .u8 w' (.slice (some ⟨g, 0, none⟩) (padTail bs.length).length c) (padTail bs.length) ∧ Up wx w') := by
    intro wx
    refine (padding_any bs.length (by omega) wx).mono ?_
    rintro e w' ⟨v, rfl, hr, hb⟩
    have hi := Ints.of_row hr
    have hh := hr
    rw [show (padTail bs.length).length = (zerosOf bs.length + 8) + 1 from padTail_length _] at hh
    obtain ⟨g, c, e⟩ := ownsRow_succ hh
    rw [← show (padTail bs.length).length = (zerosOf bs.length + 8) + 1 from padTail_length _] at e
    subst e
    exact ⟨g, c, rfl, hi, hb⟩
  have hrest : (M = cap ∧ Hid (bs.length = M ∧ (a = none → cap = 0))) ∨ (¬ cap = M ∧ Hid (bs = []) ∧ ∃ ad, a = some ad) ∨ (¬ cap = M ∧ ∃ b off, a = some ⟨b, off, none⟩) := by
    by_cases hc : cap = M
    · exact .inl ⟨hc.symm, ⟨by omega, h3⟩⟩
    · rcases h4 with h4 | ⟨b, off, h4, _⟩
      · refine .inr (.inl ⟨hc, h4, ?_⟩)
        cases a with
        | none => exact absurd (h3 rfl) (by rw [h4] at hm64; simp at hm64; omega)
        | some ad => exact ⟨ad, rfl⟩
      · exact .inr (.inr ⟨hc, b, off, h4⟩)
  clear hv hu h3 h4 hM hxl hlM
  rcases hrest with ⟨rfl, hrest⟩ | ⟨hcM, hrest, ad, rfl⟩ | ⟨hcM, b, off, rfl⟩
  · have HT : Hid (∀ wx, Up w wx → Ints .u8 wx (.slice a 0 0) (bs.drop M)) := by
      intro wx _
      rw [List.drop_eq_nil_of_le (by have := hrest.out.1; omega)]
      exact Ints.empty fun _ => rfl
    exact sum_case a M bs M _ _ w hl hm64 hmM Hsum HlM Hxl Hxu Hv Hu Hp (.inl ⟨rfl, hcap, rfl⟩) Hfl HT
  · have HT : Hid (∀ wx, Up w wx → Ints .u8 wx (.slice (some (ad.add M)) (bs.length - M) (cap - M)) (bs.drop M)) := by
      intro wx _
      have hb := hrest.out
      subst hb
      simp only [List.drop_nil, List.length_nil, Nat.zero_sub]
      exact Ints.empty (by simp)
    exact sum_case (some ad) cap bs M _ _ w hl hm64 hmM Hsum HlM Hxl Hxu Hv Hu Hp (.inr (.inl ⟨hcM, ad, rfl, rfl⟩)) Hfl HT
  · have HT : Hid (∀ wx, Up w wx → Ints .u8 wx (.slice (some ⟨b, off + M, none⟩) (bs.length - M) (cap - M)) (bs.drop M)) := by
      intro wx hu
      exact (Hv.out.up hu).suf M hm64
    exact sum_case (some ⟨b, off, none⟩) cap bs M _ _ w hl hm64 hmM Hsum HlM Hxl Hxu Hv Hu Hp (.inr (.inr ⟨hcM, b, off, rfl, rfl⟩)) Hfl HT
theorem sum_any (v : Value) (bs : List Int) (w : World) (hv : Ints .u8 w v bs) (hu : U8s bs) (hl : bs.length ≤ 140737488355328) :
    Calls Try.prog 58 #[v] w fun e w' => ∃ r, e = .returned r ∧ w'.ownsRow w.heap.size 5 1 r 32 ((sumB bs).map (Value.int .u8)) ∧ Below w.heap.size w w' :=
  sum_big v bs w hv hu (by omega)
end
end

/-
  Short.
-/
section
set_option linter.unusedVariables false
open Go.RowKit

/-- a slice that a call made, by its cells -/
theorem row_slice {W : World} {base : Nat} {e : TypeId} {v : Value} {n : Nat} {xs : List Value} (h : W.ownsRow base e 1 v n xs) (hn : 0 < n) : ∃ g cap, v = .slice (some ⟨g, 0, none⟩) n cap ∧ n ≤ cap := by
  rcases h.2 with ⟨_, h0⟩ | ⟨g, cap, cur, rfl, _, _, hle, _⟩
  · omega
  · exact ⟨g, cap, rfl, hle⟩

theorem join_of {w : World} {vs : Value} {ls : List (List Int)} (xs : List Int) (hr : Rows8 w vs ls) (hf : ls.flatten = xs) (hl : ls.length ≤ 9223372036854775807) (hx : xs.length ≤ 281474976710656) :
    Calls Try.prog 57 #[vs] w fun e w' => ∃ v, e = .returned v ∧ Ints .u8 w' v xs ∧ Up w w' := by
  subst hf
  refine (join_any vs _ w hr hl hx).mono ?_
  rintro e w' ⟨rfl, hrow, hb⟩
  exact ⟨_, rfl, Ints.of_row hrow, hb⟩

/-- the short sum -/
def shortB (xs : List Int) : List Int := (sumB xs).take 8
theorem shortB_length (xs : List Int) : (shortB xs).length = 8 := by simp [shortB, sumB_length]
theorem sumB_u8s (xs : List Int) : U8s (sumB xs) := wordsB_u8s _
theorem shortB_u8s (xs : List Int) : U8s (shortB xs) := (sumB_u8s xs).take 8
end
end Go.Proofs.Ytnipkhgaceicbaa
