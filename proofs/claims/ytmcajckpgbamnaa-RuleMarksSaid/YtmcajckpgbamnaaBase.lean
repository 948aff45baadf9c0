import Derived.RowKit3
import Derived.Laws.BitsAllLaws
import Derived.Laws.Bits64
import Derived.WalkKit
import Derived.Deep.Draws
import Derived.Outline
import Derived.Lib.Hide
import Derived.Laws.BytesArg
import Derived.OwnWalk
import Derived.Below
import Derived.Laws.AppendOwnNone
import Derived.OneCell
import Derived.Laws.Tables
import Derived.Test.YtmcajckpgbamnaaRows
namespace Go.Proofs.Ytmcajckpgbamnaa
/-
  Plain mathematics on octets: no program is imported here.
-/
section
set_option linter.unusedVariables false

/-- the octet number j of x in sz octets, the highest first -/
def octAt (x : Int) (sz j : Nat) : Int := x / 2 ^ (8 * (sz - 1 - j)) % 256
/-- the first k of them -/
def octs (x : Int) (sz k : Nat) : List Int := (List.range k).map (octAt x sz)
/-- all of them -/
def octAll (x : Int) (sz : Nat) : List Int := octs x sz sz

theorem octs_zero (x : Int) (sz : Nat) : octs x sz 0 = [] := rfl
theorem octs_succ (x : Int) (sz k : Nat) : octs x sz (k + 1) = octs x sz k ++ [octAt x sz k] := by simp [octs, List.range_succ]
theorem octs_length (x : Int) (sz k : Nat) : (octs x sz k).length = k := by simp [octs]
theorem octAll_length (x : Int) (sz : Nat) : (octAll x sz).length = sz := by simp [octAll, octs]
theorem octAt_range (x : Int) (sz j : Nat) : 0 ≤ octAt x sz j ∧ octAt x sz j < 256 := by unfold octAt; omega

/-- octets as a number, modulo 2^62 -/
def getStep (n o : Int) : Int := (n * 256 + o) % 4611686018427387904
def getB (bs : List Int) : Int := bs.foldl getStep 0
theorem getB_nil : getB [] = 0 := rfl
theorem getB_snoc (bs : List Int) (o : Int) : getB (bs ++ [o]) = getStep (getB bs) o := by simp [getB, List.foldl_append]
theorem getStep_range (n o : Int) : 0 ≤ getStep n o ∧ getStep n o < 4611686018427387904 := by unfold getStep; omega
theorem getB_range (bs : List Int) : 0 ≤ getB bs ∧ getB bs < 4611686018427387904 := by
  rcases List.eq_nil_or_concat bs with rfl | ⟨l, o, rfl⟩
  · decide
  · rw [List.concat_eq_append, getB_snoc]; exact getStep_range _ _

theorem getStep_mod (g x y : Int) (hg : 0 ≤ g) : getStep (g % 4611686018427387904) x = getStep g x := by unfold getStep; omega

theorem mod_256 (y m : Int) (hm : 0 < m) : y % (256 * m) = 256 * (y / 256 % m) + y % 256 := by
  have h1 := Int.mul_ediv_add_emod (y / 256) m
  have h2 : 0 ≤ y / 256 % m := Int.emod_nonneg _ (by omega)
  have h3 : y / 256 % m < m := Int.emod_lt_of_pos _ hm
  have h4 : y = (256 * (y / 256 % m) + y % 256) + 256 * m * (y / 256 / m) := by
    have h5 : 256 * m * (y / 256 / m) = 256 * (m * (y / 256 / m)) := Int.mul_assoc _ _ _
    omega
  conv => lhs; rw [h4]
  rw [Int.add_mul_emod_self_left, Int.emod_eq_of_lt (by omega) (by omega)]

/-- what octets are as a number -/
theorem getB_octs (x : Int) (sz k : Nat) (hk : k ≤ sz) : getB (octs x sz k) = x / 2 ^ (8 * (sz - k)) % 2 ^ (8 * k) % 4611686018427387904 := by
  induction k with
  | zero => simp [octs_zero, getB_nil, Int.emod_one]
  | succ k ih =>
    rw [octs_succ, getB_snoc, ih (by omega)]
    have e1 : (2 : Int) ^ (8 * (sz - k)) = 2 ^ (8 * (sz - 1 - k)) * 256 := by
      rw [show 8 * (sz - k) = 8 * (sz - 1 - k) + 8 from by omega, Int.pow_add]; rfl
    have e2 : (2 : Int) ^ (8 * (k + 1)) = 256 * 2 ^ (8 * k) := by
      rw [show 8 * (k + 1) = 8 + 8 * k from by omega, Int.pow_add]; rfl
    have e3 : sz - (k + 1) = sz - 1 - k := by omega
    rw [e3, e2]
    have p1 : (0 : Int) < 2 ^ (8 * (sz - 1 - k)) := Int.pow_pos (by decide)
    have p2 : (0 : Int) < 2 ^ (8 * k) := Int.pow_pos (by decide)
    have e4 : x / 2 ^ (8 * (sz - k)) = x / 2 ^ (8 * (sz - 1 - k)) / 256 := by rw [e1, Int.ediv_ediv_of_nonneg (by omega)]
    rw [e4]
    unfold octAt
    generalize x / 2 ^ (8 * (sz - 1 - k)) = y
    generalize (2 : Int) ^ (8 * k) = m at p2
    have h1 : 0 ≤ y / 256 % m := Int.emod_nonneg _ (by omega)
    rw [getStep_mod _ _ 0 h1]
    unfold getStep
    congr 1
    have h2 : y % (256 * m) = 256 * (y / 256 % m) + y % 256 := by
      exact mod_256 y m p2
    rw [h2]; omega
theorem getB_octAll (x : Int) (k : Nat) : getB (octAll x k) = x % 2 ^ (8 * k) % 4611686018427387904 := by
  unfold octAll
  rw [getB_octs x k k (Nat.le_refl _)]
  simp

/-- the first k octets of the word at a place -/
def wordStep (n o : Int) : Int := n * 256 + o
def wordUp (bs : List Int) (p : Nat) : Nat → Int
  | 0 => 0
  | k + 1 => wordStep (wordUp bs p k) (bs[p + k]?.getD 0)
/-- the word at a place; of a place below 0: 0 -/
def wordB (bs : List Int) (at_ : Int) : Int := if at_ < 0 then 0 else wordUp bs at_.toNat 4

/-- every element is an octet -/
def U8s (bs : List Int) : Prop := ∀ j, j < bs.length → 0 ≤ bs[j]?.getD 0 ∧ bs[j]?.getD 0 < 256

theorem take_snoc' (ls : List (List Int)) (k : Nat) (h : k < ls.length) : ls.take (k + 1) = ls.take k ++ [ls[k]?.getD []] := by
  rw [List.take_succ_eq_append_getElem h]; simp [h]
theorem flat_snoc (ls : List (List Int)) (k : Nat) (h : k < ls.length) : (ls.take (k + 1)).flatten = (ls.take k).flatten ++ ls[k]?.getD [] := by
  rw [take_snoc' ls k h]; simp
theorem flat_le (ls : List (List Int)) (k : Nat) : (ls.take k).flatten.length ≤ ls.flatten.length := by
  conv => rhs; rw [← List.take_append_drop k ls]
  rw [List.flatten_append, List.length_append]; omega

/-- each word in four octets -/
def wordsB (ws : List Int) : List Int := ws.flatMap fun x => octAll x 4
theorem wordsB_nil : wordsB [] = [] := rfl
theorem wordsB_snoc (ws : List Int) (x : Int) : wordsB (ws ++ [x]) = wordsB ws ++ octAll x 4 := by simp [wordsB]
theorem wordsB_length (ws : List Int) : (wordsB ws).length = 4 * ws.length := by
  induction ws with
  | nil => rfl
  | cons x ws ih =>
    have e : wordsB (x :: ws) = octAll x 4 ++ wordsB ws := by simp [wordsB]
    rw [e, List.length_append, ih, octAll_length, List.length_cons]; omega

theorem U8s.at (bs : List Int) (h : U8s bs) (j : Nat) : 0 ≤ bs[j]?.getD 0 ∧ bs[j]?.getD 0 < 256 := by
  by_cases hj : j < bs.length
  · exact h j hj
  · rw [List.getElem?_eq_none (by omega)]; decide
theorem wordUp_range (bs : List Int) (h : U8s bs) (p k : Nat) : 0 ≤ wordUp bs p k ∧ wordUp bs p k < 256 ^ k := by
  induction k with
  | zero => simp [wordUp]
  | succ k ih =>
    have h1 := h.at bs (p + k)
    have h2 : (256 : Int) ^ (k + 1) = 256 ^ k * 256 := Int.pow_succ 256 k
    unfold wordUp wordStep
    rw [h2]
    omega
theorem wordUp_small (bs : List Int) (h : U8s bs) (p k : Nat) (hk : k < 4) : 0 ≤ wordUp bs p k ∧ wordUp bs p k < 16777216 := by
  have h1 := wordUp_range bs h p k
  have h2 : k = 0 ∨ k = 1 ∨ k = 2 ∨ k = 3 := by omega
  rcases h2 with rfl | rfl | rfl | rfl <;> omega
theorem wordUp_out (bs : List Int) (p k : Nat) (h : bs.length ≤ p) : wordUp bs p k = 0 := by
  induction k with
  | zero => rfl
  | succ k ih =>
    unfold wordUp wordStep
    rw [ih, List.getElem?_eq_none (by omega)]; decide

theorem take_snoc (l : List Int) (k : Nat) (h : k < l.length) : l.take (k + 1) = l.take k ++ [l[k]?.getD 0] := by
  rw [List.take_succ_eq_append_getElem h]; simp [h]

theorem octAll_u8s (x : Int) (k : Nat) : U8s (octAll x k) := by
  intro j hj
  rw [octAll_length] at hj
  have e : (octAll x k)[j]?.getD 0 = octAt x k j := by simp [octAll, octs, hj]
  rw [e]; exact octAt_range x k j
theorem pow8_bounds (k : Nat) (hk : k < 8) : (1 : Int) ≤ 2 ^ (8 * k) ∧ (2 : Int) ^ (8 * k) ≤ 72057594037927936 := by
  have h2 : k = 0 ∨ k = 1 ∨ k = 2 ∨ k = 3 ∨ k = 4 ∨ k = 5 ∨ k = 6 ∨ k = 7 := by omega
  rcases h2 with rfl | rfl | rfl | rfl | rfl | rfl | rfl | rfl <;> decide
/-- numbers come back: below eight octets -/
theorem getB_back (n : Int) (k : Nat) (hk : k < 8) : getB (octAll n k) = n % 2 ^ (8 * k) := by
  rw [getB_octAll]
  have h := pow8_bounds k hk
  exact Int.emod_eq_of_lt (Int.emod_nonneg _ (by omega)) (by have := Int.emod_lt_of_pos n (show (0 : Int) < 2 ^ (8 * k) by omega); omega)
theorem getB_back8 (n : Int) (h1 : 0 ≤ n) (h2 : n < 4611686018427387904) : getB (octAll n 8) = n := by
  rw [getB_octAll]
  have e : (2 : Int) ^ (8 * 8) = 18446744073709551616 := by decide
  rw [e]; omega

theorem octAll_at (x : Int) (sz j : Nat) (h : j < sz) : (octAll x sz)[j]? = some (octAt x sz j) := by simp [octAll, octs, h]
theorem wordsB_at (ws : List Int) : ∀ (k j : Nat), k < ws.length → j < 4 → (wordsB ws)[4 * k + j]?.getD 0 = octAt (ws[k]?.getD 0) 4 j := by
  induction ws with
  | nil => intro k j hk; simp at hk
  | cons x ws ih =>
    intro k j hk hj
    have e : wordsB (x :: ws) = octAll x 4 ++ wordsB ws := by simp [wordsB]
    rw [e]
    cases k with
    | zero =>
      rw [List.getElem?_append_left (by rw [octAll_length]; omega), Nat.mul_zero, Nat.zero_add, octAll_at x 4 j hj]
      simp
    | succ k =>
      rw [List.getElem?_append_right (by rw [octAll_length]; omega), octAll_length]
      have e2 : 4 * (k + 1) + j - 4 = 4 * k + j := by omega
      rw [e2, ih k j (by simpa using hk) hj]
      simp
theorem oct4 (x : Int) (h0 : 0 ≤ x) (h1 : x < 4294967296) : octAt x 4 0 * 16777216 + octAt x 4 1 * 65536 + octAt x 4 2 * 256 + octAt x 4 3 = x := by
  have e0 : octAt x 4 0 = x / 16777216 % 256 := rfl
  have e1 : octAt x 4 1 = x / 65536 % 256 := rfl
  have e2 : octAt x 4 2 = x / 256 % 256 := rfl
  have e3 : octAt x 4 3 = x / 1 % 256 := rfl
  rw [e0, e1, e2, e3]; omega
/-- words come back -/
theorem word_back (ws : List Int) (k : Nat) (hk : k < ws.length) (h0 : 0 ≤ ws[k]?.getD 0) (h1 : ws[k]?.getD 0 < 4294967296) : wordUp (wordsB ws) (4 * k) 4 = ws[k]?.getD 0 := by
  have a0 := wordsB_at ws k 0 hk (by omega)
  have a1 := wordsB_at ws k 1 hk (by omega)
  have a2 := wordsB_at ws k 2 hk (by omega)
  have a3 := wordsB_at ws k 3 hk (by omega)
  have h := oct4 _ h0 h1
  simp only [wordUp, wordStep, a0, a1, a2, a3]
  omega
theorem wordsB_u8s (ws : List Int) : U8s (wordsB ws) := by
  induction ws with
  | nil => intro j hj; simp [wordsB] at hj
  | cons x ws ih =>
    have e : wordsB (x :: ws) = octAll x 4 ++ wordsB ws := by simp [wordsB]
    rw [e]
    intro j hj
    by_cases h : j < 4
    · rw [List.getElem?_append_left (by rw [octAll_length]; omega)]
      exact octAll_u8s x 4 j (by rw [octAll_length]; omega)
    · rw [List.getElem?_append_right (by rw [octAll_length]; omega), octAll_length]
      rw [List.length_append, octAll_length] at hj
      exact ih (j - 4) (by omega)
end

/-
  Shifts and bits of octets, as the walk spells them.
-/
section
set_option linter.unusedVariables false

theorem or_u64_join (a o : Int) (h0 : 0 ≤ a) (h1 : a < 18446744073709551616) (h2 : a % 256 = 0) (h3 : 0 ≤ o) (h4 : o < 256) : bits .or .u64 a o = a + o := by
  rw [u64_or a o h0 h1 h3 (by omega), nat_join 8 a.toNat o.toNat (by omega) (by omega)]
  omega
theorem or_u32_join (a o : Int) (h0 : 0 ≤ a) (h1 : a < 4294967296) (h2 : a % 256 = 0) (h3 : 0 ≤ o) (h4 : o < 256) : bits .or .u32 a o = a + o := by
  rw [u32_or a o h0 h1 h3 (by omega), nat_join 8 a.toNat o.toNat (by omega) (by omega)]
  omega

/-- Get's round -/
theorem get_round (n o : Int) (hn : 0 ≤ n) (h3 : 0 ≤ o) (h4 : o < 256) :
    (bits .or .u64 (IntKind.u64.wrap (n * 256)) o).tmod 4611686018427387904 = getStep n o := by
  rw [IntKind.wrap_u64, or_u64_join _ _ (by omega) (by omega) (by omega) h3 h4, Int.tmod_eq_emod_of_nonneg (by omega)]
  unfold getStep
  omega
/-- the reference's -/
theorem get_round' (n o : Int) (hn : 0 ≤ n) (h3 : 0 ≤ o) (h4 : o < 256) :
    (IntKind.u64.wrap (IntKind.u64.wrap (n * 256) + o)).tmod 4611686018427387904 = getStep n o := by
  rw [IntKind.wrap_u64, IntKind.wrap_u64, Int.tmod_eq_emod_of_nonneg (by omega)]
  unfold getStep
  omega
/-- Word's round: k is below 4 -/
theorem word_round (n o : Int) (hn : 0 ≤ n) (hn' : n < 16777216) (h3 : 0 ≤ o) (h4 : o < 256) :
    bits .or .u32 (n * 256) o = wordStep n o := by
  rw [or_u32_join _ _ (by omega) (by omega) (by omega) h3 h4]
  rfl
end

section
open Go.RowKit
set_option linter.unusedVariables false

/-- v IS A SLICE THAT READS AS THE NUMBERS zs OF KIND k (nil where there are none, or not). -/
def Ints (k : IntKind) (W : World) (v : Value) (zs : List Int) : Prop :=
  ∃ a cap, v = .slice a zs.length cap ∧ zs.length ≤ cap ∧ (a = none → cap = 0) ∧ (zs = [] ∨ ∃ b off, a = some ⟨b, off, none⟩ ∧ ∀ j, j < zs.length → W.cell? ⟨b, off + j, none⟩ = some (.int k (zs[j]?.getD 0)))

theorem Ints.kept {k : IntKind} {W W' : World} {v : Value} {zs : List Int} (h : Ints k W v zs) (hb : Below W.heap.size W W') : Ints k W' v zs := by
  obtain ⟨a, cap, rfl, hcap, hnil, h⟩ := h
  refine ⟨a, cap, rfl, hcap, hnil, h.imp id ?_⟩
  rintro ⟨b, off, rfl, hc⟩
  exact ⟨b, off, rfl, fun j hj => (hb.cell (p := ⟨b, off + j, none⟩) (World.block_lt_of_cell? W _ (hc j hj))).trans (hc j hj)⟩

theorem Ints.drew {k : IntKind} {W : World} {v : Value} {zs : List Int} (h : Ints k W v zs) : Ints k W.drew v zs := h

/-- what a call owns reads so -/
theorem Ints.of_row {k : IntKind} {W : World} {base : Nat} {e : TypeId} {v : Value} {n : Nat} {zs : List Int} (h : W.ownsRow base e 1 v n (zs.map (Value.int k))) : Ints k W v zs := by
  have hn : n = zs.length := by have := h.1; simpa using this.symm
  subst hn
  rcases h.2 with ⟨rfl, h0⟩ | ⟨g, cap, cur, rfl, hg, hh, hle, _⟩
  · obtain rfl : zs = [] := List.eq_nil_of_length_eq_zero h0
    exact ⟨none, 0, rfl, Nat.le_refl _, fun _ => rfl, .inl rfl⟩
  · refine ⟨_, cap, rfl, hle, by simp, .inr ⟨g, 0, rfl, fun j hj => ?_⟩⟩
    have := h.cellAt j (by omega)
    rw [Nat.zero_add, this]
    simp [hj]

/-- what a law on append asks of what is appended -/
theorem cells_all {k : IntKind} {W : World} {a : Option Addr} {zs : List Int} (h : zs = [] ∨ ∃ b off, a = some ⟨b, off, none⟩ ∧ ∀ j, j < zs.length → W.cell? ⟨b, off + j, none⟩ = some (.int k (zs[j]?.getD 0))) :
    ∀ ad, a = some ad → ∀ j u, (zs.map (Value.int k))[j]? = some u → W.cell? (ad.add j) = some u := by
  intro ad had j u hj
  have hj' : j < zs.length := by simpa using (List.getElem?_eq_some_iff.1 hj).1
  rcases h with rfl | ⟨b, off, e, hc⟩
  · simp at hj'
  · rw [had] at e
    obtain rfl := Option.some.inj e
    have h2 : ((⟨b, off, none⟩ : Addr).add j) = ⟨b, off + j, none⟩ := by unfold Addr.add; split <;> simp_all
    rw [h2, hc j hj']
    simp [List.getElem?_eq_getElem hj'] at hj ⊢
    exact hj

/-- v IS A SLICE OF SLICES OF OCTETS THAT READS AS ls. -/
def Rows8 (W : World) (v : Value) (ls : List (List Int)) : Prop :=
  ∃ a cap, v = .slice a ls.length cap ∧ ls.length ≤ cap ∧ (a = none → cap = 0) ∧ (ls = [] ∨ ∃ b off, a = some ⟨b, off, none⟩ ∧ ∀ j, j < ls.length → ∃ u, W.cell? ⟨b, off + j, none⟩ = some u ∧ Ints .u8 W u (ls[j]?.getD []))

theorem Rows8.kept {W W' : World} {v : Value} {ls : List (List Int)} (h : Rows8 W v ls) (hb : Below W.heap.size W W') : Rows8 W' v ls := by
  obtain ⟨a, cap, rfl, hcap, hnil, h⟩ := h
  refine ⟨a, cap, rfl, hcap, hnil, h.imp id ?_⟩
  rintro ⟨b, off, rfl, hc⟩
  refine ⟨b, off, rfl, fun j hj => ?_⟩
  obtain ⟨u, hu, hi⟩ := hc j hj
  exact ⟨u, (hb.cell (p := ⟨b, off + j, none⟩) (World.block_lt_of_cell? W _ hu)).trans hu, hi.kept hb⟩

/-- a slice of slices that was just laid -/
theorem Rows8.new (w : World) (t : TypeId) (us : List Value) (ls : List (List Int)) (hl : us.length = ls.length) (h : ∀ j, j < ls.length → Ints .u8 w (us.getD j undef) (ls[j]?.getD [])) :
    Rows8 (w.alloc (.cells us.toArray t)) (.slice (some ⟨w.heap.size, 0, none⟩) ls.length ls.length) ls := by
  refine ⟨_, _, rfl, Nat.le_refl _, by simp, .inr ⟨w.heap.size, 0, rfl, fun j hj => ⟨us.getD j undef, ?_, (h j hj).kept ((Below.refl _ _).alloc (Nat.le_refl _) _)⟩⟩⟩
  rw [Nat.zero_add, World.cell?_alloc_new]
  simp [hl, hj]

theorem ret_int {k : IntKind} {a b : Int} (h : a = b) : Ending.returned (.int k a) = .returned (.int k b) := by rw [h]
theorem Ints.drewN {k : IntKind} {W : World} {v : Value} {zs : List Int} (h : Ints k W v zs) (q : Nat) : Ints k (W.drewN q) v zs := h
end

section
set_option linter.unusedVariables false
open Go.RowKit

theorem strOfNums_take (zs : List Int) (k : Nat) : (strOfNums zs).extract 0 k = strOfNums (zs.take k) := by
  apply ByteArray.ext
  simp [strOfNums, ByteArray.data_extract, List.map_take]
end

/-
  Laws of no one function.
-/
section
set_option linter.unusedVariables false
open Go.RowKit

/-- append onto a slice of the call's own, of whatever slice: nil, empty or not. -/
theorem wpList_append_own_src {P : Program} (w : World) {ops : Array Oper} {rest : List Oper} {o : Oper} {a : Act} {Q : Exit → Act → World → Prop} (hgd : o.guard = none) (s x : Operand) (t : TypeId)
    (ho : o.op = .call { callee := .builtin .append, args := #[s, x], argTypes := #[t, t] })
    (base : Nat) (e : TypeId) (i : TypeInfo) (z : Value) (size bytes : Nat) (ht : P.underlying t = some (.slice e)) (hi : P.info? e = some i) (hz : i.zero = some z)
    (hsize : i.size = size) (hby : i.bytes = bytes) (hzs : z.cells.size = size) (hsz : 0 < size)
    (v : Value) (n : Nat) (xs : List Value) (hs : a.eval s = v) (hown : w.ownsRow base e size v n xs)
    (ao : Option Addr) (m c : Nat) (news : List Value) (hx : a.eval x = .slice ao m c) (hnone : ao = none → m = 0 ∧ c = 0) (hl : news.length = m * size) (hnews : ∀ ad, ao = some ad → ∀ j u, news[j]? = some u → w.cell? (ad.add j) = some u) (h1 : ∀ u ∈ news, u.oneCell' = true)
    (h63 : n + m ≤ maxLen) (hbytes : (n + m) * bytes ≤ 140737488355328) (hbase : base ≤ w.heap.size)
    (h : ∀ v' w', w'.ownsRow base e size v' (n + m) (xs ++ news) → w.grownBy w' v.ownBlock → (v' = .slice none 0 0 → v = .slice none 0 0) → wpList P ops Q rest (a.put o.dst v') w') : wpList P ops Q (o :: rest) a w := by
  cases ao with
  | some ad => exact wpList_append_own w hgd s x t ho base e i z size bytes ht hi hz hsize hby hzs hsz v n xs hs hown ad m c news hx hl (hnews ad rfl) h1 h63 hbytes hbase fun v' w' h2 h3 h4 => h v' w' h2 h3 (fun e => (h4.1 e).1)
  | none =>
    obtain ⟨rfl, rfl⟩ := hnone rfl
    obtain rfl : news = [] := List.eq_nil_of_length_eq_zero (by simpa using hl)
    exact wpList_append_own_none hgd s x t ho base e i size ht hi v n xs hs hown hx (h v w (by simpa using hown) (World.grownBy.refl _ _) id)

/-- a slice that is there, with no elements -/
theorem ownsRow_empty (w : World) (e : TypeId) : (w.alloc (.cells #[] e)).ownsRow w.heap.size e 1 (.slice (some ⟨w.heap.size, 0, none⟩) 0 0) 0 [] :=
  World.ownsRow_made w #[] 0 (Nat.le_refl _) (by decide) rfl

theorem strOfNums_append (a b : List Int) : strOfNums a ++ strOfNums b = strOfNums (a ++ b) := by
  apply ByteArray.ext
  apply Array.toList_inj.1
  rw [ByteArray.data_append]
  simp [strOfNums]
theorem ownsRow_addr {w : World} {base : Nat} {e : TypeId} {size : Nat} {v : Value} {n : Nat} {xs : List Value} (h : w.ownsRow base e size v n xs) (hv : v ≠ .slice none 0 0) : ∃ g cap, v = .slice (some ⟨g, 0, none⟩) n cap ∧ base ≤ g ∧ g < w.heap.size := by
  rcases h.2 with ⟨e, _⟩ | ⟨g, cap, cur, rfl, hb, hg, _⟩
  · exact absurd e hv
  · exact ⟨g, cap, rfl, hb, (Array.getElem?_eq_some_iff.1 hg).1⟩
theorem grownBy_trans {a b c : World} {r : Option Nat} (h : a.grownBy b r) (k : b.grownBy c r) : a.grownBy c r :=
  ⟨k.os.trans h.os, k.tape.trans h.tape, k.output.trans h.output, Nat.le_trans h.size k.size, fun i hi hr => (k.block i (Nat.lt_of_lt_of_le hi h.size) hr).trans (h.block i hi hr)⟩
theorem grownBy_set (w : World) (a : Addr) (v : Value) : w.grownBy (w.setCell a v) (some a.block) :=
  ⟨rfl, rfl, rfl, by simp [World.setCell], fun k _ hk => Below.heap_setCell _ _ _ k (fun e => hk (by rw [e]))⟩
end

/-
  A block of words: an array in memory.
-/
section
set_option linter.unusedVariables false
open Go.RowKit

/-- block B is an array of words, of type t, that reads as zs -/
def Arr (W : World) (B : Nat) (t : TypeId) (zs : List Int) : Prop := W.heap[B]? = some (.cells (zs.map (Value.int .u32)).toArray t (0, 0))

section
variable {W W' : World} {B : Nat} {t : TypeId} {zs : List Int}
theorem Arr.lt (h : Arr W B t zs) : B < W.heap.size := lt_of_block h
theorem Arr.cell (h : Arr W B t zs) (j : Nat) (hj : j < zs.length) : W.cell? ⟨B, j, none⟩ = some (.int .u32 (zs[j]?.getD 0)) := by
  rw [cell_of_row W B j _ t (0, 0) h]; simp [hj]
theorem Arr.free (h : Arr W B t zs) (j : Nat) : W.frozen? ⟨B, j, none⟩ = false := frozen_of_row W B j _ t h
theorem Arr.set (h : Arr W B t zs) (j : Nat) (x : Int) : Arr (W.setCell ⟨B, j, none⟩ (.int .u32 x)) B t (zs.set j x) := by
  have := heap_setCell_same W B j _ t (.int .u32 x) h
  unfold Arr; rw [this, List.map_set]; simp
theorem Arr.other (h : Arr W B t zs) {a : Addr} (hb : a.block ≠ B) (u : Value) : Arr (W.setCell a u) B t zs :=
  (Below.heap_setCell W a u B (Ne.symm hb)).trans h
theorem Arr.alloc (h : Arr W B t zs) (o : Obj) : Arr (W.alloc o) B t zs := (Below.heap_alloc W o B h.lt).trans h
theorem Arr.grown {row : Option Nat} (h : Arr W B t zs) (hg : W.grownBy W' row) (hb : some B ≠ row) : Arr W' B t zs := (hg.block B h.lt hb).trans h
theorem Arr.below (h : Arr W B t zs) (hb : Below W.heap.size W W') : Arr W' B t zs := (hb.block B h.lt).trans h
theorem Arr.drewN (h : Arr W B t zs) (q : Nat) : Arr (W.drewN q) B t zs := h
theorem Arr.new (W : World) (t : TypeId) (zs : List Int) : Arr (W.alloc (.cells (zs.map (Value.int .u32)).toArray t)) W.heap.size t zs := heap_alloc_new W _
theorem Arr.setRow (h : Arr W B t zs) (ys : List Int) : Arr (W.setRow B (ys.map (Value.int .u32)).toArray) B t ys := setRow_heap W B _ _ t (0, 0) h
theorem Arr.setRow_other (h : Arr W B t zs) {g : Nat} (hg : B ≠ g) (cs : Array Value) : Arr (W.setRow g cs) B t zs := (Go.setRow_other W g B cs hg).trans h
theorem grownBy_setRow (W : World) (g : Nat) (cs : Array Value) : W.grownBy (W.setRow g cs) (some g) :=
  ⟨rfl, rfl, rfl, by simp, fun k _ hk => Go.setRow_other W g k cs (fun e => hk (by rw [e]))⟩
theorem grownBy_setCell (W : World) (a : Addr) (v : Value) : W.grownBy (W.setCell a v) (some a.block) :=
  ⟨rfl, rfl, rfl, by simp [World.setCell], fun k _ hk => Below.heap_setCell _ _ _ k (fun e => hk (by rw [e]))⟩
theorem oneCell_words (zs : List Int) : ((zs.map (Value.int .u32)).toArray).all (·.oneCell') = true := by simp [Value.oneCell']
end
/-- Below, as growth -/
theorem grown_of_below {W W' : World} (row : Option Nat) (h : Below W.heap.size W W') : W.grownBy W' row := ⟨h.os, h.tape, h.output, h.size, fun k hk _ => h.block k hk⟩
theorem grownBy_trans' {a b c : World} {r : Option Nat} (h : a.grownBy b r) (k : b.grownBy c r) : a.grownBy c r :=
  ⟨k.os.trans h.os, k.tape.trans h.tape, k.output.trans h.output, Nat.le_trans h.size k.size, fun i hi hr => (k.block i (Nat.lt_of_lt_of_le hi h.size) hr).trans (h.block i hi hr)⟩

/-- a whole array of words into its block: the world behind it by what is known of it alone -/
theorem wpList_store_arr {P : Program} {w : World} {ops : Array Oper} {rest : List Oper} {o : Oper} {a : Act} {Q : Exit → Act → World → Prop} (hgd : o.guard = none) (ty : TypeId) (x y : Operand) (ho : o.op = .store ty x y)
    (g : Nat) (zs ys : List Int) (hx : a.eval x = .pointer (some ⟨g, 0, none⟩)) (hy : a.eval y = .agg (ys.map (Value.int .u32)).toArray) (t : TypeId) (hg : Arr w g t zs)
    (hi : (P.info? ty).map (·.size) = some ys.length) (hl : zs.length = ys.length)
    (h : ∀ w2, Arr w2 g t ys → w.grownBy w2 (some g) → wpList P ops Q rest (a.put o.dst undef) w2) : wpList P ops Q (o :: rest) a w :=
  wpList_store_row hgd ty x y ho g _ hx hy t _ hg (by rw [hi]; simp) (by simpa using hl) (oneCell_words ys) (h _ (hg.setRow ys) (grownBy_setRow _ _ _))

/-- one list over another, element by element -/
theorem over_set {A B : List Int} (k : Nat) (h : A.length = B.length) (hk : k < A.length) : (A.take k ++ B.drop k).set k (A[k]?.getD 0) = A.take (k + 1) ++ B.drop (k + 1) := by
  rw [List.set_append_right _ _ (by simp; omega), List.length_take, Nat.min_eq_left (by omega), Nat.sub_self, List.drop_eq_getElem_cons (by omega), List.set_cons_zero, List.take_succ_eq_append_getElem hk, List.append_assoc]
  simp [hk]
theorem over_at {A B : List Int} (k : Nat) (h : A.length = B.length) (hk : k < A.length) : (A.take k ++ B.drop k)[k]?.getD 0 = B[k]?.getD 0 := by
  rw [List.getElem?_append_right (by simp; omega), List.length_take, Nat.min_eq_left (by omega), Nat.sub_self, List.getElem?_drop, Nat.add_zero]
theorem over_length {A B : List Int} (k : Nat) (h : A.length = B.length) : (A.take k ++ B.drop k).length = A.length := by
  simp; omega

/-- A SLICE OF NUMBERS THAT LIES NOT IN BLOCK S. -/
def IntsOff (S : Nat) (k : IntKind) (W : World) (v : Value) (zs : List Int) : Prop :=
  ∃ a cap, v = .slice a zs.length cap ∧ zs.length ≤ cap ∧ (a = none → cap = 0) ∧ (zs = [] ∨ ∃ b off, a = some ⟨b, off, none⟩ ∧ b ≠ S ∧ ∀ j, j < zs.length → W.cell? ⟨b, off + j, none⟩ = some (.int k (zs[j]?.getD 0)))
theorem IntsOff.ints {S : Nat} {k : IntKind} {W : World} {v : Value} {zs : List Int} (h : IntsOff S k W v zs) : Ints k W v zs := by
  obtain ⟨a, cap, h1, h2, h3, h4⟩ := h
  exact ⟨a, cap, h1, h2, h3, h4.imp id fun ⟨b, off, h5, _, h6⟩ => ⟨b, off, h5, h6⟩⟩
theorem IntsOff.grown {S : Nat} {k : IntKind} {W W' : World} {v : Value} {zs : List Int} (h : IntsOff S k W v zs) (hg : W.grownBy W' (some S)) : IntsOff S k W' v zs := by
  obtain ⟨a, cap, h1, h2, h3, h4⟩ := h
  exact ⟨a, cap, h1, h2, h3, h4.imp id fun ⟨b, off, h5, h6, h7⟩ => ⟨b, off, h5, h6, fun j hj => hg.cell (h7 j hj) (fun e => h6 (Option.some.inj e))⟩⟩
/-- what was there before block S -/
theorem IntsOff.of_old {S : Nat} {k : IntKind} {W W' : World} {v : Value} {zs : List Int} (h : Ints k W v zs) (hb : Below W.heap.size W W') (hS : W.heap.size ≤ S) : IntsOff S k W' v zs := by
  obtain ⟨a, cap, h1, h2, h3, h4⟩ := h
  refine ⟨a, cap, h1, h2, h3, ?_⟩
  by_cases h0 : 0 < zs.length
  · rcases h4 with rfl | ⟨b, off, h5, h6⟩
    · simp at h0
    have hlt := World.block_lt_of_cell? W _ (h6 0 h0)
    exact .inr ⟨b, off, h5, by simp at hlt; omega, fun j hj => (hb.cell (p := ⟨b, off + j, none⟩) (World.block_lt_of_cell? W _ (h6 j hj))).trans (h6 j hj)⟩
  · exact .inl (List.eq_nil_of_length_eq_zero (by omega))
/-- what a call made behind block S -/
theorem IntsOff.of_row {S : Nat} {k : IntKind} {W : World} {base : Nat} {e : TypeId} {v : Value} {n : Nat} {zs : List Int} (h : W.ownsRow base e 1 v n (zs.map (Value.int k))) (hS : S < base) : IntsOff S k W v zs := by
  obtain ⟨a, cap, h1, h2, h3, h4⟩ := Ints.of_row h
  refine ⟨a, cap, h1, h2, h3, h4.imp id ?_⟩
  rintro ⟨b, off, h5, h6⟩
  have := h.lt b (by rw [h1, h5]; rfl)
  exact ⟨b, off, h5, by omega, h6⟩
/-- all of an array, as a slice -/
theorem Arr.ints {W : World} {B : Nat} {t : TypeId} {zs : List Int} (h : Arr W B t zs) : Ints .u32 W (.slice (some ⟨B, 0, none⟩) zs.length zs.length) zs :=
  ⟨_, _, rfl, Nat.le_refl _, by simp, .inr ⟨B, 0, rfl, fun j hj => by rw [Nat.zero_add]; exact h.cell j hj⟩⟩
end
end Go.Proofs.Ytmcajckpgbamnaa
