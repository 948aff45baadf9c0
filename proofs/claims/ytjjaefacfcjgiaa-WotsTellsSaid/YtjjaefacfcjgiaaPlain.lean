import Derived.RowKit3
/-
  Plain mathematics on octets: no program is imported here.
-/
namespace Go.Proofs.Ytjjaefacfcjgiaa
set_option linter.unusedVariables false

/-- the octet number j of x in sz octets, the highest first -/
def octAt (x : Int) (sz j : Nat) : Int := x / 2 ^ (8 * (sz - 1 - j)) % 256
/-- the first k of them -/
def octs (x : Int) (sz k : Nat) : List Int := (List.range k).map (octAt x sz)
/-- all of them -/
def octAll (x : Int) (sz : Nat) : List Int := octs x sz sz

theorem octs_zero (x : Int) (sz : Nat) : octs x sz 0 = [] := rfl
theorem octs_succ (x : Int) (sz k : Nat) : octs x sz (k + 1) = octs x sz k ++ [octAt x sz k] := by simp [octs, List.range_succ]
theorem octs_length (x : Int) (sz k : Nat) : (octs x sz k).length = k := by simp [octs]
theorem octAll_length (x : Int) (sz : Nat) : (octAll x sz).length = sz := by simp [octAll, octs]
theorem octAt_range (x : Int) (sz j : Nat) : 0 ≤ octAt x sz j ∧ octAt x sz j < 256 := by unfold octAt; omega

/-- octets as a number, modulo 2^62 -/
def getStep (n o : Int) : Int := (n * 256 + o) % 4611686018427387904
def getB (bs : List Int) : Int := bs.foldl getStep 0
theorem getB_nil : getB [] = 0 := rfl
theorem getB_snoc (bs : List Int) (o : Int) : getB (bs ++ [o]) = getStep (getB bs) o := by simp [getB, List.foldl_append]
theorem getStep_range (n o : Int) : 0 ≤ getStep n o ∧ getStep n o < 4611686018427387904 := by unfold getStep; omega
theorem getB_range (bs : List Int) : 0 ≤ getB bs ∧ getB bs < 4611686018427387904 := by
  rcases List.eq_nil_or_concat bs with rfl | ⟨l, o, rfl⟩
  · decide
  · rw [List.concat_eq_append, getB_snoc]; exact getStep_range _ _

theorem getStep_mod (g x y : Int) (hg : 0 ≤ g) : getStep (g % 4611686018427387904) x = getStep g x := by unfold getStep; omega

theorem mod_256 (y m : Int) (hm : 0 < m) : y % (256 * m) = 256 * (y / 256 % m) + y % 256 := by
  have h1 := Int.mul_ediv_add_emod (y / 256) m
  have h2 : 0 ≤ y / 256 % m := Int.emod_nonneg _ (by omega)
  have h3 : y / 256 % m < m := Int.emod_lt_of_pos _ hm
  have h4 : y = (256 * (y / 256 % m) + y % 256) + 256 * m * (y / 256 / m) := by
    have h5 : 256 * m * (y / 256 / m) = 256 * (m * (y / 256 / m)) := Int.mul_assoc _ _ _
    omega
  conv => lhs; rw [h4]
  rw [Int.add_mul_emod_self_left, Int.emod_eq_of_lt (by omega) (by omega)]

/-- what octets are as a number -/
theorem getB_octs (x : Int) (sz k : Nat) (hk : k ≤ sz) : getB (octs x sz k) = x / 2 ^ (8 * (sz - k)) % 2 ^ (8 * k) % 4611686018427387904 := by
  induction k with
  | zero => simp [octs_zero, getB_nil, Int.emod_one]
  | succ k ih =>
    rw [octs_succ, getB_snoc, ih (by omega)]
    have e1 : (2 : Int) ^ (8 * (sz - k)) = 2 ^ (8 * (sz - 1 - k)) * 256 := by
      rw [show 8 * (sz - k) = 8 * (sz - 1 - k) + 8 from by omega, Int.pow_add]; rfl
    have e2 : (2 : Int) ^ (8 * (k + 1)) = 256 * 2 ^ (8 * k) := by
      rw [show 8 * (k + 1) = 8 + 8 * k from by omega, Int.pow_add]; rfl
    have e3 : sz - (k + 1) = sz - 1 - k := by omega
    rw [e3, e2]
    have p1 : (0 : Int) < 2 ^ (8 * (sz - 1 - k)) := Int.pow_pos (by decide)
    have p2 : (0 : Int) < 2 ^ (8 * k) := Int.pow_pos (by decide)
    have e4 : x / 2 ^ (8 * (sz - k)) = x / 2 ^ (8 * (sz - 1 - k)) / 256 := by rw [e1, Int.ediv_ediv_of_nonneg (by omega)]
    rw [e4]
    unfold octAt
    generalize x / 2 ^ (8 * (sz - 1 - k)) = y
    generalize (2 : Int) ^ (8 * k) = m at p2
    have h1 : 0 ≤ y / 256 % m := Int.emod_nonneg _ (by omega)
    rw [getStep_mod _ _ 0 h1]
    unfold getStep
    congr 1
    have h2 : y % (256 * m) = 256 * (y / 256 % m) + y % 256 := by
      exact mod_256 y m p2
    rw [h2]; omega
theorem getB_octAll (x : Int) (k : Nat) : getB (octAll x k) = x % 2 ^ (8 * k) % 4611686018427387904 := by
  unfold octAll
  rw [getB_octs x k k (Nat.le_refl _)]
  simp

/-- the first k octets of the word at a place -/
def wordStep (n o : Int) : Int := n * 256 + o
def wordUp (bs : List Int) (p : Nat) : Nat → Int
  | 0 => 0
  | k + 1 => wordStep (wordUp bs p k) (bs[p + k]?.getD 0)
/-- the word at a place; of a place below 0: 0 -/
def wordB (bs : List Int) (at_ : Int) : Int := if at_ < 0 then 0 else wordUp bs at_.toNat 4

/-- every element is an octet -/
def U8s (bs : List Int) : Prop := ∀ j, j < bs.length → 0 ≤ bs[j]?.getD 0 ∧ bs[j]?.getD 0 < 256

theorem take_snoc' (ls : List (List Int)) (k : Nat) (h : k < ls.length) : ls.take (k + 1) = ls.take k ++ [ls[k]?.getD []] := by
  rw [List.take_succ_eq_append_getElem h]; simp [h]
theorem flat_snoc (ls : List (List Int)) (k : Nat) (h : k < ls.length) : (ls.take (k + 1)).flatten = (ls.take k).flatten ++ ls[k]?.getD [] := by
  rw [take_snoc' ls k h]; simp
theorem flat_le (ls : List (List Int)) (k : Nat) : (ls.take k).flatten.length ≤ ls.flatten.length := by
  conv => rhs; rw [← List.take_append_drop k ls]
  rw [List.flatten_append, List.length_append]; omega

/-- each word in four octets -/
def wordsB (ws : List Int) : List Int := ws.flatMap fun x => octAll x 4
theorem wordsB_nil : wordsB [] = [] := rfl
theorem wordsB_snoc (ws : List Int) (x : Int) : wordsB (ws ++ [x]) = wordsB ws ++ octAll x 4 := by simp [wordsB]
theorem wordsB_length (ws : List Int) : (wordsB ws).length = 4 * ws.length := by
  induction ws with
  | nil => rfl
  | cons x ws ih =>
    have e : wordsB (x :: ws) = octAll x 4 ++ wordsB ws := by simp [wordsB]
    rw [e, List.length_append, ih, octAll_length, List.length_cons]; omega

theorem U8s.at (bs : List Int) (h : U8s bs) (j : Nat) : 0 ≤ bs[j]?.getD 0 ∧ bs[j]?.getD 0 < 256 := by
  by_cases hj : j < bs.length
  · exact h j hj
  · rw [List.getElem?_eq_none (by omega)]; decide
theorem wordUp_range (bs : List Int) (h : U8s bs) (p k : Nat) : 0 ≤ wordUp bs p k ∧ wordUp bs p k < 256 ^ k := by
  induction k with
  | zero => simp [wordUp]
  | succ k ih =>
    have h1 := h.at bs (p + k)
    have h2 : (256 : Int) ^ (k + 1) = 256 ^ k * 256 := Int.pow_succ 256 k
    unfold wordUp wordStep
    rw [h2]
    omega
theorem wordUp_small (bs : List Int) (h : U8s bs) (p k : Nat) (hk : k < 4) : 0 ≤ wordUp bs p k ∧ wordUp bs p k < 16777216 := by
  have h1 := wordUp_range bs h p k
  have h2 : k = 0 ∨ k = 1 ∨ k = 2 ∨ k = 3 := by omega
  rcases h2 with rfl | rfl | rfl | rfl <;> omega
theorem wordUp_out (bs : List Int) (p k : Nat) (h : bs.length ≤ p) : wordUp bs p k = 0 := by
  induction k with
  | zero => rfl
  | succ k ih =>
    unfold wordUp wordStep
    rw [ih, List.getElem?_eq_none (by omega)]; decide

theorem take_snoc (l : List Int) (k : Nat) (h : k < l.length) : l.take (k + 1) = l.take k ++ [l[k]?.getD 0] := by
  rw [List.take_succ_eq_append_getElem h]; simp [h]

theorem octAll_u8s (x : Int) (k : Nat) : U8s (octAll x k) := by
  intro j hj
  rw [octAll_length] at hj
  have e : (octAll x k)[j]?.getD 0 = octAt x k j := by simp [octAll, octs, hj]
  rw [e]; exact octAt_range x k j
theorem pow8_bounds (k : Nat) (hk : k < 8) : (1 : Int) ≤ 2 ^ (8 * k) ∧ (2 : Int) ^ (8 * k) ≤ 72057594037927936 := by
  have h2 : k = 0 ∨ k = 1 ∨ k = 2 ∨ k = 3 ∨ k = 4 ∨ k = 5 ∨ k = 6 ∨ k = 7 := by omega
  rcases h2 with rfl | rfl | rfl | rfl | rfl | rfl | rfl | rfl <;> decide
/-- numbers come back: below eight octets -/
theorem getB_back (n : Int) (k : Nat) (hk : k < 8) : getB (octAll n k) = n % 2 ^ (8 * k) := by
  rw [getB_octAll]
  have h := pow8_bounds k hk
  exact Int.emod_eq_of_lt (Int.emod_nonneg _ (by omega)) (by have := Int.emod_lt_of_pos n (show (0 : Int) < 2 ^ (8 * k) by omega); omega)
theorem getB_back8 (n : Int) (h1 : 0 ≤ n) (h2 : n < 4611686018427387904) : getB (octAll n 8) = n := by
  rw [getB_octAll]
  have e : (2 : Int) ^ (8 * 8) = 18446744073709551616 := by decide
  rw [e]; omega

theorem octAll_at (x : Int) (sz j : Nat) (h : j < sz) : (octAll x sz)[j]? = some (octAt x sz j) := by simp [octAll, octs, h]
theorem wordsB_at (ws : List Int) : ∀ (k j : Nat), k < ws.length → j < 4 → (wordsB ws)[4 * k + j]?.getD 0 = octAt (ws[k]?.getD 0) 4 j := by
  induction ws with
  | nil => intro k j hk; simp at hk
  | cons x ws ih =>
    intro k j hk hj
    have e : wordsB (x :: ws) = octAll x 4 ++ wordsB ws := by simp [wordsB]
    rw [e]
    cases k with
    | zero =>
      rw [List.getElem?_append_left (by rw [octAll_length]; omega), Nat.mul_zero, Nat.zero_add, octAll_at x 4 j hj]
      simp
    | succ k =>
      rw [List.getElem?_append_right (by rw [octAll_length]; omega), octAll_length]
      have e2 : 4 * (k + 1) + j - 4 = 4 * k + j := by omega
      rw [e2, ih k j (by simpa using hk) hj]
      simp
theorem oct4 (x : Int) (h0 : 0 ≤ x) (h1 : x < 4294967296) : octAt x 4 0 * 16777216 + octAt x 4 1 * 65536 + octAt x 4 2 * 256 + octAt x 4 3 = x := by
  have e0 : octAt x 4 0 = x / 16777216 % 256 := rfl
  have e1 : octAt x 4 1 = x / 65536 % 256 := rfl
  have e2 : octAt x 4 2 = x / 256 % 256 := rfl
  have e3 : octAt x 4 3 = x / 1 % 256 := rfl
  rw [e0, e1, e2, e3]; omega
/-- words come back -/
theorem word_back (ws : List Int) (k : Nat) (hk : k < ws.length) (h0 : 0 ≤ ws[k]?.getD 0) (h1 : ws[k]?.getD 0 < 4294967296) : wordUp (wordsB ws) (4 * k) 4 = ws[k]?.getD 0 := by
  have a0 := wordsB_at ws k 0 hk (by omega)
  have a1 := wordsB_at ws k 1 hk (by omega)
  have a2 := wordsB_at ws k 2 hk (by omega)
  have a3 := wordsB_at ws k 3 hk (by omega)
  have h := oct4 _ h0 h1
  simp only [wordUp, wordStep, a0, a1, a2, a3]
  omega
theorem wordsB_u8s (ws : List Int) : U8s (wordsB ws) := by
  induction ws with
  | nil => intro j hj; simp [wordsB] at hj
  | cons x ws ih =>
    have e : wordsB (x :: ws) = octAll x 4 ++ wordsB ws := by simp [wordsB]
    rw [e]
    intro j hj
    by_cases h : j < 4
    · rw [List.getElem?_append_left (by rw [octAll_length]; omega)]
      exact octAll_u8s x 4 j (by rw [octAll_length]; omega)
    · rw [List.getElem?_append_right (by rw [octAll_length]; omega), octAll_length]
      rw [List.length_append, octAll_length] at hj
      exact ih (j - 4) (by omega)

end Go.Proofs.Ytjjaefacfcjgiaa
