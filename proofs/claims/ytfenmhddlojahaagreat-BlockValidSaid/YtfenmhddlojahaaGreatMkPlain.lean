import Derived.WalkKit
import Derived.Outline
import Derived.Deep.QuietTactic
import Derived.BigQuiet
import Derived.Test.YtfenmhddlojahaaGreatSha
import Derived.Test.YtfenmhddlojahaaGreatStrs
import Derived.Test.YtfenmhddlojahaaGreatUps
namespace Go.Proofs.YtfenmhddlojahaaGreat
section
/-
  Rows of texts above rows of texts, in plain mathematics.
-/
section
set_option linter.unusedVariables false

/-- the sum of two neighbours -/
def bothB (a b : List Int) : List Int := shortB (a ++ b)
/-- what stands above a pair -/
def cellB (ls : List (List Int)) (k : Nat) : List Int := if 2 * k + 1 < ls.length then bothB (ls[2 * k]?.getD []) (ls[2 * k + 1]?.getD []) else ls[2 * k]?.getD []
/-- the row above -/
def upB (ls : List (List Int)) : List (List Int) := upTo (cellB ls) ((ls.length + 1) / 2)
def upN (ls : List (List Int)) : Nat → List (List Int)
  | 0 => ls
  | k + 1 => upB (upN ls k)
def rootB (ls : List (List Int)) : List Int := (upN ls ls.length)[0]?.getD []

theorem upB_length (ls : List (List Int)) : (upB ls).length = (ls.length + 1) / 2 := by rw [upB, upTo_length]
theorem upTo_at (f : Nat → List Int) (k j : Nat) (h : j < k) : (upTo f k)[j]?.getD [] = f j := by simp [upTo, h]
theorem upB_at (ls : List (List Int)) (j : Nat) (h : j < (ls.length + 1) / 2) : (upB ls)[j]?.getD [] = cellB ls j := upTo_at _ _ _ h
theorem upB_nil : upB [] = [] := rfl
theorem upB_one (ls : List (List Int)) (h : ls.length = 1) : upB ls = ls := by
  match ls, h with
  | [x], _ => simp [upB, upTo, cellB, List.range_succ]
theorem upN_add (ls : List (List Int)) (k : Nat) : ∀ j, upN ls (k + j) = upN (upN ls k) j
  | 0 => rfl
  | j + 1 => by show upB (upN ls (k + j)) = upB (upN (upN ls k) j); rw [upN_add ls k j]
theorem upN_up (ls : List (List Int)) (k : Nat) : upN (upB ls) k = upN ls (k + 1) := by rw [Nat.add_comm, upN_add]; rfl
theorem upN_one (ls : List (List Int)) (h : ls.length = 1) : ∀ k, upN ls k = ls
  | 0 => rfl
  | k + 1 => by show upB (upN ls k) = ls; rw [upN_one ls h k]; exact upB_one ls h
theorem upN_nil : ∀ k, upN [] k = []
  | 0 => rfl
  | k + 1 => by show upB (upN [] k) = []; rw [upN_nil k]; rfl
theorem upN_pos (ls : List (List Int)) (h : 0 < ls.length) : ∀ k, 0 < (upN ls k).length
  | 0 => h
  | k + 1 => by have := upN_pos ls h k; show 0 < (upB _).length; rw [upB_length]; omega
theorem upN_small (ls : List (List Int)) : ∀ k, (upN ls k).length ≤ max 1 (ls.length - k)
  | 0 => by show ls.length ≤ _; omega
  | k + 1 => by have := upN_small ls k; show (upB _).length ≤ _; rw [upB_length]; omega
theorem upN_le (ls : List (List Int)) : ∀ k, (upN ls k).length ≤ ls.length
  | 0 => Nat.le_refl _
  | k + 1 => by have := upN_le ls k; show (upB _).length ≤ _; rw [upB_length]; omega
/-- the row of one text holds the root -/
theorem root_at (ls : List (List Int)) (k : Nat) (h : (upN ls k).length = 1) : (upN ls k)[0]?.getD [] = rootB ls := by
  have h0 : 0 < ls.length := by
    rcases Nat.eq_zero_or_pos ls.length with e | e
    · have := upN_le ls k; omega
    · exact e
  have hn : (upN ls ls.length).length = 1 := by
    have := upN_pos ls h0 ls.length
    have := upN_small ls ls.length
    omega
  unfold rootB
  congr 2
  rcases Nat.le_total k ls.length with hk | hk
  · obtain ⟨d, hd⟩ := Nat.exists_eq_add_of_le hk
    rw [show upN ls ls.length = upN ls (k + d) from by rw [hd], upN_add, upN_one _ h]
  · obtain ⟨d, hd⟩ := Nat.exists_eq_add_of_le hk
    rw [hd, upN_add, upN_one _ hn]
theorem root_nil : rootB [] = [] := rfl
theorem root_one (ls : List (List Int)) (h : ls.length = 1) : rootB ls = ls[0]?.getD [] := (root_at ls 0 h).symm
/-- some row has one text, none before it -/
theorem upN_top (ls : List (List Int)) (h : 0 < ls.length) : ∃ K, (upN ls K).length = 1 ∧ ∀ j, j < K → 1 < (upN ls j).length := by
  have key : ∀ n k, n - k = (n - k) → (∀ j, j < k → 1 < (upN ls j).length) → ∀ d, d = ls.length - k → ∃ K, (upN ls K).length = 1 ∧ ∀ j, j < K → 1 < (upN ls j).length := by
    intro n k _ hk d
    induction d generalizing k with
    | zero =>
      intro hd
      have h1 := upN_small ls k
      have h2 := upN_pos ls h k
      exact ⟨k, by omega, hk⟩
    | succ d ih =>
      intro hd
      have h2 := upN_pos ls h k
      by_cases h1 : (upN ls k).length = 1
      · exact ⟨k, h1, hk⟩
      · refine ih (k + 1) rfl (fun j hj => ?_) (by omega)
        by_cases e : j = k
        · subst e; omega
        · exact hk j (by omega)
  exact key 0 0 rfl (fun j hj => by omega) _ rfl
/-- the root of the row above is the root -/
theorem root_up (ls : List (List Int)) : rootB (upB ls) = rootB ls := by
  rcases Nat.eq_zero_or_pos ls.length with h | h
  · obtain rfl := List.eq_nil_of_length_eq_zero h; rfl
  · obtain ⟨K, hK, _⟩ := upN_top ls h
    have h1 : (upN ls (K + 1)).length = 1 := by show (upB _).length = 1; rw [upB_length, hK]
    rw [← root_at ls _ h1, ← upN_up]
    exact (root_at (upB ls) K (by rw [upN_up]; exact h1)).symm

/-- every text is of octets and can be a string's -/
def Fits (ls : List (List Int)) : Prop := ∀ k : Nat, U8s (ls[k]?.getD []) ∧ (ls[k]?.getD []).length ≤ 140737488351232
theorem U8s.nil : U8s [] := fun j hj => by simp at hj
theorem bothB_u8s (a b : List Int) : U8s (bothB a b) := shortB_u8s _
theorem bothB_length (a b : List Int) : (bothB a b).length = 8 := shortB_length _
theorem cellB_fits (ls : List (List Int)) (h : Fits ls) (k : Nat) : U8s (cellB ls k) ∧ (cellB ls k).length ≤ 140737488351232 := by
  unfold cellB
  split
  · exact ⟨bothB_u8s _ _, by rw [bothB_length]; omega⟩
  · exact h _
theorem Fits.up {ls : List (List Int)} (h : Fits ls) : Fits (upB ls) := by
  intro k
  by_cases hk : k < (ls.length + 1) / 2
  · rw [upB_at ls k hk]; exact cellB_fits ls h k
  · rw [List.getElem?_eq_none (by rw [upB_length]; omega)]; exact ⟨U8s.nil, by simp⟩
theorem Fits.upN {ls : List (List Int)} (h : Fits ls) : ∀ k, Fits (upN ls k)
  | 0 => h
  | k + 1 => (Fits.upN h k).up

/-- two to so many -/
theorem upN_pow (ls : List (List Int)) (K : Nat) (h : ls.length = 2 ^ K) : ∀ k, k ≤ K → (upN ls k).length = 2 ^ (K - k)
  | 0, _ => h
  | k + 1, hk => by
    have h1 := upN_pow ls K h k (by omega)
    have h2 : K - k = (K - (k + 1)) + 1 := by omega
    show (upB _).length = _
    rw [upB_length, h1, h2, Nat.pow_succ]
    have := Nat.two_pow_pos (K - (k + 1))
    omega
/-- the neighbour's place -/
def nb (j : Nat) : Nat := if j % 2 = 1 then j - 1 else j + 1
theorem nb_lt {j K : Nat} (h : j < 2 ^ (K + 1)) : nb j < 2 ^ (K + 1) := by
  have e : 2 ^ (K + 1) = 2 * 2 ^ K := by rw [Nat.pow_succ]; omega
  unfold nb
  split <;> omega
def pathAt (ls : List (List Int)) (at_ k : Nat) : List Int := (upN ls k)[nb (at_ / 2 ^ k)]?.getD []
def pathB (ls : List (List Int)) (at_ K : Nat) : List (List Int) := upTo (pathAt ls at_) K
theorem half_step (at_ k : Nat) : at_ / 2 ^ k / 2 = at_ / 2 ^ (k + 1) := by rw [Nat.div_div_eq_div_mul, Nat.pow_succ]
theorem part_lt {at_ K k : Nat} (h : at_ < 2 ^ K) (hk : k ≤ K) : at_ / 2 ^ k < 2 ^ (K - k) := by
  rw [Nat.div_lt_iff_lt_mul (Nat.two_pow_pos k), ← Nat.pow_add]
  rwa [show K - k + k = K from by omega]
theorem pathB_length (ls : List (List Int)) (at_ K : Nat) : (pathB ls at_ K).length = K := upTo_length _ _
theorem pathB_fits (ls : List (List Int)) (h : Fits ls) (at_ K : Nat) : Fits (pathB ls at_ K) := by
  intro k
  by_cases hk : k < K
  · rw [pathB, upTo_at _ _ _ hk]; exact (h.upN k) _
  · rw [List.getElem?_eq_none (by rw [pathB_length]; omega)]; exact ⟨U8s.nil, by simp⟩

/-- one step up -/
def stepB (at_ : Nat) (s top : List Int) : List Int := if at_ % 2 = 1 then bothB s top else bothB top s
def climbN (leaf : List Int) (at_ : Nat) (path : List (List Int)) : Nat → List Int
  | 0 => leaf
  | k + 1 => stepB (at_ / 2 ^ k) (path[k]?.getD []) (climbN leaf at_ path k)
def climbB (leaf : List Int) (at_ : Nat) (path : List (List Int)) : List Int := climbN leaf at_ path path.length
theorem climbN_fits (leaf : List Int) (at_ : Nat) (path : List (List Int)) (n : Nat) (hn : 8 ≤ n) (h : U8s leaf ∧ leaf.length ≤ n) : ∀ k, U8s (climbN leaf at_ path k) ∧ (climbN leaf at_ path k).length ≤ n
  | 0 => h
  | k + 1 => by
    show U8s (stepB _ _ _) ∧ (stepB _ _ _).length ≤ n
    unfold stepB
    split
    · exact ⟨bothB_u8s _ _, by rw [bothB_length]; exact hn⟩
    · exact ⟨bothB_u8s _ _, by rw [bothB_length]; exact hn⟩
/-- a step leads from a row to the row above -/
theorem step_up (r : List (List Int)) (j K : Nat) (hr : r.length = 2 ^ (K + 1)) (hj : j < 2 ^ (K + 1)) : stepB j (r[nb j]?.getD []) (r[j]?.getD []) = (upB r)[j / 2]?.getD [] := by
  have e : 2 ^ (K + 1) = 2 * 2 ^ K := by rw [Nat.pow_succ]; omega
  have h1 : j / 2 < (r.length + 1) / 2 := by omega
  rw [upB_at r _ h1]
  unfold stepB cellB nb
  rw [if_pos (show 2 * (j / 2) + 1 < r.length from by omega)]
  by_cases h : j % 2 = 1
  · rw [if_pos h, if_pos h, show 2 * (j / 2) = j - 1 from by omega, show j - 1 + 1 = j from by omega]
  · rw [if_neg h, if_neg h, show 2 * (j / 2) = j from by omega]
theorem climb_rows (ls : List (List Int)) (at_ K : Nat) (hl : ls.length = 2 ^ K) (ha : at_ < 2 ^ K) : ∀ k, k ≤ K → climbN (ls[at_]?.getD []) at_ (pathB ls at_ K) k = (upN ls k)[at_ / 2 ^ k]?.getD []
  | 0, _ => by simp [climbN, upN]
  | k + 1, hk => by
    have ih := climb_rows ls at_ K hl ha k (by omega)
    have h1 := upN_pow ls K hl k (by omega)
    have h2 := part_lt ha (show k ≤ K by omega)
    have e : K - k = (K - (k + 1)) + 1 := by omega
    rw [e] at h1 h2
    show stepB _ _ (climbN _ _ _ k) = _
    rw [ih, pathB, upTo_at _ _ _ (show k < K by omega), ← half_step]
    exact step_up _ _ _ h1 h2
/-- CLIMBED, A LEAF's PATH LEADS TO THE ROOT. -/
theorem climb_path (ls : List (List Int)) (at_ K : Nat) (hl : ls.length = 2 ^ K) (ha : at_ < 2 ^ K) : climbB (ls[at_]?.getD []) at_ (pathB ls at_ K) = rootB ls := by
  have h := climb_rows ls at_ K hl ha K (Nat.le_refl _)
  have h1 := upN_pow ls K hl K (Nat.le_refl _)
  rw [Nat.sub_self, Nat.pow_zero] at h1
  unfold climbB
  rw [pathB_length, h, Nat.div_eq_of_lt ha]
  exact root_at ls K h1
end

/-
  both; above and its iterator.
-/
section
section
set_option linter.unusedVariables false
open Go.RowKit

set_option maxHeartbeats 1000000 in
theorem both_any (x y : List Int) (w : World) (hx : U8s x ∧ x.length ≤ 140737488351232) (hy : U8s y ∧ y.length ≤ 140737488351232) :
    Calls Tryz.prog 131 #[.string (strOfNums x), .string (strOfNums y)] w fun e w' => e = .returned (.string (strOfNums (bothB x y))) ∧ Up w w' := by
  obtain ⟨a1, c1, w1, hc1, hI1, hU1⟩ := conv_str x hx.1 w
  obtain ⟨a2, c2, w2, hc2, hI2, hU2⟩ := conv_str y hy.1 w1
  have hU := Up.trans hU1 hU2
  have Hs := Lib.hid (short_big (.slice (some ⟨w2.heap.size, 0, none⟩) 2 2) [x, y] (w2.alloc (.cells #[.slice a1 x.length c1, .slice a2 y.length c2] 31)) (Rows8.new2 w2 _ _ _ _ _ _ rfl (hI1.up hU2) hI2) (by simpa using hx.1.append hy.1) (by simp) (by simp; omega))
  have Hf : Hid ((sumB [x, y].flatten).take 8 = bothB x y) := by show _ = _; simp [bothB, shortB]
  rw [Hf.out] at Hs
  clear hI1 hI2 hU1 hU2 Hf
  generalize bothB x y = Z at Hs ⊢
  go_enter Tryz.func131, Tryz.ntmps131
  go_wp2_with fail
  with_reducible refine Calls.mono Hs.out ?_
  rintro e w3 ⟨rfl, hU3⟩
  have hU4 := Up.trans (Up.alloc hU _) hU3
  go_wp2
  go_ret
  exact ⟨rfl, hU4⟩

end
end
section
set_option linter.unusedVariables false
/-- every text is of octets and short -/
def Tiny (ls : List (List Int)) : Prop := ∀ k : Nat, U8s (ls[k]?.getD []) ∧ (ls[k]?.getD []).length ≤ 1048576
theorem Tiny.fits {ls : List (List Int)} (h : Tiny ls) : Fits ls := fun k => ⟨(h k).1, by have := (h k).2; omega⟩
theorem Tiny.up {ls : List (List Int)} (h : Tiny ls) : Tiny (upB ls) := by
  intro k
  by_cases hk : k < (ls.length + 1) / 2
  · rw [upB_at ls k hk]
    unfold cellB
    split
    · exact ⟨bothB_u8s _ _, by rw [bothB_length]; omega⟩
    · exact h _
  · rw [List.getElem?_eq_none (by rw [upB_length]; omega)]; exact ⟨U8s.nil, by simp⟩
theorem Tiny.upN {ls : List (List Int)} (h : Tiny ls) : ∀ k, Tiny (upN ls k)
  | 0 => h
  | k + 1 => (Tiny.upN h k).up
end
section
set_option linter.unusedVariables false
open Go.RowKit
theorem row_cells1 {W : World} {base : Nat} {e : TypeId} {v : Value} {n : Nat} {xs : List Value} (h : W.ownsRow base e 1 v n xs) (hn : 0 < n) : ∃ g cap, v = .slice (some ⟨g, 0, none⟩) n cap ∧ n ≤ cap ∧ ∀ j u, xs[j]? = some u → W.cell? ⟨g, j, none⟩ = some u := by
  obtain ⟨g, cap, rfl, hle⟩ := row_slice h hn
  refine ⟨g, cap, rfl, hle, fun j u hj => ?_⟩
  have hl : xs.length = n := by have := h.1; omega
  have hj' : j < n := by have := (List.getElem?_eq_some_iff.1 hj).1; omega
  rw [h.cellAt j (by omega)]
  exact hj

end
end

section
section
set_option linter.unusedVariables false
open Go.RowKit

set_option maxHeartbeats 1000000 in
theorem climb_from (leaf : List Int) (at_ : Int) (m : Nat) (pv : Value) (path : List (List Int)) (w : World) (hle : U8s leaf ∧ leaf.length ≤ 140737488351232) (hp : Strs w pv path) (hf : Fits path) (hl : path.length ≤ 8796093022208) (hat : (at_ < 0 ∧ m = 0) ∨ at_ = m) (hm : (m : Int) ≤ 9223372036854775807) :
    Calls Tryz.prog 109 #[.string (strOfNums leaf), .int .i64 at_, pv] w fun e w' => e = .returned (.string (strOfNums (climbB leaf m path))) ∧ Up w w' := by
  obtain ⟨a, cap, rfl, hcap, _, _⟩ := id hp
  have HP := Lib.hid hp
  have HF := Lib.hid hf
  have HLe := Lib.hid hle
  have hstart : (at_ < 0 ∧ Hid (m = 0)) ∨ (at_ = 0 ∧ Hid (m = 0)) ∨ ((0 : Int) < m ∧ at_ = m) := by
    rcases hat with ⟨h1, h2⟩ | h
    · exact .inl ⟨h1, h2⟩
    · rcases Nat.eq_zero_or_pos m with e | e
      · exact .inr (.inl ⟨by omega, e⟩)
      · exact .inr (.inr ⟨by omega, h⟩)
  clear hp hf hle hat
  show Calls _ _ _ w fun e w' => e = .returned (.string (strOfNums (climbN leaf m path path.length))) ∧ _
  rcases hstart with ⟨h1, h2⟩ | ⟨rfl, h2⟩ | ⟨h1, rfl⟩
  all_goals
    go_enter Tryz.func109, Tryz.ntmps109
    go_wp2
    go_loopw [1, 7, 15] (fun i t c wr => ∃ k : Nat, k ≤ path.length ∧ c = .int .i64 k ∧ i = .int .i64 ((m / 2 ^ k : Nat) : Int) ∧ t = .string (strOfNums (climbN leaf m path k)) ∧ Up w wr) (fun _ _ c _ => path.length - (intOf c).toNat)
    case atStart => exact ⟨0, Nat.zero_le _, rfl, by first | (rw [h2.out]; simp; done) | (simp; done), rfl, Up.refl w⟩
    case round =>
      obtain ⟨k, hk, rfl, rfl, rfl, hB⟩ := hrel
      by_cases hlt : k < path.length
      · obtain ⟨_, _, he, _, _, hcell⟩ := HP.out.up hB
        simp only [Value.slice.injEq] at he
        obtain ⟨rfl, _, rfl⟩ := he
        rcases hcell with hx | ⟨b, off, rfl, hc⟩
        · rw [hx] at hlt; simp at hlt
        have hck := hc k hlt
        have HX := Lib.hid (HF.out k)
        have HT := Lib.hid (climbN_fits leaf m path 140737488351232 (by omega) HLe.out k)
        have Hs : Hid (climbN leaf m path (k + 1) = stepB (m / 2 ^ k) (path[k]?.getD []) (climbN leaf m path k)) := rfl
        have Hh : Hid (m / 2 ^ k / 2 = m / 2 ^ (k + 1)) := half_step _ _
        have hjm : m / 2 ^ k ≤ m := Nat.div_le_self _ _
        generalize path[k]?.getD [] = X at hck HX Hs
        generalize climbN leaf m path k = T at HT Hs ⊢
        generalize m / 2 ^ k = j at Hs Hh hjm ⊢
        clear hc
        by_cases hj : j % 2 = 1
        · have hji : (j : Int) % 2 = 1 := by omega
          have Hst : Hid (stepB j X T = bothB X T) := by show _ = _; unfold stepB; rw [if_pos hj]
          clear hj
          go_wp2_with fail
          with_reducible refine Calls.mono (both_any X T _ HX.out HT.out) ?_
          rintro e w2 ⟨rfl, hU2⟩
          have hB2 := Up.trans hB hU2
          clear hck
          go_wp2
          go_roundw
          case rel => exact ⟨k + 1, by omega, by go_num, by rw [← Hh.out]; go_num, by rw [Hs.out, Hst.out], hB2⟩
          case measure => simp [intOf]; omega
        · have hji : ¬ (j : Int) % 2 = 1 := by omega
          have Hst : Hid (stepB j X T = bothB T X) := by show _ = _; unfold stepB; rw [if_neg hj]
          clear hj
          go_wp2_with fail
          with_reducible refine Calls.mono (both_any T X _ HT.out HX.out) ?_
          rintro e w2 ⟨rfl, hU2⟩
          have hB2 := Up.trans hB hU2
          clear hck
          go_wp2
          go_roundw
          case rel => exact ⟨k + 1, by omega, by go_num, by rw [← Hh.out]; go_num, by rw [Hs.out, Hst.out], hB2⟩
          case measure => simp [intOf]; omega
      · obtain rfl : k = path.length := by omega
        go_wp2
        go_ret
        exact ⟨rfl, hB⟩
theorem climb_any (leaf : List Int) (at_ : Int) (pv : Value) (path : List (List Int)) (w : World) (hle : U8s leaf ∧ leaf.length ≤ 140737488351232) (hp : Strs w pv path) (hf : Fits path) (hl : path.length ≤ 8796093022208) (hat : -9223372036854775808 ≤ at_ ∧ at_ ≤ 9223372036854775807) :
    Calls Tryz.prog 109 #[.string (strOfNums leaf), .int .i64 at_, pv] w fun e w' => e = .returned (.string (strOfNums (climbB leaf at_.toNat path))) ∧ Up w w' :=
  climb_from leaf at_ at_.toNat pv path w hle hp hf hl (by omega) (by omega)
end
end
end Go.Proofs.YtfenmhddlojahaaGreat
