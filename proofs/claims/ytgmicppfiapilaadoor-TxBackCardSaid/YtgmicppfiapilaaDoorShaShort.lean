import Derived.Test.YtgmicppfiapilaaDoorSha
import Derived.Test.YtgmicppfiapilaaDoorBase
/-
  Short.
-/
namespace Go.Proofs.YtgmicppfiapilaaDoor
set_option linter.unusedVariables false
open Go.RowKit

/-- a slice that a call made, by its cells -/
theorem row_slice {W : World} {base : Nat} {e : TypeId} {v : Value} {n : Nat} {xs : List Value} (h : W.ownsRow base e 1 v n xs) (hn : 0 < n) : ∃ g cap, v = .slice (some ⟨g, 0, none⟩) n cap ∧ n ≤ cap := by
  rcases h.2 with ⟨_, h0⟩ | ⟨g, cap, cur, rfl, _, _, hle, _⟩
  · omega
  · exact ⟨g, cap, rfl, hle⟩

theorem join_of {w : World} {vs : Value} {ls : List (List Int)} (xs : List Int) (hr : Rows8 w vs ls) (hf : ls.flatten = xs) (hl : ls.length ≤ 9223372036854775807) (hx : xs.length ≤ 281474976710656) :
    Calls Tryd.prog 48 #[vs] w fun e w' => ∃ v, e = .returned v ∧ Ints .u8 w' v xs ∧ Up w w' := by
  subst hf
  refine (join_any vs _ w hr hl hx).mono ?_
  rintro e w' ⟨rfl, hrow, hb⟩
  exact ⟨_, rfl, Ints.of_row hrow, hb⟩

set_option maxHeartbeats 1000000 in
theorem short_big (v : Value) (ls : List (List Int)) (w : World) (hv : Rows8 w v ls) (hu : U8s ls.flatten) (hl : ls.length ≤ 9223372036854775807) (hx : ls.flatten.length ≤ 281474976710656) :
    Calls Tryd.prog 74 #[v] w fun e w' => e = .returned (.string (strOfNums ((sumB ls.flatten).take 8))) ∧ Below w.heap.size w w' := by
  generalize hf : ls.flatten = xs at hu hx ⊢
  have Hj := Lib.hid (join_of xs hv hf hl (by omega))
  have Hu := Lib.hid hu
  clear hu
  go_enter Tryd.func74, Tryd.ntmps74
  go_wp2_with fail
  with_reducible refine Calls.mono Hj.out ?_
  rintro e w1 ⟨v1, rfl, hI, hB⟩
  have Hs := Lib.hid (sum_big v1 xs w1 hI Hu.out hx)
  have Hl := Lib.hid (sumB_length xs)
  clear hI hf
  go_wp2_with fail
  with_reducible refine Calls.mono Hs.out ?_
  rintro e w2 ⟨r, rfl, hr, hB2⟩
  obtain ⟨g, cap, rfl, hcap⟩ := row_slice hr (by omega)
  have hI := Ints.of_row hr
  have hcv := (hI.pre 8 (by rw [Hl.out]; omega)).str
  have hU := Up.trans hB hB2
  clear hr hI
  go_wp2
  go_ret
  exact ⟨rfl, hU⟩
theorem short_any (v : Value) (ls : List (List Int)) (w : World) (hv : Rows8 w v ls) (hu : U8s ls.flatten) (hl : ls.length ≤ 9223372036854775807) (hx : ls.flatten.length ≤ 140737488355328) :
    Calls Tryd.prog 74 #[v] w fun e w' => e = .returned (.string (strOfNums ((sumB ls.flatten).take 8))) ∧ Below w.heap.size w w' :=
  short_big v ls w hv hu hl (by omega)
/-- the short sum -/
def shortB (xs : List Int) : List Int := (sumB xs).take 8
theorem shortB_length (xs : List Int) : (shortB xs).length = 8 := by simp [shortB, sumB_length]
theorem sumB_u8s (xs : List Int) : U8s (sumB xs) := wordsB_u8s _
theorem shortB_u8s (xs : List Int) : U8s (shortB xs) := (sumB_u8s xs).take 8
theorem short_flat (vs : Value) (ls : List (List Int)) (x : List Int) (hx : ls.flatten = x) (hl : ls.length ≤ 100) (w : World) (hv : Rows8 w vs ls) (hu : U8s x) (hn : x.length ≤ 140737488355328) :
    Calls Tryd.prog 74 #[vs] w fun e w' => e = .returned (.string (strOfNums (shortB x))) ∧ Up w w' := by
  subst hx
  exact short_any vs ls w hv hu (by omega) hn

end Go.Proofs.YtgmicppfiapilaaDoor
