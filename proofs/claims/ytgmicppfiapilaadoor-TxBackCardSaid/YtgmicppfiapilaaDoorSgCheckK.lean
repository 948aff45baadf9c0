import Derived.Test.YtgmicppfiapilaaDoorSgCheck
import Derived.Test.YtgmicppfiapilaaDoorSgNewK
/-
  signer: Check.
-/
namespace Go.Proofs.YtgmicppfiapilaaDoor
set_option maxRecDepth 100000
section
set_option linter.unusedVariables false
open Go.RowKit

theorem leaves16 (w : World) : Calls Tryd.prog 32 #[.int .i64 4] w fun e w' => e = .returned (.int .i64 16) ∧ w = w' :=
  leavesOf_any 4 w (Nat.le_refl _)

/-- the world in which a key is boxed -/
def boxKey (w : World) (seed : List Int) (lv : Value) (next : Int) : World := w.alloc (.cells #[.string (strOfNums seed), lv, .int .i64 next] 27)
theorem Strs.alloc {W : World} {v : Value} {ls : List (List Int)} (h : Strs W v ls) (o : Obj) : Strs (W.alloc o) v ls := h.up (Up.alloc (Up.refl W) o)

set_option maxHeartbeats 1000000 in
theorem check_ok (seed : List Int) (lv : Value) (ls : List (List Int)) (next : Int) (w : World) (hs : Strs w lv ls) (hk : KeyOk seed ls next) :
    Calls Tryd.prog 19 #[keyV seed lv next] w fun e w' => e = .returned (.int .i64 0) ∧ Up w w' := by
  have hl : ls.length ≤ 16 := by have := hk.pow; omega
  have h8x : ∀ k : Nat, (ls[k]?.getD []).length ≤ 9223372036854775807 := fun k => by
    by_cases h : k < ls.length
    · rw [hk.eight k h]; omega
    · rw [List.getElem?_eq_none (by omega)]; simp
  obtain ⟨a, cap, rfl, hcap, _, _⟩ := id hs
  have Hct := Lib.hid (contains_no _ ls _ (hs.alloc (.cells #[.string (strOfNums seed), .slice a ls.length cap, .int .i64 next] 27)) (by omega) h8x hk.eight)
  have hone : cnt ls.length = 1 := (cnt_one ls.length (by omega)).2 ((pow16 _ hl).2 hk.pow)
  have Ho := Lib.hid (ones_any ls.length (w.alloc (.cells #[.string (strOfNums seed), .slice a ls.length cap, .int .i64 next] 27)) (by omega))
  rw [hone] at Ho
  have hwu : IntKind.u64.wrap (ls.length : Int) = (ls.length : Int) := by rw [IntKind.wrap_u64]; omega
  have h1 : ¬ (16 : Int) < (ls.length : Int) := by omega
  have h2 : ¬ (64 : Int) < ((strOfNums seed).size : Int) := by rw [strOfNums_size]; have := hk.seed; omega
  have h3 : ¬ next < 0 := by have := hk.lo; omega
  have h4 : ¬ (ls.length : Int) < next := by have := hk.hi; omega
  have hU0 : Up w (w.alloc (.cells #[.string (strOfNums seed), .slice a ls.length cap, .int .i64 next] 27)) := Up.alloc (Up.refl w) _
  clear hk h8x hone hs
  unfold keyV
  go_enter Tryd.func19, Tryd.ntmps19
  go_wp2_with fail
  with_reducible refine Calls.mono (leaves16 _) ?_
  rintro e w1 ⟨rfl, rfl⟩
  go_wp2_with fail
  with_reducible refine Calls.mono Ho.out ?_
  rintro e w1 ⟨rfl, rfl⟩
  go_wp2_with fail
  with_reducible refine Calls.mono Hct.out ?_
  rintro e w1 ⟨rfl, rfl⟩
  go_wp2
  go_ret
  exact ⟨rfl, hU0⟩

set_option maxHeartbeats 4000000 in
theorem check_bad (seed : List Int) (lv : Value) (ls : List (List Int)) (next : Int) (w : World) (hs : Strs w lv ls) (hl : ls.length ≤ 8796093022208) (h8x : ∀ k : Nat, (ls[k]?.getD []).length ≤ 9223372036854775807) (hsl : seed.length ≤ 9223372036854775807) (hn : -9223372036854775808 ≤ next ∧ next ≤ 9223372036854775807) (hk : ¬ KeyOk seed ls next) :
    Calls Tryd.prog 19 #[keyV seed lv next] w fun e w' => e = .returned (.int .i64 9) ∧ Up w w' := by
  obtain ⟨a, cap, rfl, hcap, _, _⟩ := id hs
  have hU0 : Up w (w.alloc (.cells #[.string (strOfNums seed), .slice a ls.length cap, .int .i64 next] 27)) := Up.alloc (Up.refl w) _
  have Hs := Lib.hid (hs.alloc (.cells #[.string (strOfNums seed), .slice a ls.length cap, .int .i64 next] 27))
  have H8x := Lib.hid h8x
  have Hk := Lib.hid hk
  clear hs h8x hk
  by_cases c1 : 16 < ls.length
  · have h1 : (16 : Int) < (ls.length : Int) := by omega
    unfold keyV
    go_enter Tryd.func19, Tryd.ntmps19
    go_wp2_with fail
    with_reducible refine Calls.mono (leaves16 _) ?_
    rintro e w1 ⟨rfl, rfl⟩
    go_wp2
    go_ret
    exact ⟨rfl, hU0⟩
  have h1 : ¬ (16 : Int) < (ls.length : Int) := by omega
  have hwu : IntKind.u64.wrap (ls.length : Int) = (ls.length : Int) := by rw [IntKind.wrap_u64]; omega
  by_cases c2 : ls.length = 1 ∨ ls.length = 2 ∨ ls.length = 4 ∨ ls.length = 8 ∨ ls.length = 16
  · have hone : cnt ls.length = 1 := (cnt_one ls.length (by omega)).2 ((pow16 _ (by omega)).2 c2)
    have Ho := Lib.hid (ones_any ls.length (w.alloc (.cells #[.string (strOfNums seed), .slice a ls.length cap, .int .i64 next] 27)) (by omega))
    rw [hone] at Ho
    have C2 := Lib.hid c2
    clear hone c1 c2
    by_cases c3 : All8 ls
    · have Hct := Lib.hid (contains_no _ ls _ Hs.out (by omega) H8x.out c3)
      have C3 := Lib.hid c3
      clear c3
      by_cases c4 : 64 < seed.length
      · have h2 : (64 : Int) < ((strOfNums seed).size : Int) := by rw [strOfNums_size]; omega
        unfold keyV
        go_enter Tryd.func19, Tryd.ntmps19
        go_wp2_with fail
        with_reducible refine Calls.mono (leaves16 _) ?_
        rintro e w1 ⟨rfl, rfl⟩
        go_wp2_with fail
        with_reducible refine Calls.mono Ho.out ?_
        rintro e w1 ⟨rfl, rfl⟩
        go_wp2_with fail
        with_reducible refine Calls.mono Hct.out ?_
        rintro e w1 ⟨rfl, rfl⟩
        go_wp2
        go_ret
        exact ⟨rfl, hU0⟩
      have h2 : ¬ (64 : Int) < ((strOfNums seed).size : Int) := by rw [strOfNums_size]; omega
      by_cases c5 : next < 0
      · unfold keyV
        go_enter Tryd.func19, Tryd.ntmps19
        go_wp2_with fail
        with_reducible refine Calls.mono (leaves16 _) ?_
        rintro e w1 ⟨rfl, rfl⟩
        go_wp2_with fail
        with_reducible refine Calls.mono Ho.out ?_
        rintro e w1 ⟨rfl, rfl⟩
        go_wp2_with fail
        with_reducible refine Calls.mono Hct.out ?_
        rintro e w1 ⟨rfl, rfl⟩
        go_wp2
        go_ret
        exact ⟨rfl, hU0⟩
      have h4 : (ls.length : Int) < next := by
        rcases Int.lt_or_le (ls.length : Int) next with h | h
        · exact h
        · exact absurd ⟨by omega, C2.out, C3.out, by omega, h⟩ Hk.out
      unfold keyV
      go_enter Tryd.func19, Tryd.ntmps19
      go_wp2_with fail
      with_reducible refine Calls.mono (leaves16 _) ?_
      rintro e w1 ⟨rfl, rfl⟩
      go_wp2_with fail
      with_reducible refine Calls.mono Ho.out ?_
      rintro e w1 ⟨rfl, rfl⟩
      go_wp2_with fail
      with_reducible refine Calls.mono Hct.out ?_
      rintro e w1 ⟨rfl, rfl⟩
      go_wp2
      go_ret
      exact ⟨rfl, hU0⟩
    · have Hct := Lib.hid (contains_yes _ ls _ Hs.out (by omega) H8x.out c3)
      clear c3
      unfold keyV
      go_enter Tryd.func19, Tryd.ntmps19
      go_wp2_with fail
      with_reducible refine Calls.mono (leaves16 _) ?_
      rintro e w1 ⟨rfl, rfl⟩
      go_wp2_with fail
      with_reducible refine Calls.mono Ho.out ?_
      rintro e w1 ⟨rfl, rfl⟩
      go_wp2_with fail
      with_reducible refine Calls.mono Hct.out ?_
      rintro e w1 ⟨rfl, rfl⟩
      go_wp2
      go_ret
      exact ⟨rfl, hU0⟩
  · have hcnt : ¬ (cnt ls.length : Int) = 1 := fun h => c2 ((pow16 _ (by omega)).1 ((cnt_one ls.length (by omega)).1 (by omega)))
    have Ho := Lib.hid (ones_any ls.length (w.alloc (.cells #[.string (strOfNums seed), .slice a ls.length cap, .int .i64 next] 27)) (by omega))
    generalize cnt ls.length = c at hcnt Ho
    clear c1 c2
    unfold keyV
    go_enter Tryd.func19, Tryd.ntmps19
    go_wp2_with fail
    with_reducible refine Calls.mono (leaves16 _) ?_
    rintro e w1 ⟨rfl, rfl⟩
    go_wp2_with fail
    with_reducible refine Calls.mono Ho.out ?_
    rintro e w1 ⟨rfl, rfl⟩
    go_wp2
    go_ret
    exact ⟨rfl, hU0⟩
end
end Go.Proofs.YtgmicppfiapilaaDoor
