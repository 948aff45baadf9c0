import Derived.Test.YtpnmoeohbbngcaaDoorSgBack0
import Derived.Test.YtpnmoeohbbngcaaDoorSgBack1
import Derived.Test.YtpnmoeohbbngcaaDoorSgBack2
import Derived.Test.YtpnmoeohbbngcaaDoorSgBack3
import Derived.Test.YtpnmoeohbbngcaaDoorSgBack4
/-
  SignerBack: the walk returns true, whatever comes in.
-/
namespace Go.Proofs.YtpnmoeohbbngcaaDoor
set_option maxRecDepth 100000
section
set_option linter.unusedVariables false
open Go.RowKit

set_option maxHeartbeats 2000000 in
theorem back_range (seed : List Int) (h : Int) (tv : Value) (texts : List (List Int)) (w : World) (htv : Rows8 w tv texts) (hh : h < 0 ∨ 4 < h) :
    Calls Tryd.prog 4 #[.string (strOfNums seed), .int .i64 h, tv] w fun e w' => e = .returned (.bool true) ∧ Up w w' := by
  have Hal : Hid (∀ wx, Calls Tryd.prog 15 #[] wx fun e w' => e = .returned (.bool true) ∧ wx = w') := fun wx => sgAlive_any wx
  have Hn := Lib.hid (new_range seed h w hh)
  obtain ⟨ta, tc, rfl, _, _, _⟩ := htv
  unfold noKey at Hn
  rcases hh with hh | hh
  · go_enter Tryd.func4, Tryd.ntmps4
    go_wp2_with fail
    with_reducible refine Calls.mono (Hal.out _) ?_
    rintro e w1 ⟨rfl, rfl⟩
    go_wp2_with fail
    with_reducible refine Calls.mono Hn.out ?_
    rintro e w2 ⟨rfl, hU2⟩
    have HU2 := Lib.hid (Up.alloc hU2 (.cells #[.string ⟨#[]⟩, .slice none 0 0, .int .i64 0] 24))
    clear hU2
    go_wp2
    go_ret
    exact ⟨rfl, HU2.out⟩
  · have h0 : ¬ h < 0 := by omega
    go_enter Tryd.func4, Tryd.ntmps4
    go_wp2_with fail
    with_reducible refine Calls.mono (Hal.out _) ?_
    rintro e w1 ⟨rfl, rfl⟩
    go_wp2_with fail
    with_reducible refine Calls.mono Hn.out ?_
    rintro e w2 ⟨rfl, hU2⟩
    have HU2 := Lib.hid (Up.alloc hU2 (.cells #[.string ⟨#[]⟩, .slice none 0 0, .int .i64 0] 24))
    clear hU2
    go_wp2
    go_ret
    exact ⟨rfl, HU2.out⟩

set_option maxHeartbeats 2000000 in
theorem back_longseed (seed : List Int) (h : Nat) (tv : Value) (texts : List (List Int)) (w : World) (htv : Rows8 w tv texts) (h4 : h ≤ 4) (hl : 64 < seed.length) (hl2 : seed.length ≤ 9223372036854775807) :
    Calls Tryd.prog 4 #[.string (strOfNums seed), .int .i64 h, tv] w fun e w' => e = .returned (.bool true) ∧ Up w w' := by
  have Hal : Hid (∀ wx, Calls Tryd.prog 15 #[] wx fun e w' => e = .returned (.bool true) ∧ wx = w') := fun wx => sgAlive_any wx
  have Hn := Lib.hid (new_long seed h w h4 hl hl2)
  obtain ⟨ta, tc, rfl, _, _, _⟩ := htv
  unfold noKey at Hn
  have hs : (64 : Int) < ((strOfNums seed).size : Int) := by rw [strOfNums_size]; omega
  have h0 : ¬ (h : Int) < 0 := by omega
  have h5 : ¬ 4 < h := by omega
  clear hl h4
  go_enter Tryd.func4, Tryd.ntmps4
  go_wp2_with fail
  with_reducible refine Calls.mono (Hal.out _) ?_
  rintro e w1 ⟨rfl, rfl⟩
  go_wp2_with fail
  with_reducible refine Calls.mono Hn.out ?_
  rintro e w2 ⟨rfl, hU2⟩
  have HU2 := Lib.hid (Up.alloc hU2 (.cells #[.string ⟨#[]⟩, .slice none 0 0, .int .i64 0] 24))
  clear hU2
  go_wp2
  go_ret
  exact ⟨rfl, HU2.out⟩

theorem lawSgBack_any (s : ByteArray) (h : Int) (tv : Value) (texts : List (List Int)) (w : World) (htv : Rows8 w tv texts) (hut : ∀ k : Nat, U8s (texts[k]?.getD [])) (hlt : ∀ k : Nat, (texts[k]?.getD []).length ≤ 140737488351232) (hT : texts.length ≤ maxLen) (hs : s.size ≤ 9223372036854775807) (hTab : Tab64 w) :
    Calls Tryd.prog 4 #[.string s, .int .i64 h, tv] w fun e w' => e = .returned (.bool true) ∧ Below w.heap.size w w' := by
  have hT2 : texts.length ≤ 9223372036854775807 := by unfold maxLen at hT; omega
  have hlt2 : ∀ k : Nat, (texts[k]?.getD []).length ≤ 140737488355328 := fun k => Nat.le_trans (hlt k) (by omega)
  rw [← strOf_octs s]
  have hu := octsOf_u8s s
  have hl : (octsOf s).length ≤ 9223372036854775807 := by rw [octsOf_length]; exact hs
  generalize octsOf s = seed at hu hl
  by_cases hh : h < 0 ∨ 4 < h
  · exact back_range seed h tv texts w htv hh
  · obtain ⟨n, rfl⟩ : ∃ n : Nat, h = n := ⟨h.toNat, by omega⟩
    by_cases h64 : 64 < seed.length
    · exact back_longseed seed n tv texts w htv (by omega) h64 hl
    · have hs64 : ¬ (64 : Int) < ((strOfNums seed).size : Int) := by rw [strOfNums_size]; omega
      have HF := Lib.hid (backFacts seed n w hu (by omega) (by omega) hTab)
      have hc : n = 0 ∨ n = 1 ∨ n = 2 ∨ n = 3 ∨ n = 4 := by omega
      rcases hc with rfl | rfl | rfl | rfl | rfl
      · exact back_0 _ _ _ _ w HF hs64 tv texts htv hut hlt2 hT2
      · exact back_1 _ _ _ _ w HF hs64 tv texts htv hut hlt2 hT2
      · exact back_2 _ _ _ _ w HF hs64 tv texts htv hut hlt2 hT2
      · exact back_3 _ _ _ _ w HF hs64 tv texts htv hut hlt2 hT2
      · exact back_4 _ _ _ _ w HF hs64 tv texts htv hut hlt2 hT2
end
end Go.Proofs.YtpnmoeohbbngcaaDoor
