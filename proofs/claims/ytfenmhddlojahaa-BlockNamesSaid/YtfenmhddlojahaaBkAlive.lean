import Derived.Test.YtfenmhddlojahaaCtFirst
import Derived.Test.YtfenmhddlojahaaRefBk
/-
  block: Leader, Genesis; the page's example.
-/
namespace Go.Proofs.Ytfenmhddlojahaa
set_option maxRecDepth 100000
section
set_option linter.unusedVariables false
open Go.RowKit Go.Sort Go.Lib

theorem leader_five (w : World) : Calls Try.prog 7 #[.int .i64 5, .int .i64 4] w fun e w' => e = .returned (.int .i64 1) ∧ w = w' := by
  go_enter Try.func7, Try.ntmps7
  go_wp2
  go_ret
  exact ⟨rfl, rfl⟩
theorem genesis_any (w : World) : Calls Try.prog 8 #[] w fun e w' => e = .returned (.string (strOfNums gen32)) ∧ Up w w' := by
  have H := Lib.hid (fun wx => repeat_zero wx)
  generalize hG : strOfNums gen32 = G at H ⊢
  clear hG
  go_enter Try.func8, Try.ntmps8
  go_wp2_with fail
  with_reducible refine Calls.mono (H.out _) ?_
  rintro e w1 ⟨rfl, u⟩
  have HU := Lib.hid u
  clear u
  go_wp2
  go_ret
  exact ⟨rfl, HU.out⟩
theorem bkAlive_any (w : World) : Calls Try.prog 4 #[] w fun e w' => e = .returned (.bool true) ∧ Up w w' := by
  have H1 := Lib.hid (fun wx => leader_five wx)
  have H2 := Lib.hid (fun wx => genesis_any wx)
  have hsz : (strOfNums gen32).size = 32 := by rw [strOfNums_size]; rfl
  generalize strOfNums gen32 = G at H2 hsz
  have hsi : ((G.size : Int) == 32) = true := by rw [beq_iff_eq]; omega
  go_enter Try.func4, Try.ntmps4
  go_wp2_with fail
  with_reducible refine Calls.mono (H1.out _) ?_
  rintro e w1 ⟨rfl, rfl⟩
  go_wp2_with fail
  with_reducible refine Calls.mono (H2.out _) ?_
  rintro e w1 ⟨rfl, u⟩
  have HU := Lib.hid u
  clear u
  go_wp2
  go_ret
  exact ⟨rfl, HU.out⟩
end
end Go.Proofs.Ytfenmhddlojahaa
