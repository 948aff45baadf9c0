import Derived.Test.YtjjaefacfcjgiaaWotsParts
import Derived.Test.YtjjaefacfcjgiaaWotsChain
/-
  The page's example.
-/
namespace Go.Proofs.Ytjjaefacfcjgiaa
set_option linter.unusedVariables false
open Go.RowKit

set_option maxHeartbeats 1000000 in
theorem alive_any (w : World) : Calls Try.prog 17 #[] w fun e w' => e = .returned (.bool true) ∧ Up w w' := by
  have Hp := Lib.hid (parts_any (.slice none 0 0) [] w (Ints.empty fun _ => rfl) (fun j hj => by simp at hj) (by simp))
  have Hs : Hid (∀ wx, Calls Try.prog 13 #[.string ⟨#[115]⟩, .int .i64 0, .int .i64 0] wx fun e w' => e = .returned (.string (strOfNums (secretB [115] 0 0))) ∧ Up wx w') := fun wx =>
    secret_any [115] 0 0 wx (fun j hj => by match j, hj with | 0, _ => decide) (by simp) (by omega) (by omega)
  have hsz : (strOfNums (secretB [115] 0 0)).size = 8 := by rw [strOfNums_size, secretB_length]
  generalize strOfNums (secretB [115] 0 0) = Z at Hs hsz
  go_enter Try.func17, Try.ntmps17
  go_wp2_with fail
  with_reducible refine Calls.mono Hp.out ?_
  rintro e w1 ⟨r1, rfl, hr1, hU1⟩
  obtain ⟨g1, c1, rfl, hc1⟩ := row_slice hr1 (by omega)
  clear hr1 Hp
  go_wp2_with fail
  with_reducible refine Calls.mono (Hs.out _) ?_
  rintro e w2 ⟨rfl, hU2⟩
  have hU := Up.trans hU1 hU2
  go_wp2
  go_ret
  exact ⟨rfl, hU⟩
end Go.Proofs.Ytjjaefacfcjgiaa
