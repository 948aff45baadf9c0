import Derived.Test.YtnipkhgaceicbaaSha
import Derived.Test.YtnipkhgaceicbaaBase
/-
  Long and Short.
-/
namespace Go.Proofs.Ytnipkhgaceicbaa
set_option linter.unusedVariables false
open Go.RowKit

set_option maxHeartbeats 1000000 in
theorem long_any (v : Value) (ls : List (List Int)) (w : World) (hv : Rows8 w v ls) (hu : U8s ls.flatten) (hl : ls.length ≤ 9223372036854775807) (hx : ls.flatten.length ≤ 140737488355328) :
    Calls Try.prog 41 #[v] w fun e w' => e = .returned (.string (strOfNums (sumB ls.flatten))) ∧ Below w.heap.size w w' := by
  generalize hf : ls.flatten = xs at hu hx ⊢
  have Hj := Lib.hid (join_of xs hv hf hl (by omega))
  have Hu := Lib.hid hu
  clear hu
  go_enter Try.func41, Try.ntmps41
  go_wp2_with fail
  with_reducible refine Calls.mono Hj.out ?_
  rintro e w1 ⟨v1, rfl, hI, hB⟩
  have Hs := Lib.hid (sum_any v1 xs w1 hI Hu.out hx)
  clear hI hf
  go_wp2_with fail
  with_reducible refine Calls.mono Hs.out ?_
  rintro e w2 ⟨r, rfl, hr, hB2⟩
  have hcv := (Ints.of_row hr).str
  have hU := Up.trans hB hB2
  clear hr
  go_wp2
  go_ret
  exact ⟨rfl, hU⟩

end Go.Proofs.Ytnipkhgaceicbaa
