import Derived.Test.YtgmicppfiapilaaSgCheck
import Derived.Test.YtgmicppfiapilaaSgNewK
/-
  signer: Check.
-/
namespace Go.Proofs.Ytgmicppfiapilaa
set_option maxRecDepth 100000
section
set_option linter.unusedVariables false
open Go.RowKit

theorem leaves16 (w : World) : Calls Try.prog 15 #[.int .i64 4] w fun e w' => e = .returned (.int .i64 16) ∧ w = w' :=
  leavesOf_any 4 w (Nat.le_refl _)

/-- the world in which a key is boxed -/
def boxKey (w : World) (seed : List Int) (lv : Value) (next : Int) : World := w.alloc (.cells #[.string (strOfNums seed), lv, .int .i64 next] 24)
theorem Strs.alloc {W : World} {v : Value} {ls : List (List Int)} (h : Strs W v ls) (o : Obj) : Strs (W.alloc o) v ls := h.up (Up.alloc (Up.refl W) o)

end
end Go.Proofs.Ytgmicppfiapilaa
