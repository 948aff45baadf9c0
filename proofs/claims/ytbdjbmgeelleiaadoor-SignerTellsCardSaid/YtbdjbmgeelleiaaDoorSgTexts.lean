import Derived.Test.YtbdjbmgeelleiaaDoorWotsSigs
import Derived.Test.YtbdjbmgeelleiaaDoorAggs
/-
  signer's texts, of whatever function is handed to it.
-/
namespace Go.Proofs.YtbdjbmgeelleiaaDoor
set_option maxRecDepth 100000
section
set_option linter.unusedVariables false
open Go.RowKit

/-- what holds of the world of a round stays while the call writes its own -/
def Stays (n₀ : Nat) (J : Nat → World → Prop) : Prop := ∀ k W W' row, J k W → W.grownBy W' row → (∀ q, row = some q → n₀ ≤ q) → J k W'

theorem run_enter {P : Program} {f : FuncId} {fn : Func} (hf : P.funcs[f]? = some fn) (h1 : (fn.name == "runtime.NumGoroutine") = false) (h2 : fn.body.isNone = false) (args : Array Value) (w : World) : (callFunc f args).run P w = .ok (.enter f args) w := by
  have h3 : ¬ fn.name = "runtime.NumGoroutine" := by simpa using h1
  have h4 : ¬ fn.body = none := by intro e; simp [e] at h2
  simp [callFunc, hf, h3, h4, go_sem]

end
end Go.Proofs.YtbdjbmgeelleiaaDoor
