import Derived.Lib.SliceRun
import Derived.Test.YtmcajckpgbamnaaUps
import Derived.Test.YtmcajckpgbamnaaOct
import Derived.Test.YtmcajckpgbamnaaStrs
namespace Go.Proofs.Ytmcajckpgbamnaa
/-
  What a call on a box with a row of its own may turn; slices.Clone of octets.
-/
section
set_option maxRecDepth 100000
section
set_option linter.unusedVariables false
open Go.RowKit

/-- what a call on it may turn -/
def WrS (g : Nat) (o : Value) (k : Nat) : Prop := k = g ∨ o.ownBlock = some k
/-- from one state to the next -/
def WrStep (g : Nat) (o o' : Value) (w w' : World) : Prop := KeptBut (WrS g o) w w' ∧ ∀ k, o'.ownBlock = some k → o.ownBlock = some k ∨ w.heap.size ≤ k
theorem WrStep.refl (g : Nat) (o : Value) (w : World) : WrStep g o o w w := ⟨KeptBut.refl _ _, fun k h => .inl h⟩
theorem WrStep.trans {g : Nat} {o o' o'' : Value} {a b c : World} (hg : g < a.heap.size) (h : WrStep g o o' a b) (k : WrStep g o' o'' b c) : WrStep g o o'' a c :=
  ⟨h.1.trans k.1 fun x hx e => by
    rcases e with e | e
    · exact .inl e
    · rcases h.2 x e with e | e
      · exact .inr e
      · omega,
   fun x e => by
    rcases k.2 x e with e | e
    · exact h.2 x e
    · exact .inr (Nat.le_trans h.1.size e)⟩
theorem WrStep.up {g : Nat} {o : Value} {w w' : World} (hu : Up w w') : WrStep g o o w w' := ⟨KeptBut.of_up hu, fun k h => .inl h⟩

end
end
end Go.Proofs.Ytmcajckpgbamnaa
