import Derived.Test.YtmcajckpgbamnaaUps
import Derived.Test.YtmcajckpgbamnaaOct
namespace Go.Proofs.Ytmcajckpgbamnaa
/-
  Slice expressions of octets: s[:k:k], s[k:], s[p:q].
-/
section
set_option maxRecDepth 100000
section
set_option linter.unusedVariables false
open Go.RowKit

theorem cut_off {a a' : Option Addr} (hB : a'.map (·.block) = a.map (·.block)) (n c n' c' : Nat) : ∀ k, (Value.slice a' n' c').ownBlock = some k → (Value.slice a n c).ownBlock = some k := by
  intro k hk
  cases a' with
  | none => simp [Value.ownBlock] at hk
  | some ad' =>
    cases a with
    | none => simp at hB
    | some ad => simp [Value.ownBlock] at hk hB ⊢; omega
end
end
end Go.Proofs.Ytmcajckpgbamnaa
