import Derived.Lib.SliceRun
import Derived.Test.YtmcajckpgbamnaaUps
import Derived.Test.YtmcajckpgbamnaaOct
import Derived.Test.YtmcajckpgbamnaaStrs
import Derived.Test.YtmcajckpgbamnaaOwn
namespace Go.Proofs.Ytmcajckpgbamnaa
/-
  pack: the writer.
-/
section
set_option maxRecDepth 100000
section
set_option linter.unusedVariables false
open Go.RowKit

/-- a field is put behind, if there is no error, and room -/
def wPut (E : Int) (bs fs : List Int) : List Int := if E = 0 ∧ bs.length ≤ 16384 then bs ++ fs else bs
/-- the first error -/
def wErr (E x : Int) : Int := if E = 0 then x else E
def wCut (E : Int) (bs : List Int) : List Int := if E = 0 then [] else bs
/-- WHAT Num, AND Text, MAKE OF A WRITER -/
def wNumE (E n : Int) : Int := if n < 0 ∨ 1099511627776 < n then wErr E 4 else E
def wNumB (E : Int) (bs : List Int) (n : Int) : List Int := if n < 0 ∨ 1099511627776 < n then wCut E bs else wPut E bs (octAll n 6)
def wTextE (E : Int) (zs : List Int) : Int := if 4096 < zs.length then wErr E 5 else E
def wTextB (E : Int) (bs zs : List Int) : List Int := if 4096 < zs.length then wCut E bs else wPut E bs (octAll zs.length 2 ++ zs)

end
end

/-
  slices.Clone of octets; the writer's Done; the example.
-/
section
set_option maxRecDepth 100000
section
set_option linter.unusedVariables false
open Go.RowKit

/-- what Done answers -/
def doneE (E : Int) (bs : List Int) : Int := if E ≠ 0 then E else if 16384 < bs.length then 5 else 0
def doneB (E : Int) (bs : List Int) : List Int := if E ≠ 0 ∨ 16384 < bs.length then [] else bs

theorem wPut_le (E : Int) (bs fs : List Int) (m : Nat) (h : bs.length ≤ 16384 + m) (hf : fs.length ≤ m) : (wPut E bs fs).length ≤ 16384 + m := by
  unfold wPut
  split
  · rw [List.length_append]; omega
  · exact h
theorem wCut_le (E : Int) (bs : List Int) (m : Nat) (h : bs.length ≤ m) : (wCut E bs).length ≤ m := by
  unfold wCut; split
  · simp
  · exact h
theorem wNumB_le (E : Int) (bs : List Int) (n : Int) (h : bs.length ≤ 20482) : (wNumB E bs n).length ≤ 20482 := by
  unfold wNumB; split
  · exact wCut_le _ _ _ h
  · exact wPut_le _ _ _ 4098 h (by rw [octAll_length]; omega)
theorem wTextB_le (E : Int) (bs zs : List Int) (h : bs.length ≤ 20482) : (wTextB E bs zs).length ≤ 20482 := by
  unfold wTextB; split
  · exact wCut_le _ _ _ h
  · exact wPut_le _ _ _ 4098 h (by rw [List.length_append, octAll_length]; omega)

end
end
end Go.Proofs.Ytmcajckpgbamnaa
