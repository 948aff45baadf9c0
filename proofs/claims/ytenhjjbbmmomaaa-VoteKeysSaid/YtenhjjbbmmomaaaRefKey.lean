import Derived.Test.YtenhjjbbmmomaaaSgCheck
/-
  The reference: which keys may be.
-/
namespace Go.Proofs.Ytenhjjbbmmomaaa
set_option maxRecDepth 100000
section
set_option linter.unusedVariables false
open Go.RowKit

open Classical in
/-- the error of a key: none, or that of state -/
noncomputable def keyE (seed : List Int) (ls : List (List Int)) (next : Int) : Int := if KeyOk seed ls next then 0 else 9
theorem keyE_ok {seed : List Int} {ls : List (List Int)} {next : Int} (h : KeyOk seed ls next) : keyE seed ls next = 0 := if_pos h
theorem keyE_bad {seed : List Int} {ls : List (List Int)} {next : Int} (h : ¬ KeyOk seed ls next) : keyE seed ls next = 9 := if_neg h

theorem later_cellX {w w' : World} {ad : Addr} {v : Value} (h : w.cell? ad = some v) (hu : Up w w') : w'.cell? ad = some v := (hu.cell (p := ad) (World.block_lt_of_cell? w _ h)).trans h

end
end Go.Proofs.Ytenhjjbbmmomaaa
