import Derived.Test.YtbdjbmgeelleiaaDoorLaid
import Derived.Test.YtbdjbmgeelleiaaDoorSgHeight
/-
  The five places of the table, out of the rows.
-/
namespace Go.Proofs.YtbdjbmgeelleiaaDoor
set_option linter.unusedVariables false
open Go.RowKit

theorem tabN_pow : ∀ i : Fin 5, 2 ^ i.val - 1 < 64 ∧ tabN.getD (2 ^ i.val - 1) 0 = (i.val : Int) := by decide +kernel
theorem tabS_of_laid {W : World} (h : laidMetH Tryd.prog laidL W) : TabS W := by
  rw [MakeChecks.laidMetH_plain _ _ _ (by kernel_rfl)] at h
  have h2 := laidMet.tail h
  have h3 := Lib.tabIs_of_head (zs := tabN) (rest := []) gTab64 tTab64 Tryd.underlying93 Tryd.underlying5 (by kernel_rfl) (by kernel_rfl) h2
  intro i hi
  obtain ⟨h5, h6⟩ := tabN_pow ⟨i, hi⟩
  have h4 := h3.cell gTab64 (2 ^ i - 1) h5
  simp only at h6
  rw [h4, h6]
end Go.Proofs.YtbdjbmgeelleiaaDoor
