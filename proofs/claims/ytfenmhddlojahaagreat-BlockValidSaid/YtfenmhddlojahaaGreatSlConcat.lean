import Derived.Shelf.Spec.SlicesGrow
import Derived.WalkSpells
import Derived.Test.YtfenmhddlojahaaGreatSgNew
/-
  slices.Grow of nothing, slices.Concat, slices.Clone: of texts.
-/
namespace Go.Proofs.YtfenmhddlojahaaGreat
set_option maxRecDepth 100000
section
set_option linter.unusedVariables false
open Go.RowKit

theorem later_cellA {w w' : World} {ad : Addr} {v : Value} (h : w.cell? ad = some v) (hu : Up w w') : w'.cell? ad = some v := (hu.cell (p := ad) (World.block_lt_of_cell? w _ h)).trans h
/-- a row of rows of texts -/
def RowsS (W : World) (b : Nat) (us : List Value) (lss : List (List (List Int))) : Prop := ∀ j, j < lss.length → W.cell? ⟨b, j, none⟩ = some (us[j]?.getD undef) ∧ Strs W (us[j]?.getD undef) (lss[j]?.getD [])
theorem RowsS.up {W W' : World} {b : Nat} {us : List Value} {lss : List (List (List Int))} (h : RowsS W b us lss) (hu : Up W W') : RowsS W' b us lss := fun j hj => ⟨later_cellA (h j hj).1 hu, (h j hj).2.up hu⟩
theorem flatS_snoc (lss : List (List (List Int))) (k : Nat) (h : k < lss.length) : (lss.take (k + 1)).flatten = (lss.take k).flatten ++ lss[k]?.getD [] := by
  rw [List.take_succ_eq_append_getElem h, List.flatten_append]; simp [h]
theorem flatS_le (lss : List (List (List Int))) (k : Nat) : (lss.take k).flatten.length ≤ lss.flatten.length := by
  conv => rhs; rw [← List.take_append_drop k lss]
  rw [List.flatten_append, List.length_append]; omega
theorem strVs_append (a b : List (List Int)) : strVs (a ++ b) = strVs a ++ strVs b := by simp [strVs]
theorem strs_cells_all {W : World} {a : Option Addr} {ls : List (List Int)} (h : ls = [] ∨ ∃ b off, a = some ⟨b, off, none⟩ ∧ ∀ j, j < ls.length → W.cell? ⟨b, off + j, none⟩ = some (.string (strOfNums (ls[j]?.getD [])))) :
    ∀ ad, a = some ad → ∀ j u, (strVs ls)[j]? = some u → W.cell? (ad.add j) = some u := by
  intro ad had j u hj
  have hj' : j < ls.length := by have := (List.getElem?_eq_some_iff.1 hj).1; rwa [strVs_length] at this
  rcases h with rfl | ⟨b, off, e, hc⟩
  · simp at hj'
  · rw [had] at e
    obtain rfl := Option.some.inj e
    have h2 : ((⟨b, off, none⟩ : Addr).add j) = ⟨b, off + j, none⟩ := by unfold Addr.add; split <;> simp_all
    rw [h2, hc j hj']
    simp [strVs, List.getElem?_eq_getElem hj'] at hj ⊢
    exact hj
theorem strVs_one (ls : List (List Int)) : ∀ u ∈ strVs ls, u.oneCell' = true := by
  intro u hu
  obtain ⟨l, _, rfl⟩ := List.mem_map.1 hu
  simp [Value.oneCell']

end
end Go.Proofs.YtfenmhddlojahaaGreat
