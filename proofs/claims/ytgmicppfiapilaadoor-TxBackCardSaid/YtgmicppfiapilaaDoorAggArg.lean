import Derived.Test.YtgmicppfiapilaaDoorStructs
/-
  A struct of one-cell fields that came in by value, opened: any number of fields.
-/
namespace Go.Proofs.YtgmicppfiapilaaDoor
set_option maxRecDepth 100000
section
set_option linter.unusedVariables false
open Go.ChangeShapes Go.WideShapes Go.ChangeAt Go.RowKit Go.Deep Go.Joins
variable {H : Type} {enc : TypeId × Value → H} {W : World}

theorem open_agg {P : Program} {r : Reach} {b0 : Nat} {t : TypeId} {fs : Array Field} {v : Value} {d : DataW H} {p : List MemPlace} (hs : P.underlying t = some (.struct fs)) (hone : oneCellFields P fs = true) (hC : P.cellsOf t = fs.size)
    (hv : Value.okWide P W r b0 t v) (h : DataW.Trod enc P W 0 (fun _ => true) true t v d p) :
    ∃ (n : Nat) (cs : Array Value) (ys : List (DataW H × List MemPlace)), v = .agg cs ∧ cs.size = fs.size ∧ ys.length = fs.size ∧ d = .agg (ys.map (·.1)) ∧
      ∀ (j : Nat) (f : Field), fs[j]? = some f → ∃ c y, cs[j]? = some c ∧ ys[j]? = some y ∧ DataW.trod enc P W 0 (fun _ => true) true n f.type [c] = some y := by
  obtain ⟨cs, rfl, hsz⟩ := okWide_struct hs hv
  obtain ⟨fuel, hf⟩ := h
  obtain ⟨ys, m, _, hx, _, hyl, hfld⟩ := DataW.trod_struct hs hf
  simp only [Prod.mk.injEq] at hx
  rw [hC] at hsz
  refine ⟨m, cs, ys, rfl, hsz, hyl, hx.1, fun j f hj => ?_⟩
  have hj2 : j < fs.size := (Array.getElem?_eq_some_iff.1 hj).1
  have hj3 : j < cs.toList.length := by simp; omega
  have hj4 : j < ys.length := by omega
  obtain ⟨ho, hk⟩ := hone_of hone j f hj
  have h1 := hfld j f hj
  have h2 : ((Value.agg cs).cells.toList.drop f.offset).take (P.cellsOf f.type) = [cs.toList[j]] := by
    show (cs.toList.drop f.offset).take (P.cellsOf f.type) = [cs.toList[j]]
    rw [ho, hk, List.drop_eq_getElem_cons hj3]; rfl
  rw [h2, List.getElem?_eq_getElem hj4] at h1
  refine ⟨cs.toList[j], ys[j], by simp at hj3 ⊢, List.getElem?_eq_getElem hj4, h1⟩
theorem array_five {α : Type} {cs : Array α} {c0 c1 c2 c3 c4 : α} (h : cs.size = 5) (h0 : cs[0]? = some c0) (h1 : cs[1]? = some c1) (h2 : cs[2]? = some c2) (h3 : cs[3]? = some c3) (h4 : cs[4]? = some c4) : cs = #[c0, c1, c2, c3, c4] := by
  obtain ⟨l⟩ := cs
  match l, h with
  | [d0, d1, d2, d3, d4], _ => simp at h0 h1 h2 h3 h4; subst h0 h1 h2 h3 h4; rfl
end
end Go.Proofs.YtgmicppfiapilaaDoor
