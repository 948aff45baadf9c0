import Derived.Test.YtnnjoeppcbbblaaOpen
import Derived.Test.YtnnjoeppcbbblaaCtFirst
/-
  A mark that came in by value, opened.
-/
namespace Go.Proofs.Ytnnjoeppcbbblaa
set_option maxRecDepth 100000
section
set_option linter.unusedVariables false
open Go.ChangeShapes Go.WideShapes Go.ChangeAt Go.RowKit Go.Deep Go.Joins
variable {H : Type} {enc : TypeId × Value → H} {W : World}

theorem array_three {α : Type} {cs : Array α} {c0 c1 c2 : α} (h : cs.size = 3) (h0 : cs[0]? = some c0) (h1 : cs[1]? = some c1) (h2 : cs[2]? = some c2) : cs = #[c0, c1, c2] := by
  apply Array.ext_getElem?
  intro i
  by_cases hi : i < 3
  · have hc : i = 0 ∨ i = 1 ∨ i = 2 := by omega
    rcases hc with rfl | rfl | rfl
    · rw [h0]; rfl
    · rw [h1]; rfl
    · rw [h2]; rfl
  · rw [Array.getElem?_eq_none (by omega), Array.getElem?_eq_none (by simp; omega)]

theorem open_mk {r : Reach} {b0 : Nat} {v : Value} {d : DataW H} {ps : List MemPlace} (hv : Value.okWide Try.prog W r b0 24 v) (h : DataW.Trod enc Try.prog W 0 (fun _ => true) true 24 v d ps) :
    ∃ (V Hh : Int) (B : ByteArray), v = .agg (mkC V Hh B) ∧ (Lit.int .i64 V).wf = true ∧ (Lit.int .i64 Hh).wf = true ∧ B.size ≤ maxLen := by
  obtain ⟨m, cs, ys, rfl, hsz, _, _, hf⟩ := open_agg Try.underlying24 (by kernel_rfl) (by kernel_rfl) hv h
  obtain ⟨c0, y0, k0, _, t0⟩ := hf 0 _ rfl
  obtain ⟨c1, y1, k1, _, t1⟩ := hf 1 _ rfl
  obtain ⟨c2, y2, k2, _, t2⟩ := hf 2 _ rfl
  obtain ⟨x0, e0, _, w0⟩ := DataW.trod_int Try.underlying3 t0
  obtain ⟨x1, e1, _, w1⟩ := DataW.trod_int Try.underlying3 t1
  obtain ⟨s, e2, _, ws⟩ := DataW.trod_string Try.underlying9 t2
  simp only [List.cons.injEq, and_true] at e0 e1 e2
  subst e0 e1 e2
  refine ⟨x0, x1, s, ?_, w0, w1, ws⟩
  rw [array_three hsz k0 k1 k2]
  unfold mkC
  rfl
end
end Go.Proofs.Ytnnjoeppcbbblaa
