import Derived.Test.YtnnjoeppcbbblaaOpen
import Derived.Test.YtnnjoeppcbbblaaVtCheck
/-
  A statement that came in by value, opened.
-/
namespace Go.Proofs.Ytnnjoeppcbbblaa
set_option maxRecDepth 100000
section
set_option linter.unusedVariables false
open Go.ChangeShapes Go.WideShapes Go.ChangeAt Go.RowKit Go.Deep Go.Joins
variable {H : Type} {enc : TypeId × Value → H} {W : World}

theorem array_seven {α : Type} {cs : Array α} {c0 c1 c2 c3 c4 c5 c6 : α} (h : cs.size = 7) (h0 : cs[0]? = some c0) (h1 : cs[1]? = some c1) (h2 : cs[2]? = some c2) (h3 : cs[3]? = some c3) (h4 : cs[4]? = some c4) (h5 : cs[5]? = some c5) (h6 : cs[6]? = some c6) : cs = #[c0, c1, c2, c3, c4, c5, c6] := by
  apply Array.ext_getElem?
  intro i
  by_cases hi : i < 7
  · have hc : i = 0 ∨ i = 1 ∨ i = 2 ∨ i = 3 ∨ i = 4 ∨ i = 5 ∨ i = 6 := by omega
    rcases hc with rfl | rfl | rfl | rfl | rfl | rfl | rfl
    · rw [h0]; rfl
    · rw [h1]; rfl
    · rw [h2]; rfl
    · rw [h3]; rfl
    · rw [h4]; rfl
    · rw [h5]; rfl
    · rw [h6]; rfl
  · rw [Array.getElem?_eq_none (by omega), Array.getElem?_eq_none (by simp; omega)]

theorem open_vt {r : Reach} {b0 : Nat} {v : Value} {d : DataW H} {ps : List MemPlace} (hv : Value.okWide Try.prog W r b0 38 v) (h : DataW.Trod enc Try.prog W 0 (fun _ => true) true 38 v d ps) :
    ∃ (u : Vt) (s : ByteArray), v = .agg (vtC u s) ∧ U8s u.B ∧ (Lit.int .i64 u.K).wf = true ∧ (Lit.int .i64 u.V).wf = true ∧ (Lit.int .i64 u.H).wf = true ∧ u.B.length ≤ maxLen ∧ (Lit.int .i64 u.T).wf = true ∧ (Lit.int .i64 u.G).wf = true ∧ s.size ≤ maxLen := by
  obtain ⟨m, cs, ys, rfl, hsz, _, _, hf⟩ := open_agg Try.underlying38 (by kernel_rfl) (by kernel_rfl) hv h
  obtain ⟨c0, y0, k0, _, t0⟩ := hf 0 _ rfl
  obtain ⟨c1, y1, k1, _, t1⟩ := hf 1 _ rfl
  obtain ⟨c2, y2, k2, _, t2⟩ := hf 2 _ rfl
  obtain ⟨c3, y3, k3, _, t3⟩ := hf 3 _ rfl
  obtain ⟨c4, y4, k4, _, t4⟩ := hf 4 _ rfl
  obtain ⟨c5, y5, k5, _, t5⟩ := hf 5 _ rfl
  obtain ⟨c6, y6, k6, _, t6⟩ := hf 6 _ rfl
  obtain ⟨x0, e0, _, w0⟩ := DataW.trod_int Try.underlying3 t0
  obtain ⟨x1, e1, _, w1⟩ := DataW.trod_int Try.underlying3 t1
  obtain ⟨x2, e2, _, w2⟩ := DataW.trod_int Try.underlying3 t2
  obtain ⟨x3, e3, _, w3⟩ := DataW.trod_string Try.underlying9 t3
  obtain ⟨x4, e4, _, w4⟩ := DataW.trod_int Try.underlying3 t4
  obtain ⟨x5, e5, _, w5⟩ := DataW.trod_int Try.underlying3 t5
  obtain ⟨s, e6, _, ws⟩ := DataW.trod_string Try.underlying9 t6
  simp only [List.cons.injEq, and_true] at e0 e1 e2 e3 e4 e5 e6
  subst e0 e1 e2 e3 e4 e5 e6
  refine ⟨⟨x0, x1, x2, octsOf x3, x4, x5⟩, s, ?_, octsOf_u8s _, w0, w1, w2, by rw [octsOf_length]; exact w3, w4, w5, ws⟩
  rw [array_seven hsz k0 k1 k2 k3 k4 k5 k6]
  unfold vtC
  simp only [strOf_octs]
end
end Go.Proofs.Ytnnjoeppcbbblaa
