import Derived.Test.YtmcajckpgbamnaaCtArgs
import Derived.Test.YtmcajckpgbamnaaOpen
/-
  rule: rules that came in; how many statements there are.
-/
namespace Go.Proofs.Ytmcajckpgbamnaa
set_option maxRecDepth 100000
section
set_option linter.unusedVariables false
open Go.RowKit Go.Sort Go.Lib Go.ChangeShapes Go.WideShapes Go.ChangeAt
variable {H : Type} {enc : TypeId × Value → H} {W : World}

theorem array_twoR {α : Type} {cs : Array α} {c0 c1 : α} (h : cs.size = 2) (h0 : cs[0]? = some c0) (h1 : cs[1]? = some c1) : cs = #[c0, c1] := by
  apply Array.ext
  · simp [h]
  · intro i hi hj
    rw [h] at hi
    match i, hi with
    | 0, _ => simpa [Array.getElem?_eq_getElem, h] using h0
    | 1, _ => simpa [Array.getElem?_eq_getElem, h] using h1
theorem open_rl {r : Reach} {b0 : Nat} {v : Value} {d : DataW H} {ps : List MemPlace} (hv : Value.okWide Try.prog W r b0 34 v) (h : DataW.Trod enc Try.prog W 0 (fun _ => true) true 34 v d ps) :
    ∃ (K N : Int), v = .agg #[.int .i64 K, .int .i64 N] ∧ (Lit.int .i64 K).wf = true ∧ (Lit.int .i64 N).wf = true := by
  obtain ⟨m, cs, ys, rfl, hsz, _, _, hf⟩ := open_agg Try.underlying34 (by kernel_rfl) (by kernel_rfl) hv h
  obtain ⟨c0, y0, k0, _, t0⟩ := hf 0 _ rfl
  obtain ⟨c1, y1, k1, _, t1⟩ := hf 1 _ rfl
  obtain ⟨x0, e0, _, w0⟩ := DataW.trod_int Try.underlying3 t0
  obtain ⟨x1, e1, _, w1⟩ := DataW.trod_int Try.underlying3 t1
  simp only [List.cons.injEq, and_true] at e0 e1
  subst e0 e1
  exact ⟨x0, x1, by rw [array_twoR hsz k0 k1], w0, w1⟩
theorem bulk_vts {d : DataW H} {n : Nat} (h : VsD d n) : n ≤ Rows.uptoBulk d := by
  rcases h with ⟨_, rfl⟩ | ⟨l, spare, rfl, rfl⟩
  · omega
  · have := bulkAll_len l
    simp only [Rows.uptoBulk]; omega
theorem vsOk_wf {l : List Vs} (h : ∀ (j : Nat) (x : Vs), l[j]? = some x → VsOk x) : ∀ x ∈ l, (Lit.int .i64 x.1.G).wf = true := by
  intro x hx
  obtain ⟨j, hj⟩ := List.getElem?_of_mem hx
  exact (h j x hj).2.2.2.2.2.2.1
end
end Go.Proofs.Ytmcajckpgbamnaa
