import Derived.Test.YtmfjblinpppdaaaOpen
import Derived.Test.YtmfjblinpppdaaaStrs
/-
  Calls on a disk as the statement has them: kind, number, octets.
-/
namespace Go.Proofs.Ytmfjblinpppdaaa
set_option maxRecDepth 100000
section
set_option linter.unusedVariables false
open Go.RowKit

/-- kind, number, octets -/
abbrev DkOp := Int × Int × List Int
/-- v is a slice of calls that reads as fs -/
def DkOps (W : World) (v : Value) (fs : List DkOp) : Prop :=
  ∃ a cap, v = .slice a fs.length cap ∧ fs.length ≤ cap ∧ (a = none → cap = 0) ∧ (fs = [] ∨ ∃ b off, a = some ⟨b, off, none⟩ ∧ ∀ (j : Nat) (f : DkOp), fs[j]? = some f →
    W.cell? ⟨b, off + j * 3, none⟩ = some (.int .i64 f.1) ∧ W.cell? ⟨b, off + j * 3 + 1, none⟩ = some (.int .i64 f.2.1) ∧ ∃ u, W.cell? ⟨b, off + j * 3 + 2, none⟩ = some u ∧ Ints .u8 W u f.2.2)
/-- each call's numbers are numbers -/
def DkOpOk (f : DkOp) : Prop := (-9223372036854775808 ≤ f.1 ∧ f.1 ≤ 9223372036854775807) ∧ (-9223372036854775808 ≤ f.2.1 ∧ f.2.1 ≤ 9223372036854775807)
def DkOpsOk (fs : List DkOp) : Prop := ∀ (j : Nat) (f : DkOp), fs[j]? = some f → DkOpOk f
section
open Go.ChangeShapes Go.WideShapes Go.ChangeAt Go.Deep
variable {H : Type} {enc : TypeId × Value → H} {W : World}
/-- d is the reading of such a slice -/
def DkOpsD (d : DataW H) (fs : List DkOp) : Prop := (d = .nil ∧ fs = []) ∨ ∃ ds spare, d = .slice ds spare ∧ ∀ (j : Nat) (f : DkOp), fs[j]? = some f → ∃ y0 y1 y2, DataW.agg [y0, y1, y2] ∈ ds ∧ ((y2 = .nil ∧ f.2.2 = []) ∨ ∃ sp, y2 = .slice (lits .u8 f.2.2) sp)
theorem open_dkops {v : Value} {d : DataW H} {ps : List MemPlace} {a : Option Addr} {len cap : Nat} (hv : v = .slice a len cap) (h : DataW.Trod enc Try.prog W 0 (fun _ => true) true 22 v d ps) :
    ∃ fs, DkOps W v fs ∧ DkOpsOk fs ∧ fs.length ≤ 9223372036854775807 ∧ DkOpsD d fs := by
  obtain ⟨h1, h2, h3, h4⟩ := open_structs Try.underlying22 Try.underlying28 (by kernel_rfl) (by kernel_rfl) hv h
  unfold maxLen at h2
  cases a with
  | none =>
    obtain ⟨rfl, rfl, hd⟩ := h3 rfl
    exact ⟨[], ⟨none, 0, hv, Nat.le_refl _, fun _ => rfl, .inl rfl⟩, fun j f hj => by simp at hj, by simp, .inl ⟨hd, rfl⟩⟩
  | some ad =>
    obtain ⟨D, spare, hD, hi⟩ := h4 ad rfl
    have each : ∀ i, i < len → ∃ f : DkOp, DkOpOk f ∧ W.cell? (ad.add (i * 3)) = some (.int .i64 f.1) ∧ W.cell? ((ad.add (i * 3)).add 1) = some (.int .i64 f.2.1) ∧ (∃ u, W.cell? ((ad.add (i * 3)).add 2) = some u ∧ Ints .u8 W u f.2.2) ∧
        ∃ y0 y1 y2, D i = .agg [y0, y1, y2] ∧ ((y2 = .nil ∧ f.2.2 = []) ∨ ∃ sp, y2 = .slice (lits .u8 f.2.2) sp) := by
      intro i him
      obtain ⟨n, vs, ys, _, hyl, hDi, hf⟩ := hi i him
      obtain ⟨v0, y0, _, hy0, c0, t0⟩ := hf 0 _ rfl
      obtain ⟨v1, y1, _, hy1, c1, t1⟩ := hf 1 _ rfl
      obtain ⟨v2, y2, _, hy2, c2, t2⟩ := hf 2 _ rfl
      obtain ⟨x0, e0, _, wf0⟩ := DataW.trod_int Try.underlying3 t0
      obtain ⟨x1, e1, _, wf1⟩ := DataW.trod_int Try.underlying3 t1
      simp only [List.cons.injEq, and_true] at e0 e1
      subst e0 e1
      obtain ⟨a', l', c', e⟩ := Joins.slice_form Try.underlying26 t2
      have e' : v2 = .slice a' l' c' := by simpa using e
      obtain ⟨zs, g1, g2, _, g4⟩ := open_row (enc := enc) (W := W) (d := y2.1) (ps := y2.2) Try.underlying26 Try.underlying5 (by kernel_rfl) e' ⟨n, by rw [e'] at t2 ⊢; simpa [Value.cells] using t2⟩
      have hadd : (ad.add (i * 3)).add 0 = ad.add (i * 3) := by rw [Go.Deep.add_add, Nat.add_zero]
      refine ⟨(x0, x1, zs), ⟨i64_of_wf wf0, i64_of_wf wf1⟩, ?_, c1, ⟨_, c2, g1⟩, y0.1, y1.1, y2.1, ?_, g4⟩
      · rw [← hadd]; exact c0
      · rw [hDi]
        match ys, hyl, hy0, hy1, hy2 with
        | [u0, u1, u2], _, hy0, hy1, hy2 => simp at hy0 hy1 hy2; simp [hy0, hy1, hy2]
    obtain ⟨F, hF⟩ := choose_lt (α := DkOp) (p := fun i f => DkOpOk f ∧ W.cell? (ad.add (i * 3)) = some (.int .i64 f.1) ∧ W.cell? ((ad.add (i * 3)).add 1) = some (.int .i64 f.2.1) ∧ (∃ u, W.cell? ((ad.add (i * 3)).add 2) = some u ∧ Ints .u8 W u f.2.2) ∧
        ∃ y0 y1 y2, D i = .agg [y0, y1, y2] ∧ ((y2 = .nil ∧ f.2.2 = []) ∨ ∃ sp, y2 = .slice (lits .u8 f.2.2) sp)) each
    have hlen : ((List.range len).map F).length = len := by simp
    have hget : ∀ j f, ((List.range len).map F)[j]? = some f → j < len ∧ f = F j := by
      intro j f hj
      have hj2 : j < len := by have := (List.getElem?_eq_some_iff.1 hj).1; simpa using this
      simp [hj2] at hj
      exact ⟨hj2, hj.symm⟩
    refine ⟨(List.range len).map F, ⟨some ad, cap, by rw [hlen]; exact hv, by rw [hlen]; exact h1, (fun e => by cases e), ?_⟩, ?_, by rw [hlen]; exact h2, .inr ⟨_, spare, hD, fun j f hj => ?_⟩⟩
    · by_cases h0 : len = 0
      · subst h0; exact .inl rfl
      · right
        obtain ⟨b, off, spot⟩ := ad
        have hspot : spot = none := by
          have := addr_plain (hF 0 (by omega)).2.1
          simpa [Addr.add] using this
        subst hspot
        refine ⟨b, off, rfl, fun j f hj => ?_⟩
        obtain ⟨hj2, rfl⟩ := hget j f hj
        obtain ⟨_, c0, c1, ⟨u, c2, iu⟩, _⟩ := hF j hj2
        rw [addr_add] at c0 c1 c2
        rw [addr_add] at c1 c2
        exact ⟨c0, c1, u, c2, iu⟩
    · intro j f hj
      obtain ⟨hj2, rfl⟩ := hget j f hj
      exact (hF j hj2).1
    · obtain ⟨hj2, rfl⟩ := hget j f hj
      obtain ⟨_, _, _, _, y0, y1, y2, e, hy⟩ := hF j hj2
      exact ⟨y0, y1, y2, by rw [← e]; exact List.mem_map.2 ⟨j, by simpa using hj2, rfl⟩, hy⟩
/-- what the form's own reach says of each -/
theorem reach_dkops {ts : List TypeId} {ds : List (DataW H)} {j : Nat} {fs : List DkOp} {d : DataW H} (hD : DkOpsD d fs)
    (h : (DataW.weightsEach Try.prog ts ds).all (· ≤ reachBytes) = true) (ht : ts[j]? = some 22) (hd : ds[j]? = some d) : ∀ (k : Nat) (f : DkOp), fs[k]? = some f → f.2.2.length ≤ 140737488351232 := by
  intro k f hk
  rcases hD with ⟨_, rfl⟩ | ⟨es, spare, rfl, hall⟩
  · simp at hk
  · obtain ⟨y0, y1, y2, hmem, hy⟩ := hall k f hk
    rcases hy with ⟨_, h0⟩ | ⟨sp, rfl⟩
    · rw [h0]; simp
    · have hb : Try.prog.bytesOf 5 = 1 := by kernel_rfl
      have h1 := List.all_eq_true.1 h _ (DataW.weights_mem_each ht hd (((lits (H := H) .u8 f.2.2).length + sp.length) * 1) (by
        simp only [DataW.weights, Try.underlying22, List.mem_cons, List.mem_append]
        refine .inr (.inl (weights_all (d := .agg [y0, y1, .slice (lits .u8 f.2.2) sp]) hmem ?_))
        simp only [DataW.weights, Try.underlying28, DataW.weightsEach, List.map_cons, List.map_nil, List.mem_append, Try.underlying26, List.mem_cons, hb, true_or, or_true]))
      simp only [lits, List.length_map, reachBytes, decide_eq_true_eq] at h1
      omega
end
end
end Go.Proofs.Ytmfjblinpppdaaa
