import Derived.Test.YtkelbilcjgndmaaAcKit
/-
  A slice of accounts that came in, and how many the form lets come in.
-/
namespace Go.Proofs.Ytkelbilcjgndmaa
set_option maxRecDepth 100000
section
set_option linter.unusedVariables false
open Go.ChangeShapes Go.WideShapes Go.ChangeAt Go.RowKit Go.Deep Go.Joins Go.Sort
variable {H : Type} {enc : TypeId × Value → H} {W : World}
theorem AArg.len {W : World} {a : Option Addr} {n cap : Nat} {xs : List Ac} (h : AArg W (.slice a n cap) xs) : xs.length = n := by
  obtain ⟨a', cap', e, _⟩ := h
  cases e; rfl
/-- d is the reading of such a slice -/
def AcsD (d : DataW H) (xs : List Ac) : Prop := (d = .nil ∧ xs = []) ∨ ∃ ds spare, d = .slice ds spare ∧ ds.length = xs.length
theorem open_acs {v : Value} {d : DataW H} {ps : List MemPlace} {a : Option Addr} {len cap : Nat} (hv : v = .slice a len cap) (h : DataW.Trod enc Try.prog W 0 (fun _ => true) true 22 v d ps) :
    ∃ xs : List Ac, AArg W v xs ∧ (∀ (j : Nat) (x : Ac), xs[j]? = some x → AcOk x) ∧ xs.length ≤ maxLen ∧ AcsD d xs := by
  obtain ⟨h1, h2, h3, h4⟩ := open_structs Try.underlying22 Try.underlying49 (by kernel_rfl) (by kernel_rfl) hv h
  cases a with
  | none =>
    obtain ⟨rfl, rfl, h5⟩ := h3 rfl
    exact ⟨[], ⟨none, 0, hv, Nat.le_refl _, fun _ => rfl, .inl rfl⟩, fun j f hj => by simp at hj, by simp, .inl ⟨h5, rfl⟩⟩
  | some ad =>
    obtain ⟨D, spare, hd, hi⟩ := h4 ad rfl
    have each : ∀ i, i < len → ∃ f : Ac, AcOk f ∧ W.cell? ((ad.add (i * 2)).add 0) = some (.int .i64 f.1) ∧ W.cell? ((ad.add (i * 2)).add 1) = some (.int .i64 f.2) := by
      intro i him
      obtain ⟨n, vs, ys, _, _, _, hf⟩ := hi i him
      obtain ⟨c0, y0, _, _, k0, t0⟩ := hf 0 _ rfl
      obtain ⟨c1, y1, _, _, k1, t1⟩ := hf 1 _ rfl
      obtain ⟨x0, e0, _, w0⟩ := DataW.trod_int Try.underlying3 t0
      obtain ⟨x1, e1, _, w1⟩ := DataW.trod_int Try.underlying3 t1
      simp only [List.cons.injEq, and_true] at e0 e1
      subst e0 e1
      exact ⟨(x0, x1), ⟨w0, w1⟩, k0, k1⟩
    obtain ⟨F, hF⟩ := choose_lt (α := Ac) (p := fun i f => AcOk f ∧ W.cell? ((ad.add (i * 2)).add 0) = some (.int .i64 f.1) ∧ W.cell? ((ad.add (i * 2)).add 1) = some (.int .i64 f.2)) each
    have hlen : ((List.range len).map F).length = len := by simp
    have hget : ∀ j f, ((List.range len).map F)[j]? = some f → j < len ∧ f = F j := by
      intro j f hj
      have hj2 : j < len := by have := (List.getElem?_eq_some_iff.1 hj).1; simpa using this
      simp [hj2] at hj
      exact ⟨hj2, hj.symm⟩
    refine ⟨(List.range len).map F, ⟨some ad, cap, by rw [hlen]; exact hv, by rw [hlen]; exact h1, (fun e => by cases e), ?_⟩, ?_, by rw [hlen]; exact h2, .inr ⟨_, spare, hd, by rw [hlen]; simp⟩⟩
    · by_cases h0 : len = 0
      · subst h0; exact .inl rfl
      · right
        obtain ⟨b, off, spot⟩ := ad
        have hspot : spot = none := by
          have := addr_plain (hF 0 (by omega)).2.1
          simpa [Addr.add] using this
        subst hspot
        refine ⟨b, off, rfl, fun i x hx => ?_⟩
        obtain ⟨hj2, rfl⟩ := hget i x hx
        have k0 := (hF i hj2).2.1
        have k1 := (hF i hj2).2.2
        rw [addr_addt, addr_addt, Nat.add_assoc] at k0 k1
        exact ⟨k0, k1⟩
    · intro j f hj
      obtain ⟨hj2, rfl⟩ := hget j f hj
      exact (hF j hj2).1
theorem reach_acs {ts : List TypeId} {ds : List (DataW H)} {j : Nat} {xs : List Ac} {d : DataW H} (hD : AcsD d xs)
    (h : (DataW.weightsEach Try.prog ts ds).all (· ≤ reachBytes) = true) (ht : ts[j]? = some 22) (hd : ds[j]? = some d) : xs.length * 16 ≤ 140737488351232 := by
  rcases hD with ⟨_, rfl⟩ | ⟨es, spare, rfl, hl⟩
  · simp
  · have hb : Try.prog.bytesOf 49 = 16 := by kernel_rfl
    have := sized_slice h ht hd Try.underlying22
    rw [hb, hl, Nat.add_mul] at this
    have hr : reachBytes = 140737488351232 := rfl
    omega
end
end Go.Proofs.Ytkelbilcjgndmaa
