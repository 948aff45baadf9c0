import Derived.Lib.SmallJoins
import Derived.SizedLaws
import Derived.Test.YtnipkhgaceicbaaGdKit
/-
  A slice of marks that came in.
-/
namespace Go.Proofs.Ytnipkhgaceicbaa
set_option maxRecDepth 100000
section
set_option linter.unusedVariables false
open Go.ChangeShapes Go.WideShapes Go.ChangeAt Go.RowKit Go.Deep Go.Joins Go.Sort

theorem mk_len (x : Mk) : x.l.length = 3 := rfl
instance mkInhabited : Inhabited Mk := ⟨mk0⟩
/-- a slice of marks that came in -/
def MArg (W : World) (v : Value) (xs : List Mk) : Prop := ∃ a cap, v = .slice a xs.length cap ∧ xs.length ≤ cap ∧ (a = none → cap = 0) ∧ (xs = [] ∨ ∃ b off, a = some ⟨b, off, none⟩ ∧ ∀ i x, xs[i]? = some x → ∀ k, k < 3 → W.cell? ⟨b, off + (i * 3 + k), none⟩ = some (x.l[k]!))
theorem MArg.up {W W' : World} {v : Value} {xs : List Mk} (h : MArg W v xs) (hu : Up W W') : MArg W' v xs := by
  obtain ⟨a, cap, h1, h2, h3, h4⟩ := h
  refine ⟨a, cap, h1, h2, h3, h4.imp id ?_⟩
  rintro ⟨b, off, h5, h6⟩
  exact ⟨b, off, h5, fun i x hx k hk => later_cellF (h6 i x hx k hk) hu⟩
theorem MArg.ptr {W : World} {a : Option Addr} {n cap : Nat} {xs : List Mk} (h : MArg W (.slice a n cap) xs) (hx : 0 < xs.length) : ∃ b off, a = some ⟨b, off, none⟩ := by
  obtain ⟨a', cap', e, h1, h2, h3⟩ := h
  cases e
  rcases h3 with rfl | ⟨b, off, e, _⟩
  · simp at hx
  · exact ⟨b, off, e⟩
theorem MArg.len {W : World} {a : Option Addr} {n cap : Nat} {xs : List Mk} (h : MArg W (.slice a n cap) xs) : xs.length = n := by
  obtain ⟨a', cap', e, _⟩ := h
  cases e; rfl
theorem MArg.load {W : World} {b off n cap : Nat} {xs : List Mk} (h : MArg W (.slice (some ⟨b, off, none⟩) n cap) xs) {i : Nat} {x : Mk} (hx : xs[i]? = some x) : (loadVar 26 ⟨b, off + i * 3, none⟩).run Try.prog W = .ok (.agg x.l.toArray) W := by
  obtain ⟨a', cap', e, h1, h2, h3⟩ := h
  cases e
  have hi : i < xs.length := (List.getElem?_eq_some_iff.1 hx).1
  rcases h3 with rfl | ⟨b', off', e, h4⟩
  · simp at hi
  · cases e
    have hcell : ∀ j v, x.l[j]? = some v → W.cell? ((⟨b, off + i * 3, none⟩ : Addr).add j) = some v := by
      intro j v hv
      have hj : j < 3 := by have := (List.getElem?_eq_some_iff.1 hv).1; rwa [mk_len] at this
      have ha : ((⟨b, off + i * 3, none⟩ : Addr).add j) = ⟨b, off + (i * 3 + j), none⟩ := by unfold Addr.add; split <;> simp_all [Nat.add_assoc]
      rw [ha, h4 i x hx j hj, getElem!_pos x.l j (by rw [mk_len]; exact hj)]
      rw [List.getElem?_eq_getElem (by rw [mk_len]; exact hj)] at hv
      exact hv
    have h5 := run_loadCellsFrom_list Try.prog W ⟨b, off + i * 3, none⟩ x.l 3 (mk_len x) hcell
    simp [loadVar, loadCells, Try.isAgg26, Try.sizeOf26, h5, Result.andThen]
/-- what the form says of a mark -/
def MkOk (x : Mk) : Prop := (Lit.int .i64 x.V).wf = true ∧ (Lit.int .i64 x.H).wf = true ∧ x.B.size ≤ maxLen
section
variable {H : Type} {enc : TypeId × Value → H} {W : World}
theorem open_mks {v : Value} {d : DataW H} {ps : List MemPlace} {a : Option Addr} {len cap : Nat} (hv : v = .slice a len cap) (h : DataW.Trod enc Try.prog W 0 (fun _ => true) true 22 v d ps) :
    ∃ xs : List Mk, MArg W v xs ∧ (∀ (j : Nat) (x : Mk), xs[j]? = some x → MkOk x) ∧ xs.length ≤ maxLen := by
  obtain ⟨h1, h2, h3, h4⟩ := open_structs Try.underlying22 Try.underlying26 (by kernel_rfl) (by kernel_rfl) hv h
  cases a with
  | none =>
    obtain ⟨rfl, rfl, h5⟩ := h3 rfl
    exact ⟨[], ⟨none, 0, hv, Nat.le_refl _, fun _ => rfl, .inl rfl⟩, fun j f hj => by simp at hj, by simp⟩
  | some ad =>
    obtain ⟨D, spare, hd, hi⟩ := h4 ad rfl
    have each : ∀ i, i < len → ∃ f : Mk, MkOk f ∧ ∀ k, k < 3 → W.cell? ((ad.add (i * 3)).add k) = some (f.l[k]!) := by
      intro i him
      obtain ⟨n, vs, ys, _, _, _, hf⟩ := hi i him
      obtain ⟨c0, y0, _, _, k0, t0⟩ := hf 0 _ rfl
      obtain ⟨c1, y1, _, _, k1, t1⟩ := hf 1 _ rfl
      obtain ⟨c2, y2, _, _, k2, t2⟩ := hf 2 _ rfl
      obtain ⟨x0, e0, _, w0⟩ := DataW.trod_int Try.underlying3 t0
      obtain ⟨x1, e1, _, w1⟩ := DataW.trod_int Try.underlying3 t1
      obtain ⟨s, e2, _, ws⟩ := DataW.trod_string Try.underlying9 t2
      simp only [List.cons.injEq, and_true] at e0 e1 e2
      subst e0 e1 e2
      refine ⟨⟨x0, x1, s⟩, ⟨w0, w1, ws⟩, fun k hk => ?_⟩
      have hc : k = 0 ∨ k = 1 ∨ k = 2 := by omega
      rcases hc with rfl | rfl | rfl
      · exact k0
      · exact k1
      · exact k2
    obtain ⟨F, hF⟩ := choose_lt (α := Mk) (p := fun i f => MkOk f ∧ ∀ k, k < 3 → W.cell? ((ad.add (i * 3)).add k) = some (f.l[k]!)) each
    have hlen : ((List.range len).map F).length = len := by simp
    have hget : ∀ j f, ((List.range len).map F)[j]? = some f → j < len ∧ f = F j := by
      intro j f hj
      have hj2 : j < len := by have := (List.getElem?_eq_some_iff.1 hj).1; simpa using this
      simp [hj2] at hj
      exact ⟨hj2, hj.symm⟩
    refine ⟨(List.range len).map F, ⟨some ad, cap, by rw [hlen]; exact hv, by rw [hlen]; exact h1, (fun e => by cases e), ?_⟩, ?_, by rw [hlen]; exact h2⟩
    · by_cases h0 : len = 0
      · subst h0; exact .inl rfl
      · right
        obtain ⟨b, off, spot⟩ := ad
        have hspot : spot = none := by
          have := addr_plain ((hF 0 (by omega)).2 0 (by omega))
          simpa [Addr.add] using this
        subst hspot
        refine ⟨b, off, rfl, fun i x hx k hk => ?_⟩
        obtain ⟨hj2, rfl⟩ := hget i x hx
        have := (hF i hj2).2 k hk
        rw [addr_addt, addr_addt, Nat.add_assoc] at this
        exact this
    · intro j f hj
      obtain ⟨hj2, rfl⟩ := hget j f hj
      exact (hF j hj2).1
theorem open_mksT {v : Value} {d : DataW H} {ps : List MemPlace} {a : Option Addr} {len cap : Nat} (hv : v = .slice a len cap) (h : DataW.Trod enc Try.prog W 0 (fun _ => true) true 22 v d ps) :
    ∃ xs : List Mk, MArg W v xs ∧ (∀ (j : Nat) (x : Mk), xs[j]? = some x → MkOk x) ∧ xs.length ≤ maxLen ∧ True := by
  obtain ⟨xs, h1, h2, h3⟩ := open_mks hv h
  exact ⟨xs, h1, h2, h3, trivial⟩
end
end
end Go.Proofs.Ytnipkhgaceicbaa
