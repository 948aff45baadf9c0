import Derived.Lib.SmallJoins
import Derived.SizedLaws
import Derived.Test.YtmcajckpgbamnaaCtFirst
import Derived.Test.YtmcajckpgbamnaaVtCheck
import Derived.Test.YtmcajckpgbamnaaCtKit
import Derived.Test.YtmcajckpgbamnaaStrs
namespace Go.Proofs.Ytmcajckpgbamnaa
/-
  A slice of statements that came in, opened.
-/
section
set_option maxRecDepth 100000
section
set_option linter.unusedVariables false
open Go.ChangeShapes Go.WideShapes Go.ChangeAt Go.RowKit Go.Deep Go.Joins Go.Sort
variable {H : Type} {enc : TypeId × Value → H} {W : World}

theorem addr_addv (b off k : Nat) : (⟨b, off, none⟩ : Addr).add k = ⟨b, off + k, none⟩ := by unfold Addr.add; split <;> simp_all
/-- what the form says of a statement -/
def VsOk (x : Vs) : Prop := U8s x.1.B ∧ (Lit.int .i64 x.1.K).wf = true ∧ (Lit.int .i64 x.1.V).wf = true ∧ (Lit.int .i64 x.1.H).wf = true ∧ x.1.B.length ≤ maxLen ∧ (Lit.int .i64 x.1.T).wf = true ∧ (Lit.int .i64 x.1.G).wf = true ∧ x.2.size ≤ maxLen
/-- the reading of a slice of statements -/
def VsD (d : DataW H) (n : Nat) : Prop := (d = .nil ∧ n = 0) ∨ ∃ (l spare : List (DataW H)), d = .slice l spare ∧ l.length = n
theorem vsF_at {xs : List Vs} {i k : Nat} {x : Vs} (hx : xs[i]? = some x) (hk : k < 7) : (vsF xs)[i * 7 + k]? = some ((vsC x)[k]!) := by
  have hi : i < xs.length := (List.getElem?_eq_some_iff.1 hx).1
  rw [vsF_get xs (i * 7 + k) (by omega), get_flatK _ _ _ _ (by simp; omega)]
  have e1 : (i * 7 + k) / 7 = i := by omega
  have e2 : (i * 7 + k) % 7 = k := by omega
  rw [e1, e2]
  have : xs.toArray[i]! = x := by simp [Array.getElem!_eq_getD, Array.getD_eq_getD_getElem?, hx]
  rw [this]
theorem open_vts {v : Value} {d : DataW H} {ps : List MemPlace} {a : Option Addr} {len cap : Nat} (hv : v = .slice a len cap) (h : DataW.Trod enc Try.prog W 0 (fun _ => true) true 22 v d ps) :
    ∃ xs : List Vs, VArg W v xs ∧ (∀ (j : Nat) (x : Vs), xs[j]? = some x → VsOk x) ∧ xs.length ≤ maxLen ∧ VsD d xs.length := by
  obtain ⟨h1, h2, h3, h4⟩ := open_structs Try.underlying22 Try.underlying28 (by kernel_rfl) (by kernel_rfl) hv h
  cases a with
  | none =>
    obtain ⟨rfl, rfl, h5⟩ := h3 rfl
    exact ⟨[], ⟨none, 0, hv, Nat.le_refl _, fun _ => rfl, .inl rfl⟩, fun j f hj => by simp at hj, by simp, .inl ⟨h5, rfl⟩⟩
  | some ad =>
    obtain ⟨D, spare, hd, hi⟩ := h4 ad rfl
    have each : ∀ i, i < len → ∃ f : Vs, VsOk f ∧ ∀ k, k < 7 → W.cell? ((ad.add (i * 7)).add k) = some ((vsC f)[k]!) := by
      intro i him
      obtain ⟨n, vs, ys, _, _, _, hf⟩ := hi i him
      obtain ⟨c0, y0, _, _, k0, t0⟩ := hf 0 _ rfl
      obtain ⟨c1, y1, _, _, k1, t1⟩ := hf 1 _ rfl
      obtain ⟨c2, y2, _, _, k2, t2⟩ := hf 2 _ rfl
      obtain ⟨c3, y3, _, _, k3, t3⟩ := hf 3 _ rfl
      obtain ⟨c4, y4, _, _, k4, t4⟩ := hf 4 _ rfl
      obtain ⟨c5, y5, _, _, k5, t5⟩ := hf 5 _ rfl
      obtain ⟨c6, y6, _, _, k6, t6⟩ := hf 6 _ rfl
      obtain ⟨x0, e0, _, w0⟩ := DataW.trod_int Try.underlying3 t0
      obtain ⟨x1, e1, _, w1⟩ := DataW.trod_int Try.underlying3 t1
      obtain ⟨x2, e2, _, w2⟩ := DataW.trod_int Try.underlying3 t2
      obtain ⟨x3, e3, _, w3⟩ := DataW.trod_string Try.underlying9 t3
      obtain ⟨x4, e4, _, w4⟩ := DataW.trod_int Try.underlying3 t4
      obtain ⟨x5, e5, _, w5⟩ := DataW.trod_int Try.underlying3 t5
      obtain ⟨s, e6, _, ws⟩ := DataW.trod_string Try.underlying9 t6
      simp only [List.cons.injEq, and_true] at e0 e1 e2 e3 e4 e5 e6
      subst e0 e1 e2 e3 e4 e5 e6
      refine ⟨(⟨x0, x1, x2, octsOf x3, x4, x5⟩, s), ⟨octsOf_u8s _, w0, w1, w2, by rw [octsOf_length]; exact w3, w4, w5, ws⟩, fun k hk => ?_⟩
      have hc : k = 0 ∨ k = 1 ∨ k = 2 ∨ k = 3 ∨ k = 4 ∨ k = 5 ∨ k = 6 := by omega
      have h3 : strOfNums (octsOf x3) = x3 := strOf_octs _
      rcases hc with rfl | rfl | rfl | rfl | rfl | rfl | rfl
      · exact k0
      · exact k1
      · exact k2
      · exact k3.trans (congrArg (fun u => some (Value.string u)) h3.symm)
      · exact k4
      · exact k5
      · exact k6
    obtain ⟨F, hF⟩ := choose_lt (α := Vs) (p := fun i f => VsOk f ∧ ∀ k, k < 7 → W.cell? ((ad.add (i * 7)).add k) = some ((vsC f)[k]!)) each
    have hlen : ((List.range len).map F).length = len := by simp
    have hget : ∀ j f, ((List.range len).map F)[j]? = some f → j < len ∧ f = F j := by
      intro j f hj
      have hj2 : j < len := by have := (List.getElem?_eq_some_iff.1 hj).1; simpa using this
      simp [hj2] at hj
      exact ⟨hj2, hj.symm⟩
    refine ⟨(List.range len).map F, ⟨some ad, cap, by rw [hlen]; exact hv, by rw [hlen]; exact h1, (fun e => by cases e), ?_⟩, ?_, by rw [hlen]; exact h2, .inr ⟨_, spare, hd, by simp⟩⟩
    · by_cases h0 : len = 0
      · subst h0; exact .inl rfl
      · right
        obtain ⟨b, off, spot⟩ := ad
        have hspot : spot = none := by
          have := addr_plain ((hF 0 (by omega)).2 0 (by omega))
          simpa [Addr.add] using this
        subst hspot
        refine ⟨b, off, rfl, fun j hj => ?_⟩
        rw [hlen] at hj
        have hq : j / 7 < len := by omega
        have e : ((List.range len).map F)[j / 7]? = some (F (j / 7)) := by simp [hq]
        have := (hF (j / 7) hq).2 (j % 7) (by omega)
        rw [addr_addv, addr_addv, show off + j / 7 * 7 + j % 7 = off + j by omega] at this
        rw [this, ← vsF_at e (by omega), show j / 7 * 7 + j % 7 = j by omega]
    · intro j f hj
      obtain ⟨hj2, rfl⟩ := hget j f hj
      exact (hF j hj2).1
theorem reach_vts {ts : List TypeId} {ds : List (DataW H)} {j n : Nat} {d : DataW H} (hD : VsD d n) (h : (DataW.weightsEach Try.prog ts ds).all (· ≤ reachBytes) = true) (ht : ts[j]? = some 22) (hd : ds[j]? = some d) : n * 72 ≤ 140737488355328 := by
  rcases hD with ⟨_, rfl⟩ | ⟨l, spare, rfl, rfl⟩
  · omega
  · have h1 := sized_slice h ht hd Try.underlying22
    have hb : Try.prog.bytesOf 28 = 72 := by kernel_rfl
    rw [hb] at h1
    simp only [reachBytes] at h1
    omega
end
end

/-
  A cert that came in by value, opened.
-/
section
section
set_option linter.unusedVariables false
set_option maxRecDepth 100000
open Go.ChangeShapes Go.WideShapes Go.ChangeAt Go.RowKit Go.Deep Go.Joins

section
variable {H : Type} {enc : TypeId × Value → H} {W : World}

/-- d is the reading of a cert of so many votes -/
def CtD (d : DataW H) (n : Nat) : Prop := ∃ d0 d1 d2 dl, d = .agg [d0, d1, d2, dl] ∧ VsD dl n

theorem array_four {α : Type} {cs : Array α} {c0 c1 c2 c3 : α} (h : cs.size = 4) (h0 : cs[0]? = some c0) (h1 : cs[1]? = some c1) (h2 : cs[2]? = some c2) (h3 : cs[3]? = some c3) : cs = #[c0, c1, c2, c3] := by
  apply Array.ext_getElem?
  intro i
  by_cases hi : i < 4
  · have hc : i = 0 ∨ i = 1 ∨ i = 2 ∨ i = 3 := by omega
    rcases hc with rfl | rfl | rfl | rfl
    · rw [h0]; rfl
    · rw [h1]; rfl
    · rw [h2]; rfl
    · rw [h3]; rfl
  · rw [Array.getElem?_eq_none (by omega), Array.getElem?_eq_none (by simp; omega)]

end
end
end
end Go.Proofs.Ytmcajckpgbamnaa
