import Derived.Test.YtbdjbmgeelleiaaRefPack
import Derived.Test.YtbdjbmgeelleiaaStructs
import Derived.Test.YtbdjbmgeelleiaaStrArg
/-
  Fields as the statements have them: a number, or a text.
-/
namespace Go.Proofs.Ytbdjbmgeelleiaa
set_option maxRecDepth 100000
section
set_option linter.unusedVariables false
open Go.RowKit

/-- kind, number, text -/
abbrev Fld := Int × Int × List Int
/-- v is a slice of fields that reads as fs -/
def Flds (W : World) (v : Value) (fs : List Fld) : Prop :=
  ∃ a cap, v = .slice a fs.length cap ∧ fs.length ≤ cap ∧ (a = none → cap = 0) ∧ (fs = [] ∨ ∃ b off, a = some ⟨b, off, none⟩ ∧ ∀ (j : Nat) (f : Fld), fs[j]? = some f →
    W.cell? ⟨b, off + j * 3, none⟩ = some (.int .i64 f.1) ∧ W.cell? ⟨b, off + j * 3 + 1, none⟩ = some (.int .i64 f.2.1) ∧ W.cell? ⟨b, off + j * 3 + 2, none⟩ = some (.string (strOfNums f.2.2)))
theorem Flds.up {W W' : World} {v : Value} {fs : List Fld} (h : Flds W v fs) (hu : Up W W') : Flds W' v fs := by
  obtain ⟨a, cap, h1, h2, h3, h4⟩ := h
  refine ⟨a, cap, h1, h2, h3, h4.imp id ?_⟩
  rintro ⟨b, off, rfl, hc⟩
  refine ⟨b, off, rfl, fun j f hj => ?_⟩
  obtain ⟨c0, c1, c2⟩ := hc j f hj
  exact ⟨later_cellF c0 hu, later_cellF c1 hu, later_cellF c2 hu⟩
/-- each field's number is one, its text is of octets -/
def FldOk (f : Fld) : Prop := (-9223372036854775808 ≤ f.1 ∧ f.1 ≤ 9223372036854775807) ∧ (-9223372036854775808 ≤ f.2.1 ∧ f.2.1 ≤ 9223372036854775807) ∧ U8s f.2.2 ∧ f.2.2.length ≤ 9223372036854775807
def FldsOk (fs : List Fld) : Prop := ∀ (j : Nat) (f : Fld), fs[j]? = some f → FldOk f
section
open Go.ChangeShapes Go.WideShapes Go.ChangeAt Go.Deep
variable {H : Type} {enc : TypeId × Value → H} {W : World}
/-- fields that came in -/
theorem open_flds {v : Value} {d : DataW H} {ps : List MemPlace} {a : Option Addr} {len cap : Nat} (hv : v = .slice a len cap) (h : DataW.Trod enc Try.prog W 0 (fun _ => true) true 22 v d ps) :
    ∃ fs, Flds W v fs ∧ FldsOk fs ∧ fs.length ≤ 9223372036854775807 ∧ True := by
  obtain ⟨h1, h2, h3, h4⟩ := open_structs Try.underlying22 Try.underlying29 (by kernel_rfl) (by kernel_rfl) hv h
  unfold maxLen at h2
  cases a with
  | none =>
    obtain ⟨rfl, rfl, _⟩ := h3 rfl
    exact ⟨[], ⟨none, 0, hv, Nat.le_refl _, fun _ => rfl, .inl rfl⟩, fun j f hj => by simp at hj, by simp, trivial⟩
  | some ad =>
    obtain ⟨D, spare, _, hi⟩ := h4 ad rfl
    have each : ∀ i, i < len → ∃ f : Fld, FldOk f ∧ W.cell? (ad.add (i * 3)) = some (.int .i64 f.1) ∧ W.cell? ((ad.add (i * 3)).add 1) = some (.int .i64 f.2.1) ∧ W.cell? ((ad.add (i * 3)).add 2) = some (.string (strOfNums f.2.2)) := by
      intro i him
      obtain ⟨n, vs, ys, _, _, _, hf⟩ := hi i him
      obtain ⟨v0, y0, _, _, c0, t0⟩ := hf 0 _ rfl
      obtain ⟨v1, y1, _, _, c1, t1⟩ := hf 1 _ rfl
      obtain ⟨v2, y2, _, _, c2, t2⟩ := hf 2 _ rfl
      obtain ⟨x0, e0, _, wf0⟩ := DataW.trod_int Try.underlying3 t0
      obtain ⟨x1, e1, _, wf1⟩ := DataW.trod_int Try.underlying3 t1
      obtain ⟨s, e2, _, ws⟩ := DataW.trod_string Try.underlying9 t2
      simp only [List.cons.injEq, and_true] at e0 e1 e2
      subst e0 e1 e2
      unfold maxLen at ws
      have hadd : (ad.add (i * 3)).add 0 = ad.add (i * 3) := by rw [Go.Deep.add_add, Nat.add_zero]
      refine ⟨(x0, x1, octsOf s), ⟨i64_of_wf wf0, i64_of_wf wf1, octsOf_u8s s, by rw [octsOf_length]; exact ws⟩, ?_, c1, ?_⟩
      · rw [← hadd]; exact c0
      · rw [strOf_octs]; exact c2
    obtain ⟨F, hF⟩ := choose_lt (α := Fld) (p := fun i f => FldOk f ∧ W.cell? (ad.add (i * 3)) = some (.int .i64 f.1) ∧ W.cell? ((ad.add (i * 3)).add 1) = some (.int .i64 f.2.1) ∧ W.cell? ((ad.add (i * 3)).add 2) = some (.string (strOfNums f.2.2))) each
    have hlen : ((List.range len).map F).length = len := by simp
    have hget : ∀ j f, ((List.range len).map F)[j]? = some f → j < len ∧ f = F j := by
      intro j f hj
      have hj2 : j < len := by have := (List.getElem?_eq_some_iff.1 hj).1; simpa using this
      simp [hj2] at hj
      exact ⟨hj2, hj.symm⟩
    refine ⟨(List.range len).map F, ⟨some ad, cap, by rw [hlen]; exact hv, by rw [hlen]; exact h1, (fun e => by cases e), ?_⟩, ?_, by rw [hlen]; exact h2, trivial⟩
    · by_cases h0 : len = 0
      · subst h0; exact .inl rfl
      · right
        obtain ⟨b, off, spot⟩ := ad
        have hspot : spot = none := by
          have := addr_plain (hF 0 (by omega)).2.1
          simpa [Addr.add] using this
        subst hspot
        refine ⟨b, off, rfl, fun j f hj => ?_⟩
        obtain ⟨hj2, rfl⟩ := hget j f hj
        obtain ⟨_, c0, c1, c2⟩ := hF j hj2
        rw [addr_add] at c0 c1 c2
        rw [addr_add] at c1 c2
        exact ⟨c0, c1, c2⟩
    · intro j f hj
      obtain ⟨hj2, rfl⟩ := hget j f hj
      exact (hF j hj2).1
end
end
end Go.Proofs.Ytbdjbmgeelleiaa
