import Derived.Deep.Slices
import Derived.Deep.Fields
import Derived.ChangeSame
import Derived.Lib.SmallJoins
import Derived.Test.YtgmicppfiapilaaDoorOpen
/-
  Slices of structs that came in: every field of every element, where it lies, and what it reads as.
-/
namespace Go.Proofs.YtgmicppfiapilaaDoor
set_option maxRecDepth 100000
section
set_option linter.unusedVariables false
open Go.ChangeShapes Go.WideShapes Go.ChangeAt Go.RowKit Go.Deep
variable {H : Type} {enc : TypeId × Value → H} {W : World}

/-- what one element is: its cells, one a field, and the reading of each -/
def ElemOf (enc : TypeId × Value → H) (P : Program) (W : World) (fs : Array Field) (a : Addr) (d : DataW H) : Prop :=
  ∃ (n : Nat) (vs : List Value) (ys : List (DataW H × List MemPlace)), vs.length = fs.size ∧ ys.length = fs.size ∧ d = .agg (ys.map (·.1)) ∧
    ∀ (j : Nat) (f : Field), fs[j]? = some f → ∃ v y, vs[j]? = some v ∧ ys[j]? = some y ∧ W.cell? (a.add j) = some v ∧ DataW.trod enc P W 0 (fun _ => true) true n f.type [v] = some y

theorem elem_of {P : Program} {e : TypeId} {fs : Array Field} (he : P.underlying e = some (.struct fs)) (hone : oneCellFields P fs = true) (hC : P.cellsOf e = fs.size)
    {a : Addr} {n : Nat} {cs : List Value} {d : DataW H} {pl : List MemPlace} (hcs : W.cells? 0 a fs.size = some cs) (h : DataW.trod enc P W 0 (fun _ => true) true n e cs = some (d, pl)) : ElemOf enc P W fs a d := by
  obtain ⟨_, hcl, hat⟩ := World.cells?_some hcs
  obtain ⟨ys, m, _, hx, _, hyl, hfld⟩ := DataW.trod_struct he h
  simp only [Prod.mk.injEq] at hx
  refine ⟨m, cs, ys, hcl, hyl, hx.1, fun j f hj => ?_⟩
  have hj2 : j < fs.size := (Array.getElem?_eq_some_iff.1 hj).1
  have hj3 : j < cs.length := by omega
  have hj4 : j < ys.length := by omega
  obtain ⟨ho, hk⟩ := hone_of hone j f hj
  refine ⟨cs[j], ys[j], List.getElem?_eq_getElem hj3, List.getElem?_eq_getElem hj4, (hat j hj2).trans (List.getElem?_eq_getElem hj3), ?_⟩
  have h1 := hfld j f hj
  have h2 : (cs.drop f.offset).take (P.cellsOf f.type) = [cs[j]] := by
    rw [ho, hk, List.drop_eq_getElem_cons hj3]; rfl
  rw [h2, List.getElem?_eq_getElem hj4] at h1
  exact h1

/-- a slice of structs -/
theorem open_structs {P : Program} {t e : TypeId} {fs : Array Field} (ht : P.underlying t = some (.slice e)) (he : P.underlying e = some (.struct fs)) (hone : oneCellFields P fs = true) (hC : P.cellsOf e = fs.size)
    {v : Value} {d : DataW H} {ps : List MemPlace} {a : Option Addr} {len cap : Nat} (hv : v = .slice a len cap) (h : DataW.Trod enc P W 0 (fun _ => true) true t v d ps) :
    len ≤ cap ∧ len ≤ maxLen ∧ (a = none → len = 0 ∧ cap = 0 ∧ d = .nil) ∧ (∀ ad, a = some ad → ∃ (D : Nat → DataW H) (spare : List (DataW H)), d = .slice ((List.range len).map D) spare ∧ ∀ i, i < len → ElemOf enc P W fs (ad.add (i * fs.size)) (D i)) := by
  obtain ⟨fuel, hf⟩ := h
  rw [hv] at hf
  rcases open_slice ht hf with ⟨hcs, hx⟩ | ⟨x, l, c, m, n, D, Pl, hcs, _, hl, hm, hmm, hx, hi⟩
  · simp [Value.cells] at hcs
    obtain ⟨rfl, rfl, rfl⟩ := hcs
    simp only [Prod.mk.injEq] at hx
    exact ⟨Nat.le_refl _, Nat.zero_le _, fun _ => ⟨rfl, rfl, hx.1⟩, (fun ad e => by cases e)⟩
  · simp [Value.cells] at hcs
    obtain ⟨rfl, rfl, rfl⟩ := hcs
    simp only [if_true] at hmm
    simp only [Prod.mk.injEq] at hx
    refine ⟨hl, Nat.le_trans hl hm, (fun e => by cases e), fun ad e => ⟨D, _, hx.1, fun i him => ?_⟩⟩
    cases e
    obtain ⟨cs', hc, ht'⟩ := hi i (by omega)
    rw [hC] at hc
    have hc0 : W.cells? 0 (x.add (i * fs.size)) fs.size = some cs' := hc
    exact elem_of he hone hC hc0 ht'
theorem addr_plain {W : World} {a : Addr} {v : Value} (h : W.cell? a = some v) : a.spot = none := World.cell?_spot h
end
end Go.Proofs.YtgmicppfiapilaaDoor
