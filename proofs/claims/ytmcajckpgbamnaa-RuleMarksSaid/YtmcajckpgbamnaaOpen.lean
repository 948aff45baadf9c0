import Derived.ProofKit
import Derived.OpenShut
import Derived.ChangeOld
import Derived.Below
import Derived.Deep.Slices
import Derived.SizedLaws
import Derived.Lib.SmallJoins
import Derived.Deep.Fields
import Derived.ChangeSame
import Derived.Test.YtmcajckpgbamnaaBase
namespace Go.Proofs.Ytmcajckpgbamnaa
/-
  What came in, opened: slices of numbers, slices of slices of octets; and how many values a reading holds.
-/
section
set_option linter.unusedVariables false
open Go.ChangeShapes Go.WideShapes Go.ChangeAt Go.RowKit Go.Deep

theorem own : ownKnob Try.prog.godebug = none := by kernel_rfl
theorem laidOut : laidOutB Try.prog = true := by kernel_rfl

section
variable {H : Type} {enc : TypeId × Value → H} {W : World}

theorem trod_below {t : TypeId} {v : Value} {d : DataW H} {ps : List MemPlace} (h : DataW.Trod enc Try.prog W 0 (fun _ => true) true t v d ps) : ∀ x ∈ ps, x.block < W.heap.size := by
  obtain ⟨m, hm⟩ := h; exact DataW.trod_lt m _ _ _ hm

/-- a slice of numbers of one kind -/
theorem open_row {P : Program} {t e : TypeId} {k : IntKind} {v : Value} {d : DataW H} {ps : List MemPlace} (ht : P.underlying t = some (.slice e)) (he : P.underlying e = some (.int k)) (hc : P.cellsOf e = 1)
    {a : Option Addr} {len cap : Nat} (hv : v = .slice a len cap) (h : DataW.Trod enc P W 0 (fun _ => true) true t v d ps) :
    ∃ zs, Ints k W v zs ∧ (∀ j, j < zs.length → (Lit.int k (zs[j]?.getD 0)).wf = true) ∧ zs.length ≤ maxLen ∧ ((d = .nil ∧ zs = []) ∨ ∃ spare, d = .slice (lits k zs) spare) := by
  obtain ⟨fuel, hf⟩ := h
  rw [hv] at hf
  rcases open_ints ht he hc hf with ⟨hcs, hx⟩ | ⟨x, l, c, zs, hcs, _, hl, hm, hz, hx, hcell, hwz⟩
  · simp [Value.cells] at hcs
    obtain ⟨rfl, rfl, rfl⟩ := hcs
    simp only [Prod.mk.injEq] at hx
    exact ⟨[], ⟨none, 0, hv, Nat.le_refl _, fun _ => rfl, .inl rfl⟩, fun j hj => by simp at hj, by simp, .inl ⟨hx.1, rfl⟩⟩
  · simp [Value.cells] at hcs
    obtain ⟨rfl, rfl, rfl⟩ := hcs
    simp only [if_true] at hz
    simp only [Prod.mk.injEq] at hx
    have htl : (zs.take len).length = len := by rw [List.length_take]; omega
    refine ⟨zs.take len, ⟨some x, cap, by rw [htl]; exact hv, by rw [htl]; exact hl, by simp, ?_⟩, ?_, by rw [htl]; omega, .inr ⟨_, hx.1⟩⟩
    · by_cases h0 : len = 0
      · subst h0; exact .inl (by simp)
      · right
        obtain ⟨b, off, spot⟩ := x
        have hc0 := hcell 0 (by omega)
        have hspot : spot = none := by simpa [Addr.add] using World.cell?_spot hc0
        subst hspot
        refine ⟨b, off, rfl, fun j hj => ?_⟩
        rw [htl] at hj
        have h1 := hcell j (by omega)
        have h2 : ((⟨b, off, none⟩ : Addr).add j) = ⟨b, off + j, none⟩ := by unfold Addr.add; split <;> simp_all
        rw [h2] at h1
        rw [h1]
        simp [List.getD, hj]
    · intro j hj
      rw [htl] at hj
      have h3 : j < zs.length := by omega
      have h4 : (zs.take len)[j]?.getD 0 = zs[j] := by simp [hj, h3]
      rw [h4]
      exact hwz _ (List.getElem_mem h3)

theorem U8s.of_wf {zs : List Int} (h : ∀ j, j < zs.length → (Lit.int .u8 (zs[j]?.getD 0)).wf = true) : U8s zs := by
  intro j hj
  have := h j hj
  simp [Lit.wf, IntKind.min, IntKind.max, IntKind.signed, IntKind.bits] at this
  constructor <;> omega
theorem u32s_of_wf {zs : List Int} (h : ∀ j, j < zs.length → (Lit.int .u32 (zs[j]?.getD 0)).wf = true) : ∀ j, j < zs.length → 0 ≤ zs[j]?.getD 0 ∧ zs[j]?.getD 0 < 4294967296 := by
  intro j hj
  have := h j hj
  simp [Lit.wf, IntKind.min, IntKind.max, IntKind.signed, IntKind.bits] at this
  constructor <;> omega
theorem i64_of_wf {a : Int} (h : (Lit.int .i64 a).wf = true) : -9223372036854775808 ≤ a ∧ a ≤ 9223372036854775807 := by
  simpa [Lit.wf, IntKind.min, IntKind.max, IntKind.signed, IntKind.bits] using h
/-- what the form's own reach says of one slice of numbers -/
theorem reach_row {P : Program} {ts : List TypeId} {ds : List (DataW H)} {j : Nat} {t e : TypeId} {k : IntKind} {zs : List Int} {d : DataW H} {n : Nat} (hb : P.bytesOf e = n) (hD : (d = .nil ∧ zs = []) ∨ ∃ spare, d = .slice (lits k zs) spare)
    (hu : P.underlying t = some (.slice e)) (h : (DataW.weightsEach P ts ds).all (· ≤ reachBytes) = true) (ht : ts[j]? = some t) (hd : ds[j]? = some d) : zs.length * n ≤ 140737488351232 := by
  rcases hD with ⟨_, rfl⟩ | ⟨spare, rfl⟩
  · simp
  · have h1 := sized_slice h (j := j) (t := t) (e := e) ht hd hu
    rw [hb] at h1
    simp only [lits, List.length_map, reachBytes] at h1
    have h2 : zs.length * n ≤ (zs.length + spare.length) * n := Nat.mul_le_mul_right _ (by omega)
    omega
end
theorem bytes_u8 : Try.prog.bytesOf 5 = 1 := by kernel_rfl
theorem bytes_u32 : Try.prog.bytesOf 77 = 4 := by kernel_rfl
end

/-
  How many values a reading holds; a slice of slices of octets, opened.
-/
section
set_option linter.unusedVariables false
open Go.ChangeShapes Go.WideShapes Go.ChangeAt Go.RowKit Go.Deep

section
variable {H : Type} {enc : TypeId × Value → H} {W : World}

theorem U8s.flatten : ∀ {ls : List (List Int)}, (∀ j, j < ls.length → U8s (ls[j]?.getD [])) → U8s ls.flatten
  | [], _ => fun j hj => by simp at hj
  | l :: ls, h => by
    have h0 : U8s l := h 0 (by simp)
    have h1 : U8s ls.flatten := U8s.flatten fun j hj => by simpa using h (j + 1) (by simp; omega)
    rw [List.flatten_cons]
    intro j hj
    by_cases hl : j < l.length
    · rw [List.getElem?_append_left hl]; exact h0.at l j
    · rw [List.getElem?_append_right (by omega)]; exact h1.at _ _
theorem bulk_pos (d : DataW H) : 1 ≤ Rows.uptoBulk d := by
  cases d with
  | lit l => cases l <;> simp [Rows.uptoBulk]
  | nil => simp [Rows.uptoBulk]
  | ptr d => simp [Rows.uptoBulk]
  | slice elems spare => simp [Rows.uptoBulk]
  | agg parts => simp [Rows.uptoBulk]
  | iface t d => simp [Rows.uptoBulk]
  | map entries => simp [Rows.uptoBulk]
  | held h => simp [Rows.uptoBulk]

theorem bulk_mem {d : DataW H} {l : List (DataW H)} (h : d ∈ l) : Rows.uptoBulk d ≤ Rows.uptoBulkAll l := by
  induction l with
  | nil => cases h
  | cons x r ih =>
    simp only [Rows.uptoBulkAll]
    rcases List.mem_cons.1 h with rfl | e
    · omega
    · have := ih e; omega

theorem bulkAll_len (l : List (DataW H)) : l.length ≤ Rows.uptoBulkAll l := by
  induction l with
  | nil => simp [Rows.uptoBulkAll]
  | cons x r ih => have := bulk_pos x; simp only [Rows.uptoBulkAll, List.length_cons]; omega

theorem bulk_row {k : IntKind} {zs : List Int} {d : DataW H} (hD : (d = .nil ∧ zs = []) ∨ ∃ spare, d = .slice (lits k zs) spare) : zs.length + 1 ≤ Rows.uptoBulk d := by
  rcases hD with ⟨rfl, rfl⟩ | ⟨spare, rfl⟩
  · simp [Rows.uptoBulk]
  · simp only [Rows.uptoBulk]
    have h := bulkAll_len (lits (H := H) k zs)
    simp only [lits, List.length_map] at h
    simp only [lits]
    omega

theorem bulk_map {n : Nat} (D : Nat → DataW H) (Z : Nat → List Int) (h : ∀ i, i < n → (Z i).length + 1 ≤ Rows.uptoBulk (D i)) :
    n + ((List.range n).map Z).flatten.length ≤ Rows.uptoBulkAll ((List.range n).map D) := by
  induction n with
  | zero => simp [Rows.uptoBulkAll]
  | succ n ih =>
    have h1 := ih fun i hi => h i (by omega)
    have h2 := h n (by omega)
    have app : ∀ l r : List (DataW H), Rows.uptoBulkAll (l ++ r) = Rows.uptoBulkAll l + Rows.uptoBulkAll r := by
      intro l r
      induction l with
      | nil => simp [Rows.uptoBulkAll]
      | cons x l ih => simp only [List.cons_append, Rows.uptoBulkAll, ih]; omega
    rw [List.range_succ, List.map_append, List.map_append, app, List.flatten_append, List.length_append]
    simp only [List.map_cons, List.map_nil, Rows.uptoBulkAll, List.flatten_cons, List.flatten_nil, List.append_nil]
    omega

theorem bulk_small {l : List (DataW H)} (h : Rows.uptoSmall H l = true) : Rows.uptoBulkAll l ≤ 1048576 := of_decide_eq_true h

theorem bulk_at {l : List (DataW H)} {d : DataW H} (h : Rows.uptoSmall H l = true) (hd : d ∈ l) : Rows.uptoBulk d ≤ 1048576 := Nat.le_trans (bulk_mem hd) (bulk_small h)

end
end

/-
  Slices of structs that came in: every field of every element, where it lies, and what it reads as.
-/
section
set_option maxRecDepth 100000
section
set_option linter.unusedVariables false
open Go.ChangeShapes Go.WideShapes Go.ChangeAt Go.RowKit Go.Deep
variable {H : Type} {enc : TypeId × Value → H} {W : World}

/-- what one element is: its cells, one a field, and the reading of each -/
def ElemOf (enc : TypeId × Value → H) (P : Program) (W : World) (fs : Array Field) (a : Addr) (d : DataW H) : Prop :=
  ∃ (n : Nat) (vs : List Value) (ys : List (DataW H × List MemPlace)), vs.length = fs.size ∧ ys.length = fs.size ∧ d = .agg (ys.map (·.1)) ∧
    ∀ (j : Nat) (f : Field), fs[j]? = some f → ∃ v y, vs[j]? = some v ∧ ys[j]? = some y ∧ W.cell? (a.add j) = some v ∧ DataW.trod enc P W 0 (fun _ => true) true n f.type [v] = some y

theorem elem_of {P : Program} {e : TypeId} {fs : Array Field} (he : P.underlying e = some (.struct fs)) (hone : oneCellFields P fs = true) (hC : P.cellsOf e = fs.size)
    {a : Addr} {n : Nat} {cs : List Value} {d : DataW H} {pl : List MemPlace} (hcs : W.cells? 0 a fs.size = some cs) (h : DataW.trod enc P W 0 (fun _ => true) true n e cs = some (d, pl)) : ElemOf enc P W fs a d := by
  obtain ⟨_, hcl, hat⟩ := World.cells?_some hcs
  obtain ⟨ys, m, _, hx, _, hyl, hfld⟩ := DataW.trod_struct he h
  simp only [Prod.mk.injEq] at hx
  refine ⟨m, cs, ys, hcl, hyl, hx.1, fun j f hj => ?_⟩
  have hj2 : j < fs.size := (Array.getElem?_eq_some_iff.1 hj).1
  have hj3 : j < cs.length := by omega
  have hj4 : j < ys.length := by omega
  obtain ⟨ho, hk⟩ := hone_of hone j f hj
  refine ⟨cs[j], ys[j], List.getElem?_eq_getElem hj3, List.getElem?_eq_getElem hj4, (hat j hj2).trans (List.getElem?_eq_getElem hj3), ?_⟩
  have h1 := hfld j f hj
  have h2 : (cs.drop f.offset).take (P.cellsOf f.type) = [cs[j]] := by
    rw [ho, hk, List.drop_eq_getElem_cons hj3]; rfl
  rw [h2, List.getElem?_eq_getElem hj4] at h1
  exact h1

/-- a slice of structs -/
theorem open_structs {P : Program} {t e : TypeId} {fs : Array Field} (ht : P.underlying t = some (.slice e)) (he : P.underlying e = some (.struct fs)) (hone : oneCellFields P fs = true) (hC : P.cellsOf e = fs.size)
    {v : Value} {d : DataW H} {ps : List MemPlace} {a : Option Addr} {len cap : Nat} (hv : v = .slice a len cap) (h : DataW.Trod enc P W 0 (fun _ => true) true t v d ps) :
    len ≤ cap ∧ len ≤ maxLen ∧ (a = none → len = 0 ∧ cap = 0 ∧ d = .nil) ∧ (∀ ad, a = some ad → ∃ (D : Nat → DataW H) (spare : List (DataW H)), d = .slice ((List.range len).map D) spare ∧ ∀ i, i < len → ElemOf enc P W fs (ad.add (i * fs.size)) (D i)) := by
  obtain ⟨fuel, hf⟩ := h
  rw [hv] at hf
  rcases open_slice ht hf with ⟨hcs, hx⟩ | ⟨x, l, c, m, n, D, Pl, hcs, _, hl, hm, hmm, hx, hi⟩
  · simp [Value.cells] at hcs
    obtain ⟨rfl, rfl, rfl⟩ := hcs
    simp only [Prod.mk.injEq] at hx
    exact ⟨Nat.le_refl _, Nat.zero_le _, fun _ => ⟨rfl, rfl, hx.1⟩, (fun ad e => by cases e)⟩
  · simp [Value.cells] at hcs
    obtain ⟨rfl, rfl, rfl⟩ := hcs
    simp only [if_true] at hmm
    simp only [Prod.mk.injEq] at hx
    refine ⟨hl, Nat.le_trans hl hm, (fun e => by cases e), fun ad e => ⟨D, _, hx.1, fun i him => ?_⟩⟩
    cases e
    obtain ⟨cs', hc, ht'⟩ := hi i (by omega)
    rw [hC] at hc
    have hc0 : W.cells? 0 (x.add (i * fs.size)) fs.size = some cs' := hc
    exact elem_of he hone hC hc0 ht'
theorem addr_plain {W : World} {a : Addr} {v : Value} (h : W.cell? a = some v) : a.spot = none := World.cell?_spot h
end
end

/-
  A struct of one-cell fields that came in by value, opened: any number of fields.
-/
section
set_option maxRecDepth 100000
section
set_option linter.unusedVariables false
open Go.ChangeShapes Go.WideShapes Go.ChangeAt Go.RowKit Go.Deep Go.Joins
variable {H : Type} {enc : TypeId × Value → H} {W : World}

theorem open_agg {P : Program} {r : Reach} {b0 : Nat} {t : TypeId} {fs : Array Field} {v : Value} {d : DataW H} {p : List MemPlace} (hs : P.underlying t = some (.struct fs)) (hone : oneCellFields P fs = true) (hC : P.cellsOf t = fs.size)
    (hv : Value.okWide P W r b0 t v) (h : DataW.Trod enc P W 0 (fun _ => true) true t v d p) :
    ∃ (n : Nat) (cs : Array Value) (ys : List (DataW H × List MemPlace)), v = .agg cs ∧ cs.size = fs.size ∧ ys.length = fs.size ∧ d = .agg (ys.map (·.1)) ∧
      ∀ (j : Nat) (f : Field), fs[j]? = some f → ∃ c y, cs[j]? = some c ∧ ys[j]? = some y ∧ DataW.trod enc P W 0 (fun _ => true) true n f.type [c] = some y := by
  obtain ⟨cs, rfl, hsz⟩ := okWide_struct hs hv
  obtain ⟨fuel, hf⟩ := h
  obtain ⟨ys, m, _, hx, _, hyl, hfld⟩ := DataW.trod_struct hs hf
  simp only [Prod.mk.injEq] at hx
  rw [hC] at hsz
  refine ⟨m, cs, ys, rfl, hsz, hyl, hx.1, fun j f hj => ?_⟩
  have hj2 : j < fs.size := (Array.getElem?_eq_some_iff.1 hj).1
  have hj3 : j < cs.toList.length := by simp; omega
  have hj4 : j < ys.length := by omega
  obtain ⟨ho, hk⟩ := hone_of hone j f hj
  have h1 := hfld j f hj
  have h2 : ((Value.agg cs).cells.toList.drop f.offset).take (P.cellsOf f.type) = [cs.toList[j]] := by
    show (cs.toList.drop f.offset).take (P.cellsOf f.type) = [cs.toList[j]]
    rw [ho, hk, List.drop_eq_getElem_cons hj3]; rfl
  rw [h2, List.getElem?_eq_getElem hj4] at h1
  refine ⟨cs.toList[j], ys[j], by simp at hj3 ⊢, List.getElem?_eq_getElem hj4, h1⟩
theorem array_five {α : Type} {cs : Array α} {c0 c1 c2 c3 c4 : α} (h : cs.size = 5) (h0 : cs[0]? = some c0) (h1 : cs[1]? = some c1) (h2 : cs[2]? = some c2) (h3 : cs[3]? = some c3) (h4 : cs[4]? = some c4) : cs = #[c0, c1, c2, c3, c4] := by
  obtain ⟨l⟩ := cs
  match l, h with
  | [d0, d1, d2, d3, d4], _ => simp at h0 h1 h2 h3 h4; subst h0 h1 h2 h3 h4; rfl
end
end
end Go.Proofs.Ytmcajckpgbamnaa
