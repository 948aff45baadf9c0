import Derived.Lib.SmallJoins
import Derived.Test.YtbdjbmgeelleiaaDoorOpen
/-
  How many values a reading holds; a slice of slices of octets, opened.
-/
namespace Go.Proofs.YtbdjbmgeelleiaaDoor
set_option linter.unusedVariables false
open Go.ChangeShapes Go.WideShapes Go.ChangeAt Go.RowKit Go.Deep

section
variable {H : Type} {enc : TypeId × Value → H} {W : World}

theorem U8s.flatten : ∀ {ls : List (List Int)}, (∀ j, j < ls.length → U8s (ls[j]?.getD [])) → U8s ls.flatten
  | [], _ => fun j hj => by simp at hj
  | l :: ls, h => by
    have h0 : U8s l := h 0 (by simp)
    have h1 : U8s ls.flatten := U8s.flatten fun j hj => by simpa using h (j + 1) (by simp; omega)
    rw [List.flatten_cons]
    intro j hj
    by_cases hl : j < l.length
    · rw [List.getElem?_append_left hl]; exact h0.at l j
    · rw [List.getElem?_append_right (by omega)]; exact h1.at _ _
theorem bulk_pos (d : DataW H) : 1 ≤ Rows.uptoBulk d := by
  cases d with
  | lit l => cases l <;> simp [Rows.uptoBulk]
  | nil => simp [Rows.uptoBulk]
  | ptr d => simp [Rows.uptoBulk]
  | slice elems spare => simp [Rows.uptoBulk]
  | agg parts => simp [Rows.uptoBulk]
  | iface t d => simp [Rows.uptoBulk]
  | map entries => simp [Rows.uptoBulk]
  | held h => simp [Rows.uptoBulk]

theorem bulk_mem {d : DataW H} {l : List (DataW H)} (h : d ∈ l) : Rows.uptoBulk d ≤ Rows.uptoBulkAll l := by
  induction l with
  | nil => cases h
  | cons x r ih =>
    simp only [Rows.uptoBulkAll]
    rcases List.mem_cons.1 h with rfl | e
    · omega
    · have := ih e; omega

theorem bulkAll_len (l : List (DataW H)) : l.length ≤ Rows.uptoBulkAll l := by
  induction l with
  | nil => simp [Rows.uptoBulkAll]
  | cons x r ih => have := bulk_pos x; simp only [Rows.uptoBulkAll, List.length_cons]; omega

theorem bulk_row {k : IntKind} {zs : List Int} {d : DataW H} (hD : (d = .nil ∧ zs = []) ∨ ∃ spare, d = .slice (lits k zs) spare) : zs.length + 1 ≤ Rows.uptoBulk d := by
  rcases hD with ⟨rfl, rfl⟩ | ⟨spare, rfl⟩
  · simp [Rows.uptoBulk]
  · simp only [Rows.uptoBulk]
    have h := bulkAll_len (lits (H := H) k zs)
    simp only [lits, List.length_map] at h
    simp only [lits]
    omega

theorem bulk_map {n : Nat} (D : Nat → DataW H) (Z : Nat → List Int) (h : ∀ i, i < n → (Z i).length + 1 ≤ Rows.uptoBulk (D i)) :
    n + ((List.range n).map Z).flatten.length ≤ Rows.uptoBulkAll ((List.range n).map D) := by
  induction n with
  | zero => simp [Rows.uptoBulkAll]
  | succ n ih =>
    have h1 := ih fun i hi => h i (by omega)
    have h2 := h n (by omega)
    have app : ∀ l r : List (DataW H), Rows.uptoBulkAll (l ++ r) = Rows.uptoBulkAll l + Rows.uptoBulkAll r := by
      intro l r
      induction l with
      | nil => simp [Rows.uptoBulkAll]
      | cons x l ih => simp only [List.cons_append, Rows.uptoBulkAll, ih]; omega
    rw [List.range_succ, List.map_append, List.map_append, app, List.flatten_append, List.length_append]
    simp only [List.map_cons, List.map_nil, Rows.uptoBulkAll, List.flatten_cons, List.flatten_nil, List.append_nil]
    omega

theorem bulk_small {l : List (DataW H)} (h : Rows.uptoSmall H l = true) : Rows.uptoBulkAll l ≤ 1048576 := of_decide_eq_true h

theorem bulk_at {l : List (DataW H)} {d : DataW H} (h : Rows.uptoSmall H l = true) (hd : d ∈ l) : Rows.uptoBulk d ≤ 1048576 := Nat.le_trans (bulk_mem hd) (bulk_small h)

/-- A SLICE OF SLICES OF OCTETS. -/
theorem open_rows8 {v : Value} {d : DataW H} {ps : List MemPlace} {a : Option Addr} {len cap : Nat} (hv : v = .slice a len cap) (h : DataW.Trod enc Tryd.prog W 0 (fun _ => true) true 108 v d ps) :
    ∃ ls, Rows8 W v ls ∧ (∀ j, j < ls.length → U8s (ls[j]?.getD [])) ∧ ls.length ≤ maxLen ∧ ls.length + ls.flatten.length ≤ Rows.uptoBulk d := by
  obtain ⟨fuel, hf⟩ := h
  rw [hv] at hf
  rcases open_slice1 Tryd.underlying108 (by kernel_rfl) hf with ⟨hcs, hx⟩ | ⟨x, l, c, m, n, V, D, Pl, hcs, _, hl, hm, hmm, hx, hcell⟩
  · simp [Value.cells] at hcs
    obtain ⟨rfl, rfl, rfl⟩ := hcs
    exact ⟨[], ⟨none, 0, hv, Nat.le_refl _, fun _ => rfl, .inl rfl⟩, fun j hj => by simp at hj, by simp, by simp⟩
  · simp [Value.cells] at hcs
    obtain ⟨rfl, rfl, rfl⟩ := hcs
    simp only [if_true] at hmm
    simp only [Prod.mk.injEq] at hx
    subst hmm
    have each : ∀ i, i < len → ∃ zs, Ints .u8 W (V i) zs ∧ U8s zs ∧ zs.length + 1 ≤ Rows.uptoBulk (D i) := by
      intro i hi
      obtain ⟨_, ht⟩ := hcell i (by omega)
      obtain ⟨a', l', c', e⟩ := Joins.slice_form Tryd.underlying25 ht
      have e' : V i = .slice a' l' c' := by simpa using e
      obtain ⟨zs, h1, h2, _, h4⟩ := open_row (enc := enc) (W := W) (d := D i) (ps := Pl i) Tryd.underlying25 Tryd.underlying5 (by kernel_rfl) e' ⟨n, by rw [e'] at ht ⊢; simpa [Value.cells] using ht⟩
      exact ⟨zs, h1, U8s.of_wf h2, bulk_row h4⟩
    obtain ⟨Z, hZ⟩ := choose_lt (α := List Int) (p := fun i zs => Ints .u8 W (V i) zs ∧ U8s zs ∧ zs.length + 1 ≤ Rows.uptoBulk (D i)) each
    have hlen : ((List.range len).map Z).length = len := by simp
    have hget : ∀ j, j < len → ((List.range len).map Z)[j]?.getD [] = Z j := fun j hj => by simp [hj]
    refine ⟨(List.range len).map Z, ⟨some x, _, by rw [hlen]; exact hv, by rw [hlen]; exact hl, by simp, ?_⟩, ?_, by rw [hlen]; omega, ?_⟩
    · by_cases h0 : len = 0
      · subst h0; exact .inl (by simp)
      · right
        obtain ⟨b, off, spot⟩ := x
        have hc0 := (hcell 0 (by omega)).1
        have hspot : spot = none := by simpa [Addr.add] using World.cell?_spot hc0
        subst hspot
        refine ⟨b, off, rfl, fun j hj => ?_⟩
        rw [hlen] at hj
        have h1 := (hcell j (by omega)).1
        have h2 : ((⟨b, off, none⟩ : Addr).add j) = ⟨b, off + j, none⟩ := by unfold Addr.add; split <;> simp_all
        rw [h2] at h1
        rw [hget j hj]
        exact ⟨V j, h1, (hZ j hj).1⟩
    · intro j hj
      rw [hlen] at hj
      rw [hget j hj]
      exact (hZ j hj).2.1
    · rw [hlen, hx.1]
      have := bulk_map D Z (fun i hi => (hZ i hi).2.2)
      simp only [Rows.uptoBulk]
      omega
end
end Go.Proofs.YtbdjbmgeelleiaaDoor
