import Derived.Test.YtpnmoeohbbngcaaDoorStrArg
import Derived.Test.YtpnmoeohbbngcaaDoorBulk
/-
  A slice of slices of octets that came in: how long each can be.
-/
namespace Go.Proofs.YtpnmoeohbbngcaaDoor
set_option maxRecDepth 100000
section
set_option linter.unusedVariables false
open Go.ChangeShapes Go.WideShapes Go.ChangeAt Go.RowKit Go.Deep
variable {H : Type} {enc : TypeId × Value → H} {W : World}

/-- d is the reading of a slice of slices of octets that reads as ls -/
def Rows8D (d : DataW H) (ls : List (List Int)) : Prop := (d = .nil ∧ ls = []) ∨ ∃ ds spare, d = .slice ds spare ∧ ds.length = ls.length ∧ ∀ j, j < ls.length → ∃ dj, dj ∈ ds ∧ ((dj = .nil ∧ ls[j]?.getD [] = []) ∨ ∃ sp, dj = .slice (lits .u8 (ls[j]?.getD [])) sp)
theorem open_rows8D {v : Value} {d : DataW H} {ps : List MemPlace} {a : Option Addr} {len cap : Nat} (hv : v = .slice a len cap) (h : DataW.Trod enc Tryd.prog W 0 (fun _ => true) true 41 v d ps) :
    ∃ ls, Rows8 W v ls ∧ (∀ k : Nat, U8s (ls[k]?.getD [])) ∧ ls.length ≤ maxLen ∧ Rows8D d ls := by
  obtain ⟨fuel, hf⟩ := h
  rw [hv] at hf
  rcases open_slice1 Tryd.underlying41 (by kernel_rfl) hf with ⟨hcs, hx⟩ | ⟨x, l, c, m, n, V, D, Pl, hcs, _, hl, hm, hmm, hx, hcell⟩
  · simp [Value.cells] at hcs
    obtain ⟨rfl, rfl, rfl⟩ := hcs
    simp only [Prod.mk.injEq] at hx
    exact ⟨[], ⟨none, 0, hv, Nat.le_refl _, fun _ => rfl, .inl rfl⟩, fun k j hj => by simp at hj, by simp, .inl ⟨hx.1, rfl⟩⟩
  · simp [Value.cells] at hcs
    obtain ⟨rfl, rfl, rfl⟩ := hcs
    simp only [if_true] at hmm
    simp only [Prod.mk.injEq] at hx
    subst hmm
    have each : ∀ i, i < len → ∃ zs, Ints .u8 W (V i) zs ∧ U8s zs ∧ ((D i = .nil ∧ zs = []) ∨ ∃ sp, D i = .slice (lits .u8 zs) sp) := by
      intro i hi
      obtain ⟨_, ht⟩ := hcell i (by omega)
      obtain ⟨a', l', c', e⟩ := Joins.slice_form Tryd.underlying25 ht
      have e' : V i = .slice a' l' c' := by simpa using e
      obtain ⟨zs, h1, h2, _, h4⟩ := open_row (enc := enc) (W := W) (d := D i) (ps := Pl i) Tryd.underlying25 Tryd.underlying5 (by kernel_rfl) e' ⟨n, by rw [e'] at ht ⊢; simpa [Value.cells] using ht⟩
      exact ⟨zs, h1, U8s.of_wf h2, h4⟩
    obtain ⟨Z, hZ⟩ := choose_lt (α := List Int) (p := fun i zs => Ints .u8 W (V i) zs ∧ U8s zs ∧ ((D i = .nil ∧ zs = []) ∨ ∃ sp, D i = .slice (lits .u8 zs) sp)) each
    have hlen : ((List.range len).map Z).length = len := by simp
    have hget : ∀ j, j < len → ((List.range len).map Z)[j]?.getD [] = Z j := fun j hj => by simp [hj]
    refine ⟨(List.range len).map Z, ⟨some x, _, by rw [hlen]; exact hv, by rw [hlen]; exact hl, by simp, ?_⟩, ?_, by rw [hlen]; omega, .inr ⟨(List.range len).map D, _, hx.1, by simp, ?_⟩⟩
    · by_cases h0 : len = 0
      · subst h0; exact .inl (by simp)
      · right
        obtain ⟨b, off, spot⟩ := x
        have hc0 := (hcell 0 (by omega)).1
        have hspot : spot = none := by simpa [Addr.add] using World.cell?_spot hc0
        subst hspot
        refine ⟨b, off, rfl, fun j hj => ?_⟩
        rw [hlen] at hj
        have h1 := (hcell j (by omega)).1
        have h2 : ((⟨b, off, none⟩ : Addr).add j) = ⟨b, off + j, none⟩ := by unfold Addr.add; split <;> simp_all
        rw [h2] at h1
        rw [hget j hj]
        exact ⟨V j, h1, (hZ j hj).1⟩
    · intro k
      by_cases hk : k < len
      · rw [hget k hk]; exact (hZ k hk).2.1
      · rw [List.getElem?_eq_none (by rw [hlen]; omega)]; exact fun j hj => by simp at hj
    · intro j hj
      rw [hlen] at hj
      rw [hget j hj]
      exact ⟨D j, List.mem_map.2 ⟨j, by simpa using hj, rfl⟩, (hZ j hj).2.2⟩
/-- what the form's own reach says of each -/
theorem reach_rows8 {ts : List TypeId} {ds : List (DataW H)} {j : Nat} {ls : List (List Int)} {d : DataW H} (hD : Rows8D d ls)
    (h : (DataW.weightsEach Tryd.prog ts ds).all (· ≤ reachBytes) = true) (ht : ts[j]? = some 41) (hd : ds[j]? = some d) : ∀ k : Nat, (ls[k]?.getD []).length ≤ 140737488351232 := by
  intro k
  by_cases hk : k < ls.length
  · rcases hD with ⟨_, rfl⟩ | ⟨es, spare, rfl, hl, hall⟩
    · simp at hk
    · obtain ⟨dj, hmem, hdj⟩ := hall k hk
      rcases hdj with ⟨_, h0⟩ | ⟨sp, rfl⟩
      · rw [h0]; simp
      · have hb : Tryd.prog.bytesOf 5 = 1 := by kernel_rfl
        have h1 := List.all_eq_true.1 h _ (DataW.weights_mem_each ht hd (((lits (H := H) .u8 (ls[k]?.getD [])).length + sp.length) * 1) (by
          simp only [DataW.weights, Tryd.underlying41, List.mem_cons, List.mem_append]
          refine .inr (.inl (weights_all (d := .slice (lits .u8 (ls[k]?.getD [])) sp) hmem ?_))
          simp only [DataW.weights, Tryd.underlying25, List.mem_cons, hb, true_or]))
        simp only [lits, List.length_map, reachBytes, decide_eq_true_eq] at h1
        omega
  · rw [List.getElem?_eq_none (by omega)]; simp
end
end Go.Proofs.YtpnmoeohbbngcaaDoor
