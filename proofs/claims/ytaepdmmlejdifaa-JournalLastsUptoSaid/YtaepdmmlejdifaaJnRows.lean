import Derived.RangeFuncBox
import Derived.RangeFuncNested
import Derived.Test.YtaepdmmlejdifaaUps
import Derived.Test.YtaepdmmlejdifaaOct
namespace Go.Proofs.Ytaepdmmlejdifaa
/-
  Slices of octets, and slices of these, of which is known in which blocks they lie.
-/
section
set_option maxRecDepth 100000
section
set_option linter.unusedVariables false
open Go.RowKit

def IntsF (F : Nat → Prop) (W : World) (v : Value) (zs : List Int) : Prop :=
  ∃ a cap, v = .slice a zs.length cap ∧ zs.length ≤ cap ∧ (a = none → cap = 0) ∧ (zs = [] ∨ ∃ b off, a = some ⟨b, off, none⟩ ∧ F b ∧ ∀ j, j < zs.length → W.cell? ⟨b, off + j, none⟩ = some (.int .u8 (zs[j]?.getD 0)))
def RowsF (F : Nat → Prop) (W : World) (v : Value) (ls : List (List Int)) : Prop :=
  ∃ a cap, v = .slice a ls.length cap ∧ ls.length ≤ cap ∧ (a = none → cap = 0) ∧ (ls = [] ∨ ∃ b off, a = some ⟨b, off, none⟩ ∧ F b ∧ ∀ j, j < ls.length → ∃ u, W.cell? ⟨b, off + j, none⟩ = some u ∧ IntsF F W u (ls[j]?.getD []))
section
variable {F G : Nat → Prop} {W W' : World} {v : Value} {zs : List Int} {ls : List (List Int)}
theorem IntsF.ints (h : IntsF F W v zs) : Ints .u8 W v zs := by
  obtain ⟨a, cap, h1, h2, h3, h4⟩ := h
  exact ⟨a, cap, h1, h2, h3, h4.imp id fun ⟨b, off, h5, _, h6⟩ => ⟨b, off, h5, h6⟩⟩
theorem RowsF.rows (h : RowsF F W v ls) : Rows8 W v ls := by
  obtain ⟨a, cap, h1, h2, h3, h4⟩ := h
  exact ⟨a, cap, h1, h2, h3, h4.imp id fun ⟨b, off, h5, _, h6⟩ => ⟨b, off, h5, fun j hj => (h6 j hj).imp fun u hu => ⟨hu.1, hu.2.ints⟩⟩⟩
/-- what keeps these blocks keeps it -/
theorem IntsF.keep (h : IntsF F W v zs) (hk : ∀ b, F b → b < W.heap.size → W'.heap[b]? = W.heap[b]?) : IntsF F W' v zs := by
  obtain ⟨a, cap, h1, h2, h3, h4⟩ := h
  exact ⟨a, cap, h1, h2, h3, h4.imp id fun ⟨b, off, h5, h0, h6⟩ => ⟨b, off, h5, h0, fun j hj => (World.cell?_of_block (a := ⟨b, off + j, none⟩) (hk b h0 (World.block_lt_of_cell? W _ (h6 j hj)))).trans (h6 j hj)⟩⟩
theorem RowsF.keep (h : RowsF F W v ls) (hk : ∀ b, F b → b < W.heap.size → W'.heap[b]? = W.heap[b]?) : RowsF F W' v ls := by
  obtain ⟨a, cap, h1, h2, h3, h4⟩ := h
  exact ⟨a, cap, h1, h2, h3, h4.imp id fun ⟨b, off, h5, h0, h6⟩ => ⟨b, off, h5, h0, fun j hj => (h6 j hj).imp fun u hu => ⟨(World.cell?_of_block (a := ⟨b, off + j, none⟩) (hk b h0 (World.block_lt_of_cell? W _ hu.1))).trans hu.1, hu.2.keep hk⟩⟩⟩
theorem IntsF.weak (h : IntsF F W v zs) (hk : ∀ b, F b → b < W.heap.size → G b) : IntsF G W v zs := by
  obtain ⟨a, cap, h1, h2, h3, h4⟩ := h
  by_cases h0 : 0 < zs.length
  · exact ⟨a, cap, h1, h2, h3, h4.imp id fun ⟨b, off, h5, hF, h6⟩ => ⟨b, off, h5, hk b hF (World.block_lt_of_cell? W _ (h6 0 h0)), h6⟩⟩
  · exact ⟨a, cap, h1, h2, h3, .inl (List.eq_nil_of_length_eq_zero (by omega))⟩
theorem RowsF.weak (h : RowsF F W v ls) (hk : ∀ b, F b → b < W.heap.size → G b) : RowsF G W v ls := by
  obtain ⟨a, cap, h1, h2, h3, h4⟩ := h
  by_cases h0 : 0 < ls.length
  · refine ⟨a, cap, h1, h2, h3, h4.imp id fun ⟨b, off, h5, hF, h6⟩ => ⟨b, off, h5, ?_, fun j hj => (h6 j hj).imp fun u hu => ⟨hu.1, hu.2.weak hk⟩⟩⟩
    obtain ⟨u, hu, _⟩ := h6 0 h0
    exact hk b hF (World.block_lt_of_cell? W _ hu)
  · exact ⟨a, cap, h1, h2, h3, .inl (List.eq_nil_of_length_eq_zero (by omega))⟩
theorem IntsF.up (h : IntsF F W v zs) (hu : Up W W') : IntsF F W' v zs := h.keep fun b _ hb => hu.block b hb
theorem RowsF.up (h : RowsF F W v ls) (hu : Up W W') : RowsF F W' v ls := h.keep fun b _ hb => hu.block b hb
theorem IntsF.of (h : Ints .u8 W v zs) (hF : ∀ b, b < W.heap.size → F b) : IntsF F W v zs := by
  obtain ⟨a, cap, h1, h2, h3, h4⟩ := h
  by_cases h0 : 0 < zs.length
  · exact ⟨a, cap, h1, h2, h3, h4.imp id fun ⟨b, off, h5, h6⟩ => ⟨b, off, h5, hF b (World.block_lt_of_cell? W _ (h6 0 h0)), h6⟩⟩
  · exact ⟨a, cap, h1, h2, h3, .inl (List.eq_nil_of_length_eq_zero (by omega))⟩
theorem RowsF.of (h : Rows8 W v ls) (hF : ∀ b, b < W.heap.size → F b) : RowsF F W v ls := by
  obtain ⟨a, cap, h1, h2, h3, h4⟩ := h
  by_cases h0 : 0 < ls.length
  · refine ⟨a, cap, h1, h2, h3, h4.imp id fun ⟨b, off, h5, h6⟩ => ⟨b, off, h5, ?_, fun j hj => (h6 j hj).imp fun u hu => ⟨hu.1, IntsF.of hu.2 hF⟩⟩⟩
    obtain ⟨u, hu, _⟩ := h6 0 h0
    exact hF b (World.block_lt_of_cell? W _ hu)
  · exact ⟨a, cap, h1, h2, h3, .inl (List.eq_nil_of_length_eq_zero (by omega))⟩
theorem IntsF.of_row {base : Nat} {e : TypeId} {n : Nat} (h : W.ownsRow base e 1 v n (zs.map (Value.int .u8))) (hF : ∀ b, base ≤ b → F b) : IntsF F W v zs := by
  obtain ⟨a, cap, h1, h2, h3, h4⟩ := Ints.of_row h
  refine ⟨a, cap, h1, h2, h3, h4.imp id ?_⟩
  rintro ⟨b, off, h5, h6⟩
  exact ⟨b, off, h5, hF b (h.lt b (by rw [h1, h5]; rfl)).1, h6⟩
/-- a row of one's own, of slices -/
theorem RowsF.of_row {base : Nat} {e : TypeId} {n : Nat} {us : List Value} (h : W.ownsRow base e 1 v n us) (hl : us.length = ls.length) (hF : ∀ b, base ≤ b → F b) (hu : ∀ j, j < ls.length → IntsF F W (us.getD j undef) (ls[j]?.getD [])) : RowsF F W v ls := by
  have hn : n = ls.length := by have := h.1; rw [Nat.mul_one] at this; omega
  subst hn
  rcases h.2 with ⟨rfl, h0⟩ | ⟨g, cap, cur, rfl, hg, hh, hle, hm, hs, ht⟩
  · obtain rfl := List.eq_nil_of_length_eq_zero h0
    exact ⟨none, 0, rfl, Nat.le_refl _, fun _ => rfl, .inl rfl⟩
  · refine ⟨_, cap, rfl, hle, by simp, .inr ⟨g, 0, rfl, hF g hg, fun j hj => ⟨us.getD j undef, ?_, hu j hj⟩⟩⟩
    have := h.cellAt j (by omega)
    rw [Nat.zero_add, this]
    simp [List.getD, hl, hj]
end
theorem undef_getD {us : List Value} {j : Nat} (h : j < us.length) (x : Value) : (us ++ [x]).getD j undef = us.getD j undef := by
  simp [List.getD, List.getElem?_append_left h]
theorem last_getD (us : List Value) (x : Value) : (us ++ [x]).getD us.length undef = x := by simp [List.getD]
end
end
end Go.Proofs.Ytaepdmmlejdifaa
