import Derived.WalkKit
import Derived.Deep.Draws
import Derived.Outline
import Derived.Lib.Hide
import Derived.Test.YtjjaefacfcjgiaaRows
import Derived.Test.YtjjaefacfcjgiaaBits
namespace Go.Proofs.Ytjjaefacfcjgiaa
open Go.RowKit
set_option linter.unusedVariables false

/-- v IS A SLICE THAT READS AS THE NUMBERS zs OF KIND k (nil where there are none, or not). -/
def Ints (k : IntKind) (W : World) (v : Value) (zs : List Int) : Prop :=
  ∃ a cap, v = .slice a zs.length cap ∧ zs.length ≤ cap ∧ (a = none → cap = 0) ∧ (zs = [] ∨ ∃ b off, a = some ⟨b, off, none⟩ ∧ ∀ j, j < zs.length → W.cell? ⟨b, off + j, none⟩ = some (.int k (zs[j]?.getD 0)))

theorem Ints.kept {k : IntKind} {W W' : World} {v : Value} {zs : List Int} (h : Ints k W v zs) (hb : Below W.heap.size W W') : Ints k W' v zs := by
  obtain ⟨a, cap, rfl, hcap, hnil, h⟩ := h
  refine ⟨a, cap, rfl, hcap, hnil, h.imp id ?_⟩
  rintro ⟨b, off, rfl, hc⟩
  exact ⟨b, off, rfl, fun j hj => (hb.cell (p := ⟨b, off + j, none⟩) (World.block_lt_of_cell? W _ (hc j hj))).trans (hc j hj)⟩

theorem Ints.drew {k : IntKind} {W : World} {v : Value} {zs : List Int} (h : Ints k W v zs) : Ints k W.drew v zs := h

/-- what a call owns reads so -/
theorem Ints.of_row {k : IntKind} {W : World} {base : Nat} {e : TypeId} {v : Value} {n : Nat} {zs : List Int} (h : W.ownsRow base e 1 v n (zs.map (Value.int k))) : Ints k W v zs := by
  have hn : n = zs.length := by have := h.1; simpa using this.symm
  subst hn
  rcases h.2 with ⟨rfl, h0⟩ | ⟨g, cap, cur, rfl, hg, hh, hle, _⟩
  · obtain rfl : zs = [] := List.eq_nil_of_length_eq_zero h0
    exact ⟨none, 0, rfl, Nat.le_refl _, fun _ => rfl, .inl rfl⟩
  · refine ⟨_, cap, rfl, hle, by simp, .inr ⟨g, 0, rfl, fun j hj => ?_⟩⟩
    have := h.cellAt j (by omega)
    rw [Nat.zero_add, this]
    simp [hj]

/-- what a law on append asks of what is appended -/
theorem cells_all {k : IntKind} {W : World} {a : Option Addr} {zs : List Int} (h : zs = [] ∨ ∃ b off, a = some ⟨b, off, none⟩ ∧ ∀ j, j < zs.length → W.cell? ⟨b, off + j, none⟩ = some (.int k (zs[j]?.getD 0))) :
    ∀ ad, a = some ad → ∀ j u, (zs.map (Value.int k))[j]? = some u → W.cell? (ad.add j) = some u := by
  intro ad had j u hj
  have hj' : j < zs.length := by simpa using (List.getElem?_eq_some_iff.1 hj).1
  rcases h with rfl | ⟨b, off, e, hc⟩
  · simp at hj'
  · rw [had] at e
    obtain rfl := Option.some.inj e
    have h2 : ((⟨b, off, none⟩ : Addr).add j) = ⟨b, off + j, none⟩ := by unfold Addr.add; split <;> simp_all
    rw [h2, hc j hj']
    simp [List.getElem?_eq_getElem hj'] at hj ⊢
    exact hj

/-- v IS A SLICE OF SLICES OF OCTETS THAT READS AS ls. -/
def Rows8 (W : World) (v : Value) (ls : List (List Int)) : Prop :=
  ∃ a cap, v = .slice a ls.length cap ∧ ls.length ≤ cap ∧ (a = none → cap = 0) ∧ (ls = [] ∨ ∃ b off, a = some ⟨b, off, none⟩ ∧ ∀ j, j < ls.length → ∃ u, W.cell? ⟨b, off + j, none⟩ = some u ∧ Ints .u8 W u (ls[j]?.getD []))

theorem Rows8.kept {W W' : World} {v : Value} {ls : List (List Int)} (h : Rows8 W v ls) (hb : Below W.heap.size W W') : Rows8 W' v ls := by
  obtain ⟨a, cap, rfl, hcap, hnil, h⟩ := h
  refine ⟨a, cap, rfl, hcap, hnil, h.imp id ?_⟩
  rintro ⟨b, off, rfl, hc⟩
  refine ⟨b, off, rfl, fun j hj => ?_⟩
  obtain ⟨u, hu, hi⟩ := hc j hj
  exact ⟨u, (hb.cell (p := ⟨b, off + j, none⟩) (World.block_lt_of_cell? W _ hu)).trans hu, hi.kept hb⟩

/-- a slice of slices that was just laid -/
theorem Rows8.new (w : World) (t : TypeId) (us : List Value) (ls : List (List Int)) (hl : us.length = ls.length) (h : ∀ j, j < ls.length → Ints .u8 w (us.getD j undef) (ls[j]?.getD [])) :
    Rows8 (w.alloc (.cells us.toArray t)) (.slice (some ⟨w.heap.size, 0, none⟩) ls.length ls.length) ls := by
  refine ⟨_, _, rfl, Nat.le_refl _, by simp, .inr ⟨w.heap.size, 0, rfl, fun j hj => ⟨us.getD j undef, ?_, (h j hj).kept ((Below.refl _ _).alloc (Nat.le_refl _) _)⟩⟩⟩
  rw [Nat.zero_add, World.cell?_alloc_new]
  simp [hl, hj]

theorem ret_int {k : IntKind} {a b : Int} (h : a = b) : Ending.returned (.int k a) = .returned (.int k b) := by rw [h]
theorem Ints.drewN {k : IntKind} {W : World} {v : Value} {zs : List Int} (h : Ints k W v zs) (q : Nat) : Ints k (W.drewN q) v zs := h
end Go.Proofs.Ytjjaefacfcjgiaa
