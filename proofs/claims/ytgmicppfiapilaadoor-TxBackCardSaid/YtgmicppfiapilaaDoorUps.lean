import Derived.Laws.Rows
import Derived.Test.YtgmicppfiapilaaDoorGrowth
import Derived.Test.YtgmicppfiapilaaDoorBase
/-
  Worlds beyond worlds, step by step; what reads on in them.
-/
namespace Go.Proofs.YtgmicppfiapilaaDoor
set_option linter.unusedVariables false
open Go.RowKit

theorem Up.drew {w w' : World} (h : Up w w') : Up w w'.drew := Below.drew h
theorem Up.drew1 (w : World) : Up w w.drew := (Below.refl _ _).drew
theorem Up.drewN {w w' : World} (h : Up w w') (q : Nat) : Up w (w'.drewN q) := Below.trans h ⟨rfl, rfl, rfl, Nat.le_refl _, fun _ _ => rfl⟩
theorem Up.alloc {w w' : World} (h : Up w w') (o : Obj) : Up w (w'.alloc o) := Below.alloc h h.size o
theorem Ints.up {k : IntKind} {W W' : World} {v : Value} {zs : List Int} (h : Ints k W v zs) (hu : Up W W') : Ints k W' v zs := h.kept hu
theorem Ints.alloc {k : IntKind} {W : World} {v : Value} {zs : List Int} (h : Ints k W v zs) (o : Obj) : Ints k (W.alloc o) v zs := h.kept ((Below.refl _ _).alloc (Nat.le_refl _) o)
/-- a slice that was just laid -/
theorem Ints.new' (W : World) (k : IntKind) (t : TypeId) (zs : List Int) (b n : Nat) (hb : b = W.heap.size) (hn : n = zs.length) : Ints k (W.alloc (.cells (zs.map (Value.int k)).toArray t)) (.slice (some ⟨b, 0, none⟩) n n) zs := by
  subst hn; subst hb
  exact ⟨_, _, rfl, Nat.le_refl _, by simp, .inr ⟨W.heap.size, 0, rfl, fun j hj => by rw [Nat.zero_add, World.cell?_alloc_new]; simp [hj]⟩⟩
theorem Ints.newc (W : World) (k : IntKind) (t : TypeId) (c : Array Value) (zs : List Int) (b n : Nat) (hb : b = W.heap.size) (hn : n = zs.length) (hc : c.toList = zs.map (Value.int k)) : Ints k (W.alloc (.cells c t)) (.slice (some ⟨b, 0, none⟩) n n) zs := by
  have h := Ints.new' W k t zs b n hb hn
  rw [← hc] at h
  exact h
/-- .. of a constant text -/
theorem Ints.newf (W : World) (k : IntKind) (t : TypeId) (c : Array Value) (fr : Nat × Nat) (zs : List Int) (b n : Nat) (hb : b = W.heap.size) (hn : n = zs.length) (hc : c.toList = zs.map (Value.int k)) : Ints k (W.alloc (.cells c t fr)) (.slice (some ⟨b, 0, none⟩) n n) zs := by
  subst hn; subst hb
  refine ⟨_, _, rfl, Nat.le_refl _, by simp, .inr ⟨W.heap.size, 0, rfl, fun j hj => ?_⟩⟩
  rw [Nat.zero_add, cell_of_row _ _ j c t fr (heap_alloc_new W _), ← Array.getElem?_toList, hc]
  simp [hj]
theorem Rows8.up {W W' : World} {v : Value} {ls : List (List Int)} (h : Rows8 W v ls) (hu : Up W W') : Rows8 W' v ls := h.kept hu
/-- what lies from a block on lies from an earlier one on -/
theorem ownsRow_base {w : World} {base base' : Nat} {e : TypeId} {size : Nat} {v : Value} {n : Nat} {xs : List Value} (h : w.ownsRow base e size v n xs) (hb : base' ≤ base) : w.ownsRow base' e size v n xs :=
  ⟨h.1, h.2.imp id fun ⟨g, cap, cur, h1, h2, h3⟩ => ⟨g, cap, cur, h1, Nat.le_trans hb h2, h3⟩⟩
theorem Rows8.new1 (w : World) (t : TypeId) (u0 : Value) (l0 : List Int) (b : Nat) (hb : b = w.heap.size) (h0 : Ints .u8 w u0 l0) : Rows8 (w.alloc (.cells #[u0] t)) (.slice (some ⟨b, 0, none⟩) 1 1) [l0] := by
  subst hb
  exact Rows8.new w t [u0] [l0] rfl fun j hj => by
    match j, hj with
    | 0, _ => exact h0
theorem Rows8.new2 (w : World) (t : TypeId) (u0 u1 : Value) (l0 l1 : List Int) (b : Nat) (hb : b = w.heap.size) (h0 : Ints .u8 w u0 l0) (h1 : Ints .u8 w u1 l1) : Rows8 (w.alloc (.cells #[u0, u1] t)) (.slice (some ⟨b, 0, none⟩) 2 2) [l0, l1] := by
  subst hb
  exact Rows8.new w t [u0, u1] [l0, l1] rfl fun j hj => by
    match j, hj with
    | 0, _ => exact h0
    | 1, _ => exact h1
theorem Rows8.new3 (w : World) (t : TypeId) (u0 u1 u2 : Value) (l0 l1 l2 : List Int) (b : Nat) (hb : b = w.heap.size) (h0 : Ints .u8 w u0 l0) (h1 : Ints .u8 w u1 l1) (h2 : Ints .u8 w u2 l2) : Rows8 (w.alloc (.cells #[u0, u1, u2] t)) (.slice (some ⟨b, 0, none⟩) 3 3) [l0, l1, l2] := by
  subst hb
  exact Rows8.new w t [u0, u1, u2] [l0, l1, l2] rfl fun j hj => by
    match j, hj with
    | 0, _ => exact h0
    | 1, _ => exact h1
    | 2, _ => exact h2
/-- a beginning -/
theorem Ints.pre {k : IntKind} {W : World} {a : Option Addr} {n cap : Nat} {zs : List Int} (h : Ints k W (.slice a n cap) zs) (M : Nat) (hM : M ≤ zs.length) : Ints k W (.slice a M cap) (zs.take M) := by
  obtain ⟨a', cap', he, h2, h3, h4⟩ := h
  simp only [Value.slice.injEq] at he
  obtain ⟨rfl, rfl, rfl⟩ := he
  have hl : (zs.take M).length = M := by rw [List.length_take]; omega
  refine ⟨a, cap, by rw [hl], by rw [hl]; omega, h3, h4.imp (fun e => by rw [e]; simp) ?_⟩
  rintro ⟨b, off, rfl, hc⟩
  refine ⟨b, off, rfl, fun j hj => ?_⟩
  rw [hl] at hj
  rw [hc j (by omega), List.getElem?_take, if_pos hj]
/-- an end -/
theorem Ints.suf {k : IntKind} {W : World} {b off n cap : Nat} {zs : List Int} (h : Ints k W (.slice (some ⟨b, off, none⟩) n cap) zs) (M : Nat) (hM : M ≤ zs.length) : Ints k W (.slice (some ⟨b, off + M, none⟩) (n - M) (cap - M)) (zs.drop M) := by
  obtain ⟨a', cap', he, h2, h3, h4⟩ := h
  simp only [Value.slice.injEq] at he
  obtain ⟨rfl, rfl, rfl⟩ := he
  have hl : (zs.drop M).length = zs.length - M := by rw [List.length_drop]
  refine ⟨_, cap - M, by rw [hl], by rw [hl]; omega, by simp, h4.imp (fun e => by rw [e]; simp) ?_⟩
  rintro ⟨b', off', he, hc⟩
  simp only [Option.some.injEq, Addr.mk.injEq, and_true] at he
  obtain ⟨rfl, rfl⟩ := he
  refine ⟨b, off + M, rfl, fun j hj => ?_⟩
  rw [hl] at hj
  rw [Nat.add_assoc, hc (M + j) (by omega), List.getElem?_drop]
/-- of nothing there is nothing behind -/
theorem Ints.empty {k : IntKind} {W : World} {a : Option Addr} {cap : Nat} (h : a = none → cap = 0) : Ints k W (.slice a 0 cap) [] := ⟨a, cap, rfl, Nat.zero_le _, h, .inl rfl⟩
theorem U8s.take {zs : List Int} (h : U8s zs) (M : Nat) : U8s (zs.take M) := by
  intro j hj
  have : j < M := by rw [List.length_take] at hj; omega
  rw [List.getElem?_take, if_pos this]; exact h.at zs j
theorem U8s.drop {zs : List Int} (h : U8s zs) (M : Nat) : U8s (zs.drop M) := by
  intro j hj
  rw [List.getElem?_drop]; exact h.at zs _
theorem U8s.append {a b : List Int} (ha : U8s a) (hb : U8s b) : U8s (a ++ b) := by
  intro j hj
  by_cases h : j < a.length
  · rw [List.getElem?_append_left h]; exact ha.at a j
  · rw [List.getElem?_append_right (by omega)]; exact hb.at b _
theorem U8s.replicate (n : Nat) : U8s (List.replicate n 0) := by
  intro j hj
  rw [List.length_replicate] at hj
  simp [hj]
theorem U8s.cons {x : Int} {a : List Int} (hx : 0 ≤ x ∧ x < 256) (ha : U8s a) : U8s (x :: a) := by
  intro j hj
  cases j with
  | zero => simpa using hx
  | succ j => simpa using ha.at a j
/-- a row of one's own, in a world beyond -/
theorem ownsRow_up {w w' : World} {base : Nat} {e : TypeId} {size : Nat} {v : Value} {n : Nat} {xs : List Value} (h : w.ownsRow base e size v n xs) (hu : Up w w') : w'.ownsRow base e size v n xs :=
  h.kept (row := none) ⟨hu.os, hu.tape, hu.output, hu.size, fun k hk _ => hu.block k hk⟩ (Classical.em _)
theorem Ints.grownBy {k : IntKind} {W W' : World} {g b n c : Nat} {zs : List Int} (h : Ints k W (.slice (some ⟨g, 0, none⟩) n c) zs) (hg : W.grownBy W' (some b)) (hne : g ≠ b) : Ints k W' (.slice (some ⟨g, 0, none⟩) n c) zs := by
  obtain ⟨a, cap, he, h2, h3, h4⟩ := h
  refine ⟨a, cap, he, h2, h3, h4.imp id ?_⟩
  rintro ⟨b', off, rfl, hc⟩
  simp only [Value.slice.injEq, Option.some.injEq, Addr.mk.injEq, and_true] at he
  obtain ⟨⟨rfl, rfl⟩, _, _⟩ := he
  refine ⟨g, 0, rfl, fun j hj => ?_⟩
  rw [← hc j hj]
  exact World.cell?_of_block (a := ⟨g, 0 + j, none⟩) (hg.block g (World.block_lt_of_cell? W _ (hc j hj)) (fun e => hne (by simpa using e)))
/-- an element -/
theorem Ints.at0 {k : IntKind} {W : World} {g n c : Nat} {zs : List Int} (h : Ints k W (.slice (some ⟨g, 0, none⟩) n c) zs) (j : Nat) (hj : j < zs.length) : W.cell? ⟨g, j, none⟩ = some (.int k (zs[j]?.getD 0)) := by
  obtain ⟨_, _, he, _, _, hc⟩ := h
  simp only [Value.slice.injEq] at he
  obtain ⟨rfl, _, _⟩ := he
  rcases hc with rfl | ⟨b, off, he, hc⟩
  · simp at hj
  · simp only [Option.some.injEq, Addr.mk.injEq, and_true] at he
    obtain ⟨rfl, rfl⟩ := he
    have := hc j hj
    rwa [Nat.zero_add] at this

theorem Rows8.new5 (w : World) (t : TypeId) (u0 u1 u2 u3 u4 : Value) (l0 l1 l2 l3 l4 : List Int) (b : Nat) (hb : b = w.heap.size) (h0 : Ints .u8 w u0 l0) (h1 : Ints .u8 w u1 l1) (h2 : Ints .u8 w u2 l2) (h3 : Ints .u8 w u3 l3) (h4 : Ints .u8 w u4 l4) :
    Rows8 (w.alloc (.cells #[u0, u1, u2, u3, u4] t)) (.slice (some ⟨b, 0, none⟩) 5 5) [l0, l1, l2, l3, l4] := by
  subst hb
  exact Rows8.new w t [u0, u1, u2, u3, u4] [l0, l1, l2, l3, l4] rfl fun j hj => by
    match j, hj with
    | 0, _ => exact h0
    | 1, _ => exact h1
    | 2, _ => exact h2
    | 3, _ => exact h3
    | 4, _ => exact h4
end Go.Proofs.YtgmicppfiapilaaDoor
