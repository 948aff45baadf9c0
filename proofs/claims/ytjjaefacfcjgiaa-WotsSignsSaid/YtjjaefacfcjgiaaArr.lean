import Derived.OneCell
import Derived.Laws.Tables
import Derived.Test.YtjjaefacfcjgiaaPreds
/-
  A block of words: an array in memory.
-/
namespace Go.Proofs.Ytjjaefacfcjgiaa
set_option linter.unusedVariables false
open Go.RowKit

/-- block B is an array of words, of type t, that reads as zs -/
def Arr (W : World) (B : Nat) (t : TypeId) (zs : List Int) : Prop := W.heap[B]? = some (.cells (zs.map (Value.int .u32)).toArray t (0, 0))

section
variable {W W' : World} {B : Nat} {t : TypeId} {zs : List Int}
theorem Arr.lt (h : Arr W B t zs) : B < W.heap.size := lt_of_block h
theorem Arr.cell (h : Arr W B t zs) (j : Nat) (hj : j < zs.length) : W.cell? ⟨B, j, none⟩ = some (.int .u32 (zs[j]?.getD 0)) := by
  rw [cell_of_row W B j _ t (0, 0) h]; simp [hj]
theorem Arr.free (h : Arr W B t zs) (j : Nat) : W.frozen? ⟨B, j, none⟩ = false := frozen_of_row W B j _ t h
theorem Arr.set (h : Arr W B t zs) (j : Nat) (x : Int) : Arr (W.setCell ⟨B, j, none⟩ (.int .u32 x)) B t (zs.set j x) := by
  have := heap_setCell_same W B j _ t (.int .u32 x) h
  unfold Arr; rw [this, List.map_set]; simp
theorem Arr.other (h : Arr W B t zs) {a : Addr} (hb : a.block ≠ B) (u : Value) : Arr (W.setCell a u) B t zs :=
  (Below.heap_setCell W a u B (Ne.symm hb)).trans h
theorem Arr.alloc (h : Arr W B t zs) (o : Obj) : Arr (W.alloc o) B t zs := (Below.heap_alloc W o B h.lt).trans h
theorem Arr.grown {row : Option Nat} (h : Arr W B t zs) (hg : W.grownBy W' row) (hb : some B ≠ row) : Arr W' B t zs := (hg.block B h.lt hb).trans h
theorem Arr.below (h : Arr W B t zs) (hb : Below W.heap.size W W') : Arr W' B t zs := (hb.block B h.lt).trans h
theorem Arr.drewN (h : Arr W B t zs) (q : Nat) : Arr (W.drewN q) B t zs := h
theorem Arr.new (W : World) (t : TypeId) (zs : List Int) : Arr (W.alloc (.cells (zs.map (Value.int .u32)).toArray t)) W.heap.size t zs := heap_alloc_new W _
theorem Arr.setRow (h : Arr W B t zs) (ys : List Int) : Arr (W.setRow B (ys.map (Value.int .u32)).toArray) B t ys := setRow_heap W B _ _ t (0, 0) h
theorem Arr.setRow_other (h : Arr W B t zs) {g : Nat} (hg : B ≠ g) (cs : Array Value) : Arr (W.setRow g cs) B t zs := (Go.setRow_other W g B cs hg).trans h
theorem grownBy_setRow (W : World) (g : Nat) (cs : Array Value) : W.grownBy (W.setRow g cs) (some g) :=
  ⟨rfl, rfl, rfl, by simp, fun k _ hk => Go.setRow_other W g k cs (fun e => hk (by rw [e]))⟩
theorem grownBy_setCell (W : World) (a : Addr) (v : Value) : W.grownBy (W.setCell a v) (some a.block) :=
  ⟨rfl, rfl, rfl, by simp [World.setCell], fun k _ hk => Below.heap_setCell _ _ _ k (fun e => hk (by rw [e]))⟩
theorem oneCell_words (zs : List Int) : ((zs.map (Value.int .u32)).toArray).all (·.oneCell') = true := by simp [Value.oneCell']
end
/-- Below, as growth -/
theorem grown_of_below {W W' : World} (row : Option Nat) (h : Below W.heap.size W W') : W.grownBy W' row := ⟨h.os, h.tape, h.output, h.size, fun k hk _ => h.block k hk⟩
theorem grownBy_trans' {a b c : World} {r : Option Nat} (h : a.grownBy b r) (k : b.grownBy c r) : a.grownBy c r :=
  ⟨k.os.trans h.os, k.tape.trans h.tape, k.output.trans h.output, Nat.le_trans h.size k.size, fun i hi hr => (k.block i (Nat.lt_of_lt_of_le hi h.size) hr).trans (h.block i hi hr)⟩

/-- a whole array of words into its block: the world behind it by what is known of it alone -/
theorem wpList_store_arr {P : Program} {w : World} {ops : Array Oper} {rest : List Oper} {o : Oper} {a : Act} {Q : Exit → Act → World → Prop} (hgd : o.guard = none) (ty : TypeId) (x y : Operand) (ho : o.op = .store ty x y)
    (g : Nat) (zs ys : List Int) (hx : a.eval x = .pointer (some ⟨g, 0, none⟩)) (hy : a.eval y = .agg (ys.map (Value.int .u32)).toArray) (t : TypeId) (hg : Arr w g t zs)
    (hi : (P.info? ty).map (·.size) = some ys.length) (hl : zs.length = ys.length)
    (h : ∀ w2, Arr w2 g t ys → w.grownBy w2 (some g) → wpList P ops Q rest (a.put o.dst undef) w2) : wpList P ops Q (o :: rest) a w :=
  wpList_store_row hgd ty x y ho g _ hx hy t _ hg (by rw [hi]; simp) (by simpa using hl) (oneCell_words ys) (h _ (hg.setRow ys) (grownBy_setRow _ _ _))

/-- one list over another, element by element -/
theorem over_set {A B : List Int} (k : Nat) (h : A.length = B.length) (hk : k < A.length) : (A.take k ++ B.drop k).set k (A[k]?.getD 0) = A.take (k + 1) ++ B.drop (k + 1) := by
  rw [List.set_append_right _ _ (by simp; omega), List.length_take, Nat.min_eq_left (by omega), Nat.sub_self, List.drop_eq_getElem_cons (by omega), List.set_cons_zero, List.take_succ_eq_append_getElem hk, List.append_assoc]
  simp [hk]
theorem over_at {A B : List Int} (k : Nat) (h : A.length = B.length) (hk : k < A.length) : (A.take k ++ B.drop k)[k]?.getD 0 = B[k]?.getD 0 := by
  rw [List.getElem?_append_right (by simp; omega), List.length_take, Nat.min_eq_left (by omega), Nat.sub_self, List.getElem?_drop, Nat.add_zero]
theorem over_length {A B : List Int} (k : Nat) (h : A.length = B.length) : (A.take k ++ B.drop k).length = A.length := by
  simp; omega

/-- A SLICE OF NUMBERS THAT LIES NOT IN BLOCK S. -/
def IntsOff (S : Nat) (k : IntKind) (W : World) (v : Value) (zs : List Int) : Prop :=
  ∃ a cap, v = .slice a zs.length cap ∧ zs.length ≤ cap ∧ (a = none → cap = 0) ∧ (zs = [] ∨ ∃ b off, a = some ⟨b, off, none⟩ ∧ b ≠ S ∧ ∀ j, j < zs.length → W.cell? ⟨b, off + j, none⟩ = some (.int k (zs[j]?.getD 0)))
theorem IntsOff.ints {S : Nat} {k : IntKind} {W : World} {v : Value} {zs : List Int} (h : IntsOff S k W v zs) : Ints k W v zs := by
  obtain ⟨a, cap, h1, h2, h3, h4⟩ := h
  exact ⟨a, cap, h1, h2, h3, h4.imp id fun ⟨b, off, h5, _, h6⟩ => ⟨b, off, h5, h6⟩⟩
theorem IntsOff.grown {S : Nat} {k : IntKind} {W W' : World} {v : Value} {zs : List Int} (h : IntsOff S k W v zs) (hg : W.grownBy W' (some S)) : IntsOff S k W' v zs := by
  obtain ⟨a, cap, h1, h2, h3, h4⟩ := h
  exact ⟨a, cap, h1, h2, h3, h4.imp id fun ⟨b, off, h5, h6, h7⟩ => ⟨b, off, h5, h6, fun j hj => hg.cell (h7 j hj) (fun e => h6 (Option.some.inj e))⟩⟩
/-- what was there before block S -/
theorem IntsOff.of_old {S : Nat} {k : IntKind} {W W' : World} {v : Value} {zs : List Int} (h : Ints k W v zs) (hb : Below W.heap.size W W') (hS : W.heap.size ≤ S) : IntsOff S k W' v zs := by
  obtain ⟨a, cap, h1, h2, h3, h4⟩ := h
  refine ⟨a, cap, h1, h2, h3, ?_⟩
  by_cases h0 : 0 < zs.length
  · rcases h4 with rfl | ⟨b, off, h5, h6⟩
    · simp at h0
    have hlt := World.block_lt_of_cell? W _ (h6 0 h0)
    exact .inr ⟨b, off, h5, by simp at hlt; omega, fun j hj => (hb.cell (p := ⟨b, off + j, none⟩) (World.block_lt_of_cell? W _ (h6 j hj))).trans (h6 j hj)⟩
  · exact .inl (List.eq_nil_of_length_eq_zero (by omega))
/-- what a call made behind block S -/
theorem IntsOff.of_row {S : Nat} {k : IntKind} {W : World} {base : Nat} {e : TypeId} {v : Value} {n : Nat} {zs : List Int} (h : W.ownsRow base e 1 v n (zs.map (Value.int k))) (hS : S < base) : IntsOff S k W v zs := by
  obtain ⟨a, cap, h1, h2, h3, h4⟩ := Ints.of_row h
  refine ⟨a, cap, h1, h2, h3, h4.imp id ?_⟩
  rintro ⟨b, off, h5, h6⟩
  have := h.lt b (by rw [h1, h5]; rfl)
  exact ⟨b, off, h5, by omega, h6⟩
/-- all of an array, as a slice -/
theorem Arr.ints {W : World} {B : Nat} {t : TypeId} {zs : List Int} (h : Arr W B t zs) : Ints .u32 W (.slice (some ⟨B, 0, none⟩) zs.length zs.length) zs :=
  ⟨_, _, rfl, Nat.le_refl _, by simp, .inr ⟨B, 0, rfl, fun j hj => by rw [Nat.zero_add]; exact h.cell j hj⟩⟩
end Go.Proofs.Ytjjaefacfcjgiaa
