import Derived.Deep.Upon
import Derived.Test.YtaepdmmlejdifaaOwn
namespace Go.Proofs.Ytaepdmmlejdifaa
/-
  Octets in a row of one's own, or a beginning of one that has no room behind it; append onto these.
-/
section
set_option maxRecDepth 100000
section
set_option linter.unusedVariables false
open Go.RowKit

def Clip (W : World) (base : Nat) (v : Value) (bs : List Int) : Prop :=
  W.ownsRow base 5 1 v bs.length (bs.map (Value.int .u8)) ∨
  ∃ g cur, v = .slice (some ⟨g, 0, none⟩) bs.length bs.length ∧ base ≤ g ∧ W.heap[g]? = some (.cells cur 5 (0, 0)) ∧ cur.toList.take bs.length = bs.map (Value.int .u8)
section
variable {W W' : World} {base : Nat} {v : Value} {bs : List Int}
theorem Clip.lt (h : Clip W base v bs) : ∀ k, v.ownBlock = some k → base ≤ k ∧ k < W.heap.size := by
  rcases h with h | ⟨g, cur, rfl, hb, hg, _⟩
  · exact h.lt
  · intro k hk
    obtain rfl : g = k := by simpa [Value.ownBlock] using hk
    exact ⟨hb, lt_of_block hg⟩
theorem Clip.kept {row : Option Nat} (h : Clip W base v bs) (hg : W.grownBy W' row) (hne : v.ownBlock = none ∨ v.ownBlock ≠ row) : Clip W' base v bs := by
  rcases h with h | ⟨g, cur, rfl, hb, hgg, ht⟩
  · exact .inl (h.kept hg hne)
  · exact .inr ⟨g, cur, rfl, hb, (hg.block g (lt_of_block hgg) (by simpa [Value.ownBlock] using hne)).trans hgg, ht⟩
theorem Clip.up (h : Clip W base v bs) (hu : Up W W') : Clip W' base v bs := h.kept (row := none) ⟨hu.os, hu.tape, hu.output, hu.size, fun k hk _ => hu.block k hk⟩ (Classical.em _)
theorem Clip.shape (h : Clip W base v bs) : ∃ a c, v = .slice a bs.length c := by
  rcases h with h | ⟨g, cur, rfl, _⟩
  · exact row_shape h
  · exact ⟨_, _, rfl⟩
theorem Clip.ints (h : Clip W base v bs) : Ints .u8 W v bs := by
  rcases h with h | ⟨g, cur, rfl, hb, hgg, ht⟩
  · exact Ints.of_row h
  · refine ⟨_, _, rfl, Nat.le_refl _, by simp, .inr ⟨g, 0, rfl, fun j hj => ?_⟩⟩
    have h1 : (cur.toList.take bs.length)[j]? = (bs.map (Value.int .u8))[j]? := by rw [ht]
    rw [List.getElem?_take, if_pos hj, Array.getElem?_toList] at h1
    rw [Nat.zero_add, cell_of_row _ _ j cur _ _ hgg, h1]
    simp [hj]
theorem Clip.off {B : Nat} {cs : Array Value} {t : TypeId} (h : Clip W base v bs) (hB : W.heap[B]? = some (.cells cs t (0, 0))) (hte : t ≠ 5) : some B ≠ v.ownBlock := by
  rcases h with h | ⟨g, cur, rfl, hb, hgg, ht⟩
  · exact block_off hB hte h
  · intro e'
    obtain rfl : B = g := by simpa [Value.ownBlock] using e'
    have := hB.symm.trans hgg
    simp at this
    exact hte this.2
theorem Clip.cap {a : Option Addr} {n c : Nat} (h : Clip W base (.slice a n c) bs) : n = bs.length ∧ bs.length ≤ c := by
  obtain ⟨_, _, he, h2, _⟩ := h.ints
  simp only [Value.slice.injEq] at he
  obtain ⟨_, rfl, rfl⟩ := he
  exact ⟨rfl, h2⟩
theorem Clip.nil (W : World) (base : Nat) : Clip W base (.slice none 0 0) [] := .inl (World.ownsRow_nil _ _ _ _)
theorem Clip.cut {a : Option Addr} {n c : Nat} (h : Clip W base (.slice a n c) bs) (k : Nat) (hk : k ≤ bs.length) : Clip W base (.slice a k k) (bs.take k) := by
  have hl : (bs.take k).length = k := by rw [List.length_take]; omega
  rcases h with h | ⟨g, cur, he, hb, hgg, ht⟩
  · rcases h.2 with ⟨he, hn⟩ | ⟨g, cap, cur, he, hb, hgg, h1, h2, h3, h4⟩
    · simp only [Value.slice.injEq] at he
      obtain ⟨rfl, rfl, rfl⟩ := he
      obtain rfl : k = 0 := by omega
      rw [List.take_zero]
      exact Clip.nil W base
    · simp only [Value.slice.injEq] at he
      obtain ⟨rfl, rfl, rfl⟩ := he
      refine .inr ⟨g, cur, by rw [hl], hb, hgg, ?_⟩
      rw [Nat.mul_one] at h4
      rw [hl, List.map_take, ← h4, List.take_take, Nat.min_eq_left hk]
  · simp only [Value.slice.injEq] at he
    obtain ⟨rfl, rfl, rfl⟩ := he
    refine .inr ⟨g, cur, by rw [hl], hb, hgg, ?_⟩
    rw [hl, List.map_take, ← ht, List.take_take, Nat.min_eq_left hk]
end

/-- what is appended -/
theorem src_of {w : World} {xv : Value} {zs : List Int} (hz : Ints .u8 w xv zs) : Src Try.prog 1 22 xv zs.length (zs.map (Value.int .u8)) w := by
  obtain ⟨b, d, rfl, _, hd, hcs⟩ := hz
  cases b with
  | none =>
    have h0 := none_empty hcs rfl
    obtain rfl := List.eq_nil_of_length_eq_zero h0
    exact Src.ofNil w Try.underlying22 d
  | some ad => exact Src.ofSlice w Try.underlying22 ad zs.length d _ (by simp) (cells_all hcs ad rfl) (u8_cells zs)
/-- a beginning without room -/
theorem run_append_cut (w : World) (base g : Nat) (cur : Array Value) (bs zs : List Int) (xv : Value) (ty : TypeId) (hb : base ≤ g) (hgg : w.heap[g]? = some (.cells cur 5 (0, 0))) (ht : cur.toList.take bs.length = bs.map (Value.int .u8))
    (hz : Ints .u8 w xv zs) (hsm : bs.length + zs.length ≤ 1000000) (hbase : base ≤ w.heap.size) :
    ∃ v' w', (Builtin.append_ #[22, 22] ty #[.slice (some ⟨g, 0, none⟩) bs.length bs.length, xv]).run Try.prog w = .ok v' w' ∧ Clip w' base v' (bs ++ zs) ∧ w.grownBy w' (some g) ∧ (v'.ownBlock = some g ∨ v'.ownBlock = some w.heap.size) := by
  obtain ⟨i0, hi, hz0, hz1, hz2⟩ := info_parts info_u8
  have hc : Clip w base (.slice (some ⟨g, 0, none⟩) bs.length bs.length) bs := .inr ⟨g, cur, rfl, hb, hgg, ht⟩
  have hsrc := src_of hz
  rw [← hz1] at hsrc
  by_cases h0 : zs.length = 0
  · obtain rfl := List.eq_nil_of_length_eq_zero h0
    refine ⟨_, _, run_append_nothing w 22 22 ty 5 i0 Try.underlying22 hi (some ⟨g, 0, none⟩) bs.length bs.length (Nat.le_refl _) xv hsrc, ?_, grown_refl _ _, .inl rfl⟩
    rw [List.append_nil]
    exact hc
  · have hold : (Builtin.firstCells i0.size bs.length (.slice (some ⟨g, 0, none⟩) bs.length bs.length)).run Try.prog w.drew = .ok (bs.map (Value.int .u8)).toArray w.drew := by
      rw [hz1]
      refine run_firstCells_some w.drew 1 bs.length ⟨g, 0, none⟩ bs.length bs.length (bs.map (Value.int .u8)) (by simp) fun j u hu => ?_
      obtain ⟨_, _, he, _, _, hcs⟩ := hc.ints
      simp only [Value.slice.injEq] at he
      exact cells_all hcs ⟨g, 0, none⟩ he.1.symm j u hu
    have hrun := run_append_grow_src w 22 22 ty 5 i0 (.int .u8 0) Try.underlying22 hi hz0 (some ⟨g, 0, none⟩) bs.length bs.length _ hold xv zs.length _ hsrc (by omega) (by omega) (growslice_fits (by omega) (by rw [hz2]; omega))
    have hge := grownCap_ge w (bs.length + zs.length) bs.length 5
    have hcm := grownCap_le_maxLen w (bs.length + zs.length) bs.length 5 (by unfold maxLen; omega)
    generalize grownCap w (bs.length + zs.length) bs.length 5 = cap at hrun hge hcm
    refine ⟨_, _, hrun, .inl ⟨by simp, .inr ⟨w.heap.size, cap, _, by rw [List.length_append], hbase, heap_alloc_new w.drew _, by rw [List.length_append]; exact hge, hcm, ?_, ?_⟩⟩, ?_, .inr rfl⟩
    · rw [Array.size_append, size_zeroCells, List.size_toArray, List.length_append, List.length_map, List.length_map]
      show bs.length + zs.length + (cap - (bs.length + zs.length)) * 1 = cap * 1
      omega
    · rw [List.map_append, Array.toList_append, List.toList_toArray, List.take_append_of_le_length (by simp), List.take_of_length_le (by simp)]
    · exact grown_up (Up.alloc (Up.drew1 w) _) _
theorem wpList_append_clip (w : World) {ops : Array Oper} {rest : List Oper} {o : Oper} {a : Act} {Q : Exit → Act → World → Prop} (hgd : o.guard = none) (s x : Operand)
    (ho : o.op = .call { callee := .builtin .append, args := #[s, x], argTypes := #[22, 22] })
    (base : Nat) (v : Value) (bs : List Int) (hs : a.eval s = v) (hown : Clip w base v bs) (xv : Value) (zs : List Int) (hx : a.eval x = xv) (hz : Ints .u8 w xv zs) (hsm : bs.length + zs.length ≤ 1000000) (hbase : base ≤ w.heap.size)
    (h : ∀ v' w', Clip w' base v' (bs ++ zs) → w.grownBy w' v.ownBlock → (v'.ownBlock = v.ownBlock ∨ v'.ownBlock = some w.heap.size) → wpList Try.prog ops Q rest (a.put o.dst v') w') : wpList Try.prog ops Q (o :: rest) a w := by
  rcases hown with hown | ⟨g, cur, rfl, hb, hgg, ht⟩
  · obtain ⟨i0, hi, hz0, hz1, hz2⟩ := info_parts info_u8
    obtain ⟨b, d, rfl, _, hd, hcs⟩ := hz
    refine wpList_append_own_src_at w hgd s x 22 ho base 5 i0 (.int .u8 0) 1 1 Try.underlying22 hi hz0 hz1 hz2 rfl (by decide) v bs.length _ hs hown b zs.length d (zs.map (Value.int .u8)) hx (fun e => ⟨none_empty hcs e, hd e⟩) (by simp) (cells_all hcs) (u8_cells zs) (by unfold maxLen; omega) (by omega) hbase ?_
    intro v' w' h1 h2 h3
    refine h v' w' (.inl ?_) h2 h3
    rw [List.map_append, List.length_append]
    exact h1
  · obtain ⟨v', w', hrun, h1, h2, h3⟩ := run_append_cut w base g cur bs zs xv o.type hb hgg ht hz hsm hbase
    refine wpList_plain hgd fun K hK' => ?_
    unfold Oper.wp
    simp [execOp, ho, resolve, invoke, builtin, hs, hx, hrun, Result.andThen]
    exact hK' _ _ (h v' w' h1 h2 h3)
/-- s[:k:k] -/
theorem cut_clip (a : Option Addr) (n c k : Nat) (hk : k ≤ c) (w : World) : (Instr.sliceAt 22 (.slice a n c) none (some (.int .i64 k)) (some (.int .i64 k))).run Try.prog w = .ok (.slice a k k) w := by
  have h1 : (Instr.slice 22 (.slice a n c) none (some (.int .i64 k)) (some (.int .i64 k))).run Try.prog w = .ok (.slice a k k) w := by
    have hs : (sizeOf 5).run Try.prog w = .ok 1 w := by simp [go_sem]
    simp [Instr.slice, run_underlying (P := Try.prog) (w := w) Try.underlying22, Instr.sliceBounds, run_sliceBound, go_sem, hk]
  simpa [Instr.sliceAt, run_underlying (P := Try.prog) (w := w) Try.underlying22] using h1
end
end
end Go.Proofs.Ytaepdmmlejdifaa
