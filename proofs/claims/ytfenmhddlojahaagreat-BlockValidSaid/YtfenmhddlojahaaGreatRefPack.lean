import Derived.Test.YtfenmhddlojahaaGreatPkWriter
import Derived.Test.YtfenmhddlojahaaGreatOct
/-
  The reference: fields that are written.
-/
namespace Go.Proofs.YtfenmhddlojahaaGreat
set_option maxRecDepth 100000
section
set_option linter.unusedVariables false
open Go.RowKit

theorem info_refW : (Tryz.prog.info? 38).map (·.size) = some 2 := by kernel_rfl
/-- a slice lies where another one lay, or beyond what was there -/
def Near (w : World) (b b' : Value) (w' : World) : Prop := ∀ k, b'.ownBlock = some k → b.ownBlock = some k ∨ (w.heap.size ≤ k ∧ k < w'.heap.size)
/-- octets on their way, by value: what a call makes of them -/
def RWto (w : World) (b : Value) (E' : Int) (bs' : List Int) (e : Ending) (w' : World) : Prop := ∃ b', e = .returned (.agg #[b', .int .i64 E']) ∧ Ints .u8 w' b' bs' ∧ Up w w' ∧ Near w b b' w'
def rNumB (bs : List Int) (n : Int) : List Int := if n < 0 ∨ 1099511627776 < n then bs else if bs.length ≤ 16384 then bs ++ octAll n 6 else bs
def rTextB (bs zs : List Int) : List Int := if 4096 < zs.length then bs else if bs.length ≤ 16384 then bs ++ (octAll zs.length 2 ++ zs) else bs

theorem up2 (w : World) (A B : Obj) : Up w ((w.alloc A).alloc B) := Up.alloc (Up.alloc (Up.refl w) A) B
set_option maxHeartbeats 1000000 in
theorem refNum_lo (b : Value) (E : Int) (bs : List Int) (n : Int) (w : World) (hbb : Ints .u8 w b bs) (hn : n < 0) :
    Calls Tryz.prog 27 #[.agg #[b, .int .i64 E], .int .i64 n] w (RWto w b (wErr E 4) bs) := by
  have Hb := Lib.hid hbb
  obtain ⟨a, c, rfl, _, _, _⟩ := hbb
  by_cases hE : E = 0
  · subst hE
    rw [show wErr 0 4 = 4 from rfl]
    go_enter Tryz.func27, Tryz.ntmps27
    go_wp2
    exact bodyPost_ret (results_cell_row rfl _ _ _ _ _ _ _ rfl (heap_alloc2_new w _ _) Tryz.underlying38 rfl info_refW) rfl ⟨_, rfl, Hb.out.up (up2 w _ _), up2 w _ _, fun k h => .inl h⟩
  · have e1 : (E == 0) = false := by rw [beq_eq_false_iff_ne]; exact hE
    rw [show wErr E 4 = E from if_neg hE]
    clear hE
    go_enter Tryz.func27, Tryz.ntmps27
    go_wp2
    exact bodyPost_ret (results_cell_row rfl _ _ _ _ _ _ _ rfl (heap_alloc2_new w _ _) Tryz.underlying38 rfl info_refW) rfl ⟨_, rfl, Hb.out.up (up2 w _ _), up2 w _ _, fun k h => .inl h⟩

set_option maxHeartbeats 1000000 in
theorem refNum_hi (b : Value) (E : Int) (bs : List Int) (n : Int) (w : World) (hbb : Ints .u8 w b bs) (hn : 1099511627776 < n) :
    Calls Tryz.prog 27 #[.agg #[b, .int .i64 E], .int .i64 n] w (RWto w b (wErr E 4) bs) := by
  have Hb := Lib.hid hbb
  obtain ⟨a, c, rfl, _, _, _⟩ := hbb
  by_cases hE : E = 0
  · subst hE
    rw [show wErr 0 4 = 4 from rfl]
    go_enter Tryz.func27, Tryz.ntmps27
    go_wp2
    exact bodyPost_ret (results_cell_row rfl _ _ _ _ _ _ _ rfl (heap_alloc2_new w _ _) Tryz.underlying38 rfl info_refW) rfl ⟨_, rfl, Hb.out.up (up2 w _ _), up2 w _ _, fun k h => .inl h⟩
  · have e1 : (E == 0) = false := by rw [beq_eq_false_iff_ne]; exact hE
    rw [show wErr E 4 = E from if_neg hE]
    clear hE
    go_enter Tryz.func27, Tryz.ntmps27
    go_wp2
    exact bodyPost_ret (results_cell_row rfl _ _ _ _ _ _ _ rfl (heap_alloc2_new w _ _) Tryz.underlying38 rfl info_refW) rfl ⟨_, rfl, Hb.out.up (up2 w _ _), up2 w _ _, fun k h => .inl h⟩

set_option maxHeartbeats 1000000 in
theorem refText_long (b : Value) (E : Int) (bs : List Int) (S : ByteArray) (w : World) (hbb : Ints .u8 w b bs) (hn : 4096 < S.size) :
    Calls Tryz.prog 28 #[.agg #[b, .int .i64 E], .string S] w (RWto w b (wErr E 5) bs) := by
  have Hb := Lib.hid hbb
  obtain ⟨a, c, rfl, _, _, _⟩ := hbb
  have hs : (4096 : Int) < (S.size : Int) := by omega
  by_cases hE : E = 0
  · subst hE
    rw [show wErr 0 5 = 5 from rfl]
    go_enter Tryz.func28, Tryz.ntmps28
    go_wp2
    exact bodyPost_ret (results_cell_row rfl _ _ _ _ _ _ _ rfl (heap_alloc2_new w _ _) Tryz.underlying38 rfl info_refW) rfl ⟨_, rfl, Hb.out.up (up2 w _ _), up2 w _ _, fun k h => .inl h⟩
  · have e1 : (E == 0) = false := by rw [beq_eq_false_iff_ne]; exact hE
    rw [show wErr E 5 = E from if_neg hE]
    clear hE
    go_enter Tryz.func28, Tryz.ntmps28
    go_wp2
    exact bodyPost_ret (results_cell_row rfl _ _ _ _ _ _ _ rfl (heap_alloc2_new w _ _) Tryz.underlying38 rfl info_refW) rfl ⟨_, rfl, Hb.out.up (up2 w _ _), up2 w _ _, fun k h => .inl h⟩

set_option maxHeartbeats 1000000 in
theorem refNum_full (b : Value) (E : Int) (bs : List Int) (n : Int) (w : World) (hbb : Ints .u8 w b bs) (h0 : 0 ≤ n) (h1 : n ≤ 1099511627776) (hb : 16384 < bs.length) (hb2 : bs.length ≤ 30000) :
    Calls Tryz.prog 27 #[.agg #[b, .int .i64 E], .int .i64 n] w (RWto w b E bs) := by
  have Hb := Lib.hid hbb
  obtain ⟨a, c, rfl, _, _, _⟩ := hbb
  go_enter Tryz.func27, Tryz.ntmps27
  go_wp2
  exact bodyPost_ret (results_cell_row rfl _ _ _ _ _ _ _ rfl (heap_alloc2_new w _ _) Tryz.underlying38 rfl info_refW) rfl ⟨_, rfl, Hb.out.up (up2 w _ _), up2 w _ _, fun k h => .inl h⟩

set_option maxHeartbeats 1000000 in
theorem refText_full (b : Value) (E : Int) (bs : List Int) (S : ByteArray) (w : World) (hbb : Ints .u8 w b bs) (h1 : S.size ≤ 4096) (hb : 16384 < bs.length) (hb2 : bs.length ≤ 30000) :
    Calls Tryz.prog 28 #[.agg #[b, .int .i64 E], .string S] w (RWto w b E bs) := by
  have Hb := Lib.hid hbb
  obtain ⟨a, c, rfl, _, _, _⟩ := hbb
  go_enter Tryz.func28, Tryz.ntmps28
  go_wp2
  exact bodyPost_ret (results_cell_row rfl _ _ _ _ _ _ _ rfl (heap_alloc2_new w _ _) Tryz.underlying38 rfl info_refW) rfl ⟨_, rfl, Hb.out.up (up2 w _ _), up2 w _ _, fun k h => .inl h⟩


/-- a row of its own, with more behind -/
theorem rw_done {w w6 w8 : World} {base : Nat} {v6 : Value} {n : Nat} {zs : List Int} {b0 b1 : Nat} (h : w6.ownsRow base 5 1 v6 n (zs.map (Value.int .u8))) (hU : Up w w6) (h0 : w.heap.size ≤ b0) (h1 : w.heap.size ≤ b1) (hb0 : b0 < base) (hb1 : b1 < base)
    (hg : (w6.setCell ⟨b0, 0, none⟩ v6).grownBy w8 (some b1)) : Ints .u8 w8 v6 zs ∧ Up w w8 ∧ ∀ k, v6.ownBlock = some k → w.heap.size ≤ k ∧ k < w8.heap.size := by
  have g1 : w6.grownBy (w6.setCell ⟨b0, 0, none⟩ v6) (some b0) := grownBy_setCell w6 ⟨b0, 0, none⟩ v6
  have r1 := h.kept g1 (row_off h (fun q e => by cases e; exact hb0))
  have r2 := r1.kept hg (row_off r1 (fun q e => by cases e; exact hb1))
  exact ⟨Ints.of_row r2, up_at (up_at hU g1 h0) hg h1, fun k hk => by have := r2.lt k hk; omega⟩

set_option maxHeartbeats 2000000 in
theorem refNum_ok (b : Value) (E : Int) (bs : List Int) (n : Int) (w : World) (hbb : Ints .u8 w b bs) (h0 : 0 ≤ n) (h1 : n ≤ 1099511627776) (hl : bs.length ≤ 16384) :
    Calls Tryz.prog 27 #[.agg #[b, .int .i64 E], .int .i64 n] w (RWto w b E (bs ++ octAll n 6)) := by
  obtain ⟨i0, hi, hz0, hz1, hz2⟩ := info_parts info_u8
  have Hp : Hid (∀ wx, Calls Tryz.prog 57 #[.int .i64 n, .int .i64 6] wx fun e w' => ∃ v, e = .returned v ∧ w'.ownsRow wx.heap.size 5 1 v 6 ((octAll n 6).map (Value.int .u8)) ∧ Up wx w') := fun wx => by
    have hp := refPut_any n 6 (by omega) (by omega) 6 (by omega) wx
    rwa [show IntKind.u64.wrap n = n from by rw [IntKind.wrap_u64]; omega] at hp
  have Hol := Lib.hid (octAll_length n 6)
  generalize octAll n 6 = oct at *
  obtain ⟨a, c, rfl, hcap, hnil, hcs⟩ := hbb
  have Hbb := Lib.hid (show Ints .u8 w (.slice a bs.length c) bs from ⟨a, c, rfl, hcap, hnil, hcs⟩)
  obtain ⟨w2, hw2⟩ : ∃ w2, (w.alloc (.cells #[.slice a bs.length c, .int .i64 E] 38)).alloc (.cells #[.slice none 0 0, .int .i64 0] 38) = w2 := ⟨_, rfl⟩
  have hU2 : Up w w2 := by rw [← hw2]; exact up2 w _ _
  have hs2 : w2.heap.size = w.heap.size + 2 := by rw [← hw2]; simp
  have hx0 : w2.heap[w.heap.size]? = some (.cells #[.slice a bs.length c, .int .i64 E] 38 (0, 0)) := by rw [← hw2]; exact heap_alloc2_old w _ _
  have hx1 : w2.heap[w.heap.size + 1]? = some (.cells #[.slice none 0 0, .int .i64 0] 38 (0, 0)) := by rw [← hw2]; exact heap_alloc2_new w _ _
  have hU3 : Up w2 (w2.alloc (.cells #[] 5)) := Up.alloc (Up.refl w2) _
  have r0 := ownsRow_empty w2 5
  rw [hs2] at r0
  obtain ⟨a9, c9, e9, _, hn9, hcs9⟩ := Hbb.out.up (hU2.trans hU3)
  simp only [Value.slice.injEq, true_and] at e9
  obtain ⟨rfl, rfl⟩ := e9
  have Hnews := Lib.hid (cells_all hcs9)
  have Hnn : Hid (a = none → bs.length = 0 ∧ c = 0) := Lib.hid (fun e => ⟨none_empty hcs9 e, hn9 e⟩)
  have Hs2 := Lib.hid hs2
  have Hx0 := Lib.hid hx0
  have Hx1 := Lib.hid hx1
  have HU2 := Lib.hid hU2
  have HU3 := Lib.hid hU3
  have R0 := Lib.hid r0
  have hc0 := cell_of_row _ _ 0 _ _ _ hx0
  have hl0 := hU3.block w.heap.size (by rw [hs2]; omega)
  have hc30 := cell_of_row _ _ 0 _ _ _ (hl0.trans hx0)
  simp only [List.getElem?_toArray, List.getElem?_cons_zero] at hc0 hc30
  have HB : Hid (∀ (w4 : World), (w2.alloc (.cells #[] 5)).grownBy w4 (some (w.heap.size + 2)) → Up w w4 ∧ w4.heap[w.heap.size]? = some (.cells #[.slice a bs.length c, .int .i64 E] 38 (0, 0)) ∧ w4.heap[w.heap.size + 1]? = some (.cells #[.slice none 0 0, .int .i64 0] 38 (0, 0))) := Lib.hid (fun w4 hg => by
    refine ⟨up_at (hU2.trans hU3) hg (by omega), ?_, ?_⟩
    · exact (hg.block _ (by simp; omega) (by simp)).trans (hl0.trans hx0)
    · exact (hg.block _ (by simp; omega) (by simp)).trans ((hU3.block _ (by omega)).trans hx1))
  have Hb2 := Lib.hid (show w.heap.size + 2 ≤ (w2.alloc (.cells #[] 5)).heap.size by simp; omega)
  clear hcs hcs9 hnil hn9 hU2 hs2 hx0 hx1 hU3 r0 hl0
  subst hw2
  go_enter Tryz.func27, Tryz.ntmps27
  go_wp2_with (at_builtin; go_loud (refine wpList_append_own_src _ rfl (.tmp 20) (.tmp 22) 31 rfl (w.heap.size + 2) 5 i0 (.int .u8 0) 1 1 Tryz.underlying31 hi hz0 hz1 hz2 rfl (by decide) _ 0 _ rfl R0.out a bs.length c (bs.map (Value.int .u8)) rfl Hnn.out (by simp) Hnews.out (u8_cells bs) (by unfold maxLen; omega) (by omega) Hb2.out ?_; intro v4 w4 hown4 hgrow4 _; rw [Nat.zero_add, List.nil_append] at hown4; obtain ⟨a4, c4, rfl⟩ := row_shape hown4; have Hown4 := Lib.hid hown4; have HG4 := Lib.hid hgrow4; clear hown4 hgrow4))
  have hgr := HG4.out
  simp only [Value.ownBlock] at hgr
  obtain ⟨hu4, hx40, hx41⟩ := HB.out w4 hgr
  have HU4 := Lib.hid hu4
  have HX40 := Lib.hid hx40
  have HX41 := Lib.hid hx41
  clear hgr hu4 hx40 hx41 HB
  with_reducible refine Calls.mono (Hp.out _) ?_
  rintro e w5 ⟨v5, rfl, hrow5, hup5⟩
  have HU5 := Lib.hid (HU4.out.trans hup5)
  have hx50 := (hup5.block _ (lt_of_block HX40.out)).trans HX40.out
  have HX51 := Lib.hid ((hup5.block _ (lt_of_block HX41.out)).trans HX41.out)
  have hc50 := cell_of_row _ _ 0 _ _ _ hx50
  simp only [List.getElem?_toArray, List.getElem?_cons_zero] at hc50
  have HX50 := Lib.hid hx50
  have Hown5 := Lib.hid (ownsRow_up Hown4.out hup5)
  obtain ⟨a5, c5, e5, _, hn5, hcs5⟩ := Ints.of_row hrow5
  rw [Hol.out] at e5
  subst e5
  have Hn5 : Hid (a5 = none → 6 = 0 ∧ c5 = 0) := Lib.hid (fun e => ⟨by rw [← Hol.out]; exact none_empty hcs5 e, hn5 e⟩)
  have Hnews5 := Lib.hid (cells_all hcs5)
  have Hb5 := Lib.hid (show w.heap.size + 2 ≤ w5.heap.size from by
    have := ownsRow_addr Hown5.out
    have h1 := Hb2.out
    have h2 := HG4.out.size
    have h3 := hup5.size
    omega)
  have Hcl : Hid ((oct.map (Value.int .u8)).length = 6 * 1) := Lib.hid (by simp [Hol.out])
  clear hup5 hx50 hrow5 hn5 hcs5
  go_wp2_with (first
    | (at_builtin; refine wpList_append_own_src _ rfl (.tmp 23) (.tmp 25) 31 rfl (w.heap.size + 2) 5 i0 (.int .u8 0) 1 1 Tryz.underlying31 hi hz0 hz1 hz2 rfl (by decide) (.slice a4 bs.length c4) bs.length _ rfl Hown5.out a5 6 c5 (oct.map (Value.int .u8)) rfl Hn5.out Hcl.out Hnews5.out (u8_cells oct) (by unfold maxLen; omega) (by omega) Hb5.out ?_; intro v6 w6 hown6 hgrow6 _; obtain ⟨a6, c6, rfl⟩ := row_shape hown6; have hx60 := (hgrow6.block _ (lt_of_block HX50.out) (block_off HX50.out (by decide) Hown5.out)).trans HX50.out; have HX61 := Lib.hid ((hgrow6.block _ (lt_of_block HX51.out) (block_off HX51.out (by decide) Hown5.out)).trans HX51.out); have hc60 := cell_of_row _ _ 0 _ _ _ hx60; have hf60 := frozen_of_row _ _ 0 _ _ hx60; simp only [List.getElem?_toArray, List.getElem?_cons_zero] at hc60; have HX60 := Lib.hid hx60; clear hx60; have Hown6 := Lib.hid hown6; have HG6 := Lib.hid hgrow6; clear hown6 hgrow6)
    | (refine wpList_load_row rfl 38 (.tmp 2) rfl w.heap.size rfl 38 #[.slice a6 (bs.length + 6) c6, .int .i64 E] (0, 0) _ (set_field HX60.out 0 _ rfl) Tryz.underlying38 rfl info_refW ?_)
    | (refine wpList_store_agg rfl 38 (.tmp 4) (.tmp 28) rfl (w.heap.size + 1) _ #[.slice a6 (bs.length + 6) c6, .int .i64 E] rfl rfl 38 ((Below.heap_setCell _ _ _ _ (Nat.succ_ne_self _)).trans HX61.out) info_refW rfl (by simp [Value.oneCell']) ?_; intro w8 hg8 hgr8))
  have hown := Hown6.out
  rw [← List.map_append] at hown
  have hr := rw_done hown (up_row HU5.out Hown5.out HG6.out (Nat.le_add_right _ _)) (Nat.le_refl _) (Nat.le_succ _) (by omega) (by omega) hgr8
  exact bodyPost_ret (results_cell_row rfl _ _ _ _ _ _ _ rfl hg8 Tryz.underlying38 rfl info_refW) rfl ⟨_, rfl, hr.1, hr.2.1, fun k h => .inr (hr.2.2 k h)⟩
set_option maxHeartbeats 2000000 in
theorem refText_ok (b : Value) (E : Int) (bs : List Int) (zs : List Int) (w : World) (hbb : Ints .u8 w b bs) (hu : U8s zs) (h1 : zs.length ≤ 4096) (hl : bs.length ≤ 16384) :
    Calls Tryz.prog 28 #[.agg #[b, .int .i64 E], .string (strOfNums zs)] w (RWto w b E (bs ++ (octAll zs.length 2 ++ zs))) := by
  obtain ⟨i0, hi, hz0, hz1, hz2⟩ := info_parts info_u8
  have Hp : Hid (∀ wx, Calls Tryz.prog 57 #[.int .i64 ((strOfNums zs).size : Int), .int .i64 2] wx fun e w' => ∃ v, e = .returned v ∧ w'.ownsRow wx.heap.size 5 1 v 2 ((octAll zs.length 2).map (Value.int .u8)) ∧ Up wx w') := fun wx => by
    have hp := refPut_any zs.length 2 (by omega) (by omega) 2 (by omega) wx
    rw [show IntKind.u64.wrap (zs.length : Int) = zs.length from by rw [IntKind.wrap_u64]; omega] at hp
    rwa [show ((strOfNums zs).size : Int) = zs.length from by rw [strOfNums_size]]
  have Hol := Lib.hid (octAll_length zs.length 2)
  generalize octAll zs.length 2 = oct at *
  have Hcells := Lib.hid (strCells_of zs hu)
  have Hz1 := Lib.hid (show (strOfNums zs).size = zs.length from strOfNums_size zs)
  have h3 : ¬ 4096 < (strOfNums zs).size := by rw [strOfNums_size]; omega
  have h4 : ¬ (4096 : Int) < ((strOfNums zs).size : Int) := by rw [strOfNums_size]; omega
  have h5 : (strOfNums zs).size ≤ 4096 := by omega
  generalize strOfNums zs = S at *
  clear h1
  obtain ⟨a, c, rfl, hcap, hnil, hcs⟩ := hbb
  have Hbb := Lib.hid (show Ints .u8 w (.slice a bs.length c) bs from ⟨a, c, rfl, hcap, hnil, hcs⟩)
  obtain ⟨w2, hw2⟩ : ∃ w2, (w.alloc (.cells #[.slice a bs.length c, .int .i64 E] 38)).alloc (.cells #[.slice none 0 0, .int .i64 0] 38) = w2 := ⟨_, rfl⟩
  have hU2 : Up w w2 := by rw [← hw2]; exact up2 w _ _
  have hs2 : w2.heap.size = w.heap.size + 2 := by rw [← hw2]; simp
  have hx0 : w2.heap[w.heap.size]? = some (.cells #[.slice a bs.length c, .int .i64 E] 38 (0, 0)) := by rw [← hw2]; exact heap_alloc2_old w _ _
  have hx1 : w2.heap[w.heap.size + 1]? = some (.cells #[.slice none 0 0, .int .i64 0] 38 (0, 0)) := by rw [← hw2]; exact heap_alloc2_new w _ _
  have hU3 : Up w2 (w2.alloc (.cells #[] 5)) := Up.alloc (Up.refl w2) _
  have r0 := ownsRow_empty w2 5
  rw [hs2] at r0
  obtain ⟨a9, c9, e9, _, hn9, hcs9⟩ := Hbb.out.up (hU2.trans hU3)
  simp only [Value.slice.injEq, true_and] at e9
  obtain ⟨rfl, rfl⟩ := e9
  have Hnews := Lib.hid (cells_all hcs9)
  have Hnn : Hid (a = none → bs.length = 0 ∧ c = 0) := Lib.hid (fun e => ⟨none_empty hcs9 e, hn9 e⟩)
  have Hs2 := Lib.hid hs2
  have Hx0 := Lib.hid hx0
  have Hx1 := Lib.hid hx1
  have HU2 := Lib.hid hU2
  have HU3 := Lib.hid hU3
  have R0 := Lib.hid r0
  have hc0 := cell_of_row _ _ 0 _ _ _ hx0
  have hl0 := hU3.block w.heap.size (by rw [hs2]; omega)
  have hc30 := cell_of_row _ _ 0 _ _ _ (hl0.trans hx0)
  simp only [List.getElem?_toArray, List.getElem?_cons_zero] at hc0 hc30
  have HB : Hid (∀ (w4 : World), (w2.alloc (.cells #[] 5)).grownBy w4 (some (w.heap.size + 2)) → Up w w4 ∧ w4.heap[w.heap.size]? = some (.cells #[.slice a bs.length c, .int .i64 E] 38 (0, 0)) ∧ w4.heap[w.heap.size + 1]? = some (.cells #[.slice none 0 0, .int .i64 0] 38 (0, 0))) := Lib.hid (fun w4 hg => by
    refine ⟨up_at (hU2.trans hU3) hg (by omega), ?_, ?_⟩
    · exact (hg.block _ (by simp; omega) (by simp)).trans (hl0.trans hx0)
    · exact (hg.block _ (by simp; omega) (by simp)).trans ((hU3.block _ (by omega)).trans hx1))
  have Hb2 := Lib.hid (show w.heap.size + 2 ≤ (w2.alloc (.cells #[] 5)).heap.size by simp; omega)
  clear hcs hcs9 hnil hn9 hU2 hs2 hx0 hx1 hU3 r0 hl0
  subst hw2
  go_enter Tryz.func28, Tryz.ntmps28
  go_wp2_with (at_builtin; go_loud (refine wpList_append_own_src _ rfl (.tmp 17) (.tmp 19) 31 rfl (w.heap.size + 2) 5 i0 (.int .u8 0) 1 1 Tryz.underlying31 hi hz0 hz1 hz2 rfl (by decide) _ 0 _ rfl R0.out a bs.length c (bs.map (Value.int .u8)) rfl Hnn.out (by simp) Hnews.out (u8_cells bs) (by unfold maxLen; omega) (by omega) Hb2.out ?_; intro v4 w4 hown4 hgrow4 _; rw [Nat.zero_add, List.nil_append] at hown4; obtain ⟨a4, c4, rfl⟩ := row_shape hown4; have Hown4 := Lib.hid hown4; have HG4 := Lib.hid hgrow4; clear hown4 hgrow4))
  have hgr := HG4.out
  simp only [Value.ownBlock] at hgr
  obtain ⟨hu4, hx40, hx41⟩ := HB.out w4 hgr
  have HU4 := Lib.hid hu4
  have HX40 := Lib.hid hx40
  have HX41 := Lib.hid hx41
  clear hgr hu4 hx40 hx41 HB
  with_reducible refine Calls.mono (Hp.out _) ?_
  rintro e w5 ⟨v5, rfl, hrow5, hup5⟩
  have HU5 := Lib.hid (HU4.out.trans hup5)
  have hx50 := (hup5.block _ (lt_of_block HX40.out)).trans HX40.out
  have HX51 := Lib.hid ((hup5.block _ (lt_of_block HX41.out)).trans HX41.out)
  have hc50 := cell_of_row _ _ 0 _ _ _ hx50
  simp only [List.getElem?_toArray, List.getElem?_cons_zero] at hc50
  have HX50 := Lib.hid hx50
  have Hown5 := Lib.hid (ownsRow_up Hown4.out hup5)
  obtain ⟨a5, c5, e5, _, hn5, hcs5⟩ := Ints.of_row hrow5
  rw [Hol.out] at e5
  subst e5
  have Hn5 : Hid (a5 = none → 2 = 0 ∧ c5 = 0) := Lib.hid (fun e => ⟨by rw [← Hol.out]; exact none_empty hcs5 e, hn5 e⟩)
  have Hnews5 := Lib.hid (cells_all hcs5)
  have Hb5 := Lib.hid (show w.heap.size + 2 ≤ w5.heap.size from by
    have := ownsRow_addr Hown5.out
    have h1 := Hb2.out
    have h2 := HG4.out.size
    have h3 := hup5.size
    omega)
  have Hcl : Hid ((oct.map (Value.int .u8)).length = 2 * 1) := Lib.hid (by simp [Hol.out])
  clear hup5 hx50 hrow5 hn5 hcs5
  go_wp2_with (first
    | (at_builtin; refine wpList_append_own_src _ rfl (.tmp 20) (.tmp 23) 31 rfl (w.heap.size + 2) 5 i0 (.int .u8 0) 1 1 Tryz.underlying31 hi hz0 hz1 hz2 rfl (by decide) (.slice a4 bs.length c4) bs.length _ rfl Hown5.out a5 2 c5 (oct.map (Value.int .u8)) rfl Hn5.out Hcl.out Hnews5.out (u8_cells oct) (by unfold maxLen; omega) (by omega) Hb5.out ?_; intro v6 w6 hown6 hgrow6 _; obtain ⟨a6, c6, rfl⟩ := row_shape hown6; have hx60 := (hgrow6.block _ (lt_of_block HX50.out) (block_off HX50.out (by decide) Hown5.out)).trans HX50.out; have HX61 := Lib.hid ((hgrow6.block _ (lt_of_block HX51.out) (block_off HX51.out (by decide) Hown5.out)).trans HX51.out); have hc60 := cell_of_row _ _ 0 _ _ _ hx60; have hf60 := frozen_of_row _ _ 0 _ _ hx60; simp only [List.getElem?_toArray, List.getElem?_cons_zero] at hc60; have HX60 := Lib.hid hx60; clear hx60; have Hown6 := Lib.hid hown6; have HG6 := Lib.hid hgrow6; clear hown6 hgrow6)
    | (refine Lib.wpList_append_own_string _ rfl (.tmp 24) (.tmp 25) 31 9 rfl (w.heap.size + 2) 5 i0 Tryz.underlying31 Tryz.underlying9 hi hz0 hz1 hz2 (.slice a6 (bs.length + 2) c6) (bs.length + 2) _ rfl Hown6.out S rfl (by unfold maxLen; omega) (by omega) (Nat.le_trans Hb5.out HG6.out.size) ?_; intro v7 w7 hown7 hgrow7 _; obtain ⟨a7, c7, rfl⟩ := row_shape hown7; have hx70 := (hgrow7.block _ (lt_of_block HX60.out) (block_off HX60.out (by decide) Hown6.out)).trans HX60.out; have HX71 := Lib.hid ((hgrow7.block _ (lt_of_block HX61.out) (block_off HX61.out (by decide) Hown6.out)).trans HX61.out); have hc70 := cell_of_row _ _ 0 _ _ _ hx70; have hf70 := frozen_of_row _ _ 0 _ _ hx70; simp only [List.getElem?_toArray, List.getElem?_cons_zero] at hc70; have HX70 := Lib.hid hx70; clear hx70; have Hown7 := Lib.hid hown7; have HG7 := Lib.hid hgrow7; clear hown7 hgrow7)
    | (refine wpList_load_row rfl 38 (.tmp 2) rfl w.heap.size rfl 38 #[.slice a7 (bs.length + 2 + S.size) c7, .int .i64 E] (0, 0) _ (set_field HX70.out 0 _ rfl) Tryz.underlying38 rfl info_refW ?_)
    | (refine wpList_store_agg rfl 38 (.tmp 4) (.tmp 28) rfl (w.heap.size + 1) _ #[.slice a7 (bs.length + 2 + S.size) c7, .int .i64 E] rfl rfl 38 ((Below.heap_setCell _ _ _ _ (Nat.succ_ne_self _)).trans HX71.out) info_refW rfl (by simp [Value.oneCell']) ?_; intro w8 hg8 hgr8))
  have hown := Hown7.out
  rw [Hcells.out, ← List.map_append, ← List.map_append, List.append_assoc] at hown
  have hr := rw_done hown (up_row (up_row HU5.out Hown5.out HG6.out (Nat.le_add_right _ _)) Hown6.out HG7.out (Nat.le_add_right _ _)) (Nat.le_refl _) (Nat.le_succ _) (by omega) (by omega) hgr8
  exact bodyPost_ret (results_cell_row rfl _ _ _ _ _ _ _ rfl hg8 Tryz.underlying38 rfl info_refW) rfl ⟨_, rfl, hr.1, hr.2.1, fun k h => .inr (hr.2.2 k h)⟩

theorem refNum_any (b : Value) (E : Int) (bs : List Int) (n : Int) (w : World) (hbb : Ints .u8 w b bs) (hl : bs.length ≤ 30000) :
    Calls Tryz.prog 27 #[.agg #[b, .int .i64 E], .int .i64 n] w (RWto w b (wNumE E n) (rNumB bs n)) := by
  unfold wNumE rNumB
  by_cases h0 : n < 0
  · rw [if_pos (.inl h0), if_pos (.inl h0)]; exact refNum_lo b E bs n w hbb h0
  · by_cases h1 : 1099511627776 < n
    · rw [if_pos (.inr h1), if_pos (.inr h1)]; exact refNum_hi b E bs n w hbb h1
    · have h2 : ¬ (n < 0 ∨ 1099511627776 < n) := by omega
      rw [if_neg h2, if_neg h2]
      split
      · next h3 => exact refNum_ok b E bs n w hbb (by omega) (by omega) h3
      · next h3 => exact refNum_full b E bs n w hbb (by omega) (by omega) (by omega) hl
theorem refText_any (b : Value) (E : Int) (bs zs : List Int) (w : World) (hbb : Ints .u8 w b bs) (hu : U8s zs) (hl : bs.length ≤ 30000) (hz : zs.length ≤ 9223372036854775807) :
    Calls Tryz.prog 28 #[.agg #[b, .int .i64 E], .string (strOfNums zs)] w (RWto w b (wTextE E zs) (rTextB bs zs)) := by
  unfold wTextE rTextB
  by_cases h0 : 4096 < zs.length
  · rw [if_pos h0, if_pos h0]; exact refText_long b E bs _ w hbb (by rw [strOfNums_size]; exact h0)
  · rw [if_neg h0, if_neg h0]
    split
    · next h3 => exact refText_ok b E bs zs w hbb hu (by omega) h3
    · next h3 => exact refText_full b E bs _ w hbb (by rw [strOfNums_size]; omega) (by omega) hl

set_option maxHeartbeats 1000000 in
theorem refDone_any (b : Value) (E : Int) (bs : List Int) (w : World) (hbb : Ints .u8 w b bs) (hl : bs.length ≤ 30000) :
    Calls Tryz.prog 9 #[.agg #[b, .int .i64 E]] w fun e w' => ∃ r, e = .returned (.tuple #[r, .int .i64 (doneE E bs)]) ∧ Ints .u8 w' r (doneB E bs) ∧ Up w w' := by
  have Hb := Lib.hid hbb
  obtain ⟨a, c, rfl, _, _, _⟩ := hbb
  by_cases hE : E = 0
  · subst hE
    by_cases h : 16384 < bs.length
    · rw [show doneE 0 bs = 5 from by simp [doneE, h], show doneB 0 bs = [] from by simp [doneB, h]]
      go_enter Tryz.func9, Tryz.ntmps9
      go_wp2
      go_ret2
      exact ⟨_, rfl, Ints.empty (fun _ => rfl), Up.alloc (Up.refl w) _⟩
    · rw [show doneE 0 bs = 0 from by simp [doneE, h], show doneB 0 bs = bs from by simp [doneB, h]]
      go_enter Tryz.func9, Tryz.ntmps9
      go_wp2
      go_ret2
      exact ⟨_, rfl, Hb.out.up (Up.alloc (Up.refl w) _), Up.alloc (Up.refl w) _⟩
  · have e1 : (E == 0) = false := by rw [beq_eq_false_iff_ne]; exact hE
    have e2 : (E != 0) = true := by rw [bne, e1]; rfl
    rw [show doneE E bs = E from by simp [doneE, hE], show doneB E bs = [] from by simp [doneB, hE]]
    clear hE
    go_enter Tryz.func9, Tryz.ntmps9
    go_wp2
    go_quiet (fail)
    go_wp2
    go_ret2
    exact ⟨_, rfl, Ints.empty (fun _ => rfl), Up.drewN (Up.alloc (Up.refl w) _) _⟩
end
end Go.Proofs.YtfenmhddlojahaaGreat
