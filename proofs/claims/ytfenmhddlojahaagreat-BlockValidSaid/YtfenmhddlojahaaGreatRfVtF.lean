import Derived.Test.YtfenmhddlojahaaGreatCtRight
import Derived.Test.YtfenmhddlojahaaGreatRefPack
import Derived.Test.YtfenmhddlojahaaGreatVtCheck
namespace Go.Proofs.YtfenmhddlojahaaGreat
/-
  The reference's text of a statement, field by field.
-/
section
set_option maxRecDepth 100000
section
set_option linter.unusedVariables false
open Go.RowKit Go.Sort Go.Lib

theorem rNumB_len {bs : List Int} (n : Int) (h : bs.length ≤ 20482) : (rNumB bs n).length ≤ 20482 := by
  unfold rNumB
  split
  · exact h
  · split
    · rw [List.length_append, octAll_length]; omega
    · exact h
theorem rTextB_len {bs : List Int} (zs : List Int) (h : bs.length ≤ 20482) : (rTextB bs zs).length ≤ 20482 := by
  unfold rTextB
  split
  · exact h
  · split
    · rw [List.length_append, List.length_append, octAll_length]; omega
    · exact h
theorem near_trans {w w1 w2 : World} {b b1 b2 : Value} (h : Near w b b1 w1) (k : Near w1 b1 b2 w2) (u : Up w1 w2) (hs : w.heap.size ≤ w1.heap.size) : Near w b b2 w2 := fun q hq => by
  rcases k q hq with k | k
  · rcases h q k with h | h
    · exact .inl h
    · exact .inr ⟨h.1, Nat.lt_of_lt_of_le h.2 u.size⟩
  · exact .inr ⟨Nat.le_trans hs k.1, k.2⟩
theorem near_up {w w1 w2 : World} {b b2 : Value} (u : Up w w1) (k : Near w1 b b2 w2) : Near w b b2 w2 := fun q hq => by
  rcases k q hq with k | k
  · exact .inl k
  · exact .inr ⟨Nat.le_trans u.size k.1, k.2⟩
theorem near_end {w w1 w2 w3 : World} {b b2 : Value} {r : Option Nat} (u : Up w w1) (k : Near w1 b b2 w2) (g : w2.grownBy w3 r) : Near w b b2 w3 := fun q hq => by
  rcases k q hq with k | k
  · exact .inl k
  · exact .inr ⟨Nat.le_trans u.size k.1, Nat.lt_of_lt_of_le k.2 g.size⟩
theorem ints_row {w w' : World} {v : Value} {zs : List Int} {rb : Nat} {a : Option Addr} {n c : Nat} {e : Int} {ty : TypeId} (h : Ints .u8 w v zs) (hg : w.grownBy w' (some rb)) (hr : w.heap[rb]? = some (.cells #[.slice a n c, .int .i64 e] ty (0, 0))) : Ints .u8 w' v zs := by
  obtain ⟨ad, cap, he, h2, h3, h4⟩ := h
  refine ⟨ad, cap, he, h2, h3, h4.imp id ?_⟩
  rintro ⟨b', off, rfl, hc⟩
  refine ⟨b', off, rfl, fun j hj => ?_⟩
  have hne : b' ≠ rb := by
    rintro rfl
    have := hc j hj
    rw [cell_of_row _ _ (off + j) _ _ _ hr] at this
    rcases hoj : off + j with _ | _ | q <;> simp [hoj] at this
  rw [← hc j hj]
  exact World.cell?_of_block (a := ⟨b', off + j, none⟩) (hg.block b' (World.block_lt_of_cell? w _ (hc j hj)) (fun e => hne (by simpa using e)))
theorem one_w {w : World} {v : Value} {zs : List Int} (h : Ints .u8 w v zs) (e : Int) : (#[v, .int .i64 e] : Array Value).all (·.oneCell') = true := by
  obtain ⟨a, c, rfl, _⟩ := h
  simp [Value.oneCell']

set_option maxHeartbeats 4000000 in
theorem voteFields_any (b : Value) (E : Int) (bs : List Int) (K V H : Int) (BL : List Int) (T G : Int) (SG : ByteArray) (w : World) (hbb : Ints .u8 w b bs) (hl : bs.length ≤ 20482) (hu : U8s BL) (hn : BL.length ≤ 9223372036854775807) :
    Calls Tryz.prog 58 #[.agg #[b, .int .i64 E], .agg #[.int .i64 K, .int .i64 V, .int .i64 H, .string (strOfNums BL), .int .i64 T, .int .i64 G, .string SG]] w (RWto w b (wNumE (wNumE (wTextE (wNumE (wNumE (wNumE (wTextE (E) [118, 111, 116, 101]) K) V) H) BL) T) G) (rNumB (rNumB (rTextB (rNumB (rNumB (rNumB (rTextB (bs) [118, 111, 116, 101]) K) V) H) BL) T) G)) := by
  have Hb := Lib.hid hbb
  have HL := Lib.hid hl
  have HBL := Lib.hid hu
  have HBN := Lib.hid hn
  have HT1 : Hid (∀ wx, Ints .u8 wx b bs → Calls Tryz.prog 28 #[.agg #[b, .int .i64 E], .string ⟨#[118, 111, 116, 101]⟩] wx (RWto wx b (wTextE E [118, 111, 116, 101]) (rTextB bs [118, 111, 116, 101]))) := fun wx h => refText_any b E bs [118, 111, 116, 101] wx h (by intro j hj; match j, hj with | 0, _ => decide | 1, _ => decide | 2, _ => decide | 3, _ => decide) (Nat.le_trans hl (by decide)) (by decide)
  have u1 := Up.alloc (Up.refl w) (.cells #[b, .int .i64 E] 38)
  have u2 := Up.alloc (Up.refl (w.alloc (.cells #[b, .int .i64 E] 38))) (.cells #[.int .i64 K, .int .i64 V, .int .i64 H, .string (strOfNums BL), .int .i64 T, .int .i64 G, .string SG] 49)
  have u3 := Up.alloc (Up.refl ((w.alloc (.cells #[b, .int .i64 E] 38)).alloc (.cells #[.int .i64 K, .int .i64 V, .int .i64 H, .string (strOfNums BL), .int .i64 T, .int .i64 G, .string SG] 49))) (.cells #[.slice none 0 0, .int .i64 0] 38)
  have h1 := heap_alloc_new w (.cells #[b, .int .i64 E] 38)
  have h2 := heap_alloc_new (w.alloc (.cells #[b, .int .i64 E] 38)) (.cells #[.int .i64 K, .int .i64 V, .int .i64 H, .string (strOfNums BL), .int .i64 T, .int .i64 G, .string SG] 49)
  have h3 := heap_alloc_new ((w.alloc (.cells #[b, .int .i64 E] 38)).alloc (.cells #[.int .i64 K, .int .i64 V, .int .i64 H, .string (strOfNums BL), .int .i64 T, .int .i64 G, .string SG] 49)) (.cells #[.slice none 0 0, .int .i64 0] 38)
  rw [show (w.alloc (.cells #[b, .int .i64 E] 38)).heap.size = w.heap.size + 1 by simp] at h2
  rw [show ((w.alloc (.cells #[b, .int .i64 E] 38)).alloc (.cells #[.int .i64 K, .int .i64 V, .int .i64 H, .string (strOfNums BL), .int .i64 T, .int .i64 G, .string SG] 49)).heap.size = w.heap.size + 1 + 1 by simp] at h3
  have u23 := Up.trans u2 u3
  have HUz := Lib.hid (Up.trans u1 u23)
  have g1 := (u23.block _ (lt_of_block h1)).trans h1
  have g2 := (u3.block _ (lt_of_block h2)).trans h2
  have HWB0 := Lib.hid g1
  have HVB0 := Lib.hid g2
  have HRB0 := Lib.hid h3
  clear u1 u2 u3 h1 h2 h3 u23 g1 g2 hbb hl hu hn
  go_enter Tryz.func58, Tryz.ntmps58
  go_wp2_with fail
  generalize ((w.alloc (.cells #[b, .int .i64 E] 38)).alloc (.cells #[.int .i64 K, .int .i64 V, .int .i64 H, .string (strOfNums BL), .int .i64 T, .int .i64 G, .string SG] 49)).alloc (.cells #[.slice none 0 0, .int .i64 0] 38) = wz at HUz HWB0 HVB0 HRB0 ⊢
  replace Hb := Lib.hid (Hb.out.up HUz.out)
  have HWB : Hid (∀ wx, KeptBut (fun k => k = w.heap.size + 1 + 1) wz wx → wx.heap[w.heap.size]? = some (.cells #[b, .int .i64 E] 38 (0, 0))) := fun wx u => (u.block _ (lt_of_block HWB0.out) (by omega)).trans HWB0.out
  have HVB : Hid (∀ wx, KeptBut (fun k => k = w.heap.size + 1 + 1) wz wx → wx.heap[w.heap.size + 1]? = some (.cells #[.int .i64 K, .int .i64 V, .int .i64 H, .string (strOfNums BL), .int .i64 T, .int .i64 G, .string SG] 49 (0, 0))) := fun wx u => (u.block _ (lt_of_block HVB0.out) (by omega)).trans HVB0.out
  have HRB : Hid (∀ wx, Up wz wx → wx.heap[w.heap.size + 1 + 1]? = some (.cells #[.slice none 0 0, .int .i64 0] 38 (0, 0))) := fun wx u => (u.block _ (lt_of_block HRB0.out)).trans HRB0.out
  clear HWB0 HVB0 HRB0
  have hU0 := Up.drew1 wz
  refine region_alongK (fun x => KeptBut (fun k => k = w.heap.size + 1 + 1) wz x) (.read 0 (.read 2 (.read 3 (.read 5 (.read 6 (.read 8 (.read 9 (.read 11 (.read 12 (.read 14 (.read 15 (.read 17 (.read 18 (.step 1 (.step 4 (.step 7 (.step 10 (.step 13 (.step 16 (.step 19 (.step 20 (.nil)))))))))))))))))))))) (by kernel_rfl) rfl (by kernel_rfl) (by kernel_rfl) (fun c a d v w h => by cases d <;> exact h) (KeptBut.of_up (Up.drew1 wz)) ?_
  refine alongK_read (.agg #[b, .int .i64 E]) rfl rfl (fun wx hS => ex_loadrow rfl rfl wx 38 (HWB.out wx hS) Tryz.underlying38 rfl info_refW) ?_
  change AlongK _ _ _ _ _ { tmps := #[.agg #[b, .int .i64 E], .agg #[.int .i64 K, .int .i64 V, .int .i64 H, .string (strOfNums BL), .int .i64 T, .int .i64 G, .string SG], .pointer (some ⟨w.heap.size, 0, none⟩), .pointer (some ⟨w.heap.size + 1, 0, none⟩), .pointer (some ⟨w.heap.size + 1 + 1, 0, none⟩), .agg #[b, .int .i64 E], _, _, _, _, _, _, _, _, _, _, _, _, _, _, _, _, _, _, _], defers := _ } _
  refine alongK_read (.pointer (some ⟨w.heap.size + 1, 0, none⟩)) rfl rfl (fun wx hS => ex_field rfl rfl wx (by simp [go_sem])) ?_
  change AlongK _ _ _ _ _ { tmps := #[.agg #[b, .int .i64 E], .agg #[.int .i64 K, .int .i64 V, .int .i64 H, .string (strOfNums BL), .int .i64 T, .int .i64 G, .string SG], .pointer (some ⟨w.heap.size, 0, none⟩), .pointer (some ⟨w.heap.size + 1, 0, none⟩), .pointer (some ⟨w.heap.size + 1 + 1, 0, none⟩), .agg #[b, .int .i64 E], _, .pointer (some ⟨w.heap.size + 1, 0, none⟩), _, _, _, _, _, _, _, _, _, _, _, _, _, _, _, _, _], defers := _ } _
  refine alongK_read (.int .i64 K) rfl rfl (fun wx hS => ex_load Tryz.isAgg3 rfl rfl wx ((vt_cells (HVB.out wx hS)).1)) ?_
  change AlongK _ _ _ _ _ { tmps := #[.agg #[b, .int .i64 E], .agg #[.int .i64 K, .int .i64 V, .int .i64 H, .string (strOfNums BL), .int .i64 T, .int .i64 G, .string SG], .pointer (some ⟨w.heap.size, 0, none⟩), .pointer (some ⟨w.heap.size + 1, 0, none⟩), .pointer (some ⟨w.heap.size + 1 + 1, 0, none⟩), .agg #[b, .int .i64 E], _, .pointer (some ⟨w.heap.size + 1, 0, none⟩), .int .i64 K, _, _, _, _, _, _, _, _, _, _, _, _, _, _, _, _], defers := _ } _
  refine alongK_read (.pointer (some ⟨w.heap.size + 1, 1, none⟩)) rfl rfl (fun wx hS => ex_field rfl rfl wx (by simp [go_sem])) ?_
  change AlongK _ _ _ _ _ { tmps := #[.agg #[b, .int .i64 E], .agg #[.int .i64 K, .int .i64 V, .int .i64 H, .string (strOfNums BL), .int .i64 T, .int .i64 G, .string SG], .pointer (some ⟨w.heap.size, 0, none⟩), .pointer (some ⟨w.heap.size + 1, 0, none⟩), .pointer (some ⟨w.heap.size + 1 + 1, 0, none⟩), .agg #[b, .int .i64 E], _, .pointer (some ⟨w.heap.size + 1, 0, none⟩), .int .i64 K, _, .pointer (some ⟨w.heap.size + 1, 1, none⟩), _, _, _, _, _, _, _, _, _, _, _, _, _, _], defers := _ } _
  refine alongK_read (.int .i64 V) rfl rfl (fun wx hS => ex_load Tryz.isAgg3 rfl rfl wx ((vt_cells (HVB.out wx hS)).2.1)) ?_
  change AlongK _ _ _ _ _ { tmps := #[.agg #[b, .int .i64 E], .agg #[.int .i64 K, .int .i64 V, .int .i64 H, .string (strOfNums BL), .int .i64 T, .int .i64 G, .string SG], .pointer (some ⟨w.heap.size, 0, none⟩), .pointer (some ⟨w.heap.size + 1, 0, none⟩), .pointer (some ⟨w.heap.size + 1 + 1, 0, none⟩), .agg #[b, .int .i64 E], _, .pointer (some ⟨w.heap.size + 1, 0, none⟩), .int .i64 K, _, .pointer (some ⟨w.heap.size + 1, 1, none⟩), .int .i64 V, _, _, _, _, _, _, _, _, _, _, _, _, _], defers := _ } _
  refine alongK_read (.pointer (some ⟨w.heap.size + 1, 2, none⟩)) rfl rfl (fun wx hS => ex_field rfl rfl wx (by simp [go_sem])) ?_
  change AlongK _ _ _ _ _ { tmps := #[.agg #[b, .int .i64 E], .agg #[.int .i64 K, .int .i64 V, .int .i64 H, .string (strOfNums BL), .int .i64 T, .int .i64 G, .string SG], .pointer (some ⟨w.heap.size, 0, none⟩), .pointer (some ⟨w.heap.size + 1, 0, none⟩), .pointer (some ⟨w.heap.size + 1 + 1, 0, none⟩), .agg #[b, .int .i64 E], _, .pointer (some ⟨w.heap.size + 1, 0, none⟩), .int .i64 K, _, .pointer (some ⟨w.heap.size + 1, 1, none⟩), .int .i64 V, _, .pointer (some ⟨w.heap.size + 1, 2, none⟩), _, _, _, _, _, _, _, _, _, _, _], defers := _ } _
  refine alongK_read (.int .i64 H) rfl rfl (fun wx hS => ex_load Tryz.isAgg3 rfl rfl wx ((vt_cells (HVB.out wx hS)).2.2.1)) ?_
  change AlongK _ _ _ _ _ { tmps := #[.agg #[b, .int .i64 E], .agg #[.int .i64 K, .int .i64 V, .int .i64 H, .string (strOfNums BL), .int .i64 T, .int .i64 G, .string SG], .pointer (some ⟨w.heap.size, 0, none⟩), .pointer (some ⟨w.heap.size + 1, 0, none⟩), .pointer (some ⟨w.heap.size + 1 + 1, 0, none⟩), .agg #[b, .int .i64 E], _, .pointer (some ⟨w.heap.size + 1, 0, none⟩), .int .i64 K, _, .pointer (some ⟨w.heap.size + 1, 1, none⟩), .int .i64 V, _, .pointer (some ⟨w.heap.size + 1, 2, none⟩), .int .i64 H, _, _, _, _, _, _, _, _, _, _], defers := _ } _
  refine alongK_read (.pointer (some ⟨w.heap.size + 1, 3, none⟩)) rfl rfl (fun wx hS => ex_field rfl rfl wx (by simp [go_sem])) ?_
  change AlongK _ _ _ _ _ { tmps := #[.agg #[b, .int .i64 E], .agg #[.int .i64 K, .int .i64 V, .int .i64 H, .string (strOfNums BL), .int .i64 T, .int .i64 G, .string SG], .pointer (some ⟨w.heap.size, 0, none⟩), .pointer (some ⟨w.heap.size + 1, 0, none⟩), .pointer (some ⟨w.heap.size + 1 + 1, 0, none⟩), .agg #[b, .int .i64 E], _, .pointer (some ⟨w.heap.size + 1, 0, none⟩), .int .i64 K, _, .pointer (some ⟨w.heap.size + 1, 1, none⟩), .int .i64 V, _, .pointer (some ⟨w.heap.size + 1, 2, none⟩), .int .i64 H, _, .pointer (some ⟨w.heap.size + 1, 3, none⟩), _, _, _, _, _, _, _, _], defers := _ } _
  refine alongK_read (.string (strOfNums BL)) rfl rfl (fun wx hS => ex_load Tryz.isAgg9 rfl rfl wx ((vt_cells (HVB.out wx hS)).2.2.2.1)) ?_
  change AlongK _ _ _ _ _ { tmps := #[.agg #[b, .int .i64 E], .agg #[.int .i64 K, .int .i64 V, .int .i64 H, .string (strOfNums BL), .int .i64 T, .int .i64 G, .string SG], .pointer (some ⟨w.heap.size, 0, none⟩), .pointer (some ⟨w.heap.size + 1, 0, none⟩), .pointer (some ⟨w.heap.size + 1 + 1, 0, none⟩), .agg #[b, .int .i64 E], _, .pointer (some ⟨w.heap.size + 1, 0, none⟩), .int .i64 K, _, .pointer (some ⟨w.heap.size + 1, 1, none⟩), .int .i64 V, _, .pointer (some ⟨w.heap.size + 1, 2, none⟩), .int .i64 H, _, .pointer (some ⟨w.heap.size + 1, 3, none⟩), .string (strOfNums BL), _, _, _, _, _, _, _], defers := _ } _
  refine alongK_read (.pointer (some ⟨w.heap.size + 1, 4, none⟩)) rfl rfl (fun wx hS => ex_field rfl rfl wx (by simp [go_sem])) ?_
  change AlongK _ _ _ _ _ { tmps := #[.agg #[b, .int .i64 E], .agg #[.int .i64 K, .int .i64 V, .int .i64 H, .string (strOfNums BL), .int .i64 T, .int .i64 G, .string SG], .pointer (some ⟨w.heap.size, 0, none⟩), .pointer (some ⟨w.heap.size + 1, 0, none⟩), .pointer (some ⟨w.heap.size + 1 + 1, 0, none⟩), .agg #[b, .int .i64 E], _, .pointer (some ⟨w.heap.size + 1, 0, none⟩), .int .i64 K, _, .pointer (some ⟨w.heap.size + 1, 1, none⟩), .int .i64 V, _, .pointer (some ⟨w.heap.size + 1, 2, none⟩), .int .i64 H, _, .pointer (some ⟨w.heap.size + 1, 3, none⟩), .string (strOfNums BL), _, .pointer (some ⟨w.heap.size + 1, 4, none⟩), _, _, _, _, _], defers := _ } _
  refine alongK_read (.int .i64 T) rfl rfl (fun wx hS => ex_load Tryz.isAgg3 rfl rfl wx ((vt_cells (HVB.out wx hS)).2.2.2.2.1)) ?_
  change AlongK _ _ _ _ _ { tmps := #[.agg #[b, .int .i64 E], .agg #[.int .i64 K, .int .i64 V, .int .i64 H, .string (strOfNums BL), .int .i64 T, .int .i64 G, .string SG], .pointer (some ⟨w.heap.size, 0, none⟩), .pointer (some ⟨w.heap.size + 1, 0, none⟩), .pointer (some ⟨w.heap.size + 1 + 1, 0, none⟩), .agg #[b, .int .i64 E], _, .pointer (some ⟨w.heap.size + 1, 0, none⟩), .int .i64 K, _, .pointer (some ⟨w.heap.size + 1, 1, none⟩), .int .i64 V, _, .pointer (some ⟨w.heap.size + 1, 2, none⟩), .int .i64 H, _, .pointer (some ⟨w.heap.size + 1, 3, none⟩), .string (strOfNums BL), _, .pointer (some ⟨w.heap.size + 1, 4, none⟩), .int .i64 T, _, _, _, _], defers := _ } _
  refine alongK_read (.pointer (some ⟨w.heap.size + 1, 5, none⟩)) rfl rfl (fun wx hS => ex_field rfl rfl wx (by simp [go_sem])) ?_
  change AlongK _ _ _ _ _ { tmps := #[.agg #[b, .int .i64 E], .agg #[.int .i64 K, .int .i64 V, .int .i64 H, .string (strOfNums BL), .int .i64 T, .int .i64 G, .string SG], .pointer (some ⟨w.heap.size, 0, none⟩), .pointer (some ⟨w.heap.size + 1, 0, none⟩), .pointer (some ⟨w.heap.size + 1 + 1, 0, none⟩), .agg #[b, .int .i64 E], _, .pointer (some ⟨w.heap.size + 1, 0, none⟩), .int .i64 K, _, .pointer (some ⟨w.heap.size + 1, 1, none⟩), .int .i64 V, _, .pointer (some ⟨w.heap.size + 1, 2, none⟩), .int .i64 H, _, .pointer (some ⟨w.heap.size + 1, 3, none⟩), .string (strOfNums BL), _, .pointer (some ⟨w.heap.size + 1, 4, none⟩), .int .i64 T, _, .pointer (some ⟨w.heap.size + 1, 5, none⟩), _, _], defers := _ } _
  refine alongK_read (.int .i64 G) rfl rfl (fun wx hS => ex_load Tryz.isAgg3 rfl rfl wx ((vt_cells (HVB.out wx hS)).2.2.2.2.2.1)) ?_
  change AlongK _ _ _ _ _ { tmps := #[.agg #[b, .int .i64 E], .agg #[.int .i64 K, .int .i64 V, .int .i64 H, .string (strOfNums BL), .int .i64 T, .int .i64 G, .string SG], .pointer (some ⟨w.heap.size, 0, none⟩), .pointer (some ⟨w.heap.size + 1, 0, none⟩), .pointer (some ⟨w.heap.size + 1 + 1, 0, none⟩), .agg #[b, .int .i64 E], _, .pointer (some ⟨w.heap.size + 1, 0, none⟩), .int .i64 K, _, .pointer (some ⟨w.heap.size + 1, 1, none⟩), .int .i64 V, _, .pointer (some ⟨w.heap.size + 1, 2, none⟩), .int .i64 H, _, .pointer (some ⟨w.heap.size + 1, 3, none⟩), .string (strOfNums BL), _, .pointer (some ⟨w.heap.size + 1, 4, none⟩), .int .i64 T, _, .pointer (some ⟨w.heap.size + 1, 5, none⟩), .int .i64 G, _], defers := _ } _
  refine alongK_step ?_
  refine opK_call (vs := [.agg #[b, .int .i64 E], .string ⟨#[118, 111, 116, 101]⟩]) rfl rfl rfl (enters_of Tryz.func28 (by kernel_rfl) rfl) rfl ?_
  with_reducible refine Calls.mono (HT1.out _ (Hb.out.up hU0)) ?_
  rintro e w1 ⟨b1, rfl, hI1, hU1, hN1⟩
  have hNN1 := near_up (Up.drew1 wz) hN1
  have hU0 := Up.trans hU0 hU1
  refine ⟨_, rfl, (fun x => KeptBut (fun k => k = w.heap.size + 1 + 1) wz x), (fun _ h => h), (KeptBut.of_up hU0), ?_⟩
  change AlongK _ _ _ _ _ { tmps := #[.agg #[b, .int .i64 E], .agg #[.int .i64 K, .int .i64 V, .int .i64 H, .string (strOfNums BL), .int .i64 T, .int .i64 G, .string SG], .pointer (some ⟨w.heap.size, 0, none⟩), .pointer (some ⟨w.heap.size + 1, 0, none⟩), .pointer (some ⟨w.heap.size + 1 + 1, 0, none⟩), .agg #[b, .int .i64 E], .agg #[b1, .int .i64 (wTextE (E) [118, 111, 116, 101])], .pointer (some ⟨w.heap.size + 1, 0, none⟩), .int .i64 K, _, .pointer (some ⟨w.heap.size + 1, 1, none⟩), .int .i64 V, _, .pointer (some ⟨w.heap.size + 1, 2, none⟩), .int .i64 H, _, .pointer (some ⟨w.heap.size + 1, 3, none⟩), .string (strOfNums BL), _, .pointer (some ⟨w.heap.size + 1, 4, none⟩), .int .i64 T, _, .pointer (some ⟨w.heap.size + 1, 5, none⟩), .int .i64 G, _], defers := _ } _
  refine alongK_step ?_
  refine opK_call (vs := [.agg #[b1, .int .i64 (wTextE (E) [118, 111, 116, 101])], .int .i64 K]) rfl rfl rfl (enters_of Tryz.func27 (by kernel_rfl) rfl) rfl ?_
  with_reducible refine Calls.mono (refNum_any b1 (wTextE (E) [118, 111, 116, 101]) (rTextB (bs) [118, 111, 116, 101]) K _ hI1 (Nat.le_trans (rTextB_len [118, 111, 116, 101] HL.out) (by decide))) ?_
  rintro e w2 ⟨b2, rfl, hI2, hU2, hN2⟩
  have hNN2 := near_trans hNN1 hN2 hU2 hU0.size
  have hU0 := Up.trans hU0 hU2
  refine ⟨_, rfl, (fun x => KeptBut (fun k => k = w.heap.size + 1 + 1) wz x), (fun _ h => h), (KeptBut.of_up hU0), ?_⟩
  change AlongK _ _ _ _ _ { tmps := #[.agg #[b, .int .i64 E], .agg #[.int .i64 K, .int .i64 V, .int .i64 H, .string (strOfNums BL), .int .i64 T, .int .i64 G, .string SG], .pointer (some ⟨w.heap.size, 0, none⟩), .pointer (some ⟨w.heap.size + 1, 0, none⟩), .pointer (some ⟨w.heap.size + 1 + 1, 0, none⟩), .agg #[b, .int .i64 E], .agg #[b1, .int .i64 (wTextE (E) [118, 111, 116, 101])], .pointer (some ⟨w.heap.size + 1, 0, none⟩), .int .i64 K, .agg #[b2, .int .i64 (wNumE (wTextE (E) [118, 111, 116, 101]) K)], .pointer (some ⟨w.heap.size + 1, 1, none⟩), .int .i64 V, _, .pointer (some ⟨w.heap.size + 1, 2, none⟩), .int .i64 H, _, .pointer (some ⟨w.heap.size + 1, 3, none⟩), .string (strOfNums BL), _, .pointer (some ⟨w.heap.size + 1, 4, none⟩), .int .i64 T, _, .pointer (some ⟨w.heap.size + 1, 5, none⟩), .int .i64 G, _], defers := _ } _
  refine alongK_step ?_
  refine opK_call (vs := [.agg #[b2, .int .i64 (wNumE (wTextE (E) [118, 111, 116, 101]) K)], .int .i64 V]) rfl rfl rfl (enters_of Tryz.func27 (by kernel_rfl) rfl) rfl ?_
  with_reducible refine Calls.mono (refNum_any b2 (wNumE (wTextE (E) [118, 111, 116, 101]) K) (rNumB (rTextB (bs) [118, 111, 116, 101]) K) V _ hI2 (Nat.le_trans (rNumB_len K (rTextB_len [118, 111, 116, 101] HL.out)) (by decide))) ?_
  rintro e w3 ⟨b3, rfl, hI3, hU3, hN3⟩
  have hNN3 := near_trans hNN2 hN3 hU3 hU0.size
  have hU0 := Up.trans hU0 hU3
  refine ⟨_, rfl, (fun x => KeptBut (fun k => k = w.heap.size + 1 + 1) wz x), (fun _ h => h), (KeptBut.of_up hU0), ?_⟩
  change AlongK _ _ _ _ _ { tmps := #[.agg #[b, .int .i64 E], .agg #[.int .i64 K, .int .i64 V, .int .i64 H, .string (strOfNums BL), .int .i64 T, .int .i64 G, .string SG], .pointer (some ⟨w.heap.size, 0, none⟩), .pointer (some ⟨w.heap.size + 1, 0, none⟩), .pointer (some ⟨w.heap.size + 1 + 1, 0, none⟩), .agg #[b, .int .i64 E], .agg #[b1, .int .i64 (wTextE (E) [118, 111, 116, 101])], .pointer (some ⟨w.heap.size + 1, 0, none⟩), .int .i64 K, .agg #[b2, .int .i64 (wNumE (wTextE (E) [118, 111, 116, 101]) K)], .pointer (some ⟨w.heap.size + 1, 1, none⟩), .int .i64 V, .agg #[b3, .int .i64 (wNumE (wNumE (wTextE (E) [118, 111, 116, 101]) K) V)], .pointer (some ⟨w.heap.size + 1, 2, none⟩), .int .i64 H, _, .pointer (some ⟨w.heap.size + 1, 3, none⟩), .string (strOfNums BL), _, .pointer (some ⟨w.heap.size + 1, 4, none⟩), .int .i64 T, _, .pointer (some ⟨w.heap.size + 1, 5, none⟩), .int .i64 G, _], defers := _ } _
  refine alongK_step ?_
  refine opK_call (vs := [.agg #[b3, .int .i64 (wNumE (wNumE (wTextE (E) [118, 111, 116, 101]) K) V)], .int .i64 H]) rfl rfl rfl (enters_of Tryz.func27 (by kernel_rfl) rfl) rfl ?_
  with_reducible refine Calls.mono (refNum_any b3 (wNumE (wNumE (wTextE (E) [118, 111, 116, 101]) K) V) (rNumB (rNumB (rTextB (bs) [118, 111, 116, 101]) K) V) H _ hI3 (Nat.le_trans (rNumB_len V (rNumB_len K (rTextB_len [118, 111, 116, 101] HL.out))) (by decide))) ?_
  rintro e w4 ⟨b4, rfl, hI4, hU4, hN4⟩
  have hNN4 := near_trans hNN3 hN4 hU4 hU0.size
  have hU0 := Up.trans hU0 hU4
  refine ⟨_, rfl, (fun x => KeptBut (fun k => k = w.heap.size + 1 + 1) wz x), (fun _ h => h), (KeptBut.of_up hU0), ?_⟩
  change AlongK _ _ _ _ _ { tmps := #[.agg #[b, .int .i64 E], .agg #[.int .i64 K, .int .i64 V, .int .i64 H, .string (strOfNums BL), .int .i64 T, .int .i64 G, .string SG], .pointer (some ⟨w.heap.size, 0, none⟩), .pointer (some ⟨w.heap.size + 1, 0, none⟩), .pointer (some ⟨w.heap.size + 1 + 1, 0, none⟩), .agg #[b, .int .i64 E], .agg #[b1, .int .i64 (wTextE (E) [118, 111, 116, 101])], .pointer (some ⟨w.heap.size + 1, 0, none⟩), .int .i64 K, .agg #[b2, .int .i64 (wNumE (wTextE (E) [118, 111, 116, 101]) K)], .pointer (some ⟨w.heap.size + 1, 1, none⟩), .int .i64 V, .agg #[b3, .int .i64 (wNumE (wNumE (wTextE (E) [118, 111, 116, 101]) K) V)], .pointer (some ⟨w.heap.size + 1, 2, none⟩), .int .i64 H, .agg #[b4, .int .i64 (wNumE (wNumE (wNumE (wTextE (E) [118, 111, 116, 101]) K) V) H)], .pointer (some ⟨w.heap.size + 1, 3, none⟩), .string (strOfNums BL), _, .pointer (some ⟨w.heap.size + 1, 4, none⟩), .int .i64 T, _, .pointer (some ⟨w.heap.size + 1, 5, none⟩), .int .i64 G, _], defers := _ } _
  refine alongK_step ?_
  refine opK_call (vs := [.agg #[b4, .int .i64 (wNumE (wNumE (wNumE (wTextE (E) [118, 111, 116, 101]) K) V) H)], .string (strOfNums BL)]) rfl rfl rfl (enters_of Tryz.func28 (by kernel_rfl) rfl) rfl ?_
  with_reducible refine Calls.mono (refText_any b4 (wNumE (wNumE (wNumE (wTextE (E) [118, 111, 116, 101]) K) V) H) (rNumB (rNumB (rNumB (rTextB (bs) [118, 111, 116, 101]) K) V) H) BL _ hI4 HBL.out (Nat.le_trans (rNumB_len H (rNumB_len V (rNumB_len K (rTextB_len [118, 111, 116, 101] HL.out)))) (by decide)) HBN.out) ?_
  rintro e w5 ⟨b5, rfl, hI5, hU5, hN5⟩
  have hNN5 := near_trans hNN4 hN5 hU5 hU0.size
  have hU0 := Up.trans hU0 hU5
  refine ⟨_, rfl, (fun x => KeptBut (fun k => k = w.heap.size + 1 + 1) wz x), (fun _ h => h), (KeptBut.of_up hU0), ?_⟩
  change AlongK _ _ _ _ _ { tmps := #[.agg #[b, .int .i64 E], .agg #[.int .i64 K, .int .i64 V, .int .i64 H, .string (strOfNums BL), .int .i64 T, .int .i64 G, .string SG], .pointer (some ⟨w.heap.size, 0, none⟩), .pointer (some ⟨w.heap.size + 1, 0, none⟩), .pointer (some ⟨w.heap.size + 1 + 1, 0, none⟩), .agg #[b, .int .i64 E], .agg #[b1, .int .i64 (wTextE (E) [118, 111, 116, 101])], .pointer (some ⟨w.heap.size + 1, 0, none⟩), .int .i64 K, .agg #[b2, .int .i64 (wNumE (wTextE (E) [118, 111, 116, 101]) K)], .pointer (some ⟨w.heap.size + 1, 1, none⟩), .int .i64 V, .agg #[b3, .int .i64 (wNumE (wNumE (wTextE (E) [118, 111, 116, 101]) K) V)], .pointer (some ⟨w.heap.size + 1, 2, none⟩), .int .i64 H, .agg #[b4, .int .i64 (wNumE (wNumE (wNumE (wTextE (E) [118, 111, 116, 101]) K) V) H)], .pointer (some ⟨w.heap.size + 1, 3, none⟩), .string (strOfNums BL), .agg #[b5, .int .i64 (wTextE (wNumE (wNumE (wNumE (wTextE (E) [118, 111, 116, 101]) K) V) H) BL)], .pointer (some ⟨w.heap.size + 1, 4, none⟩), .int .i64 T, _, .pointer (some ⟨w.heap.size + 1, 5, none⟩), .int .i64 G, _], defers := _ } _
  refine alongK_step ?_
  refine opK_call (vs := [.agg #[b5, .int .i64 (wTextE (wNumE (wNumE (wNumE (wTextE (E) [118, 111, 116, 101]) K) V) H) BL)], .int .i64 T]) rfl rfl rfl (enters_of Tryz.func27 (by kernel_rfl) rfl) rfl ?_
  with_reducible refine Calls.mono (refNum_any b5 (wTextE (wNumE (wNumE (wNumE (wTextE (E) [118, 111, 116, 101]) K) V) H) BL) (rTextB (rNumB (rNumB (rNumB (rTextB (bs) [118, 111, 116, 101]) K) V) H) BL) T _ hI5 (Nat.le_trans (rTextB_len BL (rNumB_len H (rNumB_len V (rNumB_len K (rTextB_len [118, 111, 116, 101] HL.out))))) (by decide))) ?_
  rintro e w6 ⟨b6, rfl, hI6, hU6, hN6⟩
  have hNN6 := near_trans hNN5 hN6 hU6 hU0.size
  have hU0 := Up.trans hU0 hU6
  refine ⟨_, rfl, (fun x => KeptBut (fun k => k = w.heap.size + 1 + 1) wz x), (fun _ h => h), (KeptBut.of_up hU0), ?_⟩
  change AlongK _ _ _ _ _ { tmps := #[.agg #[b, .int .i64 E], .agg #[.int .i64 K, .int .i64 V, .int .i64 H, .string (strOfNums BL), .int .i64 T, .int .i64 G, .string SG], .pointer (some ⟨w.heap.size, 0, none⟩), .pointer (some ⟨w.heap.size + 1, 0, none⟩), .pointer (some ⟨w.heap.size + 1 + 1, 0, none⟩), .agg #[b, .int .i64 E], .agg #[b1, .int .i64 (wTextE (E) [118, 111, 116, 101])], .pointer (some ⟨w.heap.size + 1, 0, none⟩), .int .i64 K, .agg #[b2, .int .i64 (wNumE (wTextE (E) [118, 111, 116, 101]) K)], .pointer (some ⟨w.heap.size + 1, 1, none⟩), .int .i64 V, .agg #[b3, .int .i64 (wNumE (wNumE (wTextE (E) [118, 111, 116, 101]) K) V)], .pointer (some ⟨w.heap.size + 1, 2, none⟩), .int .i64 H, .agg #[b4, .int .i64 (wNumE (wNumE (wNumE (wTextE (E) [118, 111, 116, 101]) K) V) H)], .pointer (some ⟨w.heap.size + 1, 3, none⟩), .string (strOfNums BL), .agg #[b5, .int .i64 (wTextE (wNumE (wNumE (wNumE (wTextE (E) [118, 111, 116, 101]) K) V) H) BL)], .pointer (some ⟨w.heap.size + 1, 4, none⟩), .int .i64 T, .agg #[b6, .int .i64 (wNumE (wTextE (wNumE (wNumE (wNumE (wTextE (E) [118, 111, 116, 101]) K) V) H) BL) T)], .pointer (some ⟨w.heap.size + 1, 5, none⟩), .int .i64 G, _], defers := _ } _
  refine alongK_step ?_
  refine opK_call (vs := [.agg #[b6, .int .i64 (wNumE (wTextE (wNumE (wNumE (wNumE (wTextE (E) [118, 111, 116, 101]) K) V) H) BL) T)], .int .i64 G]) rfl rfl rfl (enters_of Tryz.func27 (by kernel_rfl) rfl) rfl ?_
  with_reducible refine Calls.mono (refNum_any b6 (wNumE (wTextE (wNumE (wNumE (wNumE (wTextE (E) [118, 111, 116, 101]) K) V) H) BL) T) (rNumB (rTextB (rNumB (rNumB (rNumB (rTextB (bs) [118, 111, 116, 101]) K) V) H) BL) T) G _ hI6 (Nat.le_trans (rNumB_len T (rTextB_len BL (rNumB_len H (rNumB_len V (rNumB_len K (rTextB_len [118, 111, 116, 101] HL.out)))))) (by decide))) ?_
  rintro e w7 ⟨b7, rfl, hI7, hU7, hN7⟩
  have hNN7 := near_trans hNN6 hN7 hU7 hU0.size
  have hU0 := Up.trans hU0 hU7
  refine ⟨_, rfl, (fun x => KeptBut (fun k => k = w.heap.size + 1 + 1) wz x), (fun _ h => h), (KeptBut.of_up hU0), ?_⟩
  change AlongK _ _ _ _ _ { tmps := #[.agg #[b, .int .i64 E], .agg #[.int .i64 K, .int .i64 V, .int .i64 H, .string (strOfNums BL), .int .i64 T, .int .i64 G, .string SG], .pointer (some ⟨w.heap.size, 0, none⟩), .pointer (some ⟨w.heap.size + 1, 0, none⟩), .pointer (some ⟨w.heap.size + 1 + 1, 0, none⟩), .agg #[b, .int .i64 E], .agg #[b1, .int .i64 (wTextE (E) [118, 111, 116, 101])], .pointer (some ⟨w.heap.size + 1, 0, none⟩), .int .i64 K, .agg #[b2, .int .i64 (wNumE (wTextE (E) [118, 111, 116, 101]) K)], .pointer (some ⟨w.heap.size + 1, 1, none⟩), .int .i64 V, .agg #[b3, .int .i64 (wNumE (wNumE (wTextE (E) [118, 111, 116, 101]) K) V)], .pointer (some ⟨w.heap.size + 1, 2, none⟩), .int .i64 H, .agg #[b4, .int .i64 (wNumE (wNumE (wNumE (wTextE (E) [118, 111, 116, 101]) K) V) H)], .pointer (some ⟨w.heap.size + 1, 3, none⟩), .string (strOfNums BL), .agg #[b5, .int .i64 (wTextE (wNumE (wNumE (wNumE (wTextE (E) [118, 111, 116, 101]) K) V) H) BL)], .pointer (some ⟨w.heap.size + 1, 4, none⟩), .int .i64 T, .agg #[b6, .int .i64 (wNumE (wTextE (wNumE (wNumE (wNumE (wTextE (E) [118, 111, 116, 101]) K) V) H) BL) T)], .pointer (some ⟨w.heap.size + 1, 5, none⟩), .int .i64 G, .agg #[b7, .int .i64 (wNumE (wNumE (wTextE (wNumE (wNumE (wNumE (wTextE (E) [118, 111, 116, 101]) K) V) H) BL) T) G)]], defers := _ } _
  refine alongK_step ?_
  have hR7 := HRB.out w7 hU0
  refine opK_store (w7.setRow (w.heap.size + 1 + 1) #[b7, .int .i64 (wNumE (wNumE (wTextE (wNumE (wNumE (wNumE (wTextE (E) [118, 111, 116, 101]) K) V) H) BL) T) G)]) rfl rfl (ex_storerow rfl rfl rfl w7 38 hR7 info_refW rfl (one_w hI7 _)) (fun x => KeptBut (fun k => k = w.heap.size + 1 + 1) wz x) (fun _ h => h) ((KeptBut.of_up hU0).trans (KeptBut.of_grown (S := fun k => k = w.heap.size + 1 + 1) (grownBy_setRow w7 (w.heap.size + 1 + 1) #[b7, .int .i64 (wNumE (wNumE (wTextE (wNumE (wNumE (wNumE (wTextE (E) [118, 111, 116, 101]) K) V) H) BL) T) G)]) (fun k e => by cases e; rfl)) (fun _ _ e => e)) ?_
  change AlongK _ _ _ _ _ { tmps := #[.agg #[b, .int .i64 E], .agg #[.int .i64 K, .int .i64 V, .int .i64 H, .string (strOfNums BL), .int .i64 T, .int .i64 G, .string SG], .pointer (some ⟨w.heap.size, 0, none⟩), .pointer (some ⟨w.heap.size + 1, 0, none⟩), .pointer (some ⟨w.heap.size + 1 + 1, 0, none⟩), .agg #[b, .int .i64 E], .agg #[b1, .int .i64 (wTextE (E) [118, 111, 116, 101])], .pointer (some ⟨w.heap.size + 1, 0, none⟩), .int .i64 K, .agg #[b2, .int .i64 (wNumE (wTextE (E) [118, 111, 116, 101]) K)], .pointer (some ⟨w.heap.size + 1, 1, none⟩), .int .i64 V, .agg #[b3, .int .i64 (wNumE (wNumE (wTextE (E) [118, 111, 116, 101]) K) V)], .pointer (some ⟨w.heap.size + 1, 2, none⟩), .int .i64 H, .agg #[b4, .int .i64 (wNumE (wNumE (wNumE (wTextE (E) [118, 111, 116, 101]) K) V) H)], .pointer (some ⟨w.heap.size + 1, 3, none⟩), .string (strOfNums BL), .agg #[b5, .int .i64 (wTextE (wNumE (wNumE (wNumE (wTextE (E) [118, 111, 116, 101]) K) V) H) BL)], .pointer (some ⟨w.heap.size + 1, 4, none⟩), .int .i64 T, .agg #[b6, .int .i64 (wNumE (wTextE (wNumE (wNumE (wNumE (wTextE (E) [118, 111, 116, 101]) K) V) H) BL) T)], .pointer (some ⟨w.heap.size + 1, 5, none⟩), .int .i64 G, .agg #[b7, .int .i64 (wNumE (wNumE (wTextE (wNumE (wNumE (wNumE (wTextE (E) [118, 111, 116, 101]) K) V) H) BL) T) G)]], defers := _ } _
  refine alongK_done ?_
  have HG7 := grownBy_setRow w7 (w.heap.size + 1 + 1) #[b7, .int .i64 (wNumE (wNumE (wTextE (wNumE (wNumE (wNumE (wTextE (E) [118, 111, 116, 101]) K) V) H) BL) T) G)]
  have HE7 := setRow_heap w7 (w.heap.size + 1 + 1) _ #[b7, .int .i64 (wNumE (wNumE (wTextE (wNumE (wNumE (wNumE (wTextE (E) [118, 111, 116, 101]) K) V) H) BL) T) G)] 38 (0, 0) hR7
  have HUF := up_at (Up.trans HUz.out hU0) HG7 (by omega)
  go_wp2
  exact bodyPost_ret (results_cell_row rfl _ _ _ _ _ _ _ rfl HE7 Tryz.underlying38 rfl info_refW) rfl ⟨b7, rfl, ints_row hI7 HG7 hR7, HUF, near_end HUz.out hNN7 HG7⟩
end
end

/-
  The reference's text of a statement.
-/
section
set_option maxRecDepth 100000
section
set_option linter.unusedVariables false
open Go.RowKit Go.Sort Go.Lib

theorem run_fld (a : Option Addr) (n c : Nat) (e : Int) (w : World) : (Instr.field 38 (.agg #[.slice a n c, .int .i64 e]) 0).run Tryz.prog w = .ok (.slice a n c) w := by
  simp [Instr.field, run_underlying (P := Tryz.prog) (w := w) Tryz.underlying38, part, asAgg, go_sem, Tryz.isAgg31, Result.andThen]
theorem ex_fld {o : Oper} {x : Operand} {ρ : Operand → Value} {t : TypeId} {i : Nat} {v u : Value} {w : World} (hop : o.op = .field t x i) (hx : ρ x = v) (hr : (Instr.field t v i).run Tryz.prog w = .ok u w) : (execOp ρ o).run Tryz.prog w = .ok (.value u) w := by
  unfold execOp; rw [hop]; simp only [hx]
  rw [Sem.run_bind, hr]; rfl
theorem rNum_in {bs : List Int} {n : Int} (h0 : 0 ≤ n) (h1 : n ≤ 1099511627776) (hl : bs.length ≤ 16384) : rNumB bs n = bs ++ octAll n 6 := by
  unfold rNumB
  rw [if_neg (by omega), if_pos hl]
theorem rText_in {bs zs : List Int} (h1 : zs.length ≤ 4096) (hl : bs.length ≤ 16384) : rTextB bs zs = bs ++ (octAll zs.length 2 ++ zs) := by
  unfold rTextB
  rw [if_neg (by omega), if_pos hl]
theorem vt_fields {K V H : Int} {BL : List Int} {T G : Int} (hk : 0 ≤ K ∧ K ≤ 1099511627776) (hv : 0 ≤ V ∧ V ≤ 1099511627776) (hh : 0 ≤ H ∧ H ≤ 1099511627776) (hb : BL.length ≤ 32) (ht : 0 ≤ T ∧ T ≤ 1099511627776) (hg : 0 ≤ G ∧ G ≤ 1099511627776) :
    (rNumB (rNumB (rTextB (rNumB (rNumB (rNumB (rTextB ([]) [118, 111, 116, 101]) K) V) H) BL) T) G) = vtT ⟨K, V, H, BL, T, G⟩ := by
  have e0 : rTextB [] [118, 111, 116, 101] = [0, 4, 118, 111, 116, 101] := rfl
  rw [e0, rNum_in hk.1 hk.2 (by simp), rNum_in hv.1 hv.2 (by simp [octAll_length]), rNum_in hh.1 hh.2 (by simp [octAll_length]), rText_in (by omega) (by simp [octAll_length]), rNum_in ht.1 ht.2 (by simp [octAll_length]; omega), rNum_in hg.1 hg.2 (by simp [octAll_length]; omega)]
  rfl

set_option maxHeartbeats 1000000 in
theorem refVtText_any (K V H : Int) (BL : List Int) (T G : Int) (SG : ByteArray) (w : World) (hB : U8s BL) (hn : BL.length ≤ 9223372036854775807) :
    Calls Tryz.prog 38 #[.agg #[.int .i64 K, .int .i64 V, .int .i64 H, .string (strOfNums BL), .int .i64 T, .int .i64 G, .string SG]] w fun e w' => ∃ r, e = .returned r ∧ Ints .u8 w' r (if vtE ⟨K, V, H, BL, T, G⟩ SG = 0 then vtT ⟨K, V, H, BL, T, G⟩ else []) ∧ Up w w' := by
  have HR : Hid (∀ wx, Calls Tryz.prog 36 #[.agg #[.int .i64 K, .int .i64 V, .int .i64 H, .string (strOfNums BL), .int .i64 T, .int .i64 G, .string SG]] wx fun e w' => e = .returned (.int .i64 (vtE ⟨K, V, H, BL, T, G⟩ SG)) ∧ Up wx w') := fun wx => refVt_any ⟨K, V, H, BL, T, G⟩ SG wx
  have HF : Hid (∀ wx, Calls Tryz.prog 58 #[.agg #[.slice none 0 0, .int .i64 0], .agg #[.int .i64 K, .int .i64 V, .int .i64 H, .string (strOfNums BL), .int .i64 T, .int .i64 G, .string SG]] wx (RWto wx (.slice none 0 0) ((wNumE (wNumE (wTextE (wNumE (wNumE (wNumE (wTextE (0) [118, 111, 116, 101]) K) V) H) BL) T) G)) ((rNumB (rNumB (rTextB (rNumB (rNumB (rNumB (rTextB ([]) [118, 111, 116, 101]) K) V) H) BL) T) G)))) := fun wx => voteFields_any (.slice none 0 0) 0 [] K V H BL T G SG wx ⟨none, 0, rfl, Nat.le_refl _, fun _ => rfl, .inl rfl⟩ (by simp) hB hn
  have HT : Hid (vtE ⟨K, V, H, BL, T, G⟩ SG = 0 → (rNumB (rNumB (rTextB (rNumB (rNumB (rNumB (rTextB ([]) [118, 111, 116, 101]) K) V) H) BL) T) G) = vtT ⟨K, V, H, BL, T, G⟩) := fun h => by
    have hok := vtMay_ok (vtE_ok h).1
    exact vt_fields hok.k hok.vv hok.h hok.bl hok.t ⟨hok.g.1, Int.le_trans hok.g.2 (by decide)⟩
  have HB0 := Lib.hid (heap_alloc_new w (.cells #[.int .i64 K, .int .i64 V, .int .i64 H, .string (strOfNums BL), .int .i64 T, .int .i64 G, .string SG] 49))
  have HU0 := Lib.hid (Up.alloc (Up.refl w) (.cells #[.int .i64 K, .int .i64 V, .int .i64 H, .string (strOfNums BL), .int .i64 T, .int .i64 G, .string SG] 49))
  generalize vtE ⟨K, V, H, BL, T, G⟩ SG = Er at HR HT ⊢
  generalize vtT ⟨K, V, H, BL, T, G⟩ = Z at HT ⊢
  generalize (rNumB (rNumB (rTextB (rNumB (rNumB (rNumB (rTextB ([]) [118, 111, 116, 101]) K) V) H) BL) T) G) = Y at HF HT
  generalize (wNumE (wNumE (wTextE (wNumE (wNumE (wNumE (wTextE (0) [118, 111, 116, 101]) K) V) H) BL) T) G) = Ex at HF
  go_enter Tryz.func38, Tryz.ntmps38
  go_wp2_with (refine wpList_ex rfl (.agg #[.int .i64 K, .int .i64 V, .int .i64 H, .string (strOfNums BL), .int .i64 T, .int .i64 G, .string SG]) _ (ex_loadrow (x := .tmp 1) rfl rfl _ 49 HB0.out Tryz.underlying49 rfl info_vt) ?_)
  with_reducible refine Calls.mono (HR.out _) ?_
  rintro e w2 ⟨rfl, u2⟩
  have HB2 := Lib.hid ((u2.block _ (lt_of_block HB0.out)).trans HB0.out)
  have HU2 := Lib.hid (Up.trans HU0.out u2)
  clear u2
  by_cases hE : Er = 0
  · subst hE
    go_wp2_with (refine wpList_ex rfl (.agg #[.int .i64 K, .int .i64 V, .int .i64 H, .string (strOfNums BL), .int .i64 T, .int .i64 G, .string SG]) _ (ex_loadrow (x := .tmp 1) rfl rfl _ 49 HB2.out Tryz.underlying49 rfl info_vt) ?_)
    with_reducible refine Calls.mono (HF.out _) ?_
    rintro e w3 ⟨b, rfl, hI, hU, _⟩
    have HI := Lib.hid hI
    obtain ⟨ba, bc, rfl, _⟩ := hI
    have HU3 := Lib.hid (Up.trans HU2.out hU)
    clear hU
    go_wp2_with (refine wpList_ex rfl (.slice ba Y.length bc) _ (ex_fld (x := .tmp 8) rfl rfl (run_fld ba Y.length bc Ex _)) ?_)
    go_ret
    exact ⟨_, rfl, by first | (rw [if_pos rfl, ← HT.out rfl]; exact HI.out) | (simp only; rw [← HT.out (by trivial)]; exact HI.out), HU3.out⟩
  · have e1 : (Er != 0) = true := by rw [bne_iff_ne]; exact hE
    go_wp2
    go_ret
    exact ⟨_, rfl, by first | (rw [if_neg hE]; exact ⟨none, 0, rfl, Nat.le_refl _, fun _ => rfl, .inl rfl⟩) | (simp; exact ⟨none, 0, rfl, Nat.le_refl _, fun _ => rfl, .inl rfl⟩), HU2.out⟩
end
end
end Go.Proofs.YtfenmhddlojahaaGreat
