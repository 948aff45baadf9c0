import Derived.Test.YtfenmhddlojahaaGreatRfPut
import Derived.Test.YtfenmhddlojahaaGreatRfVtVal
import Derived.Test.YtfenmhddlojahaaGreatRefTx
import Derived.Test.YtfenmhddlojahaaGreatTxMake
import Derived.Test.YtfenmhddlojahaaGreatTxKit
import Derived.Test.YtfenmhddlojahaaGreatBkName
import Derived.Test.YtfenmhddlojahaaGreatRefSha
namespace Go.Proofs.YtfenmhddlojahaaGreat
section
/-
  The reference: fields, octets and validity of a transaction.
-/
section
set_option maxRecDepth 100000
section
set_option linter.unusedVariables false
open Go.RowKit Go.Sort Go.Lib

theorem rto_p {f : FuncId} {args : Array Value} {w : World} {b : Value} {E : Int} {bs : List Int} (h : Calls Tryz.prog f args w (RWto w b E bs)) : Calls Tryz.prog f args w (RPto w E bs) :=
  h.mono fun e w' ⟨b', h1, h2, h3, _⟩ => ⟨b', h1, h2, h3⟩
theorem txw_u8s : U8s [116, 120] := by intro j hj; match j, hj with | 0, _ => decide | 1, _ => decide
def tfE (E : Int) (F T A NN : Int) : Int := wNumE (wNumE (wNumE (wNumE (wTextE (E) [116, 120]) F) T) A) NN
def tfB (bs : List Int) (F T A NN : Int) : List Int := rNumB (rNumB (rNumB (rNumB (rTextB (bs) [116, 120]) F) T) A) NN
theorem tfB_len {bs : List Int} (F T A NN : Int) (h : bs.length ≤ 20482) : (tfB bs F T A NN).length ≤ 20482 := rNumB_len _ (rNumB_len _ (rNumB_len _ (rNumB_len _ (rTextB_len _ h))))

set_option maxHeartbeats 4000000 in
theorem txFields_any (b : Value) (E : Int) (bs : List Int) (F T A NN : Int) (sg : List Int) (w : World) (hbb : Ints .u8 w b bs) (hl : bs.length ≤ 20482) :
    Calls Tryz.prog 119 #[.agg #[b, .int .i64 E], .agg #[.int .i64 F, .int .i64 T, .int .i64 A, .int .i64 NN, .string (strOfNums sg)]] w (RPto w (tfE E F T A NN) (tfB bs F T A NN)) := by
  unfold tfE tfB
  have HL := Lib.hid hl
  have HT0 : Hid (∀ wx, Ints .u8 wx b bs → Calls Tryz.prog 28 #[.agg #[b, .int .i64 E], .string ⟨#[116, 120]⟩] wx (RPto wx (wTextE E [116, 120]) (rTextB bs [116, 120]))) := fun wx h => rto_p (refText_any b E bs [116, 120] wx h txw_u8s (Nat.le_trans hl (by decide)) (by decide))
  have u1 := Up.alloc (Up.refl w) (.cells #[b, .int .i64 E] 38)
  have u2 := Up.alloc (Up.refl (w.alloc (.cells #[b, .int .i64 E] 38))) (.cells #[.int .i64 F, .int .i64 T, .int .i64 A, .int .i64 NN, .string (strOfNums sg)] 85)
  have u3 := Up.alloc (Up.refl ((w.alloc (.cells #[b, .int .i64 E] 38)).alloc (.cells #[.int .i64 F, .int .i64 T, .int .i64 A, .int .i64 NN, .string (strOfNums sg)] 85))) (.cells #[.slice none 0 0, .int .i64 0] 38)
  have h1 := heap_alloc_new w (.cells #[b, .int .i64 E] 38)
  have h2 := heap_alloc_new (w.alloc (.cells #[b, .int .i64 E] 38)) (.cells #[.int .i64 F, .int .i64 T, .int .i64 A, .int .i64 NN, .string (strOfNums sg)] 85)
  have h3 := heap_alloc_new ((w.alloc (.cells #[b, .int .i64 E] 38)).alloc (.cells #[.int .i64 F, .int .i64 T, .int .i64 A, .int .i64 NN, .string (strOfNums sg)] 85)) (.cells #[.slice none 0 0, .int .i64 0] 38)
  rw [show (w.alloc (.cells #[b, .int .i64 E] 38)).heap.size = w.heap.size + 1 by simp] at h2
  rw [show ((w.alloc (.cells #[b, .int .i64 E] 38)).alloc (.cells #[.int .i64 F, .int .i64 T, .int .i64 A, .int .i64 NN, .string (strOfNums sg)] 85)).heap.size = w.heap.size + 1 + 1 by simp] at h3
  have u23 := Up.trans u2 u3
  have HUz := Lib.hid (Up.trans u1 u23)
  have HWB0 := Lib.hid ((u23.block _ (lt_of_block h1)).trans h1)
  have HVB0 := Lib.hid ((u3.block _ (lt_of_block h2)).trans h2)
  have HRB0 := Lib.hid h3
  have HBB := Lib.hid hbb
  clear u1 u2 u3 h1 h2 h3 u23 hbb hl
  go_enter Tryz.func119, Tryz.ntmps119
  go_wp2_with fail
  generalize ((w.alloc (.cells #[b, .int .i64 E] 38)).alloc (.cells #[.int .i64 F, .int .i64 T, .int .i64 A, .int .i64 NN, .string (strOfNums sg)] 85)).alloc (.cells #[.slice none 0 0, .int .i64 0] 38) = wz at HUz HWB0 HVB0 HRB0 ⊢
  have HRL2 : Hid (w.heap.size ≤ w.heap.size + 1 + 1) := by (have h : w.heap.size ≤ w.heap.size + 1 + 1 := by omega); exact h
  have HWN : Hid (w.heap.size ≠ w.heap.size + 1 + 1) := by (have h : w.heap.size ≠ w.heap.size + 1 + 1 := by omega); exact h
  have HVN : Hid (w.heap.size + 1 ≠ w.heap.size + 1 + 1) := by (have h : w.heap.size + 1 ≠ w.heap.size + 1 + 1 := by omega); exact h
  generalize hRB : w.heap.size + 1 + 1 = RB at HRB0 HRL2 HWN HVN ⊢
  generalize hVB : w.heap.size + 1 = VB at HVB0 HVN ⊢
  clear hRB hVB
  have HI : Hid (∀ wx, Up wz wx → Ints .u8 wx b bs) := fun wx u => (HBB.out.up HUz.out).up u
  have HT1 : Hid (∀ wx, Up wz wx → Calls Tryz.prog 28 #[.agg #[b, .int .i64 E], .string ⟨#[116, 120]⟩] wx (RPto wx (wTextE E [116, 120]) (rTextB bs [116, 120]))) := fun wx u => HT0.out wx (HI.out wx u)
  have HWB : Hid (∀ wx, KeptBut (fun k => k = RB) wz wx → wx.heap[w.heap.size]? = some (.cells #[b, .int .i64 E] 38 (0, 0))) := fun wx u => (u.block _ (lt_of_block HWB0.out) HWN.out).trans HWB0.out
  have HVB : Hid (∀ wx, KeptBut (fun k => k = RB) wz wx → wx.heap[VB]? = some (.cells #[.int .i64 F, .int .i64 T, .int .i64 A, .int .i64 NN, .string (strOfNums sg)] 85 (0, 0))) := fun wx u => (u.block _ (lt_of_block HVB0.out) HVN.out).trans HVB0.out
  have HRB : Hid (∀ wx, Up wz wx → wx.heap[RB]? = some (.cells #[.slice none 0 0, .int .i64 0] 38 (0, 0))) := fun wx u => (u.block _ (lt_of_block HRB0.out)).trans HRB0.out
  clear HWB0 HVB0 HRB0 HBB
  generalize hWB : w.heap.size = WB at HWB HWN ⊢
  refine region_alongK (fun x => KeptBut (fun k => k = RB) wz x) (.read 0 (.read 2 (.read 3 (.read 5 (.read 6 (.read 8 (.read 9 (.read 11 (.read 12 (.step 1 (.step 4 (.step 7 (.step 10 (.step 13 (.step 14 (.nil)))))))))))))))) (by kernel_rfl) rfl (by kernel_rfl) (by kernel_rfl) (fun c a d v w h => by cases d <;> exact h) (KeptBut.of_up (Up.drew1 wz)) ?_
  refine alongK_read (.agg #[b, .int .i64 E]) rfl rfl (fun wx hS => ex_loadrow rfl rfl wx 38 (HWB.out wx hS) Tryz.underlying38 rfl info_refW) ?_
  refine alongK_read (.pointer (some ⟨VB, 0, none⟩)) rfl rfl (fun wx hS => ex_field rfl rfl wx (by simp [go_sem])) ?_
  change AlongK _ _ _ _ _ { tmps := #[.agg #[b, .int .i64 E], .agg #[.int .i64 F, .int .i64 T, .int .i64 A, .int .i64 NN, .string (strOfNums sg)], .pointer (some ⟨WB, 0, none⟩), .pointer (some ⟨VB, 0, none⟩), .pointer (some ⟨RB, 0, none⟩), .agg #[b, .int .i64 E], _, .pointer (some ⟨VB, 0, none⟩), _, _, _, _, _, _, _, _, _, _, _], defers := _ } _
  refine alongK_read (.int .i64 F) rfl rfl (fun wx hS => ex_load Tryz.isAgg3 rfl rfl wx ((tx_cells (HVB.out wx hS)).1)) ?_
  refine alongK_read (.pointer (some ⟨VB, 1, none⟩)) rfl rfl (fun wx hS => ex_field rfl rfl wx (by simp [go_sem])) ?_
  change AlongK _ _ _ _ _ { tmps := #[.agg #[b, .int .i64 E], .agg #[.int .i64 F, .int .i64 T, .int .i64 A, .int .i64 NN, .string (strOfNums sg)], .pointer (some ⟨WB, 0, none⟩), .pointer (some ⟨VB, 0, none⟩), .pointer (some ⟨RB, 0, none⟩), .agg #[b, .int .i64 E], _, .pointer (some ⟨VB, 0, none⟩), .int .i64 F, _, .pointer (some ⟨VB, 1, none⟩), _, _, _, _, _, _, _, _], defers := _ } _
  refine alongK_read (.int .i64 T) rfl rfl (fun wx hS => ex_load Tryz.isAgg3 rfl rfl wx ((tx_cells (HVB.out wx hS)).2.1)) ?_
  refine alongK_read (.pointer (some ⟨VB, 2, none⟩)) rfl rfl (fun wx hS => ex_field rfl rfl wx (by simp [go_sem])) ?_
  change AlongK _ _ _ _ _ { tmps := #[.agg #[b, .int .i64 E], .agg #[.int .i64 F, .int .i64 T, .int .i64 A, .int .i64 NN, .string (strOfNums sg)], .pointer (some ⟨WB, 0, none⟩), .pointer (some ⟨VB, 0, none⟩), .pointer (some ⟨RB, 0, none⟩), .agg #[b, .int .i64 E], _, .pointer (some ⟨VB, 0, none⟩), .int .i64 F, _, .pointer (some ⟨VB, 1, none⟩), .int .i64 T, _, .pointer (some ⟨VB, 2, none⟩), _, _, _, _, _], defers := _ } _
  refine alongK_read (.int .i64 A) rfl rfl (fun wx hS => ex_load Tryz.isAgg3 rfl rfl wx ((tx_cells (HVB.out wx hS)).2.2.1)) ?_
  refine alongK_read (.pointer (some ⟨VB, 3, none⟩)) rfl rfl (fun wx hS => ex_field rfl rfl wx (by simp [go_sem])) ?_
  change AlongK _ _ _ _ _ { tmps := #[.agg #[b, .int .i64 E], .agg #[.int .i64 F, .int .i64 T, .int .i64 A, .int .i64 NN, .string (strOfNums sg)], .pointer (some ⟨WB, 0, none⟩), .pointer (some ⟨VB, 0, none⟩), .pointer (some ⟨RB, 0, none⟩), .agg #[b, .int .i64 E], _, .pointer (some ⟨VB, 0, none⟩), .int .i64 F, _, .pointer (some ⟨VB, 1, none⟩), .int .i64 T, _, .pointer (some ⟨VB, 2, none⟩), .int .i64 A, _, .pointer (some ⟨VB, 3, none⟩), _, _], defers := _ } _
  refine alongK_read (.int .i64 NN) rfl rfl (fun wx hS => ex_load Tryz.isAgg3 rfl rfl wx ((tx_cells (HVB.out wx hS)).2.2.2.1)) ?_
  change AlongK _ _ _ _ _ { tmps := #[.agg #[b, .int .i64 E], .agg #[.int .i64 F, .int .i64 T, .int .i64 A, .int .i64 NN, .string (strOfNums sg)], .pointer (some ⟨WB, 0, none⟩), .pointer (some ⟨VB, 0, none⟩), .pointer (some ⟨RB, 0, none⟩), .agg #[b, .int .i64 E], _, .pointer (some ⟨VB, 0, none⟩), .int .i64 F, _, .pointer (some ⟨VB, 1, none⟩), .int .i64 T, _, .pointer (some ⟨VB, 2, none⟩), .int .i64 A, _, .pointer (some ⟨VB, 3, none⟩), .int .i64 NN, _], defers := _ } _
  refine alongK_step ?_
  refine opK_call (vs := [.agg #[b, .int .i64 E], .string ⟨#[116, 120]⟩]) rfl rfl rfl (enters_of Tryz.func28 (by kernel_rfl) rfl) rfl ?_
  with_reducible refine Calls.mono (HT1.out _ (Up.drew1 wz)) ?_
  rintro e w1 ⟨b1, rfl, hI1, hU1⟩
  refine ⟨_, rfl, (fun x => KeptBut (fun k => k = RB) wz x), (fun _ h => h), (KeptBut.of_up (Up.trans (Up.drew1 wz) hU1)), ?_⟩
  change AlongK _ _ _ _ _ { tmps := #[.agg #[b, .int .i64 E], .agg #[.int .i64 F, .int .i64 T, .int .i64 A, .int .i64 NN, .string (strOfNums sg)], .pointer (some ⟨WB, 0, none⟩), .pointer (some ⟨VB, 0, none⟩), .pointer (some ⟨RB, 0, none⟩), .agg #[b, .int .i64 E], .agg #[b1, .int .i64 (wTextE (E) [116, 120])], .pointer (some ⟨VB, 0, none⟩), .int .i64 F, _, .pointer (some ⟨VB, 1, none⟩), .int .i64 T, _, .pointer (some ⟨VB, 2, none⟩), .int .i64 A, _, .pointer (some ⟨VB, 3, none⟩), .int .i64 NN, _], defers := _ } _
  refine alongK_step ?_
  refine opK_call (vs := [.agg #[b1, .int .i64 (wTextE (E) [116, 120])], .int .i64 F]) rfl rfl rfl (enters_of Tryz.func27 (by kernel_rfl) rfl) rfl ?_
  with_reducible refine Calls.mono (rto_p (refNum_any b1 (wTextE (E) [116, 120]) (rTextB (bs) [116, 120]) F _ (hI1) (Nat.le_trans (rTextB_len [116, 120] HL.out) (by decide)))) ?_
  rintro e w2 ⟨b2, rfl, hI2, hU2⟩
  refine ⟨_, rfl, (fun x => KeptBut (fun k => k = RB) wz x), (fun _ h => h), (KeptBut.of_up (Up.trans (Up.trans (Up.drew1 wz) hU1) hU2)), ?_⟩
  change AlongK _ _ _ _ _ { tmps := #[.agg #[b, .int .i64 E], .agg #[.int .i64 F, .int .i64 T, .int .i64 A, .int .i64 NN, .string (strOfNums sg)], .pointer (some ⟨WB, 0, none⟩), .pointer (some ⟨VB, 0, none⟩), .pointer (some ⟨RB, 0, none⟩), .agg #[b, .int .i64 E], .agg #[b1, .int .i64 (wTextE (E) [116, 120])], .pointer (some ⟨VB, 0, none⟩), .int .i64 F, .agg #[b2, .int .i64 (wNumE (wTextE (E) [116, 120]) F)], .pointer (some ⟨VB, 1, none⟩), .int .i64 T, _, .pointer (some ⟨VB, 2, none⟩), .int .i64 A, _, .pointer (some ⟨VB, 3, none⟩), .int .i64 NN, _], defers := _ } _
  refine alongK_step ?_
  refine opK_call (vs := [.agg #[b2, .int .i64 (wNumE (wTextE (E) [116, 120]) F)], .int .i64 T]) rfl rfl rfl (enters_of Tryz.func27 (by kernel_rfl) rfl) rfl ?_
  with_reducible refine Calls.mono (rto_p (refNum_any b2 (wNumE (wTextE (E) [116, 120]) F) (rNumB (rTextB (bs) [116, 120]) F) T _ (hI2) (Nat.le_trans (rNumB_len F (rTextB_len [116, 120] HL.out)) (by decide)))) ?_
  rintro e w3 ⟨b3, rfl, hI3, hU3⟩
  refine ⟨_, rfl, (fun x => KeptBut (fun k => k = RB) wz x), (fun _ h => h), (KeptBut.of_up (Up.trans (Up.trans (Up.trans (Up.drew1 wz) hU1) hU2) hU3)), ?_⟩
  change AlongK _ _ _ _ _ { tmps := #[.agg #[b, .int .i64 E], .agg #[.int .i64 F, .int .i64 T, .int .i64 A, .int .i64 NN, .string (strOfNums sg)], .pointer (some ⟨WB, 0, none⟩), .pointer (some ⟨VB, 0, none⟩), .pointer (some ⟨RB, 0, none⟩), .agg #[b, .int .i64 E], .agg #[b1, .int .i64 (wTextE (E) [116, 120])], .pointer (some ⟨VB, 0, none⟩), .int .i64 F, .agg #[b2, .int .i64 (wNumE (wTextE (E) [116, 120]) F)], .pointer (some ⟨VB, 1, none⟩), .int .i64 T, .agg #[b3, .int .i64 (wNumE (wNumE (wTextE (E) [116, 120]) F) T)], .pointer (some ⟨VB, 2, none⟩), .int .i64 A, _, .pointer (some ⟨VB, 3, none⟩), .int .i64 NN, _], defers := _ } _
  refine alongK_step ?_
  refine opK_call (vs := [.agg #[b3, .int .i64 (wNumE (wNumE (wTextE (E) [116, 120]) F) T)], .int .i64 A]) rfl rfl rfl (enters_of Tryz.func27 (by kernel_rfl) rfl) rfl ?_
  with_reducible refine Calls.mono (rto_p (refNum_any b3 (wNumE (wNumE (wTextE (E) [116, 120]) F) T) (rNumB (rNumB (rTextB (bs) [116, 120]) F) T) A _ (hI3) (Nat.le_trans (rNumB_len T (rNumB_len F (rTextB_len [116, 120] HL.out))) (by decide)))) ?_
  rintro e w4 ⟨b4, rfl, hI4, hU4⟩
  refine ⟨_, rfl, (fun x => KeptBut (fun k => k = RB) wz x), (fun _ h => h), (KeptBut.of_up (Up.trans (Up.trans (Up.trans (Up.trans (Up.drew1 wz) hU1) hU2) hU3) hU4)), ?_⟩
  change AlongK _ _ _ _ _ { tmps := #[.agg #[b, .int .i64 E], .agg #[.int .i64 F, .int .i64 T, .int .i64 A, .int .i64 NN, .string (strOfNums sg)], .pointer (some ⟨WB, 0, none⟩), .pointer (some ⟨VB, 0, none⟩), .pointer (some ⟨RB, 0, none⟩), .agg #[b, .int .i64 E], .agg #[b1, .int .i64 (wTextE (E) [116, 120])], .pointer (some ⟨VB, 0, none⟩), .int .i64 F, .agg #[b2, .int .i64 (wNumE (wTextE (E) [116, 120]) F)], .pointer (some ⟨VB, 1, none⟩), .int .i64 T, .agg #[b3, .int .i64 (wNumE (wNumE (wTextE (E) [116, 120]) F) T)], .pointer (some ⟨VB, 2, none⟩), .int .i64 A, .agg #[b4, .int .i64 (wNumE (wNumE (wNumE (wTextE (E) [116, 120]) F) T) A)], .pointer (some ⟨VB, 3, none⟩), .int .i64 NN, _], defers := _ } _
  refine alongK_step ?_
  refine opK_call (vs := [.agg #[b4, .int .i64 (wNumE (wNumE (wNumE (wTextE (E) [116, 120]) F) T) A)], .int .i64 NN]) rfl rfl rfl (enters_of Tryz.func27 (by kernel_rfl) rfl) rfl ?_
  with_reducible refine Calls.mono (rto_p (refNum_any b4 (wNumE (wNumE (wNumE (wTextE (E) [116, 120]) F) T) A) (rNumB (rNumB (rNumB (rTextB (bs) [116, 120]) F) T) A) NN _ (hI4) (Nat.le_trans (rNumB_len A (rNumB_len T (rNumB_len F (rTextB_len [116, 120] HL.out)))) (by decide)))) ?_
  rintro e w5 ⟨b5, rfl, hI5, hU5⟩
  refine ⟨_, rfl, (fun x => KeptBut (fun k => k = RB) wz x), (fun _ h => h), (KeptBut.of_up (Up.trans (Up.trans (Up.trans (Up.trans (Up.trans (Up.drew1 wz) hU1) hU2) hU3) hU4) hU5)), ?_⟩
  change AlongK _ _ _ _ _ { tmps := #[.agg #[b, .int .i64 E], .agg #[.int .i64 F, .int .i64 T, .int .i64 A, .int .i64 NN, .string (strOfNums sg)], .pointer (some ⟨WB, 0, none⟩), .pointer (some ⟨VB, 0, none⟩), .pointer (some ⟨RB, 0, none⟩), .agg #[b, .int .i64 E], .agg #[b1, .int .i64 (wTextE (E) [116, 120])], .pointer (some ⟨VB, 0, none⟩), .int .i64 F, .agg #[b2, .int .i64 (wNumE (wTextE (E) [116, 120]) F)], .pointer (some ⟨VB, 1, none⟩), .int .i64 T, .agg #[b3, .int .i64 (wNumE (wNumE (wTextE (E) [116, 120]) F) T)], .pointer (some ⟨VB, 2, none⟩), .int .i64 A, .agg #[b4, .int .i64 (wNumE (wNumE (wNumE (wTextE (E) [116, 120]) F) T) A)], .pointer (some ⟨VB, 3, none⟩), .int .i64 NN, .agg #[b5, .int .i64 (wNumE (wNumE (wNumE (wNumE (wTextE (E) [116, 120]) F) T) A) NN)]], defers := _ } _
  refine alongK_step ?_
  have hUX := (Up.trans (Up.trans (Up.trans (Up.trans (Up.trans (Up.drew1 wz) hU1) hU2) hU3) hU4) hU5)
  have hRX := HRB.out w5 hUX
  refine opK_store (w5.setRow RB #[b5, .int .i64 (wNumE (wNumE (wNumE (wNumE (wTextE (E) [116, 120]) F) T) A) NN)]) rfl rfl (ex_storerow rfl rfl rfl w5 38 hRX info_refW rfl (one_w hI5 _)) (fun x => KeptBut (fun k => k = RB) wz x) (fun _ h => h) ((KeptBut.of_up hUX).trans (KeptBut.of_grown (S := fun k => k = RB) (grownBy_setRow w5 RB #[b5, .int .i64 (wNumE (wNumE (wNumE (wNumE (wTextE (E) [116, 120]) F) T) A) NN)]) (fun k e => by cases e; rfl)) (fun _ _ e => e)) ?_
  change AlongK _ _ _ _ _ { tmps := #[.agg #[b, .int .i64 E], .agg #[.int .i64 F, .int .i64 T, .int .i64 A, .int .i64 NN, .string (strOfNums sg)], .pointer (some ⟨WB, 0, none⟩), .pointer (some ⟨VB, 0, none⟩), .pointer (some ⟨RB, 0, none⟩), .agg #[b, .int .i64 E], .agg #[b1, .int .i64 (wTextE (E) [116, 120])], .pointer (some ⟨VB, 0, none⟩), .int .i64 F, .agg #[b2, .int .i64 (wNumE (wTextE (E) [116, 120]) F)], .pointer (some ⟨VB, 1, none⟩), .int .i64 T, .agg #[b3, .int .i64 (wNumE (wNumE (wTextE (E) [116, 120]) F) T)], .pointer (some ⟨VB, 2, none⟩), .int .i64 A, .agg #[b4, .int .i64 (wNumE (wNumE (wNumE (wTextE (E) [116, 120]) F) T) A)], .pointer (some ⟨VB, 3, none⟩), .int .i64 NN, .agg #[b5, .int .i64 (wNumE (wNumE (wNumE (wNumE (wTextE (E) [116, 120]) F) T) A) NN)]], defers := _ } _
  refine alongK_done ?_
  have HGX := grownBy_setRow w5 RB #[b5, .int .i64 (wNumE (wNumE (wNumE (wNumE (wTextE (E) [116, 120]) F) T) A) NN)]
  have HEX := setRow_heap w5 RB _ #[b5, .int .i64 (wNumE (wNumE (wNumE (wNumE (wTextE (E) [116, 120]) F) T) A) NN)] 38 (0, 0) hRX
  have HUF := up_at (Up.trans HUz.out hUX) HGX HRL2.out
  go_wp2
  exact bodyPost_ret (results_cell_row rfl _ _ _ _ _ _ _ rfl HEX Tryz.underlying38 rfl info_refW) rfl ⟨b5, rfl, ints_row hI5 HGX hRX, HUF⟩

set_option maxHeartbeats 4000000 in
theorem refPutTx_any (b : Value) (E : Int) (bs : List Int) (F T A NN : Int) (sg : List Int) (w : World) (hbb : Ints .u8 w b bs) (hl : bs.length ≤ 20482) (hu : U8s sg) (hsl : sg.length ≤ 9223372036854775807) :
    Calls Tryz.prog 138 #[.agg #[b, .int .i64 E], .agg #[.int .i64 F, .int .i64 T, .int .i64 A, .int .i64 NN, .string (strOfNums sg)]] w (RPto w (wTextE (tfE E F T A NN) sg) (rTextB (tfB bs F T A NN) sg)) := by
  have HF0 : Hid (∀ wx, Ints .u8 wx b bs → Calls Tryz.prog 119 #[.agg #[b, .int .i64 E], .agg #[.int .i64 F, .int .i64 T, .int .i64 A, .int .i64 NN, .string (strOfNums sg)]] wx (RPto wx (tfE E F T A NN) (tfB bs F T A NN))) := fun wx h => txFields_any b E bs F T A NN sg wx h hl
  have hL := tfB_len F T A NN hl
  have HT : Hid (∀ b1 wx, Ints .u8 wx b1 (tfB bs F T A NN) → Calls Tryz.prog 28 #[.agg #[b1, .int .i64 (tfE E F T A NN)], .string (strOfNums sg)] wx (RPto wx (wTextE (tfE E F T A NN) sg) (rTextB (tfB bs F T A NN) sg))) := fun b1 wx h => rto_p (refText_any b1 _ _ sg wx h hu (Nat.le_trans hL (by decide)) hsl)
  generalize tfE E F T A NN = E1 at HF0 HT ⊢
  generalize tfB bs F T A NN = B1 at HF0 HT ⊢
  have u1 := Up.alloc (Up.refl w) (.cells #[b, .int .i64 E] 38)
  have u2 := Up.alloc (Up.refl (w.alloc (.cells #[b, .int .i64 E] 38))) (.cells #[.int .i64 F, .int .i64 T, .int .i64 A, .int .i64 NN, .string (strOfNums sg)] 85)
  have u3 := Up.alloc (Up.refl ((w.alloc (.cells #[b, .int .i64 E] 38)).alloc (.cells #[.int .i64 F, .int .i64 T, .int .i64 A, .int .i64 NN, .string (strOfNums sg)] 85))) (.cells #[.slice none 0 0, .int .i64 0] 38)
  have h1 := heap_alloc_new w (.cells #[b, .int .i64 E] 38)
  have h2 := heap_alloc_new (w.alloc (.cells #[b, .int .i64 E] 38)) (.cells #[.int .i64 F, .int .i64 T, .int .i64 A, .int .i64 NN, .string (strOfNums sg)] 85)
  have h3 := heap_alloc_new ((w.alloc (.cells #[b, .int .i64 E] 38)).alloc (.cells #[.int .i64 F, .int .i64 T, .int .i64 A, .int .i64 NN, .string (strOfNums sg)] 85)) (.cells #[.slice none 0 0, .int .i64 0] 38)
  rw [show (w.alloc (.cells #[b, .int .i64 E] 38)).heap.size = w.heap.size + 1 by simp] at h2
  rw [show ((w.alloc (.cells #[b, .int .i64 E] 38)).alloc (.cells #[.int .i64 F, .int .i64 T, .int .i64 A, .int .i64 NN, .string (strOfNums sg)] 85)).heap.size = w.heap.size + 1 + 1 by simp] at h3
  have u23 := Up.trans u2 u3
  have HUz := Lib.hid (Up.trans u1 u23)
  have HWB0 := Lib.hid ((u23.block _ (lt_of_block h1)).trans h1)
  have HVB0 := Lib.hid ((u3.block _ (lt_of_block h2)).trans h2)
  have HRB0 := Lib.hid h3
  have HBB := Lib.hid hbb
  clear u1 u2 u3 h1 h2 h3 u23 hbb hl hu hsl hL
  go_enter Tryz.func138, Tryz.ntmps138
  go_wp2_with fail
  generalize ((w.alloc (.cells #[b, .int .i64 E] 38)).alloc (.cells #[.int .i64 F, .int .i64 T, .int .i64 A, .int .i64 NN, .string (strOfNums sg)] 85)).alloc (.cells #[.slice none 0 0, .int .i64 0] 38) = wz at HUz HWB0 HVB0 HRB0 ⊢
  have HRL2 : Hid (w.heap.size ≤ w.heap.size + 1 + 1) := by (have h : w.heap.size ≤ w.heap.size + 1 + 1 := by omega); exact h
  have HWN : Hid (w.heap.size ≠ w.heap.size + 1 + 1) := by (have h : w.heap.size ≠ w.heap.size + 1 + 1 := by omega); exact h
  have HVN : Hid (w.heap.size + 1 ≠ w.heap.size + 1 + 1) := by (have h : w.heap.size + 1 ≠ w.heap.size + 1 + 1 := by omega); exact h
  generalize hRB : w.heap.size + 1 + 1 = RB at HRB0 HRL2 HWN HVN ⊢
  generalize hVB : w.heap.size + 1 = VB at HVB0 HVN ⊢
  clear hRB hVB
  have HI : Hid (∀ wx, Up wz wx → Ints .u8 wx b bs) := fun wx u => (HBB.out.up HUz.out).up u
  have HF : Hid (∀ wx, Up wz wx → Calls Tryz.prog 119 #[.agg #[b, .int .i64 E], .agg #[.int .i64 F, .int .i64 T, .int .i64 A, .int .i64 NN, .string (strOfNums sg)]] wx (RPto wx E1 B1)) := fun wx u => HF0.out wx (HI.out wx u)
  have HWB : Hid (∀ wx, KeptBut (fun k => k = RB) wz wx → wx.heap[w.heap.size]? = some (.cells #[b, .int .i64 E] 38 (0, 0))) := fun wx u => (u.block _ (lt_of_block HWB0.out) HWN.out).trans HWB0.out
  have HVB : Hid (∀ wx, KeptBut (fun k => k = RB) wz wx → wx.heap[VB]? = some (.cells #[.int .i64 F, .int .i64 T, .int .i64 A, .int .i64 NN, .string (strOfNums sg)] 85 (0, 0))) := fun wx u => (u.block _ (lt_of_block HVB0.out) HVN.out).trans HVB0.out
  have HRB : Hid (∀ wx, Up wz wx → wx.heap[RB]? = some (.cells #[.slice none 0 0, .int .i64 0] 38 (0, 0))) := fun wx u => (u.block _ (lt_of_block HRB0.out)).trans HRB0.out
  clear HWB0 HVB0 HRB0 HBB
  generalize hWB : w.heap.size = WB at HWB HWN ⊢
  refine region_alongK (fun x => KeptBut (fun k => k = RB) wz x) (.read 0 (.read 1 (.read 3 (.read 4 (.step 2 (.step 5 (.step 6 (.nil)))))))) (by kernel_rfl) rfl (by kernel_rfl) (by kernel_rfl) (fun c a d v w h => by cases d <;> exact h) (KeptBut.of_up (Up.drew1 wz)) ?_
  refine alongK_read (.agg #[b, .int .i64 E]) rfl rfl (fun wx hS => ex_loadrow rfl rfl wx 38 (HWB.out wx hS) Tryz.underlying38 rfl info_refW) ?_
  refine alongK_read (.agg #[.int .i64 F, .int .i64 T, .int .i64 A, .int .i64 NN, .string (strOfNums sg)]) rfl rfl (fun wx hS => ex_loadrow rfl rfl wx 85 (HVB.out wx hS) Tryz.underlying85 rfl info_tx) ?_
  change AlongK _ _ _ _ _ { tmps := #[.agg #[b, .int .i64 E], .agg #[.int .i64 F, .int .i64 T, .int .i64 A, .int .i64 NN, .string (strOfNums sg)], .pointer (some ⟨WB, 0, none⟩), .pointer (some ⟨VB, 0, none⟩), .pointer (some ⟨RB, 0, none⟩), .agg #[b, .int .i64 E], .agg #[.int .i64 F, .int .i64 T, .int .i64 A, .int .i64 NN, .string (strOfNums sg)], _, _, _, _], defers := _ } _
  refine alongK_read (.pointer (some ⟨VB, 4, none⟩)) rfl rfl (fun wx hS => ex_field rfl rfl wx (by simp [go_sem])) ?_
  refine alongK_read (.string (strOfNums sg)) rfl rfl (fun wx hS => ex_load Tryz.isAgg9 rfl rfl wx ((tx_cells (HVB.out wx hS)).2.2.2.2)) ?_
  change AlongK _ _ _ _ _ { tmps := #[.agg #[b, .int .i64 E], .agg #[.int .i64 F, .int .i64 T, .int .i64 A, .int .i64 NN, .string (strOfNums sg)], .pointer (some ⟨WB, 0, none⟩), .pointer (some ⟨VB, 0, none⟩), .pointer (some ⟨RB, 0, none⟩), .agg #[b, .int .i64 E], .agg #[.int .i64 F, .int .i64 T, .int .i64 A, .int .i64 NN, .string (strOfNums sg)], _, .pointer (some ⟨VB, 4, none⟩), .string (strOfNums sg), _], defers := _ } _
  refine alongK_step ?_
  refine opK_call (vs := [.agg #[b, .int .i64 E], .agg #[.int .i64 F, .int .i64 T, .int .i64 A, .int .i64 NN, .string (strOfNums sg)]]) rfl rfl rfl (enters_of Tryz.func119 (by kernel_rfl) rfl) rfl ?_
  with_reducible refine Calls.mono (HF.out _ (Up.drew1 wz)) ?_
  rintro e w1 ⟨b1, rfl, hI1, hU1⟩
  refine ⟨_, rfl, (fun x => KeptBut (fun k => k = RB) wz x), (fun _ h => h), (KeptBut.of_up (Up.trans (Up.drew1 wz) hU1)), ?_⟩
  change AlongK _ _ _ _ _ { tmps := #[.agg #[b, .int .i64 E], .agg #[.int .i64 F, .int .i64 T, .int .i64 A, .int .i64 NN, .string (strOfNums sg)], .pointer (some ⟨WB, 0, none⟩), .pointer (some ⟨VB, 0, none⟩), .pointer (some ⟨RB, 0, none⟩), .agg #[b, .int .i64 E], .agg #[.int .i64 F, .int .i64 T, .int .i64 A, .int .i64 NN, .string (strOfNums sg)], .agg #[b1, .int .i64 (E1)], .pointer (some ⟨VB, 4, none⟩), .string (strOfNums sg), _], defers := _ } _
  refine alongK_step ?_
  refine opK_call (vs := [.agg #[b1, .int .i64 (E1)], .string (strOfNums sg)]) rfl rfl rfl (enters_of Tryz.func28 (by kernel_rfl) rfl) rfl ?_
  with_reducible refine Calls.mono (HT.out b1 _ hI1) ?_
  rintro e w2 ⟨b2, rfl, hI2, hU2⟩
  refine ⟨_, rfl, (fun x => KeptBut (fun k => k = RB) wz x), (fun _ h => h), (KeptBut.of_up (Up.trans (Up.trans (Up.drew1 wz) hU1) hU2)), ?_⟩
  change AlongK _ _ _ _ _ { tmps := #[.agg #[b, .int .i64 E], .agg #[.int .i64 F, .int .i64 T, .int .i64 A, .int .i64 NN, .string (strOfNums sg)], .pointer (some ⟨WB, 0, none⟩), .pointer (some ⟨VB, 0, none⟩), .pointer (some ⟨RB, 0, none⟩), .agg #[b, .int .i64 E], .agg #[.int .i64 F, .int .i64 T, .int .i64 A, .int .i64 NN, .string (strOfNums sg)], .agg #[b1, .int .i64 (E1)], .pointer (some ⟨VB, 4, none⟩), .string (strOfNums sg), .agg #[b2, .int .i64 (wTextE E1 sg)]], defers := _ } _
  refine alongK_step ?_
  have hUX := (Up.trans (Up.trans (Up.drew1 wz) hU1) hU2)
  have hRX := HRB.out w2 hUX
  refine opK_store (w2.setRow RB #[b2, .int .i64 (wTextE E1 sg)]) rfl rfl (ex_storerow rfl rfl rfl w2 38 hRX info_refW rfl (one_w hI2 _)) (fun x => KeptBut (fun k => k = RB) wz x) (fun _ h => h) ((KeptBut.of_up hUX).trans (KeptBut.of_grown (S := fun k => k = RB) (grownBy_setRow w2 RB #[b2, .int .i64 (wTextE E1 sg)]) (fun k e => by cases e; rfl)) (fun _ _ e => e)) ?_
  change AlongK _ _ _ _ _ { tmps := #[.agg #[b, .int .i64 E], .agg #[.int .i64 F, .int .i64 T, .int .i64 A, .int .i64 NN, .string (strOfNums sg)], .pointer (some ⟨WB, 0, none⟩), .pointer (some ⟨VB, 0, none⟩), .pointer (some ⟨RB, 0, none⟩), .agg #[b, .int .i64 E], .agg #[.int .i64 F, .int .i64 T, .int .i64 A, .int .i64 NN, .string (strOfNums sg)], .agg #[b1, .int .i64 (E1)], .pointer (some ⟨VB, 4, none⟩), .string (strOfNums sg), .agg #[b2, .int .i64 (wTextE E1 sg)]], defers := _ } _
  refine alongK_done ?_
  have HGX := grownBy_setRow w2 RB #[b2, .int .i64 (wTextE E1 sg)]
  have HEX := setRow_heap w2 RB _ #[b2, .int .i64 (wTextE E1 sg)] 38 (0, 0) hRX
  have HUF := up_at (Up.trans HUz.out hUX) HGX HRL2.out
  go_wp2
  exact bodyPost_ret (results_cell_row rfl _ _ _ _ _ _ _ rfl HEX Tryz.underlying38 rfl info_refW) rfl ⟨b2, rfl, ints_row hI2 HGX hRX, HUF⟩

end
end

/-
  The reference: text and validity of a transaction.
-/
section
set_option maxRecDepth 100000
section
set_option linter.unusedVariables false
open Go.RowKit Go.Sort Go.Lib

theorem tf_fields {F T A NN : Int} (hf : 0 ≤ F ∧ F ≤ 1099511627776) (ht : 0 ≤ T ∧ T ≤ 1099511627776) (ha : 0 ≤ A ∧ A ≤ 1099511627776) (hn : 0 ≤ NN ∧ NN ≤ 1099511627776) : tfB [] F T A NN = txT F T A NN := by
  unfold tfB
  have e0 : rTextB [] [116, 120] = [0, 2, 116, 120] := rfl
  rw [e0, rNum_in hf.1 hf.2 (by simp), rNum_in ht.1 ht.2 (by simp [octAll_length]), rNum_in ha.1 ha.2 (by simp [octAll_length]), rNum_in hn.1 hn.2 (by simp [octAll_length])]
  rfl
theorem txE_in {F T A NN : Int} {S : ByteArray} (h : txE F T A NN S = 0) : ((0 ≤ F ∧ F ≤ 3) ∧ (0 ≤ T ∧ T ≤ 3) ∧ (1 ≤ A ∧ A ≤ 1000) ∧ (0 ≤ NN ∧ NN ≤ 1099511627776)) ∧ S.size ≤ 4096 := by
  unfold txE at h
  split at h
  · next k => exact ⟨k.1, k.2.2⟩
  · cases h
set_option maxHeartbeats 1000000 in
theorem refTxText_any (F T A NN : Int) (sg : List Int) (w : World) (hu : U8s sg) (hsl : sg.length ≤ 9223372036854775807) :
    Calls Tryz.prog 86 #[.agg #[.int .i64 F, .int .i64 T, .int .i64 A, .int .i64 NN, .string (strOfNums sg)]] w fun e w' => ∃ r, e = .returned r ∧ Ints .u8 w' r (if txE F T A NN (strOfNums sg) = 0 then txT F T A NN else []) ∧ Up w w' := by
  have HR : Hid (∀ wx, Calls Tryz.prog 83 #[.agg #[.int .i64 F, .int .i64 T, .int .i64 A, .int .i64 NN, .string (strOfNums sg)]] wx fun e w' => e = .returned (.int .i64 (txE F T A NN (strOfNums sg))) ∧ Up wx w') := fun wx => refTx_any F T A NN (strOfNums sg) wx
  have HF : Hid (∀ wx, Calls Tryz.prog 119 #[.agg #[.slice none 0 0, .int .i64 0], .agg #[.int .i64 F, .int .i64 T, .int .i64 A, .int .i64 NN, .string (strOfNums sg)]] wx (RPto wx (tfE 0 F T A NN) (tfB [] F T A NN))) := fun wx => txFields_any (.slice none 0 0) 0 [] F T A NN sg wx ⟨none, 0, rfl, Nat.le_refl _, fun _ => rfl, .inl rfl⟩ (by simp)
  have HT : Hid (txE F T A NN (strOfNums sg) = 0 → tfB [] F T A NN = txT F T A NN) := fun h => by
    have k := (txE_in h).1
    exact tf_fields (by omega) (by omega) (by omega) (by omega)
  have HB0 := Lib.hid (heap_alloc_new w (.cells #[.int .i64 F, .int .i64 T, .int .i64 A, .int .i64 NN, .string (strOfNums sg)] 85))
  have HU0 := Lib.hid (Up.alloc (Up.refl w) (.cells #[.int .i64 F, .int .i64 T, .int .i64 A, .int .i64 NN, .string (strOfNums sg)] 85))
  generalize txE F T A NN (strOfNums sg) = Er at HR HT ⊢
  generalize txT F T A NN = Z at HT ⊢
  generalize tfB [] F T A NN = Y at HF HT
  generalize tfE 0 F T A NN = Ex at HF
  clear hu hsl
  go_enter Tryz.func86, Tryz.ntmps86
  go_wp2_with (refine wpList_ex rfl (.agg #[.int .i64 F, .int .i64 T, .int .i64 A, .int .i64 NN, .string (strOfNums sg)]) _ (ex_loadrow (x := .tmp 1) rfl rfl _ 85 HB0.out Tryz.underlying85 rfl info_tx) ?_)
  with_reducible refine Calls.mono (HR.out _) ?_
  rintro e w2 ⟨rfl, u2⟩
  have HB2 := Lib.hid ((u2.block _ (lt_of_block HB0.out)).trans HB0.out)
  have HU2 := Lib.hid (Up.trans HU0.out u2)
  clear u2
  by_cases hE : Er = 0
  · subst hE
    go_wp2_with (refine wpList_ex rfl (.agg #[.int .i64 F, .int .i64 T, .int .i64 A, .int .i64 NN, .string (strOfNums sg)]) _ (ex_loadrow (x := .tmp 1) rfl rfl _ 85 HB2.out Tryz.underlying85 rfl info_tx) ?_)
    with_reducible refine Calls.mono (HF.out _) ?_
    rintro e w3 ⟨b, rfl, hI, hU⟩
    have HI := Lib.hid hI
    obtain ⟨ba, bc, rfl, _⟩ := hI
    have HU3 := Lib.hid (Up.trans HU2.out hU)
    clear hU
    go_wp2_with (refine wpList_ex rfl (.slice ba Y.length bc) _ (ex_fld (x := .tmp 8) rfl rfl (run_fld ba Y.length bc Ex _)) ?_)
    go_ret
    exact ⟨_, rfl, by first | (rw [if_pos rfl, ← HT.out rfl]; exact HI.out) | (simp only; rw [← HT.out (by trivial)]; exact HI.out), HU3.out⟩
  · have e1 : (Er != 0) = true := by rw [bne_iff_ne]; exact hE
    go_wp2
    go_ret
    exact ⟨_, rfl, by first | (rw [if_neg hE]; exact ⟨none, 0, rfl, Nat.le_refl _, fun _ => rfl, .inl rfl⟩) | (simp; exact ⟨none, 0, rfl, Nat.le_refl _, fun _ => rfl, .inl rfl⟩), HU2.out⟩

set_option maxHeartbeats 2000000 in
theorem refTxValid_any (f t a n : Int) (sig : List Int) (rv : Value) (ls : List (List Int)) (w : World) (hs : Strs w rv ls) (hu : U8s sig) (hsl : sig.length ≤ 9223372036854775807) (hll : ls.length ≤ 9223372036854775807) :
    Calls Tryz.prog 49 #[.agg (txC f t a n (strOfNums sig)), rv] w fun e w' => ∃ b : Bool, e = .returned (.bool b) ∧ (TxGood f t a n sig ls → b = true) ∧ (¬ TxGood f t a n sig ls → b = false) ∧ Up w w' := by
  obtain ⟨ra, rc, rfl, hrc, hrn, hrd⟩ := hs
  by_cases hE : txE f t a n (strOfNums sig) = 0
  · obtain ⟨fn, rfl⟩ : ∃ fn : Nat, f = fn := ⟨f.toNat, by have := (txE_f hE).1; omega⟩
    have Hc : Hid (∀ wx, Calls Tryz.prog 83 #[.agg #[.int .i64 (fn : Nat), .int .i64 t, .int .i64 a, .int .i64 n, .string (strOfNums sig)]] wx fun e w' => e = .returned (.int .i64 0) ∧ Up wx w') := fun wx => by have := refTx_any fn t a n (strOfNums sig) wx; rw [hE] at this; exact this
    by_cases hfn : fn < ls.length
    · have HG : Hid (TxGood fn t a n sig ls ↔ GoodSig (strOfNums (ls[fn]?.getD [])) 2 (txT fn t a n) sig) := ⟨fun h => h.2.2, fun h => ⟨hE, hfn, h⟩⟩
      have HTx : Hid (∀ wx, Calls Tryz.prog 86 #[.agg #[.int .i64 (fn : Nat), .int .i64 t, .int .i64 a, .int .i64 n, .string (strOfNums sig)]] wx fun e w' => ∃ xa xc, e = .returned (.slice xa 28 xc) ∧ Ints .u8 w' (.slice xa 28 xc) (txT fn t a n) ∧ Up wx w') := by
        intro wx
        refine (refTxText_any fn t a n sig wx hu hsl).mono fun e w' ⟨r, h1, h2, h3⟩ => ?_
        rw [if_pos hE] at h2
        have h4 := h2
        obtain ⟨xa, xc, rfl, _⟩ := h4
        rw [txT_length] at h1 h2
        exact ⟨xa, xc, h1, h2, h3⟩
      have HV : Hid (∀ (wx : World) xa xc, Ints .u8 wx (.slice xa 28 xc) (txT fn t a n) → Calls Tryz.prog 37 #[.string (strOfNums (ls[fn]?.getD [])), .int .i64 2, .slice xa 28 xc, .string (strOfNums sig)] wx (SigTold (strOfNums (ls[fn]?.getD [])) 2 (txT fn t a n) sig wx)) :=
        fun wx xa xc hi => refVerify_any _ 2 _ _ sig wx hi (txT_u8s _ _ _ _) (by rw [txT_length]; omega) hu hsl
      obtain ⟨rb, ro, rfl, hcell⟩ : ∃ b off, ra = some ⟨b, off, none⟩ ∧ ∀ j, j < ls.length → w.cell? ⟨b, off + j, none⟩ = some (.string (strOfNums (ls[j]?.getD []))) := by
        rcases hrd with rfl | h
        · simp at hfn
        · exact h
      have HRw := Lib.hid (hcell fn hfn)
      unfold SigTold at HV
      generalize GoodSig (strOfNums (ls[fn]?.getD [])) 2 (txT fn t a n) sig = GD at HV HG
      generalize TxGood fn t a n sig ls = TG at HG ⊢
      generalize strOfNums (ls[fn]?.getD []) = R at HV HRw
      generalize txT fn t a n = TT at HTx HV
      generalize sigLeaf sig = SL at HV
      generalize strOfNums sig = S at Hc HTx HV ⊢
      have hfn2 : ¬ ((ls.length : Int) ≤ (fn : Int)) := by omega
      generalize ls.length = rn at hfn hfn2 ⊢
      unfold txC
      clear hE hcell hrd hrn hrc hu hsl hll
      go_enter Tryz.func49, Tryz.ntmps49
      go_wp2_with fail
      with_reducible refine Calls.mono (Hc.out _) ?_
      rintro e wr ⟨rfl, hU1⟩
      have hb := (hU1.block w.heap.size (by simp)).trans (heap_alloc_new w (.cells #[.int .i64 (fn : Nat), .int .i64 t, .int .i64 a, .int .i64 n, .string S] 85))
      have hc0 := (tx_cells hb).1
      have HTb := Lib.hid hb
      have HUr := Lib.hid (Up.trans (Up.alloc (Up.refl w) _) hU1)
      have HRt : Hid (∀ wx, Up wr wx → wx.cell? ⟨rb, ro + fn * 1, none⟩ = some (.string R)) := fun wx hx => by rw [Nat.mul_one]; exact later_cell HRw.out (Up.trans HUr.out hx)
      clear hb hU1
      go_wp2
      clear hc0 hfn2
      generalize w.heap.size = B at HTb ⊢
      refine region_alongK (fun x => Up wr x) (.read 0 (.read 1 (.read 2 (.read 3 (.read 4 (.read 5 (.read 7 (.read 8 (.step 6 (.step 9 (.read 10 (.read 11 (.read 12 (.read 13 (.read 14 (.nil)))))))))))))))) (by kernel_rfl) rfl (by kernel_rfl) (by kernel_rfl) (fun c a d v w h => by cases d <;> exact h) (Up.drew1 wr) ?_
      refine alongK_read (.slice (some ⟨rb, ro, none⟩) rn rc) rfl rfl (fun wx hS => ex_move (by rfl) (by rfl) wx) ?_
      change AlongK _ _ _ _ _ { tmps := #[.agg #[.int .i64 (fn : Nat), .int .i64 t, .int .i64 a, .int .i64 n, .string S], .slice (some ⟨rb, ro, none⟩) rn rc, .pointer (some ⟨B, 0, none⟩), _, .bool false, _, _, _, _, _, _, _, _, _, _, _, _, _, .slice (some ⟨rb, ro, none⟩) rn rc, _, _, _, _, _, _, _, _, _, _, _, _], defers := _ } _
      refine alongK_read (.pointer (some ⟨B, 0, none⟩)) rfl rfl (fun wx hS => ex_field rfl rfl wx (by simp [go_sem])) ?_
      change AlongK _ _ _ _ _ { tmps := #[.agg #[.int .i64 (fn : Nat), .int .i64 t, .int .i64 a, .int .i64 n, .string S], .slice (some ⟨rb, ro, none⟩) rn rc, .pointer (some ⟨B, 0, none⟩), _, .bool false, _, _, _, _, _, _, _, _, _, _, _, _, _, .slice (some ⟨rb, ro, none⟩) rn rc, .pointer (some ⟨B, 0, none⟩), _, _, _, _, _, _, _, _, _, _, _], defers := _ } _
      refine alongK_read (.int .i64 (fn : Nat)) rfl rfl (fun wx hS => ex_load Tryz.isAgg3 rfl rfl wx ((tx_cells ((hS.block B (lt_of_block HTb.out)).trans HTb.out)).1)) ?_
      change AlongK _ _ _ _ _ { tmps := #[.agg #[.int .i64 (fn : Nat), .int .i64 t, .int .i64 a, .int .i64 n, .string S], .slice (some ⟨rb, ro, none⟩) rn rc, .pointer (some ⟨B, 0, none⟩), _, .bool false, _, _, _, _, _, _, _, _, _, _, _, _, _, .slice (some ⟨rb, ro, none⟩) rn rc, .pointer (some ⟨B, 0, none⟩), .int .i64 (fn : Nat), _, _, _, _, _, _, _, _, _, _], defers := _ } _
      refine alongK_read (.pointer (some ⟨rb, ro + fn * 1, none⟩)) rfl rfl (fun wx hS => ex_index Tryz.underlying25 Tryz.sizeOf9 rfl rfl rfl (hfn) wx) ?_
      change AlongK _ _ _ _ _ { tmps := #[.agg #[.int .i64 (fn : Nat), .int .i64 t, .int .i64 a, .int .i64 n, .string S], .slice (some ⟨rb, ro, none⟩) rn rc, .pointer (some ⟨B, 0, none⟩), _, .bool false, _, _, _, _, _, _, _, _, _, _, _, _, _, .slice (some ⟨rb, ro, none⟩) rn rc, .pointer (some ⟨B, 0, none⟩), .int .i64 (fn : Nat), .pointer (some ⟨rb, ro + fn * 1, none⟩), _, _, _, _, _, _, _, _, _], defers := _ } _
      refine alongK_read (.string R) rfl rfl (fun wx hS => ex_load Tryz.isAgg9 rfl rfl wx (HRt.out wx hS)) ?_
      change AlongK _ _ _ _ _ { tmps := #[.agg #[.int .i64 (fn : Nat), .int .i64 t, .int .i64 a, .int .i64 n, .string S], .slice (some ⟨rb, ro, none⟩) rn rc, .pointer (some ⟨B, 0, none⟩), _, .bool false, _, _, _, _, _, _, _, _, _, _, _, _, _, .slice (some ⟨rb, ro, none⟩) rn rc, .pointer (some ⟨B, 0, none⟩), .int .i64 (fn : Nat), .pointer (some ⟨rb, ro + fn * 1, none⟩), .string R, _, _, _, _, _, _, _, _], defers := _ } _
      refine alongK_read (.agg #[.int .i64 (fn : Nat), .int .i64 t, .int .i64 a, .int .i64 n, .string S]) rfl rfl (fun wx hS => ex_loadrow rfl rfl wx 85 ((hS.block B (lt_of_block HTb.out)).trans HTb.out) Tryz.underlying85 rfl info_tx) ?_
      change AlongK _ _ _ _ _ { tmps := #[.agg #[.int .i64 (fn : Nat), .int .i64 t, .int .i64 a, .int .i64 n, .string S], .slice (some ⟨rb, ro, none⟩) rn rc, .pointer (some ⟨B, 0, none⟩), _, .bool false, _, _, _, _, _, _, _, _, _, _, _, _, _, .slice (some ⟨rb, ro, none⟩) rn rc, .pointer (some ⟨B, 0, none⟩), .int .i64 (fn : Nat), .pointer (some ⟨rb, ro + fn * 1, none⟩), .string R, .agg #[.int .i64 (fn : Nat), .int .i64 t, .int .i64 a, .int .i64 n, .string S], _, _, _, _, _, _, _], defers := _ } _
      refine alongK_read (.pointer (some ⟨B, 4, none⟩)) rfl rfl (fun wx hS => ex_field rfl rfl wx (by simp [go_sem])) ?_
      change AlongK _ _ _ _ _ { tmps := #[.agg #[.int .i64 (fn : Nat), .int .i64 t, .int .i64 a, .int .i64 n, .string S], .slice (some ⟨rb, ro, none⟩) rn rc, .pointer (some ⟨B, 0, none⟩), _, .bool false, _, _, _, _, _, _, _, _, _, _, _, _, _, .slice (some ⟨rb, ro, none⟩) rn rc, .pointer (some ⟨B, 0, none⟩), .int .i64 (fn : Nat), .pointer (some ⟨rb, ro + fn * 1, none⟩), .string R, .agg #[.int .i64 (fn : Nat), .int .i64 t, .int .i64 a, .int .i64 n, .string S], _, .pointer (some ⟨B, 4, none⟩), _, _, _, _, _], defers := _ } _
      refine alongK_read (.string S) rfl rfl (fun wx hS => ex_load Tryz.isAgg9 rfl rfl wx ((tx_cells ((hS.block B (lt_of_block HTb.out)).trans HTb.out)).2.2.2.2)) ?_
      change AlongK _ _ _ _ _ { tmps := #[.agg #[.int .i64 (fn : Nat), .int .i64 t, .int .i64 a, .int .i64 n, .string S], .slice (some ⟨rb, ro, none⟩) rn rc, .pointer (some ⟨B, 0, none⟩), _, .bool false, _, _, _, _, _, _, _, _, _, _, _, _, _, .slice (some ⟨rb, ro, none⟩) rn rc, .pointer (some ⟨B, 0, none⟩), .int .i64 (fn : Nat), .pointer (some ⟨rb, ro + fn * 1, none⟩), .string R, .agg #[.int .i64 (fn : Nat), .int .i64 t, .int .i64 a, .int .i64 n, .string S], _, .pointer (some ⟨B, 4, none⟩), .string S, _, _, _, _], defers := _ } _
      refine alongK_step ?_
      refine opK_call (vs := [.agg #[.int .i64 (fn : Nat), .int .i64 t, .int .i64 a, .int .i64 n, .string S]]) rfl rfl rfl (enters_of Tryz.func86 (by kernel_rfl) rfl) rfl ?_
      with_reducible refine Calls.mono (HTx.out _) ?_
      rintro e w5 ⟨xa, xc, rfl, hI5, hU5⟩
      have hA5 : Up wr w5 := Up.trans (Up.drew1 wr) hU5
      refine ⟨_, rfl, (fun x => Up wr x), (fun x hx => hx), hA5, ?_⟩
      change AlongK _ _ _ _ _ { tmps := #[.agg #[.int .i64 (fn : Nat), .int .i64 t, .int .i64 a, .int .i64 n, .string S], .slice (some ⟨rb, ro, none⟩) rn rc, .pointer (some ⟨B, 0, none⟩), _, .bool false, _, _, _, _, _, _, _, _, _, _, _, _, _, .slice (some ⟨rb, ro, none⟩) rn rc, .pointer (some ⟨B, 0, none⟩), .int .i64 (fn : Nat), .pointer (some ⟨rb, ro + fn * 1, none⟩), .string R, .agg #[.int .i64 (fn : Nat), .int .i64 t, .int .i64 a, .int .i64 n, .string S], .slice xa 28 xc, .pointer (some ⟨B, 4, none⟩), .string S, _, _, _, _], defers := _ } _
      refine alongK_step ?_
      refine opK_call (vs := [.string R, .int .i64 2, .slice xa 28 xc, .string S]) rfl rfl rfl (enters_of Tryz.func37 (by kernel_rfl) rfl) rfl ?_
      with_reducible refine Calls.mono (HV.out _ xa xc hI5) ?_
      rintro e w7 ⟨⟨s0, ok, rfl, hg1, hg2⟩, hU7⟩
      have hA7 : Up wr w7 := Up.trans hA5 hU7
      refine ⟨_, rfl, (fun x => Up wr x), (fun x hx => hx), hA7, ?_⟩
      change AlongK _ _ _ _ _ { tmps := #[.agg #[.int .i64 (fn : Nat), .int .i64 t, .int .i64 a, .int .i64 n, .string S], .slice (some ⟨rb, ro, none⟩) rn rc, .pointer (some ⟨B, 0, none⟩), _, .bool false, _, _, _, _, _, _, _, _, _, _, _, _, _, .slice (some ⟨rb, ro, none⟩) rn rc, .pointer (some ⟨B, 0, none⟩), .int .i64 (fn : Nat), .pointer (some ⟨rb, ro + fn * 1, none⟩), .string R, .agg #[.int .i64 (fn : Nat), .int .i64 t, .int .i64 a, .int .i64 n, .string S], .slice xa 28 xc, .pointer (some ⟨B, 4, none⟩), .string S, .tuple #[.int .i64 s0, .bool ok], _, _, _], defers := _ } _
      refine alongK_read (.tuple #[.int .i64 s0, .bool ok]) rfl rfl (fun wx hS => ex_move (by rfl) (by rfl) wx) ?_
      change AlongK _ _ _ _ _ { tmps := #[.agg #[.int .i64 (fn : Nat), .int .i64 t, .int .i64 a, .int .i64 n, .string S], .slice (some ⟨rb, ro, none⟩) rn rc, .pointer (some ⟨B, 0, none⟩), _, .bool false, _, _, _, _, _, _, _, _, _, _, _, _, .tuple #[.int .i64 s0, .bool ok], .slice (some ⟨rb, ro, none⟩) rn rc, .pointer (some ⟨B, 0, none⟩), .int .i64 (fn : Nat), .pointer (some ⟨rb, ro + fn * 1, none⟩), .string R, .agg #[.int .i64 (fn : Nat), .int .i64 t, .int .i64 a, .int .i64 n, .string S], .slice xa 28 xc, .pointer (some ⟨B, 4, none⟩), .string S, .tuple #[.int .i64 s0, .bool ok], _, _, _], defers := _ } _
      refine alongK_read (.int .i64 s0) rfl rfl (fun wx hS => ex_extr (cs := #[.int .i64 s0, .bool ok]) rfl rfl rfl wx) ?_
      change AlongK _ _ _ _ _ { tmps := #[.agg #[.int .i64 (fn : Nat), .int .i64 t, .int .i64 a, .int .i64 n, .string S], .slice (some ⟨rb, ro, none⟩) rn rc, .pointer (some ⟨B, 0, none⟩), _, .bool false, _, _, _, _, _, _, _, _, _, _, _, _, .tuple #[.int .i64 s0, .bool ok], .slice (some ⟨rb, ro, none⟩) rn rc, .pointer (some ⟨B, 0, none⟩), .int .i64 (fn : Nat), .pointer (some ⟨rb, ro + fn * 1, none⟩), .string R, .agg #[.int .i64 (fn : Nat), .int .i64 t, .int .i64 a, .int .i64 n, .string S], .slice xa 28 xc, .pointer (some ⟨B, 4, none⟩), .string S, .tuple #[.int .i64 s0, .bool ok], .int .i64 s0, _, _], defers := _ } _
      refine alongK_read (.bool ok) rfl rfl (fun wx hS => ex_extr (cs := #[.int .i64 s0, .bool ok]) rfl rfl rfl wx) ?_
      change AlongK _ _ _ _ _ { tmps := #[.agg #[.int .i64 (fn : Nat), .int .i64 t, .int .i64 a, .int .i64 n, .string S], .slice (some ⟨rb, ro, none⟩) rn rc, .pointer (some ⟨B, 0, none⟩), _, .bool false, _, _, _, _, _, _, _, _, _, _, _, _, .tuple #[.int .i64 s0, .bool ok], .slice (some ⟨rb, ro, none⟩) rn rc, .pointer (some ⟨B, 0, none⟩), .int .i64 (fn : Nat), .pointer (some ⟨rb, ro + fn * 1, none⟩), .string R, .agg #[.int .i64 (fn : Nat), .int .i64 t, .int .i64 a, .int .i64 n, .string S], .slice xa 28 xc, .pointer (some ⟨B, 4, none⟩), .string S, .tuple #[.int .i64 s0, .bool ok], .int .i64 s0, .bool ok, _], defers := _ } _
      refine alongK_read (.int .i64 s0) rfl rfl (fun wx hS => ex_assign (by rfl) (by rfl) wx) ?_
      change AlongK _ _ _ _ _ { tmps := #[.agg #[.int .i64 (fn : Nat), .int .i64 t, .int .i64 a, .int .i64 n, .string S], .slice (some ⟨rb, ro, none⟩) rn rc, .pointer (some ⟨B, 0, none⟩), _, .bool false, .int .i64 s0, _, _, _, _, _, _, _, _, _, _, _, .tuple #[.int .i64 s0, .bool ok], .slice (some ⟨rb, ro, none⟩) rn rc, .pointer (some ⟨B, 0, none⟩), .int .i64 (fn : Nat), .pointer (some ⟨rb, ro + fn * 1, none⟩), .string R, .agg #[.int .i64 (fn : Nat), .int .i64 t, .int .i64 a, .int .i64 n, .string S], .slice xa 28 xc, .pointer (some ⟨B, 4, none⟩), .string S, .tuple #[.int .i64 s0, .bool ok], .int .i64 s0, .bool ok, _], defers := _ } _
      refine alongK_read (.bool ok) rfl rfl (fun wx hS => ex_assign (by rfl) (by rfl) wx) ?_
      change AlongK _ _ _ _ _ { tmps := #[.agg #[.int .i64 (fn : Nat), .int .i64 t, .int .i64 a, .int .i64 n, .string S], .slice (some ⟨rb, ro, none⟩) rn rc, .pointer (some ⟨B, 0, none⟩), _, .bool false, .int .i64 s0, .bool ok, _, _, _, _, _, _, _, _, _, _, .tuple #[.int .i64 s0, .bool ok], .slice (some ⟨rb, ro, none⟩) rn rc, .pointer (some ⟨B, 0, none⟩), .int .i64 (fn : Nat), .pointer (some ⟨rb, ro + fn * 1, none⟩), .string R, .agg #[.int .i64 (fn : Nat), .int .i64 t, .int .i64 a, .int .i64 n, .string S], .slice xa 28 xc, .pointer (some ⟨B, 4, none⟩), .string S, .tuple #[.int .i64 s0, .bool ok], .int .i64 s0, .bool ok, _], defers := _ } _
      refine alongK_done ?_
      clear hU7 hA5 hI5 hU5
      have H1 := Lib.hid hg1
      have H2 := Lib.hid hg2
      have HA7 := Lib.hid hA7
      clear hg1 hg2 hA7
      go_wp2
      go_ret
      exact ⟨_, rfl, fun h => (H1.out (HG.out.1 h)).2, fun h => (H2.out fun h2 => h (HG.out.2 h2)).2, Up.trans HUr.out HA7.out⟩
    · have HG : Hid (¬ TxGood fn t a n sig ls) := fun h => hfn (by simpa using h.2.1)
      have hfn2 : (ls.length : Int) ≤ (fn : Int) := by omega
      generalize TxGood fn t a n sig ls = TG at HG ⊢
      generalize strOfNums sig = S at Hc ⊢
      generalize ls.length = rn at hfn2 ⊢
      unfold txC
      clear hE hrd hrn hrc hu hsl hll hfn
      go_enter Tryz.func49, Tryz.ntmps49
      go_wp2_with fail
      with_reducible refine Calls.mono (Hc.out _) ?_
      rintro e wr ⟨rfl, hU1⟩
      have hb := (hU1.block w.heap.size (by simp)).trans (heap_alloc_new w (.cells #[.int .i64 (fn : Nat), .int .i64 t, .int .i64 a, .int .i64 n, .string S] 85))
      have hc0 := (tx_cells hb).1
      have HUr := Lib.hid (Up.trans (Up.alloc (Up.refl w) _) hU1)
      clear hb hU1
      go_wp2
      go_ret
      exact ⟨_, rfl, fun h => absurd h HG.out, fun _ => rfl, HUr.out⟩
  · have HG : Hid (¬ TxGood f t a n sig ls) := fun h => hE h.1
    have hE9 := txE_nine hE
    have Hc : Hid (∀ wx, Calls Tryz.prog 83 #[.agg #[.int .i64 f, .int .i64 t, .int .i64 a, .int .i64 n, .string (strOfNums sig)]] wx fun e w' => e = .returned (.int .i64 9) ∧ Up wx w') := fun wx => by have := refTx_any f t a n (strOfNums sig) wx; rw [hE9] at this; exact this
    generalize TxGood f t a n sig ls = TG at HG ⊢
    generalize strOfNums sig = S at Hc ⊢
    generalize ls.length = rn at ⊢
    unfold txC
    clear hE hE9 hrd hrn hrc hu hsl hll
    go_enter Tryz.func49, Tryz.ntmps49
    go_wp2_with fail
    with_reducible refine Calls.mono (Hc.out _) ?_
    rintro e wr ⟨rfl, hU1⟩
    have HUr := Lib.hid (Up.trans (Up.alloc (Up.refl w) _) hU1)
    clear hU1
    go_wp2
    go_ret
    exact ⟨_, rfl, fun h => absurd h HG.out, fun _ => rfl, HUr.out⟩
end
end
end

section
/-
  The reference: a block's fields.
-/
section
set_option maxRecDepth 100000
section
set_option linter.unusedVariables false
open Go.RowKit Go.Sort Go.Lib

def ptE (E : Int) (x : Ts) : Int := wTextE (tfE E x.1.F x.1.T x.1.A x.1.N) (octsOf x.2)
def ptB (bs : List Int) (x : Ts) : List Int := rTextB (tfB bs x.1.F x.1.T x.1.A x.1.N) (octsOf x.2)
theorem ptB_len {bs : List Int} (x : Ts) (h : bs.length ≤ 20482) : (ptB bs x).length ≤ 20482 := rTextB_len _ (tfB_len _ _ _ _ h)
theorem putTx_ts (b : Value) (E : Int) (bs : List Int) (x : Ts) (w : World) (hbb : Ints .u8 w b bs) (hl : bs.length ≤ 20482) (hx : x.2.size ≤ 9223372036854775807) :
    Calls Tryz.prog 138 #[.agg #[b, .int .i64 E], .agg (tsA x)] w (RPto w (ptE E x) (ptB bs x)) := by
  have h := refPutTx_any b E bs x.1.F x.1.T x.1.A x.1.N (octsOf x.2) w hbb hl (octsOf_u8s _) (by rw [octsOf_length]; exact hx)
  rw [strOf_octs] at h
  exact h
/-- what behind whole transactions stands -/
def btRE (p : Int × List Int) (xs : List Ts) : Int × List Int := xs.foldl (fun p x => (ptE p.1 x, ptB p.2 x)) p
theorem btRE_len (xs : List Ts) : ∀ p : Int × List Int, p.2.length ≤ 20482 → (btRE p xs).2.length ≤ 20482 := by
  induction xs with
  | nil => exact fun p h => h
  | cons x t ih => exact fun p h => ih (ptE p.1 x, ptB p.2 x) (ptB_len x h)
theorem btRE_next (p : Int × List Int) {xs : List Ts} {i : Nat} {x : Ts} (hx : xs[i]? = some x) : btRE p (xs.take (i + 1)) = (ptE (btRE p (xs.take i)).1 x, ptB (btRE p (xs.take i)).2 x) := by
  obtain ⟨hi, e⟩ := List.getElem?_eq_some_iff.1 hx
  rw [List.take_succ_eq_append_getElem hi, e]
  unfold btRE
  rw [List.foldl_append]; rfl
def bhE (E V H : Int) (P : ByteArray) (JV : Int) (n : Nat) : Int := wNumE (wNumE (wTextE (wNumE (wNumE (wTextE (E) [98, 108, 111, 99, 107]) V) H) (octsOf P)) JV) (n : Int)
def bhB (bs : List Int) (V H : Int) (P : ByteArray) (JV : Int) (n : Nat) : List Int := rNumB (rNumB (rTextB (rNumB (rNumB (rTextB (bs) [98, 108, 111, 99, 107]) V) H) (octsOf P)) JV) (n : Int)

set_option maxHeartbeats 4000000 in
theorem blockFields_any (b : Value) (E : Int) (bs : List Int) (V H : Int) (P : ByteArray) (JV JH : Int) (JB : ByteArray) (ja : Option Addr) (jn jc : Nat) (a : Option Addr) (n cap : Nat) (S : ByteArray) (xs : List Ts) (w : World) (hbb : Ints .u8 w b bs) (hl : bs.length ≤ 20482) (hp : P.size ≤ 9223372036854775807) (hsz : n < 4611686018427387904) (hv : TArg w (.slice a n cap) xs) (hok : ∀ x ∈ xs, x.2.size ≤ 9223372036854775807) :
    Calls Tryz.prog 118 #[.agg #[b, .int .i64 E], .agg #[.int .i64 V, .int .i64 H, .string P, .int .i64 JV, .int .i64 JH, .string JB, .slice ja jn jc, .slice a n cap, .string S]] w (RPto w (btRE (bhE E V H P JV n, bhB bs V H P JV n) xs).1 (btRE (bhE E V H P JV n, bhB bs V H P JV n) xs).2) := by
  have hn := hv.len
  have HL := Lib.hid hl
  have HN := Lib.hid hn
  have HOK := Lib.hid hok
  have HV0 := Lib.hid hv
  have HT0 : Hid (∀ wx, Ints .u8 wx b bs → Calls Tryz.prog 28 #[.agg #[b, .int .i64 E], .string ⟨#[98, 108, 111, 99, 107]⟩] wx (RWto wx b (wTextE E [98, 108, 111, 99, 107]) (rTextB bs [98, 108, 111, 99, 107]))) := fun wx h => refText_any b E bs [98, 108, 111, 99, 107] wx h bkW_u8s (Nat.le_trans hl (by decide)) (by decide)
  have HTP : Hid (∀ b1 wx, Ints .u8 wx b1 (rNumB (rNumB (rTextB (bs) [98, 108, 111, 99, 107]) V) H) → Calls Tryz.prog 28 #[.agg #[b1, .int .i64 (wNumE (wNumE (wTextE (E) [98, 108, 111, 99, 107]) V) H)], .string P] wx (RWto wx b1 (wTextE (wNumE (wNumE (wTextE (E) [98, 108, 111, 99, 107]) V) H) (octsOf P)) (rTextB (rNumB (rNumB (rTextB (bs) [98, 108, 111, 99, 107]) V) H) (octsOf P)))) := fun b1 wx h => by
    have c := refText_any b1 (wNumE (wNumE (wTextE (E) [98, 108, 111, 99, 107]) V) H) (rNumB (rNumB (rTextB (bs) [98, 108, 111, 99, 107]) V) H) (octsOf P) wx h (octsOf_u8s _) (Nat.le_trans (rNumB_len H (rNumB_len V (rTextB_len [98, 108, 111, 99, 107] hl))) (by decide)) (by rw [octsOf_length]; exact hp)
    rw [strOf_octs] at c
    exact c
  have u1 := Up.alloc (Up.refl w) (.cells #[b, .int .i64 E] 38)
  have u2 := Up.alloc (Up.refl (w.alloc (.cells #[b, .int .i64 E] 38))) (.cells #[.int .i64 V, .int .i64 H, .string P, .int .i64 JV, .int .i64 JH, .string JB, .slice ja jn jc, .slice a n cap, .string S] 55)
  have u3 := Up.alloc (Up.refl ((w.alloc (.cells #[b, .int .i64 E] 38)).alloc (.cells #[.int .i64 V, .int .i64 H, .string P, .int .i64 JV, .int .i64 JH, .string JB, .slice ja jn jc, .slice a n cap, .string S] 55))) (.cells #[.slice none 0 0, .int .i64 0] 38)
  have h1 := heap_alloc_new w (.cells #[b, .int .i64 E] 38)
  have h2 := heap_alloc_new (w.alloc (.cells #[b, .int .i64 E] 38)) (.cells #[.int .i64 V, .int .i64 H, .string P, .int .i64 JV, .int .i64 JH, .string JB, .slice ja jn jc, .slice a n cap, .string S] 55)
  have h3 := heap_alloc_new ((w.alloc (.cells #[b, .int .i64 E] 38)).alloc (.cells #[.int .i64 V, .int .i64 H, .string P, .int .i64 JV, .int .i64 JH, .string JB, .slice ja jn jc, .slice a n cap, .string S] 55)) (.cells #[.slice none 0 0, .int .i64 0] 38)
  rw [show (w.alloc (.cells #[b, .int .i64 E] 38)).heap.size = w.heap.size + 1 by simp] at h2
  rw [show ((w.alloc (.cells #[b, .int .i64 E] 38)).alloc (.cells #[.int .i64 V, .int .i64 H, .string P, .int .i64 JV, .int .i64 JH, .string JB, .slice ja jn jc, .slice a n cap, .string S] 55)).heap.size = w.heap.size + 1 + 1 by simp] at h3
  have u23 := Up.trans u2 u3
  have HUz := Lib.hid (Up.trans u1 u23)
  have HWB0 := Lib.hid ((u23.block _ (lt_of_block h1)).trans h1)
  have HCB0 := Lib.hid ((u3.block _ (lt_of_block h2)).trans h2)
  have HRB0 := Lib.hid h3
  have HBB := Lib.hid hbb
  have HCL := Lib.hid (rNumB_len (n : Int) (rNumB_len JV (rTextB_len (octsOf P) (rNumB_len H (rNumB_len V (rTextB_len [98, 108, 111, 99, 107] hl))))))
  clear u1 u2 u3 h1 h2 h3 u23 hbb hl hp hv hn hok
  generalize hE0 : bhE E V H P JV n = E0
  generalize hB0 : bhB bs V H P JV n = B0
  have HE0 : Hid (wNumE (wNumE (wTextE (wNumE (wNumE (wTextE (E) [98, 108, 111, 99, 107]) V) H) (octsOf P)) JV) (n : Int) = E0) := hE0
  have HB0 : Hid (rNumB (rNumB (rTextB (rNumB (rNumB (rTextB (bs) [98, 108, 111, 99, 107]) V) H) (octsOf P)) JV) (n : Int) = B0) := hB0
  clear hE0 hB0
  go_enter Tryz.func118, Tryz.ntmps118
  go_upto_region 1 with fail
  generalize ((w.alloc (.cells #[b, .int .i64 E] 38)).alloc (.cells #[.int .i64 V, .int .i64 H, .string P, .int .i64 JV, .int .i64 JH, .string JB, .slice ja jn jc, .slice a n cap, .string S] 55)).alloc (.cells #[.slice none 0 0, .int .i64 0] 38) = wz at HUz HWB0 HCB0 HRB0 ⊢
  have HWL : Hid (w.heap.size ≤ w.heap.size ∧ w.heap.size ≤ w.heap.size + 1 + 1) := by (have h : w.heap.size ≤ w.heap.size ∧ w.heap.size ≤ w.heap.size + 1 + 1 := by omega); exact h
  have HRN : Hid (w.heap.size + 1 + 1 ≠ w.heap.size) := by (have h : w.heap.size + 1 + 1 ≠ w.heap.size := by omega); exact h
  have HCN : Hid (w.heap.size + 1 ≠ w.heap.size) := by (have h : w.heap.size + 1 ≠ w.heap.size := by omega); exact h
  generalize hRB : w.heap.size + 1 + 1 = RB at HRB0 HRN HWL ⊢
  generalize hCB : w.heap.size + 1 = CB at HCB0 HCN ⊢
  clear hRB hCB
  have HI : Hid (∀ wx, Up wz wx → Ints .u8 wx b bs) := fun wx u => (HBB.out.up HUz.out).up u
  have HVz0 := HV0
  have HT1 : Hid (∀ wx, Ints .u8 wx b bs → Calls Tryz.prog 28 #[.agg #[b, .int .i64 E], .string ⟨#[98, 108, 111, 99, 107]⟩] wx (RWto wx b (wTextE E [98, 108, 111, 99, 107]) (rTextB bs [98, 108, 111, 99, 107]))) := HT0
  clear HBB HV0 HT0
  obtain ⟨WB, hWB⟩ : ∃ WB, w.heap.size = WB := ⟨_, rfl⟩
  rw [hWB] at HWB0 HRN HCN
  have HWL2 : Hid (w.heap.size ≤ WB ∧ w.heap.size ≤ RB) := by rw [← hWB]; exact HWL.out
  clear HWL
  rw [hWB]
  clear hWB
  have HCB : Hid (∀ wx, KeptBut (fun k => k = WB) wz wx → wx.heap[CB]? = some (.cells #[.int .i64 V, .int .i64 H, .string P, .int .i64 JV, .int .i64 JH, .string JB, .slice ja jn jc, .slice a n cap, .string S] 55 (0, 0))) := fun wx u => (u.block _ (lt_of_block HCB0.out) HCN.out).trans HCB0.out
  have HRB : Hid (∀ wx, KeptBut (fun k => k = WB) wz wx → wx.heap[RB]? = some (.cells #[.slice none 0 0, .int .i64 0] 38 (0, 0))) := fun wx u => (u.block _ (lt_of_block HRB0.out) HRN.out).trans HRB0.out
  clear HCB0 HRB0
  have HVA : Hid (∀ wx, KeptBut (fun k => k = WB) wz wx → TArg wx (.slice a n cap) xs) := fun wx u => HVz0.out.up (up_kept HUz.out u HWL2.out.1)
  refine region_alongK (fun x => KeptBut (fun k => k = WB) wz x) (.read 2 (.read 3 (.read 5 (.read 6 (.read 8 (.read 9 (.read 11 (.read 12 (.read 13 (.read 15 (.read 16 (.read 17 (.step 0 (.step 1 (.step 4 (.step 7 (.step 10 (.step 14 (.step 18 (.step 19 (.nil))))))))))))))))))))) (by kernel_rfl) rfl (by kernel_rfl) (by kernel_rfl) (fun c a d v w h => by cases d <;> exact h) (KeptBut.of_up (Up.drew1 wz)) ?_
  refine alongK_read (.pointer (some ⟨CB, 0, none⟩)) rfl rfl (fun wx hS => ex_field rfl rfl wx (by simp [go_sem])) ?_
  refine alongK_read (.int .i64 V) rfl rfl (fun wx hS => ex_load Tryz.isAgg3 rfl rfl wx ((bk_cells (HCB.out wx hS)).1)) ?_
  change AlongK _ _ _ _ _ { tmps := #[.agg #[b, .int .i64 E], .agg #[.int .i64 V, .int .i64 H, .string P, .int .i64 JV, .int .i64 JH, .string JB, .slice ja jn jc, .slice a n cap, .string S], .pointer (some ⟨WB, 0, none⟩), .pointer (some ⟨CB, 0, none⟩), .pointer (some ⟨RB, 0, none⟩), _, _, _, .pointer (some ⟨CB, 0, none⟩), .int .i64 V, _, _, _, _, _, _, _, _, _, _, _, _, _, _, _, _, _, _, _, _, _, _, _, _, _, _, _, _, _, _], defers := _ } _
  refine alongK_read (.pointer (some ⟨CB, 1, none⟩)) rfl rfl (fun wx hS => ex_field rfl rfl wx (by simp [go_sem])) ?_
  refine alongK_read (.int .i64 H) rfl rfl (fun wx hS => ex_load Tryz.isAgg3 rfl rfl wx ((bk_cells (HCB.out wx hS)).2.1)) ?_
  change AlongK _ _ _ _ _ { tmps := #[.agg #[b, .int .i64 E], .agg #[.int .i64 V, .int .i64 H, .string P, .int .i64 JV, .int .i64 JH, .string JB, .slice ja jn jc, .slice a n cap, .string S], .pointer (some ⟨WB, 0, none⟩), .pointer (some ⟨CB, 0, none⟩), .pointer (some ⟨RB, 0, none⟩), _, _, _, .pointer (some ⟨CB, 0, none⟩), .int .i64 V, _, .pointer (some ⟨CB, 1, none⟩), .int .i64 H, _, _, _, _, _, _, _, _, _, _, _, _, _, _, _, _, _, _, _, _, _, _, _, _, _, _, _], defers := _ } _
  refine alongK_read (.pointer (some ⟨CB, 2, none⟩)) rfl rfl (fun wx hS => ex_field rfl rfl wx (by simp [go_sem])) ?_
  refine alongK_read (.string P) rfl rfl (fun wx hS => ex_load Tryz.isAgg9 rfl rfl wx ((bk_cells (HCB.out wx hS)).2.2.1)) ?_
  change AlongK _ _ _ _ _ { tmps := #[.agg #[b, .int .i64 E], .agg #[.int .i64 V, .int .i64 H, .string P, .int .i64 JV, .int .i64 JH, .string JB, .slice ja jn jc, .slice a n cap, .string S], .pointer (some ⟨WB, 0, none⟩), .pointer (some ⟨CB, 0, none⟩), .pointer (some ⟨RB, 0, none⟩), _, _, _, .pointer (some ⟨CB, 0, none⟩), .int .i64 V, _, .pointer (some ⟨CB, 1, none⟩), .int .i64 H, _, .pointer (some ⟨CB, 2, none⟩), .string P, _, _, _, _, _, _, _, _, _, _, _, _, _, _, _, _, _, _, _, _, _, _, _, _], defers := _ } _
  refine alongK_read (.pointer (some ⟨CB, 3, none⟩)) rfl rfl (fun wx hS => ex_field rfl rfl wx (by simp [go_sem])) ?_
  refine alongK_read (.pointer (some ⟨CB, 3, none⟩)) rfl rfl (fun wx hS => ex_field rfl rfl wx (by simp [go_sem])) ?_
  change AlongK _ _ _ _ _ { tmps := #[.agg #[b, .int .i64 E], .agg #[.int .i64 V, .int .i64 H, .string P, .int .i64 JV, .int .i64 JH, .string JB, .slice ja jn jc, .slice a n cap, .string S], .pointer (some ⟨WB, 0, none⟩), .pointer (some ⟨CB, 0, none⟩), .pointer (some ⟨RB, 0, none⟩), _, _, _, .pointer (some ⟨CB, 0, none⟩), .int .i64 V, _, .pointer (some ⟨CB, 1, none⟩), .int .i64 H, _, .pointer (some ⟨CB, 2, none⟩), .string P, _, .pointer (some ⟨CB, 3, none⟩), .pointer (some ⟨CB, 3, none⟩), _, _, _, _, _, _, _, _, _, _, _, _, _, _, _, _, _, _, _, _, _], defers := _ } _
  refine alongK_read (.int .i64 JV) rfl rfl (fun wx hS => ex_load Tryz.isAgg3 rfl rfl wx ((bk_cells (HCB.out wx hS)).2.2.2.1)) ?_
  refine alongK_read (.pointer (some ⟨CB, 7, none⟩)) rfl rfl (fun wx hS => ex_field rfl rfl wx (by simp [go_sem])) ?_
  change AlongK _ _ _ _ _ { tmps := #[.agg #[b, .int .i64 E], .agg #[.int .i64 V, .int .i64 H, .string P, .int .i64 JV, .int .i64 JH, .string JB, .slice ja jn jc, .slice a n cap, .string S], .pointer (some ⟨WB, 0, none⟩), .pointer (some ⟨CB, 0, none⟩), .pointer (some ⟨RB, 0, none⟩), _, _, _, .pointer (some ⟨CB, 0, none⟩), .int .i64 V, _, .pointer (some ⟨CB, 1, none⟩), .int .i64 H, _, .pointer (some ⟨CB, 2, none⟩), .string P, _, .pointer (some ⟨CB, 3, none⟩), .pointer (some ⟨CB, 3, none⟩), .int .i64 JV, _, .pointer (some ⟨CB, 7, none⟩), _, _, _, _, _, _, _, _, _, _, _, _, _, _, _, _, _, _], defers := _ } _
  refine alongK_read (.slice a n cap) rfl rfl (fun wx hS => ex_load Tryz.isAgg53 rfl rfl wx ((bk_cells (HCB.out wx hS)).2.2.2.2.2.2.2.1)) ?_
  refine alongK_read (.int .i64 n) rfl rfl (fun wx hS => ex_lensl Tryz.underlying53 rfl rfl wx) ?_
  change AlongK _ _ _ _ _ { tmps := #[.agg #[b, .int .i64 E], .agg #[.int .i64 V, .int .i64 H, .string P, .int .i64 JV, .int .i64 JH, .string JB, .slice ja jn jc, .slice a n cap, .string S], .pointer (some ⟨WB, 0, none⟩), .pointer (some ⟨CB, 0, none⟩), .pointer (some ⟨RB, 0, none⟩), _, _, _, .pointer (some ⟨CB, 0, none⟩), .int .i64 V, _, .pointer (some ⟨CB, 1, none⟩), .int .i64 H, _, .pointer (some ⟨CB, 2, none⟩), .string P, _, .pointer (some ⟨CB, 3, none⟩), .pointer (some ⟨CB, 3, none⟩), .int .i64 JV, _, .pointer (some ⟨CB, 7, none⟩), .slice a n cap, .int .i64 n, _, _, _, _, _, _, _, _, _, _, _, _, _, _, _, _], defers := _ } _
  refine alongK_step ?_
  refine opK_run (.agg #[b, .int .i64 E]) wz.drew rfl rfl (ex_loadrow rfl rfl wz.drew 38 (HWB0.out : wz.drew.heap[WB]? = _) Tryz.underlying38 rfl info_refW) (fun x => KeptBut (fun k => k = WB) wz x) (fun _ h => h) (KeptBut.of_up (Up.drew1 wz)) ?_
  change AlongK _ _ _ _ _ { tmps := #[.agg #[b, .int .i64 E], .agg #[.int .i64 V, .int .i64 H, .string P, .int .i64 JV, .int .i64 JH, .string JB, .slice ja jn jc, .slice a n cap, .string S], .pointer (some ⟨WB, 0, none⟩), .pointer (some ⟨CB, 0, none⟩), .pointer (some ⟨RB, 0, none⟩), _, .agg #[b, .int .i64 E], _, .pointer (some ⟨CB, 0, none⟩), .int .i64 V, _, .pointer (some ⟨CB, 1, none⟩), .int .i64 H, _, .pointer (some ⟨CB, 2, none⟩), .string P, _, .pointer (some ⟨CB, 3, none⟩), .pointer (some ⟨CB, 3, none⟩), .int .i64 JV, _, .pointer (some ⟨CB, 7, none⟩), .slice a n cap, .int .i64 n, _, _, _, _, _, _, _, _, _, _, _, _, _, _, _, _], defers := _ } _
  refine alongK_step ?_
  refine opK_call (vs := [.agg #[b, .int .i64 E], .string ⟨#[98, 108, 111, 99, 107]⟩]) rfl rfl rfl (enters_of Tryz.func28 (by kernel_rfl) rfl) rfl ?_
  with_reducible refine Calls.mono (HT1.out _ (HI.out _ (Up.drew1 wz))) ?_
  rintro e w1 ⟨b1, rfl, hI1, hU1, _⟩
  refine ⟨_, rfl, (fun x => KeptBut (fun k => k = WB) wz x), (fun _ h => h), (KeptBut.of_up (Up.trans (Up.drew1 wz) hU1)), ?_⟩
  change AlongK _ _ _ _ _ { tmps := #[.agg #[b, .int .i64 E], .agg #[.int .i64 V, .int .i64 H, .string P, .int .i64 JV, .int .i64 JH, .string JB, .slice ja jn jc, .slice a n cap, .string S], .pointer (some ⟨WB, 0, none⟩), .pointer (some ⟨CB, 0, none⟩), .pointer (some ⟨RB, 0, none⟩), _, .agg #[b, .int .i64 E], .agg #[b1, .int .i64 (wTextE (E) [98, 108, 111, 99, 107])], .pointer (some ⟨CB, 0, none⟩), .int .i64 V, _, .pointer (some ⟨CB, 1, none⟩), .int .i64 H, _, .pointer (some ⟨CB, 2, none⟩), .string P, _, .pointer (some ⟨CB, 3, none⟩), .pointer (some ⟨CB, 3, none⟩), .int .i64 JV, _, .pointer (some ⟨CB, 7, none⟩), .slice a n cap, .int .i64 n, _, _, _, _, _, _, _, _, _, _, _, _, _, _, _, _], defers := _ } _
  refine alongK_step ?_
  refine opK_call (vs := [.agg #[b1, .int .i64 (wTextE (E) [98, 108, 111, 99, 107])], .int .i64 V]) rfl rfl rfl (enters_of Tryz.func27 (by kernel_rfl) rfl) rfl ?_
  with_reducible refine Calls.mono (refNum_any b1 (wTextE (E) [98, 108, 111, 99, 107]) (rTextB (bs) [98, 108, 111, 99, 107]) V _ hI1 (Nat.le_trans (rTextB_len [98, 108, 111, 99, 107] HL.out) (by decide))) ?_
  rintro e w2 ⟨b2, rfl, hI2, hU2, _⟩
  refine ⟨_, rfl, (fun x => KeptBut (fun k => k = WB) wz x), (fun _ h => h), (KeptBut.of_up (Up.trans (Up.trans (Up.drew1 wz) hU1) hU2)), ?_⟩
  change AlongK _ _ _ _ _ { tmps := #[.agg #[b, .int .i64 E], .agg #[.int .i64 V, .int .i64 H, .string P, .int .i64 JV, .int .i64 JH, .string JB, .slice ja jn jc, .slice a n cap, .string S], .pointer (some ⟨WB, 0, none⟩), .pointer (some ⟨CB, 0, none⟩), .pointer (some ⟨RB, 0, none⟩), _, .agg #[b, .int .i64 E], .agg #[b1, .int .i64 (wTextE (E) [98, 108, 111, 99, 107])], .pointer (some ⟨CB, 0, none⟩), .int .i64 V, .agg #[b2, .int .i64 (wNumE (wTextE (E) [98, 108, 111, 99, 107]) V)], .pointer (some ⟨CB, 1, none⟩), .int .i64 H, _, .pointer (some ⟨CB, 2, none⟩), .string P, _, .pointer (some ⟨CB, 3, none⟩), .pointer (some ⟨CB, 3, none⟩), .int .i64 JV, _, .pointer (some ⟨CB, 7, none⟩), .slice a n cap, .int .i64 n, _, _, _, _, _, _, _, _, _, _, _, _, _, _, _, _], defers := _ } _
  refine alongK_step ?_
  refine opK_call (vs := [.agg #[b2, .int .i64 (wNumE (wTextE (E) [98, 108, 111, 99, 107]) V)], .int .i64 H]) rfl rfl rfl (enters_of Tryz.func27 (by kernel_rfl) rfl) rfl ?_
  with_reducible refine Calls.mono (refNum_any b2 (wNumE (wTextE (E) [98, 108, 111, 99, 107]) V) (rNumB (rTextB (bs) [98, 108, 111, 99, 107]) V) H _ hI2 (Nat.le_trans (rNumB_len V (rTextB_len [98, 108, 111, 99, 107] HL.out)) (by decide))) ?_
  rintro e w3 ⟨b3, rfl, hI3, hU3, _⟩
  refine ⟨_, rfl, (fun x => KeptBut (fun k => k = WB) wz x), (fun _ h => h), (KeptBut.of_up (Up.trans (Up.trans (Up.trans (Up.drew1 wz) hU1) hU2) hU3)), ?_⟩
  change AlongK _ _ _ _ _ { tmps := #[.agg #[b, .int .i64 E], .agg #[.int .i64 V, .int .i64 H, .string P, .int .i64 JV, .int .i64 JH, .string JB, .slice ja jn jc, .slice a n cap, .string S], .pointer (some ⟨WB, 0, none⟩), .pointer (some ⟨CB, 0, none⟩), .pointer (some ⟨RB, 0, none⟩), _, .agg #[b, .int .i64 E], .agg #[b1, .int .i64 (wTextE (E) [98, 108, 111, 99, 107])], .pointer (some ⟨CB, 0, none⟩), .int .i64 V, .agg #[b2, .int .i64 (wNumE (wTextE (E) [98, 108, 111, 99, 107]) V)], .pointer (some ⟨CB, 1, none⟩), .int .i64 H, .agg #[b3, .int .i64 (wNumE (wNumE (wTextE (E) [98, 108, 111, 99, 107]) V) H)], .pointer (some ⟨CB, 2, none⟩), .string P, _, .pointer (some ⟨CB, 3, none⟩), .pointer (some ⟨CB, 3, none⟩), .int .i64 JV, _, .pointer (some ⟨CB, 7, none⟩), .slice a n cap, .int .i64 n, _, _, _, _, _, _, _, _, _, _, _, _, _, _, _, _], defers := _ } _
  refine alongK_step ?_
  refine opK_call (vs := [.agg #[b3, .int .i64 (wNumE (wNumE (wTextE (E) [98, 108, 111, 99, 107]) V) H)], .string P]) rfl rfl rfl (enters_of Tryz.func28 (by kernel_rfl) rfl) rfl ?_
  with_reducible refine Calls.mono (HTP.out b3 _ hI3) ?_
  rintro e w4 ⟨b4, rfl, hI4, hU4, _⟩
  refine ⟨_, rfl, (fun x => KeptBut (fun k => k = WB) wz x), (fun _ h => h), (KeptBut.of_up (Up.trans (Up.trans (Up.trans (Up.trans (Up.drew1 wz) hU1) hU2) hU3) hU4)), ?_⟩
  change AlongK _ _ _ _ _ { tmps := #[.agg #[b, .int .i64 E], .agg #[.int .i64 V, .int .i64 H, .string P, .int .i64 JV, .int .i64 JH, .string JB, .slice ja jn jc, .slice a n cap, .string S], .pointer (some ⟨WB, 0, none⟩), .pointer (some ⟨CB, 0, none⟩), .pointer (some ⟨RB, 0, none⟩), _, .agg #[b, .int .i64 E], .agg #[b1, .int .i64 (wTextE (E) [98, 108, 111, 99, 107])], .pointer (some ⟨CB, 0, none⟩), .int .i64 V, .agg #[b2, .int .i64 (wNumE (wTextE (E) [98, 108, 111, 99, 107]) V)], .pointer (some ⟨CB, 1, none⟩), .int .i64 H, .agg #[b3, .int .i64 (wNumE (wNumE (wTextE (E) [98, 108, 111, 99, 107]) V) H)], .pointer (some ⟨CB, 2, none⟩), .string P, .agg #[b4, .int .i64 (wTextE (wNumE (wNumE (wTextE (E) [98, 108, 111, 99, 107]) V) H) (octsOf P))], .pointer (some ⟨CB, 3, none⟩), .pointer (some ⟨CB, 3, none⟩), .int .i64 JV, _, .pointer (some ⟨CB, 7, none⟩), .slice a n cap, .int .i64 n, _, _, _, _, _, _, _, _, _, _, _, _, _, _, _, _], defers := _ } _
  refine alongK_step ?_
  refine opK_call (vs := [.agg #[b4, .int .i64 (wTextE (wNumE (wNumE (wTextE (E) [98, 108, 111, 99, 107]) V) H) (octsOf P))], .int .i64 JV]) rfl rfl rfl (enters_of Tryz.func27 (by kernel_rfl) rfl) rfl ?_
  with_reducible refine Calls.mono (refNum_any b4 (wTextE (wNumE (wNumE (wTextE (E) [98, 108, 111, 99, 107]) V) H) (octsOf P)) (rTextB (rNumB (rNumB (rTextB (bs) [98, 108, 111, 99, 107]) V) H) (octsOf P)) JV _ hI4 (Nat.le_trans (rTextB_len (octsOf P) (rNumB_len H (rNumB_len V (rTextB_len [98, 108, 111, 99, 107] HL.out)))) (by decide))) ?_
  rintro e w5 ⟨b5, rfl, hI5, hU5, _⟩
  refine ⟨_, rfl, (fun x => KeptBut (fun k => k = WB) wz x), (fun _ h => h), (KeptBut.of_up (Up.trans (Up.trans (Up.trans (Up.trans (Up.trans (Up.drew1 wz) hU1) hU2) hU3) hU4) hU5)), ?_⟩
  change AlongK _ _ _ _ _ { tmps := #[.agg #[b, .int .i64 E], .agg #[.int .i64 V, .int .i64 H, .string P, .int .i64 JV, .int .i64 JH, .string JB, .slice ja jn jc, .slice a n cap, .string S], .pointer (some ⟨WB, 0, none⟩), .pointer (some ⟨CB, 0, none⟩), .pointer (some ⟨RB, 0, none⟩), _, .agg #[b, .int .i64 E], .agg #[b1, .int .i64 (wTextE (E) [98, 108, 111, 99, 107])], .pointer (some ⟨CB, 0, none⟩), .int .i64 V, .agg #[b2, .int .i64 (wNumE (wTextE (E) [98, 108, 111, 99, 107]) V)], .pointer (some ⟨CB, 1, none⟩), .int .i64 H, .agg #[b3, .int .i64 (wNumE (wNumE (wTextE (E) [98, 108, 111, 99, 107]) V) H)], .pointer (some ⟨CB, 2, none⟩), .string P, .agg #[b4, .int .i64 (wTextE (wNumE (wNumE (wTextE (E) [98, 108, 111, 99, 107]) V) H) (octsOf P))], .pointer (some ⟨CB, 3, none⟩), .pointer (some ⟨CB, 3, none⟩), .int .i64 JV, .agg #[b5, .int .i64 (wNumE (wTextE (wNumE (wNumE (wTextE (E) [98, 108, 111, 99, 107]) V) H) (octsOf P)) JV)], .pointer (some ⟨CB, 7, none⟩), .slice a n cap, .int .i64 n, _, _, _, _, _, _, _, _, _, _, _, _, _, _, _, _], defers := _ } _
  refine alongK_step ?_
  refine opK_call (vs := [.agg #[b5, .int .i64 (wNumE (wTextE (wNumE (wNumE (wTextE (E) [98, 108, 111, 99, 107]) V) H) (octsOf P)) JV)], .int .i64 (n : Int)]) rfl rfl rfl (enters_of Tryz.func27 (by kernel_rfl) rfl) rfl ?_
  with_reducible refine Calls.mono (refNum_any b5 (wNumE (wTextE (wNumE (wNumE (wTextE (E) [98, 108, 111, 99, 107]) V) H) (octsOf P)) JV) (rNumB (rTextB (rNumB (rNumB (rTextB (bs) [98, 108, 111, 99, 107]) V) H) (octsOf P)) JV) (n : Int) _ hI5 (Nat.le_trans (rNumB_len JV (rTextB_len (octsOf P) (rNumB_len H (rNumB_len V (rTextB_len [98, 108, 111, 99, 107] HL.out))))) (by decide))) ?_
  rintro e w6 ⟨b6, rfl, hI6, hU6, _⟩
  refine ⟨_, rfl, (fun x => KeptBut (fun k => k = WB) wz x), (fun _ h => h), (KeptBut.of_up (Up.trans (Up.trans (Up.trans (Up.trans (Up.trans (Up.trans (Up.drew1 wz) hU1) hU2) hU3) hU4) hU5) hU6)), ?_⟩
  change AlongK _ _ _ _ _ { tmps := #[.agg #[b, .int .i64 E], .agg #[.int .i64 V, .int .i64 H, .string P, .int .i64 JV, .int .i64 JH, .string JB, .slice ja jn jc, .slice a n cap, .string S], .pointer (some ⟨WB, 0, none⟩), .pointer (some ⟨CB, 0, none⟩), .pointer (some ⟨RB, 0, none⟩), _, .agg #[b, .int .i64 E], .agg #[b1, .int .i64 (wTextE (E) [98, 108, 111, 99, 107])], .pointer (some ⟨CB, 0, none⟩), .int .i64 V, .agg #[b2, .int .i64 (wNumE (wTextE (E) [98, 108, 111, 99, 107]) V)], .pointer (some ⟨CB, 1, none⟩), .int .i64 H, .agg #[b3, .int .i64 (wNumE (wNumE (wTextE (E) [98, 108, 111, 99, 107]) V) H)], .pointer (some ⟨CB, 2, none⟩), .string P, .agg #[b4, .int .i64 (wTextE (wNumE (wNumE (wTextE (E) [98, 108, 111, 99, 107]) V) H) (octsOf P))], .pointer (some ⟨CB, 3, none⟩), .pointer (some ⟨CB, 3, none⟩), .int .i64 JV, .agg #[b5, .int .i64 (wNumE (wTextE (wNumE (wNumE (wTextE (E) [98, 108, 111, 99, 107]) V) H) (octsOf P)) JV)], .pointer (some ⟨CB, 7, none⟩), .slice a n cap, .int .i64 n, .agg #[b6, .int .i64 (wNumE (wNumE (wTextE (wNumE (wNumE (wTextE (E) [98, 108, 111, 99, 107]) V) H) (octsOf P)) JV) (n : Int))], _, _, _, _, _, _, _, _, _, _, _, _, _, _, _], defers := _ } _
  refine alongK_step ?_
  have hUX := (Up.trans (Up.trans (Up.trans (Up.trans (Up.trans (Up.trans (Up.drew1 wz) hU1) hU2) hU3) hU4) hU5) hU6)
  have hR6 := (hUX.block _ (lt_of_block HWB0.out)).trans HWB0.out
  refine opK_store (w6.setRow WB #[b6, .int .i64 (wNumE (wNumE (wTextE (wNumE (wNumE (wTextE (E) [98, 108, 111, 99, 107]) V) H) (octsOf P)) JV) (n : Int))]) rfl rfl (ex_storerow rfl rfl rfl w6 38 hR6 info_refW rfl (one_w hI6 _)) (fun x => KeptBut (fun k => k = WB) wz x) (fun _ h => h) ((KeptBut.of_up hUX).trans (KeptBut.of_grown (S := fun k => k = WB) (grownBy_setRow w6 WB #[b6, .int .i64 (wNumE (wNumE (wTextE (wNumE (wNumE (wTextE (E) [98, 108, 111, 99, 107]) V) H) (octsOf P)) JV) (n : Int))]) (fun k e => by cases e; rfl)) (fun _ _ e => e)) ?_
  change AlongK _ _ _ _ _ { tmps := #[.agg #[b, .int .i64 E], .agg #[.int .i64 V, .int .i64 H, .string P, .int .i64 JV, .int .i64 JH, .string JB, .slice ja jn jc, .slice a n cap, .string S], .pointer (some ⟨WB, 0, none⟩), .pointer (some ⟨CB, 0, none⟩), .pointer (some ⟨RB, 0, none⟩), _, .agg #[b, .int .i64 E], .agg #[b1, .int .i64 (wTextE (E) [98, 108, 111, 99, 107])], .pointer (some ⟨CB, 0, none⟩), .int .i64 V, .agg #[b2, .int .i64 (wNumE (wTextE (E) [98, 108, 111, 99, 107]) V)], .pointer (some ⟨CB, 1, none⟩), .int .i64 H, .agg #[b3, .int .i64 (wNumE (wNumE (wTextE (E) [98, 108, 111, 99, 107]) V) H)], .pointer (some ⟨CB, 2, none⟩), .string P, .agg #[b4, .int .i64 (wTextE (wNumE (wNumE (wTextE (E) [98, 108, 111, 99, 107]) V) H) (octsOf P))], .pointer (some ⟨CB, 3, none⟩), .pointer (some ⟨CB, 3, none⟩), .int .i64 JV, .agg #[b5, .int .i64 (wNumE (wTextE (wNumE (wNumE (wTextE (E) [98, 108, 111, 99, 107]) V) H) (octsOf P)) JV)], .pointer (some ⟨CB, 7, none⟩), .slice a n cap, .int .i64 n, .agg #[b6, .int .i64 (wNumE (wNumE (wTextE (wNumE (wNumE (wTextE (E) [98, 108, 111, 99, 107]) V) H) (octsOf P)) JV) (n : Int))], _, _, _, _, _, _, _, _, _, _, _, _, _, _, _], defers := _ } _
  refine alongK_done ?_
  have HG6 := grownBy_setRow w6 WB #[b6, .int .i64 (wNumE (wNumE (wTextE (wNumE (wNumE (wTextE (E) [98, 108, 111, 99, 107]) V) H) (octsOf P)) JV) (n : Int))]
  have HE6 := Lib.hid (setRow_heap w6 WB _ #[b6, .int .i64 (wNumE (wNumE (wTextE (wNumE (wNumE (wTextE (E) [98, 108, 111, 99, 107]) V) H) (octsOf P)) JV) (n : Int))] 38 (0, 0) hR6)
  have HK6 := Lib.hid ((KeptBut.of_up hUX).trans (KeptBut.of_grown (S := fun k => k = WB) HG6 (fun k e => by cases e; rfl)) (fun _ _ e => e))
  have HI6 := Lib.hid (ints_row2 hI6 HG6 hR6 (HI.out _ (Up.refl wz)))
  generalize w6.setRow WB #[b6, .int .i64 (wNumE (wNumE (wTextE (wNumE (wNumE (wTextE (E) [98, 108, 111, 99, 107]) V) H) (octsOf P)) JV) (n : Int))] = wc at HE6 HK6 HI6 ⊢
  clear hI6 HG6 hR6 hUX hU1 hU2 hU3 hU4 hU5 hU6 hI1 hI2 hI3 hI4 hI5
  replace HE6 : Hid (wc.heap[WB]? = some (.cells #[b6, .int .i64 E0] 38 (0, 0))) := by rw [← HE0.out]; exact HE6.out
  replace HI6 : Hid (Ints .u8 wc b6 B0) := by rw [← HB0.out]; exact HI6.out
  replace HCL : Hid (B0.length ≤ 20482) := by rw [← HB0.out]; exact HCL.out
  clear HE0 HB0
  go_wp2
  go_loopw [5] (fun vi wr => ∃ (i : Nat) (bi : Value), vi = .int .i64 (i : Nat) ∧ i ≤ n ∧ Hid (wr.heap[WB]? = some (.cells #[bi, .int .i64 (btRE (E0, B0) (xs.take i)).1] 38 (0, 0))) ∧ Hid (Ints .u8 wr bi (btRE (E0, B0) (xs.take i)).2) ∧ Hid (KeptBut (fun k => k = WB) wz wr))
    (fun vi _ => n - (RowKit.intOf vi).toNat)
  case atStart => exact ⟨0, b6, rfl, Nat.zero_le _, HE6, HI6, HK6⟩
  case round =>
    obtain ⟨i, bi, rfl, hi, HWR, HIR, HKR⟩ := hrel
    have k7 := (bk_cells (HCB.out _ HKR.out)).2.2.2.2.2.2.2.1
    by_cases hlt : i < n
    · have hz : (i : Int) < (n : Int) := by omega
      have HIN := Lib.hid hlt
      obtain ⟨x, hx⟩ : ∃ x, xs[i]? = some x := ⟨xs[i]'(by have := HN.out; omega), List.getElem?_eq_getElem _⟩
      obtain ⟨g, off, hb1⟩ := (HVz0.out).ptr (by have := HN.out; omega)
      subst hb1
      have HNX := Lib.hid (btRE_next (E0, B0) hx)
      have HLN := Lib.hid (btRE_len (xs.take i) (E0, B0) HCL.out)
      have HXO := Lib.hid (HOK.out x (List.mem_of_getElem? hx))
      have HLD : Hid (∀ wx, KeptBut (fun k => k = WB) wr wx → (loadVar 85 ⟨g, off + i * 5, none⟩).run Tryz.prog wx = .ok (.agg (tsA x)) wx) := fun wx u => (HVA.out wx (HKR.out.trans u (fun _ _ e => e))).load hx
      have HCR : Hid (∀ wx, KeptBut (fun k => k = WB) wr wx → wx.heap[CB]? = some (.cells #[.int .i64 V, .int .i64 H, .string P, .int .i64 JV, .int .i64 JH, .string JB, .slice ja jn jc, .slice (some ⟨g, off, none⟩) n cap, .string S] 55 (0, 0))) := fun wx u => HCB.out wx (HKR.out.trans u (fun _ _ e => e))
      generalize btRE (E0, B0) (xs.take i) = pq at HWR HIR HNX HLN ⊢
      obtain ⟨Ei, Bi⟩ := pq
      simp only at HWR HIR HNX HLN ⊢
      have HPV : Hid (∀ wx, Up wr wx → Calls Tryz.prog 138 #[.agg #[bi, .int .i64 Ei], .agg (tsA x)] wx (RPto wx (ptE Ei x) (ptB Bi x))) := fun wx u => putTx_ts bi Ei Bi x wx (HIR.out.up u) HLN.out HXO.out
      clear hx
      go_wp2_with fail
      refine region_alongK (fun x => KeptBut (fun k => k = WB) wr x) (.read 1 (.read 2 (.read 3 (.read 4 (.read 5 (.step 0 (.step 6 (.step 7 (.nil))))))))) (by kernel_rfl) rfl (by kernel_rfl) (by kernel_rfl) (fun c a d v w h => by cases d <;> exact h) (KeptBut.of_up (Up.drew1 wr)) ?_
      refine alongK_read (.pointer (some ⟨CB, 7, none⟩)) rfl rfl (fun wx hS => ex_field rfl rfl wx (by simp [go_sem])) ?_
      change AlongK _ _ _ _ _ { tmps := #[_, _, .pointer (some ⟨WB, 0, none⟩), .pointer (some ⟨CB, 0, none⟩), .pointer (some ⟨RB, 0, none⟩), .int .i64 (i : Int), _, _, _, _, _, _, _, _, _, _, _, _, _, _, _, _, _, _, _, _, _, _, _, _, _, _, _, .pointer (some ⟨CB, 7, none⟩), _, _, _, _, _, _], defers := _ } _
      refine alongK_read (.slice (some ⟨g, off, none⟩) n cap) rfl rfl (fun wx hS => ex_load Tryz.isAgg53 rfl rfl wx ((bk_cells (HCR.out wx hS)).2.2.2.2.2.2.2.1)) ?_
      change AlongK _ _ _ _ _ { tmps := #[_, _, .pointer (some ⟨WB, 0, none⟩), .pointer (some ⟨CB, 0, none⟩), .pointer (some ⟨RB, 0, none⟩), .int .i64 (i : Int), _, _, _, _, _, _, _, _, _, _, _, _, _, _, _, _, _, _, _, _, _, _, _, _, _, _, _, .pointer (some ⟨CB, 7, none⟩), .slice (some ⟨g, off, none⟩) n cap, _, _, _, _, _], defers := _ } _
      refine alongK_read (.int .i64 (i : Int)) rfl rfl (fun wx hS => ex_move (by rfl) (by rfl) wx) ?_
      change AlongK _ _ _ _ _ { tmps := #[_, _, .pointer (some ⟨WB, 0, none⟩), .pointer (some ⟨CB, 0, none⟩), .pointer (some ⟨RB, 0, none⟩), .int .i64 (i : Int), _, _, _, _, _, _, _, _, _, _, _, _, _, _, _, _, _, _, _, _, _, _, _, _, _, _, _, .pointer (some ⟨CB, 7, none⟩), .slice (some ⟨g, off, none⟩) n cap, .int .i64 (i : Int), _, _, _, _], defers := _ } _
      refine alongK_read (.pointer (some ⟨g, off + i * 5, none⟩)) rfl rfl (fun wx hS => ex_index Tryz.underlying53 Tryz.sizeOf85 rfl rfl rfl (HIN.out) wx) ?_
      change AlongK _ _ _ _ _ { tmps := #[_, _, .pointer (some ⟨WB, 0, none⟩), .pointer (some ⟨CB, 0, none⟩), .pointer (some ⟨RB, 0, none⟩), .int .i64 (i : Int), _, _, _, _, _, _, _, _, _, _, _, _, _, _, _, _, _, _, _, _, _, _, _, _, _, _, _, .pointer (some ⟨CB, 7, none⟩), .slice (some ⟨g, off, none⟩) n cap, .int .i64 (i : Int), .pointer (some ⟨g, off + i * 5, none⟩), _, _, _], defers := _ } _
      refine alongK_read (.agg (tsA x)) rfl rfl (fun wx hS => ex_ldt rfl rfl (HLD.out wx hS)) ?_
      change AlongK _ _ _ _ _ { tmps := #[_, _, .pointer (some ⟨WB, 0, none⟩), .pointer (some ⟨CB, 0, none⟩), .pointer (some ⟨RB, 0, none⟩), .int .i64 (i : Int), _, _, _, _, _, _, _, _, _, _, _, _, _, _, _, _, _, _, _, _, _, _, _, _, _, _, _, .pointer (some ⟨CB, 7, none⟩), .slice (some ⟨g, off, none⟩) n cap, .int .i64 (i : Int), .pointer (some ⟨g, off + i * 5, none⟩), .agg (tsA x), _, _], defers := _ } _
      refine alongK_step ?_
      refine opK_run (.agg #[bi, .int .i64 Ei]) wr.drew rfl rfl (ex_loadrow rfl rfl wr.drew 38 (HWR.out : wr.drew.heap[WB]? = _) Tryz.underlying38 rfl info_refW) (fun x => KeptBut (fun k => k = WB) wr x) (fun _ h => h) (KeptBut.of_up (Up.drew1 wr)) ?_
      change AlongK _ _ _ _ _ { tmps := #[_, _, .pointer (some ⟨WB, 0, none⟩), .pointer (some ⟨CB, 0, none⟩), .pointer (some ⟨RB, 0, none⟩), .int .i64 (i : Int), _, _, _, _, _, _, _, _, _, _, _, _, _, _, _, _, _, _, _, _, _, _, _, _, _, _, .agg #[bi, .int .i64 Ei], .pointer (some ⟨CB, 7, none⟩), .slice (some ⟨g, off, none⟩) n cap, .int .i64 (i : Int), .pointer (some ⟨g, off + i * 5, none⟩), .agg (tsA x), _, _], defers := _ } _
      refine alongK_step ?_
      refine opK_call (vs := [.agg #[bi, .int .i64 Ei], .agg (tsA x)]) rfl rfl rfl (enters_of Tryz.func138 (by kernel_rfl) rfl) rfl ?_
      with_reducible refine Calls.mono (HPV.out _ (Up.drew1 wr)) ?_
      rintro e w5 ⟨b5, rfl, hI5, hU5⟩
      refine ⟨_, rfl, (fun x => KeptBut (fun k => k = WB) wr x), (fun _ h => h), (KeptBut.of_up (Up.trans (Up.drew1 wr) hU5)), ?_⟩
      change AlongK _ _ _ _ _ { tmps := #[_, _, .pointer (some ⟨WB, 0, none⟩), .pointer (some ⟨CB, 0, none⟩), .pointer (some ⟨RB, 0, none⟩), .int .i64 (i : Int), _, _, _, _, _, _, _, _, _, _, _, _, _, _, _, _, _, _, _, _, _, _, _, _, _, _, .agg #[bi, .int .i64 Ei], .pointer (some ⟨CB, 7, none⟩), .slice (some ⟨g, off, none⟩) n cap, .int .i64 (i : Int), .pointer (some ⟨g, off + i * 5, none⟩), .agg (tsA x), .agg #[b5, .int .i64 (ptE Ei x)], _], defers := _ } _
      refine alongK_step ?_
      have hUX := Up.trans (Up.drew1 wr) hU5
      have hR5 := (hUX.block _ (lt_of_block HWR.out)).trans HWR.out
      refine opK_store (w5.setRow WB #[b5, .int .i64 (ptE Ei x)]) rfl rfl (ex_storerow rfl rfl rfl w5 38 hR5 info_refW rfl (one_w hI5 _)) (fun x => KeptBut (fun k => k = WB) wr x) (fun _ h => h) ((KeptBut.of_up hUX).trans (KeptBut.of_grown (S := fun k => k = WB) (grownBy_setRow w5 WB #[b5, .int .i64 (ptE Ei x)]) (fun k e => by cases e; rfl)) (fun _ _ e => e)) ?_
      change AlongK _ _ _ _ _ { tmps := #[_, _, .pointer (some ⟨WB, 0, none⟩), .pointer (some ⟨CB, 0, none⟩), .pointer (some ⟨RB, 0, none⟩), .int .i64 (i : Int), _, _, _, _, _, _, _, _, _, _, _, _, _, _, _, _, _, _, _, _, _, _, _, _, _, _, .agg #[bi, .int .i64 Ei], .pointer (some ⟨CB, 7, none⟩), .slice (some ⟨g, off, none⟩) n cap, .int .i64 (i : Int), .pointer (some ⟨g, off + i * 5, none⟩), .agg (tsA x), .agg #[b5, .int .i64 (ptE Ei x)], _], defers := _ } _
      refine alongK_done ?_
      have HG5 := grownBy_setRow w5 WB #[b5, .int .i64 (ptE Ei x)]
      have HE5 := Lib.hid (setRow_heap w5 WB _ #[b5, .int .i64 (ptE Ei x)] 38 (0, 0) hR5)
      have HK5 := Lib.hid (HKR.out.trans ((KeptBut.of_up hUX).trans (KeptBut.of_grown (S := fun k => k = WB) HG5 (fun k e => by cases e; rfl)) (fun _ _ e => e)) (fun _ _ e => e))
      have HI5 := Lib.hid (ints_row2 hI5 HG5 hR5 HIR.out)
      generalize w5.setRow WB #[b5, .int .i64 (ptE Ei x)] = w6 at HE5 HK5 HI5 ⊢
      clear HG5 hR5 hUX hI5 hU5
      go_wp2
      go_roundw
      case rel => exact ⟨i + 1, b5, by go_num, HIN.out, Lib.hid (by rw [HNX.out]; exact HE5.out), Lib.hid (by rw [HNX.out]; exact HI5.out), HK5⟩
      case measure => simp [RowKit.intOf]; omega
    · have hie : i = n := by omega
      have hz : ¬ (i : Int) < (n : Int) := by omega
      have ht : xs.take i = xs := List.take_of_length_le (by have := HN.out; omega)
      rw [ht] at HWR HIR
      obtain ⟨Ei, hEi⟩ : ∃ Ei, (btRE (E0, B0) xs).1 = Ei := ⟨_, rfl⟩
      have HEI := Lib.hid hEi
      replace HWR : Hid (wr.heap[WB]? = some (.cells #[bi, .int .i64 Ei] 38 (0, 0))) := by rw [← hEi]; exact HWR.out
      clear hEi
      have HRR := Lib.hid (HRB.out _ HKR.out)
      have hone := one_w HIR.out Ei
      go_wp2_with (first | (refine wpList_ex rfl (.agg #[bi, .int .i64 Ei]) _ (ex_loadrow (x := .tmp 2) rfl rfl _ 38 HWR.out Tryz.underlying38 rfl info_refW) ?_) | (refine wpList_exs rfl (wr.setRow RB #[bi, .int .i64 Ei]) (ex_storerow (x := .tmp 4) (y := .tmp 39) rfl rfl rfl wr 38 HRR.out info_refW rfl hone) ?_))
      have HG := grownBy_setRow wr RB #[bi, .int .i64 Ei]
      have HE := setRow_heap wr RB _ #[bi, .int .i64 Ei] 38 (0, 0) HRR.out
      have HUF := up_at (up_kept HUz.out HKR.out HWL2.out.1) HG HWL2.out.2
      exact bodyPost_ret (results_cell_row rfl _ _ _ _ _ _ _ rfl HE Tryz.underlying38 rfl info_refW) rfl ⟨bi, by rw [HEI.out], ints_row HIR.out HG HRR.out, HUF⟩
end
end

/-
  The reference: a block's text and name.
-/
section
set_option maxRecDepth 100000
section
set_option linter.unusedVariables false
open Go.RowKit Go.Sort Go.Lib

theorem wNumE_in {n : Int} (h : 0 ≤ n ∧ n ≤ 1099511627776) : wNumE 0 n = 0 := congrArg Prod.fst (numS_ok [] n h (by decide))
theorem wTextE_in {zs : List Int} (h : zs.length ≤ 4096) : wTextE 0 zs = 0 := congrArg Prod.fst (textS_ok [] zs h (by decide))
theorem tf_in {bs : List Int} {F T A NN : Int} (hf : 0 ≤ F ∧ F ≤ 1099511627776) (ht : 0 ≤ T ∧ T ≤ 1099511627776) (ha : 0 ≤ A ∧ A ≤ 1099511627776) (hn : 0 ≤ NN ∧ NN ≤ 1099511627776) (hl : bs.length + 28 ≤ 16384) : tfE 0 F T A NN = 0 ∧ tfB bs F T A NN = bs ++ txT F T A NN := by
  constructor
  · have hw : ([116, 120] : List Int).length ≤ 4096 := by decide
    unfold tfE
    rw [wTextE_in hw, wNumE_in hf, wNumE_in ht, wNumE_in ha, wNumE_in hn]
  · unfold tfB
    have hw : ([116, 120] : List Int).length ≤ 4096 := by decide
    rw [rText_in hw (by omega), rNum_in hf.1 hf.2 (by simp [octAll_length]; omega), rNum_in ht.1 ht.2 (by simp [octAll_length]; omega), rNum_in ha.1 ha.2 (by simp [octAll_length]; omega), rNum_in hn.1 hn.2 (by simp [octAll_length]; omega)]
    have e2 : octAll (([116, 120] : List Int).length : Int) 2 = [0, 2] := rfl
    rw [e2]
    unfold txT
    simp only [List.append_assoc, List.cons_append, List.nil_append]
theorem pt_in {bs : List Int} {x : Ts} (hx : tsE x = 0) (hl : bs.length + (tsB x).length ≤ 16384) : ptE 0 x = 0 ∧ ptB bs x = bs ++ tsB x := by
  obtain ⟨⟨hF, hT, hA, hN⟩, hS⟩ := ts_ok hx
  have hlen : (tsB x).length = 28 + (2 + (octsOf x.2).length) := by
    unfold tsB
    rw [List.length_append, List.length_append, txT_length, octAll_length]
  have ho : (octsOf x.2).length ≤ 4096 := by rw [octsOf_length]; exact hS
  obtain ⟨e1, e2⟩ := tf_in (bs := bs) (F := x.1.F) (T := x.1.T) (A := x.1.A) (NN := x.1.N) (by omega) (by omega) (by omega) (by omega) (by omega)
  constructor
  · unfold ptE
    rw [e1, wTextE_in ho]
  · unfold ptB tsB
    rw [e2, rText_in ho (by rw [List.length_append, txT_length]; omega), List.append_assoc]
theorem bt_in : ∀ (xs : List Ts) (bs : List Int), (∀ x ∈ xs, tsE x = 0) → bs.length + (xs.map tsB).flatten.length ≤ 16384 → btRE (0, bs) xs = (0, bs ++ (xs.map tsB).flatten)
  | [], bs, _, _ => by unfold btRE; simp
  | x :: t, bs, h, hl => by
    rw [List.map_cons, List.flatten_cons, List.length_append] at hl
    obtain ⟨e1, e2⟩ := pt_in (bs := bs) (h x (by simp)) (by omega)
    have ih := bt_in t (bs ++ tsB x) (fun y hy => h y (by simp [hy])) (by rw [List.length_append]; omega)
    rw [List.map_cons, List.flatten_cons, ← List.append_assoc, ← ih]
    unfold btRE
    rw [List.foldl_cons]
    simp only [e1, e2]
theorem bh_in {V H : Int} {P : ByteArray} {JV : Int} {n : Nat} (hV : 0 ≤ V ∧ V ≤ 1048576) (hH : 1 ≤ H ∧ H ≤ 1048576) (hP : P.size = 32) (hJ : 0 ≤ JV ∧ JV ≤ V) (hn : n ≤ 4) : bhE 0 V H P JV n = 0 ∧ bhB [] V H P JV n = bkH V H P JV n := by
  have ho : (octsOf P).length = 32 := by rw [octsOf_length]; exact hP
  have hV2 : 0 ≤ V ∧ V ≤ 1099511627776 := by omega
  have hH2 : 0 ≤ H ∧ H ≤ 1099511627776 := by omega
  have hJ2 : 0 ≤ JV ∧ JV ≤ 1099511627776 := by omega
  have hn2 : 0 ≤ (n : Int) ∧ (n : Int) ≤ 1099511627776 := by omega
  have ho2 : (octsOf P).length ≤ 4096 := by omega
  constructor
  · have hw : ([98, 108, 111, 99, 107] : List Int).length ≤ 4096 := by decide
    unfold bhE
    rw [wTextE_in hw, wNumE_in hV2, wNumE_in hH2, wTextE_in ho2, wNumE_in hJ2, wNumE_in hn2]
  · unfold bhB bkH
    have e0 : rTextB [] [98, 108, 111, 99, 107] = [0, 5, 98, 108, 111, 99, 107] := rfl
    rw [e0, rNum_in hV2.1 hV2.2 (by simp), rNum_in hH2.1 hH2.2 (by simp [octAll_length]), rText_in ho2 (by simp [octAll_length]), rNum_in hJ2.1 hJ2.2 (by simp [octAll_length, ho]), rNum_in hn2.1 hn2.2 (by simp [octAll_length, ho]), ho]
    rfl
/-- the text that the reference names a block by -/
def bkZ (V H : Int) (P : ByteArray) (JV : Int) (xs : List Ts) : List Int := doneB (btRE (bhE 0 V H P JV xs.length, bhB [] V H P JV xs.length) xs).1 (btRE (bhE 0 V H P JV xs.length, bhB [] V H P JV xs.length) xs).2
theorem bkZ_ok {V H : Int} {P : ByteArray} {JV JH : Int} {JB : ByteArray} {xs : List Ts} {S : ByteArray} (h : BkMay V H P JV JH JB xs S) (hl : (bkL V H P JV xs).flatten.length ≤ 16384) : bkZ V H P JV xs = (bkL V H P JV xs).flatten := by
  obtain ⟨e1, e2⟩ := bh_in (n := xs.length) h.v h.h h.p h.jv h.n
  unfold bkZ
  rw [e1, e2]
  unfold bkL at hl ⊢
  rw [List.flatten_cons, List.length_append] at hl
  rw [bt_in xs _ h.ts hl, List.flatten_cons]
  exact (done_in (by rw [List.length_append]; exact hl)).2
theorem rNumB_u8s {bs : List Int} (n : Int) (h : U8s bs) : U8s (rNumB bs n) := by
  unfold rNumB; split
  · exact h
  · split
    · exact h.append (octAll_u8s _ _)
    · exact h
theorem rTextB_u8s {bs zs : List Int} (h : U8s bs) (hz : U8s zs) : U8s (rTextB bs zs) := by
  unfold rTextB; split
  · exact h
  · split
    · exact h.append ((octAll_u8s _ _).append hz)
    · exact h
theorem u8s_nil : U8s [] := by intro j hj; simp at hj
theorem btRE_u8s : ∀ (xs : List Ts) (p : Int × List Int), U8s p.2 → U8s (btRE p xs).2
  | [], p, h => h
  | x :: t, p, h => btRE_u8s t (ptE p.1 x, ptB p.2 x) (rTextB_u8s (rNumB_u8s _ (rNumB_u8s _ (rNumB_u8s _ (rNumB_u8s _ (rTextB_u8s h txw_u8s))))) (octsOf_u8s _))
theorem bkZ_u8s (V H : Int) (P : ByteArray) (JV : Int) (xs : List Ts) : U8s (bkZ V H P JV xs) := by
  have h := btRE_u8s xs (bhE 0 V H P JV xs.length, bhB [] V H P JV xs.length) (rNumB_u8s _ (rNumB_u8s _ (rTextB_u8s (rNumB_u8s _ (rNumB_u8s _ (rTextB_u8s u8s_nil bkW_u8s))) (octsOf_u8s _))))
  unfold bkZ doneB
  repeat' split
  all_goals first | exact h | exact u8s_nil
theorem bhB_len (V H : Int) (P : ByteArray) (JV : Int) (n : Nat) : (bhB [] V H P JV n).length ≤ 20482 := rNumB_len _ (rNumB_len _ (rTextB_len _ (rNumB_len _ (rNumB_len _ (rTextB_len _ (by simp))))))
theorem bkZ_len (V H : Int) (P : ByteArray) (JV : Int) (xs : List Ts) : (bkZ V H P JV xs).length ≤ 20482 := by
  have h := btRE_len xs (bhE 0 V H P JV xs.length, bhB [] V H P JV xs.length) (bhB_len V H P JV xs.length)
  unfold bkZ doneB
  repeat' split
  all_goals first | exact h | simp

set_option maxHeartbeats 2000000 in
theorem refBkText_any (V H : Int) (P : ByteArray) (JV JH : Int) (JB : ByteArray) (ja : Option Addr) (jn jc : Nat) (ta : Option Addr) (n tc : Nat) (S : ByteArray) (xs : List Ts) (w : World) (hm : BkMay V H P JV JH JB xs S) (ht : TArg w (.slice ta n tc) xs) :
    Calls Tryz.prog 85 #[.agg (bkC V H P JV JH JB ja jn jc ta n tc S)] w fun e w' => ∃ a c k, e = .returned (.slice a k c) ∧ Ints .u8 w' (.slice a k c) (bkZ V H P JV xs) ∧ Up w w' := by
  have hn := ht.len
  have HRB : Hid (∀ wx, Up w wx → Calls Tryz.prog 46 #[.agg (bkC V H P JV JH JB ja jn jc ta n tc S)] wx fun e w' => e = .returned (.int .i64 0) ∧ Up wx w') := fun wx u => by
    have c := refBlock_any V H P JV JH JB ja jn jc ta n tc S xs wx (ht.up u)
    rwa [bkE_ok hm] at c
  have HF : Hid (∀ wx, Up w wx → Calls Tryz.prog 118 #[.agg #[.slice none 0 0, .int .i64 0], .agg (bkC V H P JV JH JB ja jn jc ta n tc S)] wx (RPto wx (btRE (bhE 0 V H P JV xs.length, bhB [] V H P JV xs.length) xs).1 (btRE (bhE 0 V H P JV xs.length, bhB [] V H P JV xs.length) xs).2)) := fun wx u => by
    have c := blockFields_any (.slice none 0 0) 0 [] V H P JV JH JB ja jn jc ta n tc S xs wx ⟨none, 0, rfl, Nat.le_refl _, fun _ => rfl, .inl rfl⟩ (by simp) (by have := hm.p; omega) (by have := hm.n; omega) (ht.up u) (fun x hx => by have := (ts_ok (hm.ts x hx)).2; omega)
    rw [hn]
    exact c
  have hlen := btRE_len xs (bhE 0 V H P JV xs.length, bhB [] V H P JV xs.length) (bhB_len V H P JV xs.length)
  have HD : Hid (∀ wx b, Ints .u8 wx b (btRE (bhE 0 V H P JV xs.length, bhB [] V H P JV xs.length) xs).2 → Calls Tryz.prog 9 #[.agg #[b, .int .i64 (btRE (bhE 0 V H P JV xs.length, bhB [] V H P JV xs.length) xs).1]] wx fun e w' => ∃ r E, e = .returned (.tuple #[r, .int .i64 E]) ∧ Ints .u8 w' r (bkZ V H P JV xs) ∧ Up wx w') := fun wx b k =>
    (refDone_any b (btRE (bhE 0 V H P JV xs.length, bhB [] V H P JV xs.length) xs).1 (btRE (bhE 0 V H P JV xs.length, bhB [] V H P JV xs.length) xs).2 wx k (Nat.le_trans hlen (by decide))).mono (fun e w' ⟨r, h1, h2, h3⟩ => ⟨r, _, h1, h2, h3⟩)
  generalize bkZ V H P JV xs = Z at HD ⊢
  generalize btRE (bhE 0 V H P JV xs.length, bhB [] V H P JV xs.length) xs = pq at HF HD
  obtain ⟨EE, BB⟩ := pq
  simp only at HF HD
  have HU0 := Lib.hid (Up.alloc (Up.refl w) (.cells (bkC V H P JV JH JB ja jn jc ta n tc S) 55))
  have HB0 := Lib.hid (heap_alloc_new w (.cells (bkC V H P JV JH JB ja jn jc ta n tc S) 55))
  unfold bkC at HU0 HB0 HRB HF ⊢
  clear hm ht hn hlen
  go_enter Tryz.func85, Tryz.ntmps85
  go_wp2_with (refine wpList_ex rfl (.agg #[.int .i64 V, .int .i64 H, .string P, .int .i64 JV, .int .i64 JH, .string JB, .slice ja jn jc, .slice ta n tc, .string S]) _ (ex_loadrow (x := .tmp 1) rfl rfl _ 55 HB0.out Tryz.underlying55 rfl info_bk) ?_)
  with_reducible refine Calls.mono (HRB.out _ HU0.out) ?_
  rintro e w2 ⟨rfl, u2⟩
  have HB2 := Lib.hid ((u2.block _ (lt_of_block HB0.out)).trans HB0.out)
  have HU2 := Lib.hid (Up.trans HU0.out u2)
  clear u2
  go_wp2_with (refine wpList_ex rfl (.agg #[.int .i64 V, .int .i64 H, .string P, .int .i64 JV, .int .i64 JH, .string JB, .slice ja jn jc, .slice ta n tc, .string S]) _ (ex_loadrow (x := .tmp 1) rfl rfl _ 55 HB2.out Tryz.underlying55 rfl info_bk) ?_)
  with_reducible refine Calls.mono (HF.out _ HU2.out) ?_
  rintro e w3 ⟨b3, rfl, hI, u3⟩
  have HI3 := Lib.hid hI
  have HU3 := Lib.hid (Up.trans HU2.out u3)
  clear hI u3
  go_wp2_with fail
  with_reducible refine Calls.mono (HD.out _ _ HI3.out) ?_
  rintro e w4 ⟨r4, E4, rfl, hI, u4⟩
  have HU4 := Lib.hid (Up.trans HU3.out u4)
  have HI4 := Lib.hid hI
  obtain ⟨ra, rc, rfl, _⟩ := id hI
  clear hI u4
  generalize Z.length = k at HI4 ⊢
  go_wp2
  go_ret
  exact ⟨_, _, _, rfl, HI4.out, HU4.out⟩

set_option maxHeartbeats 2000000 in
theorem refBkName_any (V H : Int) (P : ByteArray) (JV JH : Int) (JB : ByteArray) (ja : Option Addr) (jn jc : Nat) (ta : Option Addr) (n tc : Nat) (S : ByteArray) (xs : List Ts) (w : World) (hm : BkMay V H P JV JH JB xs S) (ht : TArg w (.slice ta n tc) xs) :
    Calls Tryz.prog 48 #[.agg (bkC V H P JV JH JB ja jn jc ta n tc S)] w fun e w' => e = .returned (.string (strOfNums (sumB (bkZ V H P JV xs)))) ∧ Up w w' := by
  have HRB : Hid (∀ wx, Up w wx → Calls Tryz.prog 46 #[.agg (bkC V H P JV JH JB ja jn jc ta n tc S)] wx fun e w' => e = .returned (.int .i64 0) ∧ Up wx w') := fun wx u => by
    have c := refBlock_any V H P JV JH JB ja jn jc ta n tc S xs wx (ht.up u)
    rwa [bkE_ok hm] at c
  have HT : Hid (∀ wx, Up w wx → Calls Tryz.prog 85 #[.agg (bkC V H P JV JH JB ja jn jc ta n tc S)] wx fun e w' => ∃ a c k, e = .returned (.slice a k c) ∧ Ints .u8 w' (.slice a k c) (bkZ V H P JV xs) ∧ Up wx w') := fun wx u => refBkText_any V H P JV JH JB ja jn jc ta n tc S xs wx hm (ht.up u)
  have hu8 := bkZ_u8s V H P JV xs
  have hlen := bkZ_len V H P JV xs
  have HSH : Hid (∀ wx v, Ints .u8 wx v (bkZ V H P JV xs) → Calls Tryz.prog 84 #[v] wx fun e w' => ∃ a c, e = .returned (.slice a 32 c) ∧ Ints .u8 w' (.slice a 32 c) (sumB (bkZ V H P JV xs)) ∧ Up wx w') := fun wx v k => (refSha_any v _ wx k hu8 (Nat.le_trans hlen (by decide))).mono (fun e w' ⟨r, h1, h2, h3⟩ => by
    have hi := Ints.of_row h2
    obtain ⟨xa, xc, rfl⟩ := row_shape h2
    exact ⟨xa, xc, h1, hi, h3⟩)
  generalize sumB (bkZ V H P JV xs) = Y at HSH ⊢
  generalize bkZ V H P JV xs = Z at HT HSH
  have HU0 := Lib.hid (Up.alloc (Up.refl w) (.cells (bkC V H P JV JH JB ja jn jc ta n tc S) 55))
  have HB0 := Lib.hid (heap_alloc_new w (.cells (bkC V H P JV JH JB ja jn jc ta n tc S) 55))
  unfold bkC at HU0 HB0 HRB HT ⊢
  clear hm ht hu8 hlen
  go_enter Tryz.func48, Tryz.ntmps48
  go_wp2_with (refine wpList_ex rfl (.agg #[.int .i64 V, .int .i64 H, .string P, .int .i64 JV, .int .i64 JH, .string JB, .slice ja jn jc, .slice ta n tc, .string S]) _ (ex_loadrow (x := .tmp 1) rfl rfl _ 55 HB0.out Tryz.underlying55 rfl info_bk) ?_)
  with_reducible refine Calls.mono (HRB.out _ HU0.out) ?_
  rintro e w2 ⟨rfl, u2⟩
  have HB2 := Lib.hid ((u2.block _ (lt_of_block HB0.out)).trans HB0.out)
  have HU2 := Lib.hid (Up.trans HU0.out u2)
  clear u2
  go_wp2_with (refine wpList_ex rfl (.agg #[.int .i64 V, .int .i64 H, .string P, .int .i64 JV, .int .i64 JH, .string JB, .slice ja jn jc, .slice ta n tc, .string S]) _ (ex_loadrow (x := .tmp 1) rfl rfl _ 55 HB2.out Tryz.underlying55 rfl info_bk) ?_)
  with_reducible refine Calls.mono (HT.out _ HU2.out) ?_
  rintro e w3 ⟨a3, c3, k3, rfl, hI, u3⟩
  have HI3 := Lib.hid hI
  have HU3 := Lib.hid (Up.trans HU2.out u3)
  clear hI u3
  go_wp2_with fail
  with_reducible refine Calls.mono (HSH.out _ _ HI3.out) ?_
  rintro e w4 ⟨a4, c4, rfl, hI, u4⟩
  have HU4 := Lib.hid (Up.trans HU3.out u4)
  have hcv := hI.str
  clear hI u4
  go_wp2
  go_ret
  exact ⟨rfl, HU4.out⟩
end
end
end
end Go.Proofs.YtfenmhddlojahaaGreat
