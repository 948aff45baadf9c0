import Derived.Test.YtfenmhddlojahaaGreatRfVtF
/-
  The reference puts a statement, and a cert.
-/
namespace Go.Proofs.YtfenmhddlojahaaGreat
set_option maxRecDepth 100000
section
set_option linter.unusedVariables false
open Go.RowKit Go.Sort Go.Lib

theorem ints_row2 {w w' w0 : World} {v b : Value} {zs ys : List Int} {rb : Nat} {e : Int} {ty : TypeId} (h : Ints .u8 w v zs) (hg : w.grownBy w' (some rb)) (hr : w.heap[rb]? = some (.cells #[b, .int .i64 e] ty (0, 0))) (hb : Ints .u8 w0 b ys) : Ints .u8 w' v zs := by
  obtain ⟨a, c, rfl, _⟩ := hb
  exact ints_row h hg hr
/-- fields behind others, as the reference puts them -/
def RPto (w : World) (E' : Int) (bs' : List Int) (e : Ending) (w' : World) : Prop := ∃ b', e = .returned (.agg #[b', .int .i64 E']) ∧ Ints .u8 w' b' bs' ∧ Up w w'
def vfE (E : Int) (x : Vs) : Int := wNumE (wNumE (wTextE (wNumE (wNumE (wNumE (wTextE (E) [118, 111, 116, 101]) x.1.K) x.1.V) x.1.H) x.1.B) x.1.T) x.1.G
def vfB (bs : List Int) (x : Vs) : List Int := rNumB (rNumB (rTextB (rNumB (rNumB (rNumB (rTextB (bs) [118, 111, 116, 101]) x.1.K) x.1.V) x.1.H) x.1.B) x.1.T) x.1.G
def pvE (E : Int) (x : Vs) : Int := wTextE (vfE E x) (octsOf x.2)
def pvB (bs : List Int) (x : Vs) : List Int := rTextB (vfB bs x) (octsOf x.2)
theorem vfB_len {bs : List Int} (x : Vs) (h : bs.length ≤ 20482) : (vfB bs x).length ≤ 20482 := rNumB_len _ (rNumB_len _ (rTextB_len _ (rNumB_len _ (rNumB_len _ (rNumB_len _ (rTextB_len _ h))))))
theorem pvB_len {bs : List Int} (x : Vs) (h : bs.length ≤ 20482) : (pvB bs x).length ≤ 20482 := rTextB_len _ (vfB_len x h)

set_option maxHeartbeats 2000000 in
theorem refPutVote_any (b : Value) (E : Int) (bs : List Int) (x : Vs) (w : World) (hbb : Ints .u8 w b bs) (hl : bs.length ≤ 20482) (hx : VsOk x) :
    Calls Tryz.prog 29 #[.agg #[b, .int .i64 E], .agg (vsA x)] w (RPto w (pvE E x) (pvB bs x)) := by
  obtain ⟨hx1, _, _, _, hx5, _, _, hx8⟩ := hx
  unfold pvE pvB
  have hL := vfB_len x hl
  have hso := octsOf_u8s x.2
  have hsl : (octsOf x.2).length ≤ 9223372036854775807 := by rw [octsOf_length]; exact Nat.le_trans hx8 (by decide)
  have hF := fun wx (h : Ints .u8 wx b bs) => voteFields_any b E bs x.1.K x.1.V x.1.H x.1.B x.1.T x.1.G x.2 wx h hl hx1 (Nat.le_trans hx5 (by decide))
  change ∀ wx, Ints .u8 wx b bs → Calls _ _ _ wx (RWto wx b (vfE E x) (vfB bs x)) at hF
  generalize vfE E x = E1 at hF ⊢
  generalize vfB bs x = B1 at hL hF ⊢
  obtain ⟨⟨K, V, H, BL, T, G⟩, SG⟩ := x
  simp only at hso hsl hF
  have e0 : vsA (⟨K, V, H, BL, T, G⟩, SG) = #[.int .i64 K, .int .i64 V, .int .i64 H, .string (strOfNums BL), .int .i64 T, .int .i64 G, .string SG] := rfl
  rw [e0]
  simp only
  generalize hsg : octsOf SG = sg at hso hsl ⊢
  have hSG : SG = strOfNums sg := by rw [← hsg, strOf_octs]
  subst hSG
  clear hsg e0
  have HT : Hid (∀ b1 wx, Ints .u8 wx b1 B1 → Calls Tryz.prog 28 #[.agg #[b1, .int .i64 E1], .string (strOfNums sg)] wx (RWto wx b1 (wTextE E1 sg) (rTextB B1 sg))) := fun b1 wx h => refText_any b1 E1 B1 sg wx h hso (Nat.le_trans hL (by decide)) hsl
  have u1 := Up.alloc (Up.refl w) (.cells #[b, .int .i64 E] 38)
  have u2 := Up.alloc (Up.refl (w.alloc (.cells #[b, .int .i64 E] 38))) (.cells #[.int .i64 K, .int .i64 V, .int .i64 H, .string (strOfNums BL), .int .i64 T, .int .i64 G, .string (strOfNums sg)] 49)
  have u3 := Up.alloc (Up.refl ((w.alloc (.cells #[b, .int .i64 E] 38)).alloc (.cells #[.int .i64 K, .int .i64 V, .int .i64 H, .string (strOfNums BL), .int .i64 T, .int .i64 G, .string (strOfNums sg)] 49))) (.cells #[.slice none 0 0, .int .i64 0] 38)
  have h1 := heap_alloc_new w (.cells #[b, .int .i64 E] 38)
  have h2 := heap_alloc_new (w.alloc (.cells #[b, .int .i64 E] 38)) (.cells #[.int .i64 K, .int .i64 V, .int .i64 H, .string (strOfNums BL), .int .i64 T, .int .i64 G, .string (strOfNums sg)] 49)
  have h3 := heap_alloc_new ((w.alloc (.cells #[b, .int .i64 E] 38)).alloc (.cells #[.int .i64 K, .int .i64 V, .int .i64 H, .string (strOfNums BL), .int .i64 T, .int .i64 G, .string (strOfNums sg)] 49)) (.cells #[.slice none 0 0, .int .i64 0] 38)
  rw [show (w.alloc (.cells #[b, .int .i64 E] 38)).heap.size = w.heap.size + 1 by simp] at h2
  rw [show ((w.alloc (.cells #[b, .int .i64 E] 38)).alloc (.cells #[.int .i64 K, .int .i64 V, .int .i64 H, .string (strOfNums BL), .int .i64 T, .int .i64 G, .string (strOfNums sg)] 49)).heap.size = w.heap.size + 1 + 1 by simp] at h3
  have u23 := Up.trans u2 u3
  have HUz := Lib.hid (Up.trans u1 u23)
  have HWB0 := Lib.hid ((u23.block _ (lt_of_block h1)).trans h1)
  have HVB0 := Lib.hid ((u3.block _ (lt_of_block h2)).trans h2)
  have HRB0 := Lib.hid h3
  have HF0 := Lib.hid hF
  have HBB := Lib.hid hbb
  clear u1 u2 u3 h1 h2 h3 u23 hbb hl hso hsl hL hF hx1 hx5 hx8
  go_enter Tryz.func29, Tryz.ntmps29
  go_wp2_with fail
  generalize ((w.alloc (.cells #[b, .int .i64 E] 38)).alloc (.cells #[.int .i64 K, .int .i64 V, .int .i64 H, .string (strOfNums BL), .int .i64 T, .int .i64 G, .string (strOfNums sg)] 49)).alloc (.cells #[.slice none 0 0, .int .i64 0] 38) = wz at HUz HWB0 HVB0 HRB0 ⊢
  have HRL : Hid (w.heap.size ≤ w.heap.size + 1 + 1) := by (have h : w.heap.size ≤ w.heap.size + 1 + 1 := by omega); exact h
  have HWN : Hid (w.heap.size ≠ w.heap.size + 1 + 1) := by (have h : w.heap.size ≠ w.heap.size + 1 + 1 := by omega); exact h
  have HVN : Hid (w.heap.size + 1 ≠ w.heap.size + 1 + 1) := by (have h : w.heap.size + 1 ≠ w.heap.size + 1 + 1 := by omega); exact h
  have HRL2 := HRL
  generalize hRB : w.heap.size + 1 + 1 = RB at HRB0 HRL HRL2 HWN HVN ⊢
  generalize hVB : w.heap.size + 1 = VB at HVB0 HVN ⊢
  clear hRB hVB
  have HF : Hid (∀ wx, Up wz wx → Calls Tryz.prog 58 #[.agg #[b, .int .i64 E], .agg #[.int .i64 K, .int .i64 V, .int .i64 H, .string (strOfNums BL), .int .i64 T, .int .i64 G, .string (strOfNums sg)]] wx (RWto wx b E1 B1)) := fun wx u => HF0.out wx ((HBB.out.up HUz.out).up u)
  clear HF0 HBB
  have HWB : Hid (∀ wx, KeptBut (fun k => k = RB) wz wx → wx.heap[w.heap.size]? = some (.cells #[b, .int .i64 E] 38 (0, 0))) := fun wx u => (u.block _ (lt_of_block HWB0.out) HWN.out).trans HWB0.out
  have HVB : Hid (∀ wx, KeptBut (fun k => k = RB) wz wx → wx.heap[VB]? = some (.cells #[.int .i64 K, .int .i64 V, .int .i64 H, .string (strOfNums BL), .int .i64 T, .int .i64 G, .string (strOfNums sg)] 49 (0, 0))) := fun wx u => (u.block _ (lt_of_block HVB0.out) HVN.out).trans HVB0.out
  have HRB : Hid (∀ wx, Up wz wx → wx.heap[RB]? = some (.cells #[.slice none 0 0, .int .i64 0] 38 (0, 0))) := fun wx u => (u.block _ (lt_of_block HRB0.out)).trans HRB0.out
  clear HWB0 HVB0 HRB0
  have HWS := Lib.hid HUz.out.size
  generalize hWB : w.heap.size = WB at HWB HWN ⊢
  refine region_alongK (fun x => KeptBut (fun k => k = RB) wz x) (.read 0 (.read 1 (.read 3 (.read 4 (.step 2 (.step 5 (.step 6 (.nil)))))))) (by kernel_rfl) rfl (by kernel_rfl) (by kernel_rfl) (fun c a d v w h => by cases d <;> exact h) (KeptBut.of_up (Up.drew1 wz)) ?_
  refine alongK_read (.agg #[b, .int .i64 E]) rfl rfl (fun wx hS => ex_loadrow rfl rfl wx 38 (HWB.out wx hS) Tryz.underlying38 rfl info_refW) ?_
  change AlongK _ _ _ _ _ { tmps := #[.agg #[b, .int .i64 E], .agg #[.int .i64 K, .int .i64 V, .int .i64 H, .string (strOfNums BL), .int .i64 T, .int .i64 G, .string (strOfNums sg)], .pointer (some ⟨WB, 0, none⟩), .pointer (some ⟨VB, 0, none⟩), .pointer (some ⟨RB, 0, none⟩), .agg #[b, .int .i64 E], _, _, _, _, _], defers := _ } _
  refine alongK_read (.agg #[.int .i64 K, .int .i64 V, .int .i64 H, .string (strOfNums BL), .int .i64 T, .int .i64 G, .string (strOfNums sg)]) rfl rfl (fun wx hS => ex_loadrow rfl rfl wx 49 (HVB.out wx hS) Tryz.underlying49 rfl info_vt) ?_
  change AlongK _ _ _ _ _ { tmps := #[.agg #[b, .int .i64 E], .agg #[.int .i64 K, .int .i64 V, .int .i64 H, .string (strOfNums BL), .int .i64 T, .int .i64 G, .string (strOfNums sg)], .pointer (some ⟨WB, 0, none⟩), .pointer (some ⟨VB, 0, none⟩), .pointer (some ⟨RB, 0, none⟩), .agg #[b, .int .i64 E], .agg #[.int .i64 K, .int .i64 V, .int .i64 H, .string (strOfNums BL), .int .i64 T, .int .i64 G, .string (strOfNums sg)], _, _, _, _], defers := _ } _
  refine alongK_read (.pointer (some ⟨VB, 6, none⟩)) rfl rfl (fun wx hS => ex_field rfl rfl wx (by simp [go_sem])) ?_
  change AlongK _ _ _ _ _ { tmps := #[.agg #[b, .int .i64 E], .agg #[.int .i64 K, .int .i64 V, .int .i64 H, .string (strOfNums BL), .int .i64 T, .int .i64 G, .string (strOfNums sg)], .pointer (some ⟨WB, 0, none⟩), .pointer (some ⟨VB, 0, none⟩), .pointer (some ⟨RB, 0, none⟩), .agg #[b, .int .i64 E], .agg #[.int .i64 K, .int .i64 V, .int .i64 H, .string (strOfNums BL), .int .i64 T, .int .i64 G, .string (strOfNums sg)], _, .pointer (some ⟨VB, 6, none⟩), _, _], defers := _ } _
  refine alongK_read (.string (strOfNums sg)) rfl rfl (fun wx hS => ex_load Tryz.isAgg9 rfl rfl wx ((vt_cells (HVB.out wx hS)).2.2.2.2.2.2)) ?_
  change AlongK _ _ _ _ _ { tmps := #[.agg #[b, .int .i64 E], .agg #[.int .i64 K, .int .i64 V, .int .i64 H, .string (strOfNums BL), .int .i64 T, .int .i64 G, .string (strOfNums sg)], .pointer (some ⟨WB, 0, none⟩), .pointer (some ⟨VB, 0, none⟩), .pointer (some ⟨RB, 0, none⟩), .agg #[b, .int .i64 E], .agg #[.int .i64 K, .int .i64 V, .int .i64 H, .string (strOfNums BL), .int .i64 T, .int .i64 G, .string (strOfNums sg)], _, .pointer (some ⟨VB, 6, none⟩), .string (strOfNums sg), _], defers := _ } _
  refine alongK_step ?_
  refine opK_call (vs := [.agg #[b, .int .i64 E], .agg #[.int .i64 K, .int .i64 V, .int .i64 H, .string (strOfNums BL), .int .i64 T, .int .i64 G, .string (strOfNums sg)]]) rfl rfl rfl (enters_of Tryz.func58 (by kernel_rfl) rfl) rfl ?_
  with_reducible refine Calls.mono (HF.out _ (Up.drew1 wz)) ?_
  rintro e w1 ⟨b1, rfl, hI1, hU1, _⟩
  refine ⟨_, rfl, (fun x => KeptBut (fun k => k = RB) wz x), (fun _ h => h), (KeptBut.of_up (Up.trans (Up.drew1 wz) hU1)), ?_⟩
  change AlongK _ _ _ _ _ { tmps := #[.agg #[b, .int .i64 E], .agg #[.int .i64 K, .int .i64 V, .int .i64 H, .string (strOfNums BL), .int .i64 T, .int .i64 G, .string (strOfNums sg)], .pointer (some ⟨WB, 0, none⟩), .pointer (some ⟨VB, 0, none⟩), .pointer (some ⟨RB, 0, none⟩), .agg #[b, .int .i64 E], .agg #[.int .i64 K, .int .i64 V, .int .i64 H, .string (strOfNums BL), .int .i64 T, .int .i64 G, .string (strOfNums sg)], .agg #[b1, .int .i64 E1], .pointer (some ⟨VB, 6, none⟩), .string (strOfNums sg), _], defers := _ } _
  refine alongK_step ?_
  refine opK_call (vs := [.agg #[b1, .int .i64 E1], .string (strOfNums sg)]) rfl rfl rfl (enters_of Tryz.func28 (by kernel_rfl) rfl) rfl ?_
  with_reducible refine Calls.mono (HT.out b1 _ hI1) ?_
  rintro e w2 ⟨b2, rfl, hI2, hU2, _⟩
  refine ⟨_, rfl, (fun x => KeptBut (fun k => k = RB) wz x), (fun _ h => h), (KeptBut.of_up (Up.trans (Up.trans (Up.drew1 wz) hU1) hU2)), ?_⟩
  change AlongK _ _ _ _ _ { tmps := #[.agg #[b, .int .i64 E], .agg #[.int .i64 K, .int .i64 V, .int .i64 H, .string (strOfNums BL), .int .i64 T, .int .i64 G, .string (strOfNums sg)], .pointer (some ⟨WB, 0, none⟩), .pointer (some ⟨VB, 0, none⟩), .pointer (some ⟨RB, 0, none⟩), .agg #[b, .int .i64 E], .agg #[.int .i64 K, .int .i64 V, .int .i64 H, .string (strOfNums BL), .int .i64 T, .int .i64 G, .string (strOfNums sg)], .agg #[b1, .int .i64 E1], .pointer (some ⟨VB, 6, none⟩), .string (strOfNums sg), .agg #[b2, .int .i64 (wTextE E1 sg)]], defers := _ } _
  refine alongK_step ?_
  have hUX := Up.trans (Up.trans (Up.drew1 wz) hU1) hU2
  have hR2 := HRB.out w2 hUX
  refine opK_store (w2.setRow RB #[b2, .int .i64 (wTextE E1 sg)]) rfl rfl (ex_storerow rfl rfl rfl w2 38 hR2 info_refW rfl (one_w hI2 _)) (fun x => KeptBut (fun k => k = RB) wz x) (fun _ h => h) ((KeptBut.of_up hUX).trans (KeptBut.of_grown (S := fun k => k = RB) (grownBy_setRow w2 RB #[b2, .int .i64 (wTextE E1 sg)]) (fun k e => by cases e; rfl)) (fun _ _ e => e)) ?_
  change AlongK _ _ _ _ _ { tmps := #[.agg #[b, .int .i64 E], .agg #[.int .i64 K, .int .i64 V, .int .i64 H, .string (strOfNums BL), .int .i64 T, .int .i64 G, .string (strOfNums sg)], .pointer (some ⟨WB, 0, none⟩), .pointer (some ⟨VB, 0, none⟩), .pointer (some ⟨RB, 0, none⟩), .agg #[b, .int .i64 E], .agg #[.int .i64 K, .int .i64 V, .int .i64 H, .string (strOfNums BL), .int .i64 T, .int .i64 G, .string (strOfNums sg)], .agg #[b1, .int .i64 E1], .pointer (some ⟨VB, 6, none⟩), .string (strOfNums sg), .agg #[b2, .int .i64 (wTextE E1 sg)]], defers := _ } _
  refine alongK_done ?_
  have HG2 := grownBy_setRow w2 RB #[b2, .int .i64 (wTextE E1 sg)]
  have HE2 := setRow_heap w2 RB _ #[b2, .int .i64 (wTextE E1 sg)] 38 (0, 0) hR2
  have HUF := up_at (Up.trans HUz.out hUX) HG2 HRL.out
  go_wp2
  exact bodyPost_ret (results_cell_row rfl _ _ _ _ _ _ _ rfl HE2 Tryz.underlying38 rfl info_refW) rfl ⟨b2, rfl, ints_row hI2 HG2 hR2, HUF⟩

/-- what behind whole statements stands -/
def ctRE (p : Int × List Int) (xs : List Vs) : Int × List Int := xs.foldl (fun p x => (pvE p.1 x, pvB p.2 x)) p
theorem ctRE_len (xs : List Vs) : ∀ p : Int × List Int, p.2.length ≤ 20482 → (ctRE p xs).2.length ≤ 20482 := by
  induction xs with
  | nil => exact fun p h => h
  | cons x t ih => exact fun p h => ih (pvE p.1 x, pvB p.2 x) (pvB_len x h)
theorem ctRE_next (p : Int × List Int) {xs : List Vs} {i : Nat} {x : Vs} (hx : xs[i]? = some x) : ctRE p (xs.take (i + 1)) = (pvE (ctRE p (xs.take i)).1 x, pvB (ctRE p (xs.take i)).2 x) := by
  obtain ⟨hi, e⟩ := List.getElem?_eq_some_iff.1 hx
  rw [List.take_succ_eq_append_getElem hi, e]
  unfold ctRE
  rw [List.foldl_append]; rfl
def chE (E V H : Int) (BL : List Int) (n : Nat) : Int := wNumE (wTextE (wNumE (wNumE E V) H) BL) (n : Int)
def chB (bs : List Int) (V H : Int) (BL : List Int) (n : Nat) : List Int := rNumB (rTextB (rNumB (rNumB bs V) H) BL) (n : Int)

set_option maxHeartbeats 4000000 in
theorem refPutCert_any (b : Value) (E : Int) (bs : List Int) (V H : Int) (BL : List Int) (a : Option Addr) (n cap : Nat) (xs : List Vs) (w : World) (hbb : Ints .u8 w b bs) (hl : bs.length ≤ 20482) (hu : U8s BL) (hbn : BL.length ≤ 9223372036854775807) (hv : VArg w (.slice a n cap) xs) (hn : xs.length = n) (hsz : n < 4611686018427387904) (hok : ∀ (j : Nat) (x : Vs), xs[j]? = some x → VsOk x) :
    Calls Tryz.prog 10 #[.agg #[b, .int .i64 E], .agg #[.int .i64 V, .int .i64 H, .string (strOfNums BL), .slice a n cap]] w (RPto w (ctRE (chE E V H BL n, chB bs V H BL n) xs).1 (ctRE (chE E V H BL n, chB bs V H BL n) xs).2) := by
  have HL := Lib.hid hl
  have HBL := Lib.hid hu
  have HBN := Lib.hid hbn
  have HN := Lib.hid hn
  have HOK := Lib.hid hok
  have HV0 := Lib.hid hv
  have u1 := Up.alloc (Up.refl w) (.cells #[b, .int .i64 E] 38)
  have u2 := Up.alloc (Up.refl (w.alloc (.cells #[b, .int .i64 E] 38))) (.cells #[.int .i64 V, .int .i64 H, .string (strOfNums BL), .slice a n cap] 24)
  have u3 := Up.alloc (Up.refl ((w.alloc (.cells #[b, .int .i64 E] 38)).alloc (.cells #[.int .i64 V, .int .i64 H, .string (strOfNums BL), .slice a n cap] 24))) (.cells #[.slice none 0 0, .int .i64 0] 38)
  have h1 := heap_alloc_new w (.cells #[b, .int .i64 E] 38)
  have h2 := heap_alloc_new (w.alloc (.cells #[b, .int .i64 E] 38)) (.cells #[.int .i64 V, .int .i64 H, .string (strOfNums BL), .slice a n cap] 24)
  have h3 := heap_alloc_new ((w.alloc (.cells #[b, .int .i64 E] 38)).alloc (.cells #[.int .i64 V, .int .i64 H, .string (strOfNums BL), .slice a n cap] 24)) (.cells #[.slice none 0 0, .int .i64 0] 38)
  rw [show (w.alloc (.cells #[b, .int .i64 E] 38)).heap.size = w.heap.size + 1 by simp] at h2
  rw [show ((w.alloc (.cells #[b, .int .i64 E] 38)).alloc (.cells #[.int .i64 V, .int .i64 H, .string (strOfNums BL), .slice a n cap] 24)).heap.size = w.heap.size + 1 + 1 by simp] at h3
  have u23 := Up.trans u2 u3
  have HUz := Lib.hid (Up.trans u1 u23)
  have HWB0 := Lib.hid ((u23.block _ (lt_of_block h1)).trans h1)
  have HCB0 := Lib.hid ((u3.block _ (lt_of_block h2)).trans h2)
  have HRB0 := Lib.hid h3
  have HBB := Lib.hid hbb
  have HCL := Lib.hid (rNumB_len (n : Int) (rTextB_len BL (rNumB_len H (rNumB_len V hl))))
  clear u1 u2 u3 h1 h2 h3 u23 hbb hl hu hbn hv hn hok
  generalize hE0 : chE E V H BL n = E0
  generalize hB0 : chB bs V H BL n = B0
  have HE0 : Hid (wNumE (wTextE (wNumE (wNumE (E) V) H) BL) (n : Int) = E0) := hE0
  have HB0 : Hid (rNumB (rTextB (rNumB (rNumB (bs) V) H) BL) (n : Int) = B0) := hB0
  clear hE0 hB0
  go_enter Tryz.func10, Tryz.ntmps10
  go_upto_region 1 with fail
  generalize ((w.alloc (.cells #[b, .int .i64 E] 38)).alloc (.cells #[.int .i64 V, .int .i64 H, .string (strOfNums BL), .slice a n cap] 24)).alloc (.cells #[.slice none 0 0, .int .i64 0] 38) = wz at HUz HWB0 HCB0 HRB0 ⊢
  have HWL : Hid (w.heap.size ≤ w.heap.size ∧ w.heap.size ≤ w.heap.size + 1 + 1) := by (have h : w.heap.size ≤ w.heap.size ∧ w.heap.size ≤ w.heap.size + 1 + 1 := by omega); exact h
  have HRN : Hid (w.heap.size + 1 + 1 ≠ w.heap.size) := by (have h : w.heap.size + 1 + 1 ≠ w.heap.size := by omega); exact h
  have HCN : Hid (w.heap.size + 1 ≠ w.heap.size) := by (have h : w.heap.size + 1 ≠ w.heap.size := by omega); exact h
  generalize hRB : w.heap.size + 1 + 1 = RB at HRB0 HRN HWL ⊢
  generalize hCB : w.heap.size + 1 = CB at HCB0 HCN ⊢
  clear hRB hCB
  have HI : Hid (∀ wx, Up wz wx → Ints .u8 wx b bs) := fun wx u => (HBB.out.up HUz.out).up u
  have HVz0 := HV0
  clear HBB HV0
  obtain ⟨WB, hWB⟩ : ∃ WB, w.heap.size = WB := ⟨_, rfl⟩
  rw [hWB] at HWB0 HRN HCN
  have HWL2 : Hid (w.heap.size ≤ WB ∧ w.heap.size ≤ RB) := by rw [← hWB]; exact HWL.out
  clear HWL
  rw [hWB]
  clear hWB
  have HCB : Hid (∀ wx, KeptBut (fun k => k = WB) wz wx → wx.heap[CB]? = some (.cells #[.int .i64 V, .int .i64 H, .string (strOfNums BL), .slice a n cap] 24 (0, 0))) := fun wx u => (u.block _ (lt_of_block HCB0.out) HCN.out).trans HCB0.out
  have HRB : Hid (∀ wx, KeptBut (fun k => k = WB) wz wx → wx.heap[RB]? = some (.cells #[.slice none 0 0, .int .i64 0] 38 (0, 0))) := fun wx u => (u.block _ (lt_of_block HRB0.out) HRN.out).trans HRB0.out
  clear HCB0 HRB0
  have HVA : Hid (∀ wx, KeptBut (fun k => k = WB) wz wx → VArg wx (.slice a n cap) xs) := fun wx u => HVz0.out.up (up_kept HUz.out u HWL2.out.1)
  refine region_alongK (fun x => KeptBut (fun k => k = WB) wz x) (.read 1 (.read 2 (.read 4 (.read 5 (.read 7 (.read 8 (.read 10 (.read 11 (.read 12 (.step 0 (.step 3 (.step 6 (.step 9 (.step 13 (.step 14 (.nil)))))))))))))))) (by kernel_rfl) rfl (by kernel_rfl) (by kernel_rfl) (fun c a d v w h => by cases d <;> exact h) (KeptBut.of_up (Up.drew1 wz)) ?_
  refine alongK_read (.pointer (some ⟨CB, 0, none⟩)) rfl rfl (fun wx hS => ex_field rfl rfl wx (by simp [go_sem])) ?_
  change AlongK _ _ _ _ _ { tmps := #[.agg #[b, .int .i64 E], .agg #[.int .i64 V, .int .i64 H, .string (strOfNums BL), .slice a n cap], .pointer (some ⟨WB, 0, none⟩), .pointer (some ⟨CB, 0, none⟩), .pointer (some ⟨RB, 0, none⟩), _, _, .pointer (some ⟨CB, 0, none⟩), _, _, _, _, _, _, _, _, _, _, _, _, _, _, _, _, _, _, _, _, _, _, _, _, _, _, _], defers := _ } _
  refine alongK_read (.int .i64 V) rfl rfl (fun wx hS => ex_load Tryz.isAgg3 rfl rfl wx ((ct_cells (HCB.out wx hS)).1)) ?_
  change AlongK _ _ _ _ _ { tmps := #[.agg #[b, .int .i64 E], .agg #[.int .i64 V, .int .i64 H, .string (strOfNums BL), .slice a n cap], .pointer (some ⟨WB, 0, none⟩), .pointer (some ⟨CB, 0, none⟩), .pointer (some ⟨RB, 0, none⟩), _, _, .pointer (some ⟨CB, 0, none⟩), .int .i64 V, _, _, _, _, _, _, _, _, _, _, _, _, _, _, _, _, _, _, _, _, _, _, _, _, _, _], defers := _ } _
  refine alongK_read (.pointer (some ⟨CB, 1, none⟩)) rfl rfl (fun wx hS => ex_field rfl rfl wx (by simp [go_sem])) ?_
  change AlongK _ _ _ _ _ { tmps := #[.agg #[b, .int .i64 E], .agg #[.int .i64 V, .int .i64 H, .string (strOfNums BL), .slice a n cap], .pointer (some ⟨WB, 0, none⟩), .pointer (some ⟨CB, 0, none⟩), .pointer (some ⟨RB, 0, none⟩), _, _, .pointer (some ⟨CB, 0, none⟩), .int .i64 V, _, .pointer (some ⟨CB, 1, none⟩), _, _, _, _, _, _, _, _, _, _, _, _, _, _, _, _, _, _, _, _, _, _, _, _], defers := _ } _
  refine alongK_read (.int .i64 H) rfl rfl (fun wx hS => ex_load Tryz.isAgg3 rfl rfl wx ((ct_cells (HCB.out wx hS)).2.1)) ?_
  change AlongK _ _ _ _ _ { tmps := #[.agg #[b, .int .i64 E], .agg #[.int .i64 V, .int .i64 H, .string (strOfNums BL), .slice a n cap], .pointer (some ⟨WB, 0, none⟩), .pointer (some ⟨CB, 0, none⟩), .pointer (some ⟨RB, 0, none⟩), _, _, .pointer (some ⟨CB, 0, none⟩), .int .i64 V, _, .pointer (some ⟨CB, 1, none⟩), .int .i64 H, _, _, _, _, _, _, _, _, _, _, _, _, _, _, _, _, _, _, _, _, _, _, _], defers := _ } _
  refine alongK_read (.pointer (some ⟨CB, 2, none⟩)) rfl rfl (fun wx hS => ex_field rfl rfl wx (by simp [go_sem])) ?_
  change AlongK _ _ _ _ _ { tmps := #[.agg #[b, .int .i64 E], .agg #[.int .i64 V, .int .i64 H, .string (strOfNums BL), .slice a n cap], .pointer (some ⟨WB, 0, none⟩), .pointer (some ⟨CB, 0, none⟩), .pointer (some ⟨RB, 0, none⟩), _, _, .pointer (some ⟨CB, 0, none⟩), .int .i64 V, _, .pointer (some ⟨CB, 1, none⟩), .int .i64 H, _, .pointer (some ⟨CB, 2, none⟩), _, _, _, _, _, _, _, _, _, _, _, _, _, _, _, _, _, _, _, _, _], defers := _ } _
  refine alongK_read (.string (strOfNums BL)) rfl rfl (fun wx hS => ex_load Tryz.isAgg9 rfl rfl wx ((ct_cells (HCB.out wx hS)).2.2.1)) ?_
  change AlongK _ _ _ _ _ { tmps := #[.agg #[b, .int .i64 E], .agg #[.int .i64 V, .int .i64 H, .string (strOfNums BL), .slice a n cap], .pointer (some ⟨WB, 0, none⟩), .pointer (some ⟨CB, 0, none⟩), .pointer (some ⟨RB, 0, none⟩), _, _, .pointer (some ⟨CB, 0, none⟩), .int .i64 V, _, .pointer (some ⟨CB, 1, none⟩), .int .i64 H, _, .pointer (some ⟨CB, 2, none⟩), .string (strOfNums BL), _, _, _, _, _, _, _, _, _, _, _, _, _, _, _, _, _, _, _, _], defers := _ } _
  refine alongK_read (.pointer (some ⟨CB, 3, none⟩)) rfl rfl (fun wx hS => ex_field rfl rfl wx (by simp [go_sem])) ?_
  change AlongK _ _ _ _ _ { tmps := #[.agg #[b, .int .i64 E], .agg #[.int .i64 V, .int .i64 H, .string (strOfNums BL), .slice a n cap], .pointer (some ⟨WB, 0, none⟩), .pointer (some ⟨CB, 0, none⟩), .pointer (some ⟨RB, 0, none⟩), _, _, .pointer (some ⟨CB, 0, none⟩), .int .i64 V, _, .pointer (some ⟨CB, 1, none⟩), .int .i64 H, _, .pointer (some ⟨CB, 2, none⟩), .string (strOfNums BL), _, .pointer (some ⟨CB, 3, none⟩), _, _, _, _, _, _, _, _, _, _, _, _, _, _, _, _, _, _], defers := _ } _
  refine alongK_read (.slice a n cap) rfl rfl (fun wx hS => ex_load Tryz.isAgg22 rfl rfl wx ((ct_cells (HCB.out wx hS)).2.2.2)) ?_
  change AlongK _ _ _ _ _ { tmps := #[.agg #[b, .int .i64 E], .agg #[.int .i64 V, .int .i64 H, .string (strOfNums BL), .slice a n cap], .pointer (some ⟨WB, 0, none⟩), .pointer (some ⟨CB, 0, none⟩), .pointer (some ⟨RB, 0, none⟩), _, _, .pointer (some ⟨CB, 0, none⟩), .int .i64 V, _, .pointer (some ⟨CB, 1, none⟩), .int .i64 H, _, .pointer (some ⟨CB, 2, none⟩), .string (strOfNums BL), _, .pointer (some ⟨CB, 3, none⟩), .slice a n cap, _, _, _, _, _, _, _, _, _, _, _, _, _, _, _, _, _], defers := _ } _
  refine alongK_read (.int .i64 n) rfl rfl (fun wx hS => ex_lensl Tryz.underlying22 rfl rfl wx) ?_
  change AlongK _ _ _ _ _ { tmps := #[.agg #[b, .int .i64 E], .agg #[.int .i64 V, .int .i64 H, .string (strOfNums BL), .slice a n cap], .pointer (some ⟨WB, 0, none⟩), .pointer (some ⟨CB, 0, none⟩), .pointer (some ⟨RB, 0, none⟩), _, _, .pointer (some ⟨CB, 0, none⟩), .int .i64 V, _, .pointer (some ⟨CB, 1, none⟩), .int .i64 H, _, .pointer (some ⟨CB, 2, none⟩), .string (strOfNums BL), _, .pointer (some ⟨CB, 3, none⟩), .slice a n cap, .int .i64 n, _, _, _, _, _, _, _, _, _, _, _, _, _, _, _, _], defers := _ } _
  refine alongK_step ?_
  refine opK_run (.agg #[b, .int .i64 E]) wz.drew rfl rfl (ex_loadrow rfl rfl wz.drew 38 (HWB0.out : wz.drew.heap[WB]? = _) Tryz.underlying38 rfl info_refW) (fun x => KeptBut (fun k => k = WB) wz x) (fun _ h => h) (KeptBut.of_up (Up.drew1 wz)) ?_
  change AlongK _ _ _ _ _ { tmps := #[.agg #[b, .int .i64 E], .agg #[.int .i64 V, .int .i64 H, .string (strOfNums BL), .slice a n cap], .pointer (some ⟨WB, 0, none⟩), .pointer (some ⟨CB, 0, none⟩), .pointer (some ⟨RB, 0, none⟩), _, .agg #[b, .int .i64 E], .pointer (some ⟨CB, 0, none⟩), .int .i64 V, _, .pointer (some ⟨CB, 1, none⟩), .int .i64 H, _, .pointer (some ⟨CB, 2, none⟩), .string (strOfNums BL), _, .pointer (some ⟨CB, 3, none⟩), .slice a n cap, .int .i64 n, _, _, _, _, _, _, _, _, _, _, _, _, _, _, _, _], defers := _ } _
  refine alongK_step ?_
  refine opK_call (vs := [.agg #[b, .int .i64 E], .int .i64 V]) rfl rfl rfl (enters_of Tryz.func27 (by kernel_rfl) rfl) rfl ?_
  with_reducible refine Calls.mono (refNum_any b (E) (bs) V _ (HI.out _ (Up.drew1 wz)) (Nat.le_trans HL.out (by decide))) ?_
  rintro e w1 ⟨b1, rfl, hI1, hU1, _⟩
  refine ⟨_, rfl, (fun x => KeptBut (fun k => k = WB) wz x), (fun _ h => h), (KeptBut.of_up (Up.trans (Up.drew1 wz) hU1)), ?_⟩
  change AlongK _ _ _ _ _ { tmps := #[.agg #[b, .int .i64 E], .agg #[.int .i64 V, .int .i64 H, .string (strOfNums BL), .slice a n cap], .pointer (some ⟨WB, 0, none⟩), .pointer (some ⟨CB, 0, none⟩), .pointer (some ⟨RB, 0, none⟩), _, .agg #[b, .int .i64 E], .pointer (some ⟨CB, 0, none⟩), .int .i64 V, .agg #[b1, .int .i64 (wNumE (E) V)], .pointer (some ⟨CB, 1, none⟩), .int .i64 H, _, .pointer (some ⟨CB, 2, none⟩), .string (strOfNums BL), _, .pointer (some ⟨CB, 3, none⟩), .slice a n cap, .int .i64 n, _, _, _, _, _, _, _, _, _, _, _, _, _, _, _, _], defers := _ } _
  refine alongK_step ?_
  refine opK_call (vs := [.agg #[b1, .int .i64 (wNumE (E) V)], .int .i64 H]) rfl rfl rfl (enters_of Tryz.func27 (by kernel_rfl) rfl) rfl ?_
  with_reducible refine Calls.mono (refNum_any b1 (wNumE (E) V) (rNumB (bs) V) H _ hI1 (Nat.le_trans (rNumB_len V HL.out) (by decide))) ?_
  rintro e w2 ⟨b2, rfl, hI2, hU2, _⟩
  refine ⟨_, rfl, (fun x => KeptBut (fun k => k = WB) wz x), (fun _ h => h), (KeptBut.of_up (Up.trans (Up.trans (Up.drew1 wz) hU1) hU2)), ?_⟩
  change AlongK _ _ _ _ _ { tmps := #[.agg #[b, .int .i64 E], .agg #[.int .i64 V, .int .i64 H, .string (strOfNums BL), .slice a n cap], .pointer (some ⟨WB, 0, none⟩), .pointer (some ⟨CB, 0, none⟩), .pointer (some ⟨RB, 0, none⟩), _, .agg #[b, .int .i64 E], .pointer (some ⟨CB, 0, none⟩), .int .i64 V, .agg #[b1, .int .i64 (wNumE (E) V)], .pointer (some ⟨CB, 1, none⟩), .int .i64 H, .agg #[b2, .int .i64 (wNumE (wNumE (E) V) H)], .pointer (some ⟨CB, 2, none⟩), .string (strOfNums BL), _, .pointer (some ⟨CB, 3, none⟩), .slice a n cap, .int .i64 n, _, _, _, _, _, _, _, _, _, _, _, _, _, _, _, _], defers := _ } _
  refine alongK_step ?_
  refine opK_call (vs := [.agg #[b2, .int .i64 (wNumE (wNumE (E) V) H)], .string (strOfNums BL)]) rfl rfl rfl (enters_of Tryz.func28 (by kernel_rfl) rfl) rfl ?_
  with_reducible refine Calls.mono (refText_any b2 (wNumE (wNumE (E) V) H) (rNumB (rNumB (bs) V) H) BL _ hI2 HBL.out (Nat.le_trans (rNumB_len H (rNumB_len V HL.out)) (by decide)) HBN.out) ?_
  rintro e w3 ⟨b3, rfl, hI3, hU3, _⟩
  refine ⟨_, rfl, (fun x => KeptBut (fun k => k = WB) wz x), (fun _ h => h), (KeptBut.of_up (Up.trans (Up.trans (Up.trans (Up.drew1 wz) hU1) hU2) hU3)), ?_⟩
  change AlongK _ _ _ _ _ { tmps := #[.agg #[b, .int .i64 E], .agg #[.int .i64 V, .int .i64 H, .string (strOfNums BL), .slice a n cap], .pointer (some ⟨WB, 0, none⟩), .pointer (some ⟨CB, 0, none⟩), .pointer (some ⟨RB, 0, none⟩), _, .agg #[b, .int .i64 E], .pointer (some ⟨CB, 0, none⟩), .int .i64 V, .agg #[b1, .int .i64 (wNumE (E) V)], .pointer (some ⟨CB, 1, none⟩), .int .i64 H, .agg #[b2, .int .i64 (wNumE (wNumE (E) V) H)], .pointer (some ⟨CB, 2, none⟩), .string (strOfNums BL), .agg #[b3, .int .i64 (wTextE (wNumE (wNumE (E) V) H) BL)], .pointer (some ⟨CB, 3, none⟩), .slice a n cap, .int .i64 n, _, _, _, _, _, _, _, _, _, _, _, _, _, _, _, _], defers := _ } _
  refine alongK_step ?_
  refine opK_call (vs := [.agg #[b3, .int .i64 (wTextE (wNumE (wNumE (E) V) H) BL)], .int .i64 (n : Int)]) rfl rfl rfl (enters_of Tryz.func27 (by kernel_rfl) rfl) rfl ?_
  with_reducible refine Calls.mono (refNum_any b3 (wTextE (wNumE (wNumE (E) V) H) BL) (rTextB (rNumB (rNumB (bs) V) H) BL) (n : Int) _ hI3 (Nat.le_trans (rTextB_len BL (rNumB_len H (rNumB_len V HL.out))) (by decide))) ?_
  rintro e w4 ⟨b4, rfl, hI4, hU4, _⟩
  refine ⟨_, rfl, (fun x => KeptBut (fun k => k = WB) wz x), (fun _ h => h), (KeptBut.of_up (Up.trans (Up.trans (Up.trans (Up.trans (Up.drew1 wz) hU1) hU2) hU3) hU4)), ?_⟩
  change AlongK _ _ _ _ _ { tmps := #[.agg #[b, .int .i64 E], .agg #[.int .i64 V, .int .i64 H, .string (strOfNums BL), .slice a n cap], .pointer (some ⟨WB, 0, none⟩), .pointer (some ⟨CB, 0, none⟩), .pointer (some ⟨RB, 0, none⟩), _, .agg #[b, .int .i64 E], .pointer (some ⟨CB, 0, none⟩), .int .i64 V, .agg #[b1, .int .i64 (wNumE (E) V)], .pointer (some ⟨CB, 1, none⟩), .int .i64 H, .agg #[b2, .int .i64 (wNumE (wNumE (E) V) H)], .pointer (some ⟨CB, 2, none⟩), .string (strOfNums BL), .agg #[b3, .int .i64 (wTextE (wNumE (wNumE (E) V) H) BL)], .pointer (some ⟨CB, 3, none⟩), .slice a n cap, .int .i64 n, .agg #[b4, .int .i64 (wNumE (wTextE (wNumE (wNumE (E) V) H) BL) (n : Int))], _, _, _, _, _, _, _, _, _, _, _, _, _, _, _], defers := _ } _
  refine alongK_step ?_
  have hUX := (Up.trans (Up.trans (Up.trans (Up.trans (Up.drew1 wz) hU1) hU2) hU3) hU4)
  have hR4 := (hUX.block _ (lt_of_block HWB0.out)).trans HWB0.out
  refine opK_store (w4.setRow WB #[b4, .int .i64 (wNumE (wTextE (wNumE (wNumE (E) V) H) BL) (n : Int))]) rfl rfl (ex_storerow rfl rfl rfl w4 38 hR4 info_refW rfl (one_w hI4 _)) (fun x => KeptBut (fun k => k = WB) wz x) (fun _ h => h) ((KeptBut.of_up hUX).trans (KeptBut.of_grown (S := fun k => k = WB) (grownBy_setRow w4 WB #[b4, .int .i64 (wNumE (wTextE (wNumE (wNumE (E) V) H) BL) (n : Int))]) (fun k e => by cases e; rfl)) (fun _ _ e => e)) ?_
  change AlongK _ _ _ _ _ { tmps := #[.agg #[b, .int .i64 E], .agg #[.int .i64 V, .int .i64 H, .string (strOfNums BL), .slice a n cap], .pointer (some ⟨WB, 0, none⟩), .pointer (some ⟨CB, 0, none⟩), .pointer (some ⟨RB, 0, none⟩), _, .agg #[b, .int .i64 E], .pointer (some ⟨CB, 0, none⟩), .int .i64 V, .agg #[b1, .int .i64 (wNumE (E) V)], .pointer (some ⟨CB, 1, none⟩), .int .i64 H, .agg #[b2, .int .i64 (wNumE (wNumE (E) V) H)], .pointer (some ⟨CB, 2, none⟩), .string (strOfNums BL), .agg #[b3, .int .i64 (wTextE (wNumE (wNumE (E) V) H) BL)], .pointer (some ⟨CB, 3, none⟩), .slice a n cap, .int .i64 n, .agg #[b4, .int .i64 (wNumE (wTextE (wNumE (wNumE (E) V) H) BL) (n : Int))], _, _, _, _, _, _, _, _, _, _, _, _, _, _, _], defers := _ } _
  refine alongK_done ?_
  have HG4 := grownBy_setRow w4 WB #[b4, .int .i64 (wNumE (wTextE (wNumE (wNumE (E) V) H) BL) (n : Int))]
  have HE4 := Lib.hid (setRow_heap w4 WB _ #[b4, .int .i64 (wNumE (wTextE (wNumE (wNumE (E) V) H) BL) (n : Int))] 38 (0, 0) hR4)
  have HK4 := Lib.hid ((KeptBut.of_up hUX).trans (KeptBut.of_grown (S := fun k => k = WB) HG4 (fun k e => by cases e; rfl)) (fun _ _ e => e))
  have HI4 := Lib.hid (ints_row2 hI4 HG4 hR4 (HI.out _ (Up.refl wz)))
  generalize w4.setRow WB #[b4, .int .i64 (wNumE (wTextE (wNumE (wNumE (E) V) H) BL) (n : Int))] = wc at HE4 HK4 HI4 ⊢
  clear hI4 HG4 hR4 hUX hU1 hU2 hU3 hU4 hI1 hI2 hI3
  replace HE4 : Hid (wc.heap[WB]? = some (.cells #[b4, .int .i64 E0] 38 (0, 0))) := by rw [← HE0.out]; exact HE4.out
  replace HI4 : Hid (Ints .u8 wc b4 B0) := by rw [← HB0.out]; exact HI4.out
  replace HCL : Hid (B0.length ≤ 20482) := by rw [← HB0.out]; exact HCL.out
  clear HE0 HB0
  go_wp2
  go_loopw [5] (fun vi wr => ∃ (i : Nat) (bi : Value), vi = .int .i64 (i : Nat) ∧ i ≤ n ∧ Hid (wr.heap[WB]? = some (.cells #[bi, .int .i64 (ctRE (E0, B0) (xs.take i)).1] 38 (0, 0))) ∧ Hid (Ints .u8 wr bi (ctRE (E0, B0) (xs.take i)).2) ∧ Hid (KeptBut (fun k => k = WB) wz wr))
    (fun vi _ => n - (intOf vi).toNat)
  case atStart => exact ⟨0, b4, rfl, Nat.zero_le _, HE4, HI4, HK4⟩
  case round =>
    obtain ⟨i, bi, rfl, hi, HWR, HIR, HKR⟩ := hrel
    have k3 := (ct_cells (HCB.out _ HKR.out)).2.2.2
    by_cases hlt : i < n
    · have hz : (i : Int) < (n : Int) := by omega
      have HIN := Lib.hid hlt
      obtain ⟨x, hx⟩ : ∃ x, xs[i]? = some x := ⟨xs[i]'(by have := HN.out; omega), List.getElem?_eq_getElem _⟩
      obtain ⟨g, off, hb1⟩ := (HVz0.out).ptr (by have := HN.out; omega)
      subst hb1
      have HNX := Lib.hid (ctRE_next (E0, B0) hx)
      have HLN := Lib.hid (ctRE_len (xs.take i) (E0, B0) HCL.out)
      have HXO := Lib.hid (HOK.out i x hx)
      have HLD : Hid (∀ wx, KeptBut (fun k => k = WB) wr wx → (loadVar 49 ⟨g, off + i * 7, none⟩).run Tryz.prog wx = .ok (.agg (vsA x)) wx) := fun wx u => (HVA.out wx (HKR.out.trans u (fun _ _ e => e))).load hx
      have HCR : Hid (∀ wx, KeptBut (fun k => k = WB) wr wx → wx.heap[CB]? = some (.cells #[.int .i64 V, .int .i64 H, .string (strOfNums BL), .slice (some ⟨g, off, none⟩) n cap] 24 (0, 0))) := fun wx u => HCB.out wx (HKR.out.trans u (fun _ _ e => e))
      generalize ctRE (E0, B0) (xs.take i) = pq at HWR HIR HNX HLN ⊢
      obtain ⟨Ei, Bi⟩ := pq
      simp only at HWR HIR HNX HLN ⊢
      have HPV : Hid (∀ wx, Up wr wx → Calls Tryz.prog 29 #[.agg #[bi, .int .i64 Ei], .agg (vsA x)] wx (RPto wx (pvE Ei x) (pvB Bi x))) := fun wx u => refPutVote_any bi Ei Bi x wx (HIR.out.up u) HLN.out HXO.out
      clear hx
      go_wp2_with fail
      refine region_alongK (fun x => KeptBut (fun k => k = WB) wr x) (.read 1 (.read 2 (.read 3 (.read 4 (.read 5 (.step 0 (.step 6 (.step 7 (.nil))))))))) (by kernel_rfl) rfl (by kernel_rfl) (by kernel_rfl) (fun c a d v w h => by cases d <;> exact h) (KeptBut.of_up (Up.drew1 wr)) ?_
      refine alongK_read (.pointer (some ⟨CB, 3, none⟩)) rfl rfl (fun wx hS => ex_field rfl rfl wx (by simp [go_sem])) ?_
      change AlongK _ _ _ _ _ { tmps := #[_, _, .pointer (some ⟨WB, 0, none⟩), .pointer (some ⟨CB, 0, none⟩), .pointer (some ⟨RB, 0, none⟩), .int .i64 (i : Int), _, _, _, _, _, _, _, _, _, _, _, _, _, _, _, _, _, _, _, _, _, _, .pointer (some ⟨CB, 3, none⟩), _, _, _, _, _, _], defers := _ } _
      refine alongK_read (.slice (some ⟨g, off, none⟩) n cap) rfl rfl (fun wx hS => ex_load Tryz.isAgg22 rfl rfl wx ((ct_cells (HCR.out wx hS)).2.2.2)) ?_
      change AlongK _ _ _ _ _ { tmps := #[_, _, .pointer (some ⟨WB, 0, none⟩), .pointer (some ⟨CB, 0, none⟩), .pointer (some ⟨RB, 0, none⟩), .int .i64 (i : Int), _, _, _, _, _, _, _, _, _, _, _, _, _, _, _, _, _, _, _, _, _, _, .pointer (some ⟨CB, 3, none⟩), .slice (some ⟨g, off, none⟩) n cap, _, _, _, _, _], defers := _ } _
      refine alongK_read (.int .i64 (i : Int)) rfl rfl (fun wx hS => ex_move (by rfl) (by rfl) wx) ?_
      change AlongK _ _ _ _ _ { tmps := #[_, _, .pointer (some ⟨WB, 0, none⟩), .pointer (some ⟨CB, 0, none⟩), .pointer (some ⟨RB, 0, none⟩), .int .i64 (i : Int), _, _, _, _, _, _, _, _, _, _, _, _, _, _, _, _, _, _, _, _, _, _, .pointer (some ⟨CB, 3, none⟩), .slice (some ⟨g, off, none⟩) n cap, .int .i64 (i : Int), _, _, _, _], defers := _ } _
      refine alongK_read (.pointer (some ⟨g, off + i * 7, none⟩)) rfl rfl (fun wx hS => ex_index Tryz.underlying22 Tryz.sizeOf49 rfl rfl rfl (HIN.out) wx) ?_
      change AlongK _ _ _ _ _ { tmps := #[_, _, .pointer (some ⟨WB, 0, none⟩), .pointer (some ⟨CB, 0, none⟩), .pointer (some ⟨RB, 0, none⟩), .int .i64 (i : Int), _, _, _, _, _, _, _, _, _, _, _, _, _, _, _, _, _, _, _, _, _, _, .pointer (some ⟨CB, 3, none⟩), .slice (some ⟨g, off, none⟩) n cap, .int .i64 (i : Int), .pointer (some ⟨g, off + i * 7, none⟩), _, _, _], defers := _ } _
      refine alongK_read (.agg (vsA x)) rfl rfl (fun wx hS => ex_ldv rfl rfl (HLD.out wx hS)) ?_
      change AlongK _ _ _ _ _ { tmps := #[_, _, .pointer (some ⟨WB, 0, none⟩), .pointer (some ⟨CB, 0, none⟩), .pointer (some ⟨RB, 0, none⟩), .int .i64 (i : Int), _, _, _, _, _, _, _, _, _, _, _, _, _, _, _, _, _, _, _, _, _, _, .pointer (some ⟨CB, 3, none⟩), .slice (some ⟨g, off, none⟩) n cap, .int .i64 (i : Int), .pointer (some ⟨g, off + i * 7, none⟩), .agg (vsA x), _, _], defers := _ } _
      refine alongK_step ?_
      refine opK_run (.agg #[bi, .int .i64 Ei]) wr.drew rfl rfl (ex_loadrow rfl rfl wr.drew 38 (HWR.out : wr.drew.heap[WB]? = _) Tryz.underlying38 rfl info_refW) (fun x => KeptBut (fun k => k = WB) wr x) (fun _ h => h) (KeptBut.of_up (Up.drew1 wr)) ?_
      change AlongK _ _ _ _ _ { tmps := #[_, _, .pointer (some ⟨WB, 0, none⟩), .pointer (some ⟨CB, 0, none⟩), .pointer (some ⟨RB, 0, none⟩), .int .i64 (i : Int), _, _, _, _, _, _, _, _, _, _, _, _, _, _, _, _, _, _, _, _, _, .agg #[bi, .int .i64 Ei], .pointer (some ⟨CB, 3, none⟩), .slice (some ⟨g, off, none⟩) n cap, .int .i64 (i : Int), .pointer (some ⟨g, off + i * 7, none⟩), .agg (vsA x), _, _], defers := _ } _
      refine alongK_step ?_
      refine opK_call (vs := [.agg #[bi, .int .i64 Ei], .agg (vsA x)]) rfl rfl rfl (enters_of Tryz.func29 (by kernel_rfl) rfl) rfl ?_
      with_reducible refine Calls.mono (HPV.out _ (Up.drew1 wr)) ?_
      rintro e w5 ⟨b5, rfl, hI5, hU5⟩
      refine ⟨_, rfl, (fun x => KeptBut (fun k => k = WB) wr x), (fun _ h => h), (KeptBut.of_up (Up.trans (Up.drew1 wr) hU5)), ?_⟩
      change AlongK _ _ _ _ _ { tmps := #[_, _, .pointer (some ⟨WB, 0, none⟩), .pointer (some ⟨CB, 0, none⟩), .pointer (some ⟨RB, 0, none⟩), .int .i64 (i : Int), _, _, _, _, _, _, _, _, _, _, _, _, _, _, _, _, _, _, _, _, _, .agg #[bi, .int .i64 Ei], .pointer (some ⟨CB, 3, none⟩), .slice (some ⟨g, off, none⟩) n cap, .int .i64 (i : Int), .pointer (some ⟨g, off + i * 7, none⟩), .agg (vsA x), .agg #[b5, .int .i64 (pvE Ei x)], _], defers := _ } _
      refine alongK_step ?_
      have hUX := Up.trans (Up.drew1 wr) hU5
      have hR5 := (hUX.block _ (lt_of_block HWR.out)).trans HWR.out
      refine opK_store (w5.setRow WB #[b5, .int .i64 (pvE Ei x)]) rfl rfl (ex_storerow rfl rfl rfl w5 38 hR5 info_refW rfl (one_w hI5 _)) (fun x => KeptBut (fun k => k = WB) wr x) (fun _ h => h) ((KeptBut.of_up hUX).trans (KeptBut.of_grown (S := fun k => k = WB) (grownBy_setRow w5 WB #[b5, .int .i64 (pvE Ei x)]) (fun k e => by cases e; rfl)) (fun _ _ e => e)) ?_
      change AlongK _ _ _ _ _ { tmps := #[_, _, .pointer (some ⟨WB, 0, none⟩), .pointer (some ⟨CB, 0, none⟩), .pointer (some ⟨RB, 0, none⟩), .int .i64 (i : Int), _, _, _, _, _, _, _, _, _, _, _, _, _, _, _, _, _, _, _, _, _, .agg #[bi, .int .i64 Ei], .pointer (some ⟨CB, 3, none⟩), .slice (some ⟨g, off, none⟩) n cap, .int .i64 (i : Int), .pointer (some ⟨g, off + i * 7, none⟩), .agg (vsA x), .agg #[b5, .int .i64 (pvE Ei x)], _], defers := _ } _
      refine alongK_done ?_
      have HG5 := grownBy_setRow w5 WB #[b5, .int .i64 (pvE Ei x)]
      have HE5 := Lib.hid (setRow_heap w5 WB _ #[b5, .int .i64 (pvE Ei x)] 38 (0, 0) hR5)
      have HK5 := Lib.hid (HKR.out.trans ((KeptBut.of_up hUX).trans (KeptBut.of_grown (S := fun k => k = WB) HG5 (fun k e => by cases e; rfl)) (fun _ _ e => e)) (fun _ _ e => e))
      have HI5 := Lib.hid (ints_row2 hI5 HG5 hR5 HIR.out)
      generalize w5.setRow WB #[b5, .int .i64 (pvE Ei x)] = w6 at HE5 HK5 HI5 ⊢
      clear HG5 hR5 hUX hI5 hU5
      go_wp2
      go_roundw
      case rel => exact ⟨i + 1, b5, by go_num, HIN.out, Lib.hid (by rw [HNX.out]; exact HE5.out), Lib.hid (by rw [HNX.out]; exact HI5.out), HK5⟩
      case measure => simp [intOf]; omega
    · have hie : i = n := by omega
      have hz : ¬ (i : Int) < (n : Int) := by omega
      subst hie
      have ht : xs.take i = xs := List.take_of_length_le (by have := HN.out; omega)
      rw [ht] at HWR HIR
      obtain ⟨Ei, hEi⟩ : ∃ Ei, (ctRE (E0, B0) xs).1 = Ei := ⟨_, rfl⟩
      have HEI := Lib.hid hEi
      replace HWR : Hid (wr.heap[WB]? = some (.cells #[bi, .int .i64 Ei] 38 (0, 0))) := by rw [← hEi]; exact HWR.out
      clear hEi
      have HRR := Lib.hid (HRB.out _ HKR.out)
      have hone := one_w HIR.out Ei
      go_wp2_with (first | (refine wpList_ex rfl (.agg #[bi, .int .i64 Ei]) _ (ex_loadrow (x := .tmp 2) rfl rfl _ 38 HWR.out Tryz.underlying38 rfl info_refW) ?_) | (refine wpList_exs rfl (wr.setRow RB #[bi, .int .i64 Ei]) (ex_storerow (x := .tmp 4) (y := .tmp 34) rfl rfl rfl wr 38 HRR.out info_refW rfl hone) ?_))
      have HG := grownBy_setRow wr RB #[bi, .int .i64 Ei]
      have HE := setRow_heap wr RB _ #[bi, .int .i64 Ei] 38 (0, 0) HRR.out
      have HUF := up_at (up_kept HUz.out HKR.out HWL2.out.1) HG HWL2.out.2
      exact bodyPost_ret (results_cell_row rfl _ _ _ _ _ _ _ rfl HE Tryz.underlying38 rfl info_refW) rfl ⟨bi, by rw [HEI.out], ints_row HIR.out HG HRR.out, HUF⟩
end
end Go.Proofs.YtfenmhddlojahaaGreat
