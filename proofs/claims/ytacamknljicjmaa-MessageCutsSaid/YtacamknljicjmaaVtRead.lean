import Derived.Test.YtacamknljicjmaaVtCheck
import Derived.Test.YtacamknljicjmaaTxRead
import Derived.Test.YtacamknljicjmaaPkReader
import Derived.Test.YtacamknljicjmaaAlong
namespace Go.Proofs.Ytacamknljicjmaa
/-
  vote: Read, of whatever reader.
-/
section
set_option maxRecDepth 100000
section
set_option linter.unusedVariables false
open Go.RowKit

def noVt : Array Value := #[.int .i64 0, .int .i64 0, .int .i64 0, .string ⟨#[]⟩, .int .i64 0, .int .i64 0, .string ⟨#[]⟩]
theorem alloc_vt (w : World) : (Instr.alloc 29 true (.tuple #[])).run Try.prog w = .ok (.pointer (some ⟨w.heap.size, 0, none⟩)) (w.alloc (.cells noVt 29)) := by
  simp [noVt, go_sem]
theorem one_vt (K V H : Int) (B : ByteArray) (T G : Int) (S : ByteArray) : (#[.int .i64 K, .int .i64 V, .int .i64 H, .string B, .int .i64 T, .int .i64 G, .string S] : Array Value).all (·.oneCell') = true := by simp [Value.oneCell']
theorem results_vt {fn : Func} {p : Tmp} (h : fn.results = #[.cell p 29]) (tmps : Array Value) (w : World) (B : Nat) (cs : Array Value) (hp : tmps.getD p undef = .pointer (some ⟨B, 0, none⟩))
    (hg : w.heap[B]? = some (.cells cs 29 (0, 0))) (hs : cs.size = 7) :
    (results fn tmps).run Try.prog w = .ok (.agg cs) w := by
  have hp' : tmps[p]?.getD undef = .pointer (some ⟨B, 0, none⟩) := by simpa using hp
  have hl := run_loadVar_row (P := Try.prog) w B 29 29 cs (0, 0) _ hg Try.underlying29 rfl (by rw [info_vt, hs])
  simp [results, h, hp', asAddr, hl]

/-- what a number, a text is, read by no closer bounds than pack's, and the reader's state behind it -/
def rvNum (q : Int × List Int) : Int := (rdNum q.1 q.2 1099511627776).1
def rvNumS (q : Int × List Int) : Int × List Int := ((rdNum q.1 q.2 1099511627776).2.1, (rdNum q.1 q.2 1099511627776).2.2)
def rvTxt (q : Int × List Int) : List Int := (rdText q.1 q.2 4096).1
def rvTxtS (q : Int × List Int) : Int × List Int := ((rdText q.1 q.2 4096).2.1, (rdText q.1 q.2 4096).2.2)
/-- a reader's state -/
def RvInv (q : Int × List Int) : Prop := (q.1 ≠ 0 → q.2 = []) ∧ U8s q.2
theorem rvNum_inv {q : Int × List Int} (h : RvInv q) : RvInv (rvNumS q) := ⟨(rdNum_inv _ _ 1099511627776 h.1 h.2).1, (rdNum_inv _ _ 1099511627776 h.1 h.2).2.1⟩
theorem rvTxt_inv {q : Int × List Int} (h : RvInv q) : RvInv (rvTxtS q) := ⟨(rdText_inv _ _ 4096 h.1 h.2).1, (rdText_inv _ _ 4096 h.1 h.2).2.1⟩
/-- a statement's fields, and the reader's states -/
def vr0 (p : Int × List Int) : Int × List Int := rvTxtS p
def vr1 (p : Int × List Int) : Int × List Int := rvNumS (vr0 p)
def vr2 (p : Int × List Int) : Int × List Int := rvNumS (vr1 p)
def vr3 (p : Int × List Int) : Int × List Int := rvNumS (vr2 p)
def vr4 (p : Int × List Int) : Int × List Int := rvTxtS (vr3 p)
def vr5 (p : Int × List Int) : Int × List Int := rvNumS (vr4 p)
def vr6 (p : Int × List Int) : Int × List Int := rvNumS (vr5 p)
def vr7 (p : Int × List Int) : Int × List Int := rvTxtS (vr6 p)
def vrV (p : Int × List Int) : Vt := ⟨rvNum (vr0 p), rvNum (vr1 p), rvNum (vr2 p), rvTxt (vr3 p), rvNum (vr4 p), rvNum (vr5 p)⟩
def vrSig (p : Int × List Int) : List Int := rvTxt (vr6 p)
theorem vr_inv {p : Int × List Int} (h : RvInv p) : RvInv (vr0 p) ∧ RvInv (vr1 p) ∧ RvInv (vr2 p) ∧ RvInv (vr3 p) ∧ RvInv (vr4 p) ∧ RvInv (vr5 p) ∧ RvInv (vr6 p) ∧ RvInv (vr7 p) := by
  have h0 : RvInv (vr0 p) := rvTxt_inv h
  have h1 : RvInv (vr1 p) := rvNum_inv h0
  have h2 : RvInv (vr2 p) := rvNum_inv h1
  have h3 : RvInv (vr3 p) := rvNum_inv h2
  have h4 : RvInv (vr4 p) := rvTxt_inv h3
  have h5 : RvInv (vr5 p) := rvNum_inv h4
  have h6 : RvInv (vr6 p) := rvNum_inv h5
  exact ⟨h0, h1, h2, h3, h4, h5, h6, rvTxt_inv h6⟩
/-- that what was read may be -/
def VrOk (p : Int × List Int) : Prop := (vr7 p).1 = 0 ∧ strOfNums (rvTxt p) = ⟨#[118, 111, 116, 101]⟩ ∧ vtE (vrV p) (strOfNums (vrSig p)) = 0
open Classical in
/-- what Read tells -/
noncomputable def rVtC (p : Int × List Int) : Array Value := if VrOk p then vtC (vrV p) (strOfNums (vrSig p)) else noVt

set_option maxHeartbeats 4000000 in
theorem vtRead_any (g : Nat) (l : Value) (E : Int) (zs : List Int) (w : World) (h : Rd w g l E zs) (h0 : E ≠ 0 → zs = []) (hu : U8s zs) (hl : ∀ k, l.ownBlock = some k → k < w.heap.size) :
    Calls Try.prog 36 #[.pointer (some ⟨g, 0, none⟩)] w fun e w' => e = .returned (.agg (rVtC (E, zs))) ∧ Reads g l w (vr7 (E, zs)).1 (vr7 (E, zs)).2 w' := by
  have hi := vr_inv (p := (E, zs)) ⟨h0, hu⟩
  have C0 : Hid (∀ W, Reads g l w E zs W → Calls Try.prog 38 #[.pointer (some ⟨g, 0, none⟩), .int .i64 4096] W fun e w' => e = .returned (.string (strOfNums (rvTxt (E, zs)))) ∧ Reads g l w (vr0 (E, zs)).1 (vr0 (E, zs)).2 w' ∧ W.grownBy w' (some g)) := fun W hW => rtext_on g l _ _ 4096 w W hW hu (by omega)
  have C1 : Hid (∀ W, Reads g l w (vr0 (E, zs)).1 (vr0 (E, zs)).2 W → Calls Try.prog 34 #[.pointer (some ⟨g, 0, none⟩), .int .i64 1099511627776] W fun e w' => e = .returned (.int .i64 ((vrV (E, zs)).K)) ∧ Reads g l w (vr1 (E, zs)).1 (vr1 (E, zs)).2 w' ∧ W.grownBy w' (some g)) := fun W hW => rnum_on g l _ _ _ w W hW hi.1.2 (by omega)
  have C2 : Hid (∀ W, Reads g l w (vr1 (E, zs)).1 (vr1 (E, zs)).2 W → Calls Try.prog 34 #[.pointer (some ⟨g, 0, none⟩), .int .i64 1099511627776] W fun e w' => e = .returned (.int .i64 ((vrV (E, zs)).V)) ∧ Reads g l w (vr2 (E, zs)).1 (vr2 (E, zs)).2 w' ∧ W.grownBy w' (some g)) := fun W hW => rnum_on g l _ _ _ w W hW hi.2.1.2 (by omega)
  have C3 : Hid (∀ W, Reads g l w (vr2 (E, zs)).1 (vr2 (E, zs)).2 W → Calls Try.prog 34 #[.pointer (some ⟨g, 0, none⟩), .int .i64 1099511627776] W fun e w' => e = .returned (.int .i64 ((vrV (E, zs)).H)) ∧ Reads g l w (vr3 (E, zs)).1 (vr3 (E, zs)).2 w' ∧ W.grownBy w' (some g)) := fun W hW => rnum_on g l _ _ _ w W hW hi.2.2.1.2 (by omega)
  have C4 : Hid (∀ W, Reads g l w (vr3 (E, zs)).1 (vr3 (E, zs)).2 W → Calls Try.prog 38 #[.pointer (some ⟨g, 0, none⟩), .int .i64 4096] W fun e w' => e = .returned (.string (strOfNums ((vrV (E, zs)).B))) ∧ Reads g l w (vr4 (E, zs)).1 (vr4 (E, zs)).2 w' ∧ W.grownBy w' (some g)) := fun W hW => rtext_on g l _ _ 4096 w W hW hi.2.2.2.1.2 (by omega)
  have C5 : Hid (∀ W, Reads g l w (vr4 (E, zs)).1 (vr4 (E, zs)).2 W → Calls Try.prog 34 #[.pointer (some ⟨g, 0, none⟩), .int .i64 1099511627776] W fun e w' => e = .returned (.int .i64 ((vrV (E, zs)).T)) ∧ Reads g l w (vr5 (E, zs)).1 (vr5 (E, zs)).2 w' ∧ W.grownBy w' (some g)) := fun W hW => rnum_on g l _ _ _ w W hW hi.2.2.2.2.1.2 (by omega)
  have C6 : Hid (∀ W, Reads g l w (vr5 (E, zs)).1 (vr5 (E, zs)).2 W → Calls Try.prog 34 #[.pointer (some ⟨g, 0, none⟩), .int .i64 1099511627776] W fun e w' => e = .returned (.int .i64 ((vrV (E, zs)).G)) ∧ Reads g l w (vr6 (E, zs)).1 (vr6 (E, zs)).2 w' ∧ W.grownBy w' (some g)) := fun W hW => rnum_on g l _ _ _ w W hW hi.2.2.2.2.2.1.2 (by omega)
  have C7 : Hid (∀ W, Reads g l w (vr6 (E, zs)).1 (vr6 (E, zs)).2 W → Calls Try.prog 38 #[.pointer (some ⟨g, 0, none⟩), .int .i64 4096] W fun e w' => e = .returned (.string (strOfNums (vrSig (E, zs)))) ∧ Reads g l w (vr7 (E, zs)).1 (vr7 (E, zs)).2 w' ∧ W.grownBy w' (some g)) := fun W hW => rtext_on g l _ _ 4096 w W hW hi.2.2.2.2.2.2.1.2 (by omega)
  have HE : Hid (∀ W, Reads g l w (vr7 (E, zs)).1 (vr7 (E, zs)).2 W → Calls Try.prog 58 #[.pointer (some ⟨g, 0, none⟩)] W fun e w' => e = .returned (.int .i64 (vr7 (E, zs)).1) ∧ W = w') := fun W hW => rerr_on g l _ _ w W hW
  have Hg := Lib.hid (lt_of_block h.1)
  have H0 : Hid (Reads g l w E zs w) := Reads.start h
  have Hl := Lib.hid hl
  have Hc : Hid (∀ wx, Calls Try.prog 43 #[.agg (vtC (vrV (E, zs)) (strOfNums (vrSig (E, zs))))] wx fun e w' => e = .returned (.int .i64 (vtE (vrV (E, zs)) (strOfNums (vrSig (E, zs))))) ∧ Up wx w') := fun wx => vtCheck_any _ _ wx
  have hRy : VrOk (E, zs) → rVtC (E, zs) = vtC (vrV (E, zs)) (strOfNums (vrSig (E, zs))) := fun h => by unfold rVtC; rw [if_pos h]
  have hRn : ¬ VrOk (E, zs) → rVtC (E, zs) = noVt := fun h => by unfold rVtC; rw [if_neg h]
  unfold VrOk at hRy hRn
  generalize rVtC (E, zs) = RES at hRy hRn ⊢
  generalize (vr7 (E, zs)).1 = E7 at C7 HE hRy hRn ⊢
  generalize (vr7 (E, zs)).2 = z7 at C7 HE ⊢
  generalize vtE (vrV (E, zs)) (strOfNums (vrSig (E, zs))) = ER at Hc hRy hRn
  generalize strOfNums (vrSig (E, zs)) = SG at C7 Hc hRy hRn
  generalize strOfNums (rvTxt (E, zs)) = F0 at C0 hRy hRn
  unfold vtC at Hc hRy
  generalize strOfNums (vrV (E, zs)).B = XB at C4 Hc hRy
  generalize (vrV (E, zs)).K = XK at C1 Hc hRy
  generalize (vrV (E, zs)).V = XV at C2 Hc hRy
  generalize (vrV (E, zs)).H = XH at C3 Hc hRy
  generalize (vrV (E, zs)).T = XT at C5 Hc hRy
  generalize (vrV (E, zs)).G = XG at C6 Hc hRy
  generalize vr0 (E, zs) = r0 at C0 C1
  generalize vr1 (E, zs) = r1 at C1 C2
  generalize vr2 (E, zs) = r2 at C2 C3
  generalize vr3 (E, zs) = r3 at C3 C4
  generalize vr4 (E, zs) = r4 at C4 C5
  generalize vr5 (E, zs) = r5 at C5 C6
  generalize vr6 (E, zs) = r6 at C6 C7
  have HRy := Lib.hid hRy
  have HRn := Lib.hid hRn
  clear h h0 hu hl hi hRy hRn
  go_enter Try.func36, Try.ntmps36
  have HK : Hid (∀ (W W' : World), W.heap[w.heap.size]? = some (.cells noVt 29 (0, 0)) → W.grownBy W' (some g) → W'.heap[w.heap.size]? = some (.cells noVt 29 (0, 0))) := fun W W' hB hG => (hG.block _ (lt_of_block hB) (fun e => by have := Hg.out; simp at e; omega)).trans hB
  have HB0 : Hid ((w.alloc (.cells noVt 29)).heap[w.heap.size]? = some (.cells noVt 29 (0, 0))) := heap_alloc_new w _
  go_wp2_with fail
  with_reducible refine Calls.mono (C0.out _ (H0.out.up (Up.alloc (Up.refl w) _))) ?_
  rintro e w0 ⟨rfl, h1, h2⟩
  have R0 := Lib.hid h1
  have B0 := Lib.hid (HK.out _ _ HB0.out h2)
  clear h1 h2
  go_wp2_with fail
  with_reducible refine Calls.mono (C1.out _ R0.out) ?_
  rintro e w1 ⟨rfl, h1, h2⟩
  have R1 := Lib.hid h1
  have B1 := Lib.hid (HK.out _ _ B0.out h2)
  clear h1 h2
  go_wp2_with fail
  with_reducible refine Calls.mono (C2.out _ R1.out) ?_
  rintro e w2 ⟨rfl, h1, h2⟩
  have R2 := Lib.hid h1
  have B2 := Lib.hid (HK.out _ _ B1.out h2)
  clear h1 h2
  go_wp2_with fail
  with_reducible refine Calls.mono (C3.out _ R2.out) ?_
  rintro e w3 ⟨rfl, h1, h2⟩
  have R3 := Lib.hid h1
  have B3 := Lib.hid (HK.out _ _ B2.out h2)
  clear h1 h2
  go_wp2_with fail
  with_reducible refine Calls.mono (C4.out _ R3.out) ?_
  rintro e w4 ⟨rfl, h1, h2⟩
  have R4 := Lib.hid h1
  have B4 := Lib.hid (HK.out _ _ B3.out h2)
  clear h1 h2
  go_wp2_with fail
  with_reducible refine Calls.mono (C5.out _ R4.out) ?_
  rintro e w5 ⟨rfl, h1, h2⟩
  have R5 := Lib.hid h1
  have B5 := Lib.hid (HK.out _ _ B4.out h2)
  clear h1 h2
  go_wp2_with fail
  with_reducible refine Calls.mono (C6.out _ R5.out) ?_
  rintro e w6 ⟨rfl, h1, h2⟩
  have R6 := Lib.hid h1
  have B6 := Lib.hid (HK.out _ _ B5.out h2)
  clear h1 h2
  go_wp2_with fail
  with_reducible refine Calls.mono (C7.out _ R6.out) ?_
  rintro e w7 ⟨rfl, h1, h2⟩
  have R7 := Lib.hid h1
  have B7 := Lib.hid (HK.out _ _ B6.out h2)
  clear h1 h2
  have Hlw : Hid (w.heap.size ≠ g ∧ (∀ k, l.ownBlock = some k → k ≠ w.heap.size)) := ⟨by have := Hg.out; omega, fun k hk => by have := Hl.out k hk; omega⟩
  have R8 := Lib.hid (R7.out.up (Up.alloc (Up.refl w7) (.cells #[.int .i64 XK, .int .i64 XV, .int .i64 XH, .string XB, .int .i64 XT, .int .i64 XG, .string SG] 29)))
  have B8 := Lib.hid (((Up.alloc (Up.refl w7) (.cells #[.int .i64 XK, .int .i64 XV, .int .i64 XH, .string XB, .int .i64 XT, .int .i64 XG, .string SG] 29)).block _ (lt_of_block B7.out)).trans B7.out)
  have T8 := Lib.hid (heap_alloc_new w7 (.cells #[.int .i64 XK, .int .i64 XV, .int .i64 XH, .string XB, .int .i64 XT, .int .i64 XG, .string SG] 29))
  have Hput : Hid (∀ (wx wy : World), Reads g l w E7 z7 wx → wx.grownBy wy (some w.heap.size) → Reads g l w E7 z7 wy) := fun wx wy h1 h2 => h1.put h2 Hlw.out.1 Hlw.out.2 (Nat.le_refl _)
  by_cases hE : E7 = 0
  · by_cases hF : F0 = ⟨#[118, 111, 116, 101]⟩
    · subst hE hF
      by_cases hK0 : ER = 0
      · subst hK0
        have hres := Lib.hid (HRy.out ⟨rfl, rfl, rfl⟩)
        have HErr := Lib.hid (HE.out _ R8.out)
        go_wp2_with fail
        with_reducible refine Calls.mono HErr.out ?_
        rintro e w10 ⟨rfl, rfl⟩
        go_wp2_with fail
        with_reducible refine Calls.mono (Hc.out _) ?_
        rintro e w11 ⟨rfl, hU11⟩
        have T11 := Lib.hid ((hU11.block _ (lt_of_block T8.out)).trans T8.out)
        have B11 := Lib.hid ((hU11.block _ (lt_of_block B8.out)).trans B8.out)
        have R11 := Lib.hid (R8.out.up hU11)
        clear hU11
        obtain ⟨hc0, hc1, hc2, hc3, hc4, hc5, hc6⟩ := vt_cells T11.out
        go_wp2_with (refine wpList_store_agg rfl 29 (.tmp 2) (.tmp 35) rfl w.heap.size _ #[.int .i64 XK, .int .i64 XV, .int .i64 XH, .string XB, .int .i64 XT, .int .i64 XG, .string SG] rfl rfl 29 B11.out info_vt rfl (one_vt _ _ _ _ _ _ _) ?_; intro w12 hg12 hgr12)
        refine bodyPost_ret (results_vt rfl _ _ _ _ rfl hg12 rfl) rfl ⟨?_, Hput.out _ _ R11.out hgr12⟩
        rw [hres.out]
      · have hres := Lib.hid (HRn.out fun h => hK0 h.2.2)
        have e1 : (ER == 0) = false := by rw [beq_eq_false_iff_ne]; exact hK0
        have e2 : (ER != 0) = true := by rw [bne, e1]; rfl
        have HErr := Lib.hid (HE.out _ R8.out)
        clear hK0
        go_wp2_with fail
        with_reducible refine Calls.mono HErr.out ?_
        rintro e w10 ⟨rfl, rfl⟩
        go_wp2_with fail
        with_reducible refine Calls.mono (Hc.out _) ?_
        rintro e w11 ⟨rfl, hU11⟩
        have B11 := Lib.hid ((hU11.block _ (lt_of_block B8.out)).trans B8.out)
        have R11 := Lib.hid (R8.out.up hU11)
        clear hU11
        go_wp2_with (refine wpList_store_agg rfl 29 (.tmp 2) (.tmp 34) rfl w.heap.size _ #[.int .i64 0, .int .i64 0, .int .i64 0, .string ⟨#[]⟩, .int .i64 0, .int .i64 0, .string ⟨#[]⟩] rfl rfl 29 B11.out info_vt rfl (one_vt _ _ _ _ _ _ _) ?_; intro w12 hg12 hgr12)
        refine bodyPost_ret (results_vt rfl _ _ _ _ rfl hg12 rfl) rfl ⟨?_, Hput.out _ _ R11.out hgr12⟩
        rw [hres.out]; rfl
    · have hres := Lib.hid (HRn.out fun h => hF h.2.1)
      have e3 : (F0.toList == [118, 111, 116, 101]) = false := by rw [beq_eq_false_iff_ne]; exact fun h => hF (toList_inj (h.trans (by rw [ByteArray.toList_eq])))
      subst hE
      have HErr := Lib.hid (HE.out _ R8.out)
      clear hF
      go_wp2_with fail
      with_reducible refine Calls.mono HErr.out ?_
      rintro e w10 ⟨rfl, rfl⟩
      go_wp2_with (refine wpList_store_agg rfl 29 (.tmp 2) (.tmp 34) rfl w.heap.size _ #[.int .i64 0, .int .i64 0, .int .i64 0, .string ⟨#[]⟩, .int .i64 0, .int .i64 0, .string ⟨#[]⟩] rfl rfl 29 B8.out info_vt rfl (one_vt _ _ _ _ _ _ _) ?_; intro w12 hg12 hgr12)
      refine bodyPost_ret (results_vt rfl _ _ _ _ rfl hg12 rfl) rfl ⟨?_, Hput.out _ _ R8.out hgr12⟩
      rw [hres.out]; rfl
  · have hres := Lib.hid (HRn.out fun h => hE h.1)
    have e1 : (E7 == 0) = false := by rw [beq_eq_false_iff_ne]; exact hE
    have e2 : (E7 != 0) = true := by rw [bne, e1]; rfl
    have HErr := Lib.hid (HE.out _ R8.out)
    clear hE
    go_wp2_with fail
    with_reducible refine Calls.mono HErr.out ?_
    rintro e w10 ⟨rfl, rfl⟩
    go_wp2_with (refine wpList_store_agg rfl 29 (.tmp 2) (.tmp 34) rfl w.heap.size _ #[.int .i64 0, .int .i64 0, .int .i64 0, .string ⟨#[]⟩, .int .i64 0, .int .i64 0, .string ⟨#[]⟩] rfl rfl 29 B8.out info_vt rfl (one_vt _ _ _ _ _ _ _) ?_; intro w12 hg12 hgr12)
    refine bodyPost_ret (results_vt rfl _ _ _ _ rfl hg12 rfl) rfl ⟨?_, Hput.out _ _ R8.out hgr12⟩
    rw [hres.out]; rfl
end
end

/-
  vote: what Put writes, Read reads.
-/
section
set_option maxRecDepth 100000
section
set_option linter.unusedVariables false
open Go.RowKit

/-- a statement's octets -/
def vtO (v : Vt) (sig : List Int) : List Int := vtT v ++ (octAll sig.length 2 ++ sig)
theorem vtO_u8s (v : Vt) (sig : List Int) (hb : U8s v.B) (h : U8s sig) : U8s (vtO v sig) := (vtT_u8s _ hb).append ((octAll_u8s _ _).append h)
theorem vtO_length (v : Vt) (sig : List Int) : (vtO v sig).length = 40 + v.B.length + sig.length := by
  unfold vtO; rw [List.length_append, List.length_append, vtT_length, octAll_length]; omega
theorem vtPut_ok (bs : List Int) (v : Vt) (sig : List Int) (h : vtE v (strOfNums sig) = 0) (hb : bs.length ≤ 16000) : textS (vtS6 (0, bs) v) sig = (0, bs ++ vtO v sig) := by
  obtain ⟨hm, hs⟩ := vtE_ok h
  rw [strOfNums_size] at hs
  have hk := vtMay_ok hm
  rw [vtS_ok bs v hk hb, textS_ok _ _ hs (by rw [List.length_append, vtT_length]; have := hk.bl; omega), List.append_assoc]
  rfl
theorem rvNumS_enc (n : Int) (rest : List Int) (h0 : 0 ≤ n ∧ n ≤ 1099511627776) : rvNum (0, octAll n 6 ++ rest) = n ∧ rvNumS (0, octAll n 6 ++ rest) = (0, rest) := by
  unfold rvNum rvNumS
  simp only [rdNum_enc n rest h0.1 h0.2, and_self]
theorem rvTxtS_enc (zs rest : List Int) (h : zs.length ≤ 4096) : rvTxt (0, (octAll zs.length 2 ++ zs) ++ rest) = zs ∧ rvTxtS (0, (octAll zs.length 2 ++ zs) ++ rest) = (0, rest) := by
  unfold rvTxt rvTxtS
  simp only [rdText_enc zs rest h, and_self]
/-- WHAT WAS PUT IS READ. -/
theorem vtRead_ok (v : Vt) (sig rest : List Int) (h : vtE v (strOfNums sig) = 0) : rVtC (0, vtO v sig ++ rest) = vtC v (strOfNums sig) ∧ vr7 (0, vtO v sig ++ rest) = (0, rest) := by
  obtain ⟨hm, hs⟩ := vtE_ok h
  rw [strOfNums_size] at hs
  have hk := vtMay_ok hm
  have e4 : octAll (([118, 111, 116, 101] : List Int).length : Int) 2 = [0, 4] := by decide
  have hO : vtO v sig ++ rest = (octAll (([118, 111, 116, 101] : List Int).length : Int) 2 ++ [118, 111, 116, 101]) ++ (octAll v.K 6 ++ (octAll v.V 6 ++ (octAll v.H 6 ++ ((octAll v.B.length 2 ++ v.B) ++ (octAll v.T 6 ++ (octAll v.G 6 ++ ((octAll sig.length 2 ++ sig) ++ rest))))))) := by
    rw [e4]; simp [vtO, vtT]
  rw [hO]
  generalize hp : ((0 : Int), (octAll (([118, 111, 116, 101] : List Int).length : Int) 2 ++ [118, 111, 116, 101]) ++ (octAll v.K 6 ++ (octAll v.V 6 ++ (octAll v.H 6 ++ ((octAll v.B.length 2 ++ v.B) ++ (octAll v.T 6 ++ (octAll v.G 6 ++ ((octAll sig.length 2 ++ sig) ++ rest)))))))) = p
  have t0 := rvTxtS_enc [118, 111, 116, 101] (octAll v.K 6 ++ (octAll v.V 6 ++ (octAll v.H 6 ++ ((octAll v.B.length 2 ++ v.B) ++ (octAll v.T 6 ++ (octAll v.G 6 ++ ((octAll sig.length 2 ++ sig) ++ rest))))))) (by simp)
  rw [hp] at t0
  have s0 : vr0 p = _ := t0.2
  have s1 : rvNum (vr0 p) = v.K ∧ vr1 p = (0, octAll v.V 6 ++ (octAll v.H 6 ++ ((octAll v.B.length 2 ++ v.B) ++ (octAll v.T 6 ++ (octAll v.G 6 ++ ((octAll sig.length 2 ++ sig) ++ rest)))))) := by unfold vr1; rw [s0]; exact rvNumS_enc _ _ hk.k
  have s2 : rvNum (vr1 p) = v.V ∧ vr2 p = (0, octAll v.H 6 ++ ((octAll v.B.length 2 ++ v.B) ++ (octAll v.T 6 ++ (octAll v.G 6 ++ ((octAll sig.length 2 ++ sig) ++ rest))))) := by unfold vr2; rw [s1.2]; exact rvNumS_enc _ _ hk.vv
  have s3 : rvNum (vr2 p) = v.H ∧ vr3 p = (0, (octAll v.B.length 2 ++ v.B) ++ (octAll v.T 6 ++ (octAll v.G 6 ++ ((octAll sig.length 2 ++ sig) ++ rest)))) := by unfold vr3; rw [s2.2]; exact rvNumS_enc _ _ hk.h
  have s4 : rvTxt (vr3 p) = v.B ∧ vr4 p = (0, octAll v.T 6 ++ (octAll v.G 6 ++ ((octAll sig.length 2 ++ sig) ++ rest))) := by unfold vr4; rw [s3.2]; exact rvTxtS_enc _ _ (by have := hk.bl; omega)
  have s5 : rvNum (vr4 p) = v.T ∧ vr5 p = (0, octAll v.G 6 ++ ((octAll sig.length 2 ++ sig) ++ rest)) := by unfold vr5; rw [s4.2]; exact rvNumS_enc _ _ hk.t
  have s6 : rvNum (vr5 p) = v.G ∧ vr6 p = (0, (octAll sig.length 2 ++ sig) ++ rest) := by unfold vr6; rw [s5.2]; exact rvNumS_enc _ _ ⟨hk.g.1, by have := hk.g.2; omega⟩
  have s7 : rvTxt (vr6 p) = sig ∧ vr7 p = (0, rest) := by unfold vr7; rw [s6.2]; exact rvTxtS_enc _ _ hs
  have hv : vrV p = v := by unfold vrV; rw [s1.1, s2.1, s3.1, s4.1, s5.1, s6.1]
  refine ⟨?_, s7.2⟩
  have hok : VrOk p := ⟨by rw [s7.2], by rw [t0.1]; rfl, by rw [hv, show vrSig p = sig from s7.1]; exact h⟩
  unfold rVtC
  rw [if_pos hok, hv, show vrSig p = sig from s7.1]
end
end
end Go.Proofs.Ytacamknljicjmaa
