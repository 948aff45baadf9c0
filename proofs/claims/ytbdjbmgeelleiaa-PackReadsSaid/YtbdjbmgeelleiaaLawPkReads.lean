import Derived.Test.YtbdjbmgeelleiaaPkFields
import Derived.Test.YtbdjbmgeelleiaaRefReads
/-
  PackReads: the walk.
-/
namespace Go.Proofs.Ytbdjbmgeelleiaa
set_option maxRecDepth 100000
section
set_option linter.unusedVariables false
open Go.RowKit

/-- BETWEEN TWO ROUNDS: the program's reader in block g, the reference's octets in the box in block X -/
structure RdBoth (w : World) (g X : Nat) (l b : Value) (E : Int) (zs : List Int) (W : World) : Prop where
  rd : Rd W g l E zs
  box : W.heap[X]? = some (.cells #[b, .int .i64 E] 44 (0, 0))
  ref : Ints .u8 W b zs
  off : ∀ k, b.ownBlock = some k → k < w.heap.size ∨ zs = []
  loff : ∀ k, l.ownBlock = some k → k ≠ X
  inv : E ≠ 0 → zs = []
  u8s : U8s zs
  len : zs.length ≤ 140737488355328
  gnew : w.heap.size ≤ g
  xnew : w.heap.size ≤ X
  below : Up w W
theorem RdBoth.ne {w W : World} {g X : Nat} {l b : Value} {E : Int} {zs : List Int} (h : RdBoth w g X l b E zs W) : X ≠ g := by
  rintro rfl
  have h1 := h.rd.1
  rw [h.box] at h1
  simp at h1

theorem Ints.nil_any {k : IntKind} {W W' : World} {v : Value} (h : Ints k W v []) : Ints k W' v [] := by
  obtain ⟨a, cap, rfl, h2, h3, _⟩ := h
  exact ⟨a, cap, rfl, h2, h3, .inl rfl⟩
/-- the reference's call, and what is stored behind it -/
theorem RdBoth.refd {w W W4 : World} {g X : Nat} {l b b4 : Value} {E E' : Int} {zs zs' : List Int} (h : RdBoth w g X l b E zs W) (hu : Up W W4) (hi : Ints .u8 W4 b4 zs') (hb : ∀ k, b4.ownBlock = some k → b.ownBlock = some k) (hz : zs = [] → zs' = []) :
    Rd ((W4.setCell ⟨X, 0, none⟩ b4).setCell ⟨X, 1, none⟩ (.int .i64 E')) g l E zs ∧ ((W4.setCell ⟨X, 0, none⟩ b4).setCell ⟨X, 1, none⟩ (.int .i64 E')).heap[X]? = some (.cells #[b4, .int .i64 E'] 44 (0, 0)) ∧
    Ints .u8 ((W4.setCell ⟨X, 0, none⟩ b4).setCell ⟨X, 1, none⟩ (.int .i64 E')) b4 zs' ∧ (∀ k, b4.ownBlock = some k → k < w.heap.size ∨ zs' = []) ∧ Up w ((W4.setCell ⟨X, 0, none⟩ b4).setCell ⟨X, 1, none⟩ (.int .i64 E')) := by
  have hbox4 := (hu.block X (lt_of_block h.box)).trans h.box
  have hg1 := grownBy_setCell W4 ⟨X, 0, none⟩ b4
  have hg2 := grownBy_setCell (W4.setCell ⟨X, 0, none⟩ b4) ⟨X, 1, none⟩ (.int .i64 E')
  have hgg := grownBy_trans hg1 hg2
  have hR := h.rd.up hu
  have hoff : ∀ k, b4.ownBlock = some k → k < w.heap.size ∨ zs' = [] := fun k e => (h.off k (hb k e)).imp id hz
  refine ⟨⟨(hgg.block g (lt_of_block hR.1) (fun e => h.ne (by simpa using e.symm))).trans hR.1, hR.2.1.grownAt (g := X) hgg h.loff, hR.2.2⟩, set_field (set_field hbox4 0 b4 rfl) 1 _ rfl, ?_, hoff, up_at (h.below.trans hu) hgg h.xnew⟩
  by_cases h0 : zs' = []
  · subst h0; exact hi.nil_any
  · exact hi.grownAt (g := X) hgg fun k e => by
      rcases hoff k e with e2 | e2
      · have := h.xnew; omega
      · exact absurd e2 h0
/-- the program's call -/
theorem RdBoth.both {w W W5 W6 : World} {g X : Nat} {l b b4 : Value} {E E' : Int} {zs zs' : List Int} (h : RdBoth w g X l b E zs W) (hbox : W5.heap[X]? = some (.cells #[b4, .int .i64 E'] 44 (0, 0)))
    (hi : Ints .u8 W5 b4 zs') (hoff : ∀ k, b4.ownBlock = some k → k < w.heap.size ∨ zs' = []) (hu : Up w W5) (hr : Reads g l W5 E' zs' W6) (hinv : E' ≠ 0 → zs' = []) (hu8 : U8s zs') (hlen : zs'.length ≤ zs.length) :
    ∃ l', RdBoth w g X l' b4 E' zs' W6 := by
  obtain ⟨l', h1, h2, h3⟩ := hr
  refine ⟨l', ⟨h1, (h2.block X (lt_of_block hbox) (fun e => h.ne (by simpa using e))).trans hbox, ?_, hoff, fun k e => h.loff k (h3 k e), hinv, hu8, by have := h.len; omega, h.gnew, h.xnew, up_at hu h2 h.gnew⟩⟩
  by_cases h0 : zs' = []
  · subst h0; exact hi.nil_any
  · exact hi.grownAt h2 fun k e => by
      rcases hoff k e with e2 | e2
      · have := h.gnew; omega
      · exact absurd e2 h0
/-- a row of octets that is there -/
def Row8 (W : World) (G n : Nat) : Prop := ∃ cur : Array Value, W.heap[G]? = some (.cells cur 5 (0, 0)) ∧ ∀ j, j < n → ∃ x, 0 ≤ x ∧ x < 256 ∧ cur[j]? = some (.int .u8 x)
theorem Row8.set {W : World} {G n : Nat} (h : Row8 W G n) (k : Nat) (y : Int) (hy : 0 ≤ y ∧ y < 256) : Row8 (W.setCell ⟨G, k, none⟩ (.int .u8 y)) G n := by
  obtain ⟨cur, h1, h2⟩ := h
  refine ⟨cur.setIfInBounds k (.int .u8 y), heap_setCell_same W G k cur _ _ h1, fun j hj => ?_⟩
  obtain ⟨x, hx0, hx1, hx⟩ := h2 j hj
  by_cases e : j = k
  · subst e
    have hlt := (Array.getElem?_eq_some_iff.1 hx).1
    exact ⟨y, hy.1, hy.2, by simp [hlt]⟩
  · exact ⟨x, hx0, hx1, by rw [Array.getElem?_setIfInBounds_ne (Ne.symm e)]; exact hx⟩

theorem Row8.of_row {W : World} {base G c : Nat} {zs : List Int} (h : W.ownsRow base 5 1 (.slice (some ⟨G, 0, none⟩) zs.length c) zs.length (zs.map (Value.int .u8))) (hu : U8s zs) : Row8 W G zs.length := by
  rcases h.2 with ⟨e, _⟩ | ⟨g, cap, cur, e, _, hg, hle, _, hsz, ht⟩
  · cases e
  · simp only [Value.slice.injEq, Option.some.injEq, Addr.mk.injEq, and_true, true_and] at e
    obtain ⟨rfl, rfl⟩ := e
    refine ⟨cur, hg, fun j hj => ⟨zs[j]?.getD 0, (hu j hj).1, (hu j hj).2, ?_⟩⟩
    have h1 : (cur.toList.take (zs.length * 1))[j]? = some (.int .u8 (zs[j]?.getD 0)) := by rw [ht]; simp [hj]
    rw [List.getElem?_take, if_pos (by omega)] at h1
    simpa using h1
theorem RdBoth.start {w w3 W : World} {G g : Nat} {l b : Value} {zs : List Int} (h3 : Rd w3 g l 0 zs) (hw3 : Up w w3) (hg : w3.grownBy W (some G)) (hG : w.heap.size ≤ G) (hGg : G < g) (hgn : w.heap.size ≤ g) (hl : ∀ k, l.ownBlock = some k → G < k ∧ k < w3.heap.size) (hb : Ints .u8 w b zs) (hu : U8s zs) (hlen : zs.length ≤ 140737488355328) :
    RdBoth w g W.heap.size l b 0 zs (W.alloc (.cells #[b, .int .i64 0] 44)) := by
  have hW : Up w W := up_at hw3 hg hG
  have ha : Up W (W.alloc (.cells #[b, .int .i64 0] 44)) := Up.alloc (Up.refl W) _
  have hR : Rd W g l 0 zs := ⟨(hg.block g (lt_of_block h3.1) (fun e => by have := Option.some.inj e; omega)).trans h3.1, h3.2.1.grownAt hg (fun k e => by have := (hl k e).1; omega), h3.2.2⟩
  refine ⟨hR.up ha, heap_alloc_new _ _, hb.up (hW.trans ha), fun k e => ?_, fun k e => by have := (hl k e).2; have := hg.size; omega, fun h => absurd rfl h, hu, hlen, hgn, hW.size, hW.trans ha⟩
  obtain ⟨a, cap, rfl, _, _, h4⟩ := hb
  rcases h4 with h4 | ⟨b2, off, rfl, hc⟩
  · exact .inr h4
  · by_cases h0 : 0 < zs.length
    · have := World.block_lt_of_cell? w _ (hc 0 h0)
      simp [Value.ownBlock] at e
      subst e
      exact .inl this
    · exact .inr (List.eq_nil_of_length_eq_zero (by omega))

theorem RdBoth.drewN {w W : World} {g X : Nat} {l b : Value} {E : Int} {zs : List Int} (h : RdBoth w g X l b E zs W) (q : Nat) : RdBoth w g X l b E zs (W.drewN q) :=
  ⟨h.rd.up (Up.drewN (Up.refl W) q), h.box, h.ref.drewN q, h.off, h.loff, h.inv, h.u8s, h.len, h.gnew, h.xnew, Up.drewN h.below q⟩

set_option maxHeartbeats 8000000 in
theorem lawPkReads_any (v lv : Value) (zs : List Int) (fs : List Fld) (w : World) (hv : Ints .u8 w v zs) (hu : U8s zs) (hl : zs.length ≤ 140737488355328) (hf : Flds w lv fs) (hok : FldsOk fs) (hfl : fs.length ≤ 9223372036854775807) :
    Calls Try.prog 4 #[v, lv] w fun e w' => e = .returned (.bool true) ∧ Up w w' := by
  obtain ⟨i0, hi, hz0, hz1, hz2⟩ := info_parts info_u8
  have Hv : Hid (∀ wx, Up w wx → Ints .u8 wx v zs) := Lib.hid fun wx hx => hv.up hx
  have Hok := Lib.hid hok
  have Hu := Lib.hid hu
  obtain ⟨fa, fcap, rfl, hfcap, hfnil, hfcell⟩ := hf
  have Hcell := Lib.hid hfcell
  obtain ⟨a, cap, rfl, hcap, hnil, hcs⟩ := hv
  clear hfcell hok hfnil hu
  go_enter Try.func4, Try.ntmps4
  go_wp2_with fail
  with_reducible refine Calls.mono (pkAlive_any _) ?_
  rintro e w1 ⟨rfl, h1⟩
  have H1 : Hid (Up w w1) := Lib.hid h1
  have r0 := ownsRow_empty w1 5
  obtain ⟨a9, c9, e9, _, hn9, hcs9⟩ := Hv.out _ (Up.alloc h1 (.cells #[] 5))
  simp only [Value.slice.injEq, true_and] at e9
  obtain ⟨rfl, rfl⟩ := e9
  have Hnews := Lib.hid (cells_all hcs9)
  have Hnn : Hid (a = none → zs.length = 0 ∧ cap = 0) := Lib.hid (fun e => ⟨none_empty hcs9 e, hn9 e⟩)
  have R0 := Lib.hid r0
  clear hcs hcs9 hnil hn9 h1 r0
  go_wp2_with (at_builtin; refine wpList_append_own_src_at _ rfl (.tmp 14) (.tmp 15) 25 rfl w1.heap.size 5 i0 (.int .u8 0) 1 1 Try.underlying25 hi hz0 hz1 hz2 rfl (by decide) (.slice (some ⟨w1.heap.size, 0, none⟩) 0 0) 0 _ rfl R0.out a zs.length cap (zs.map (Value.int .u8)) rfl Hnn.out (by simp) Hnews.out (u8_cells zs) (by unfold maxLen; omega) (by omega) (by simp) ?_; intro v2 w2 hown2 hgrow2 hat2; rw [Nat.zero_add, List.nil_append] at hown2; obtain ⟨a2, c2, rfl⟩ := row_shape hown2; have HG2 := Lib.hid hgrow2; have HA2 := Lib.hid hat2; have Hown2 := Lib.hid hown2; clear hown2 hgrow2 hat2)
  have hB2 : Up w1 w2 := Below.grown (Up.alloc (Up.refl w1) _) HG2.out (by simp) (fun q e => (R0.out.lt q e).1)
  have H2 := Lib.hid (H1.out.trans hB2)
  have Ho := Lib.hid (open_reader _ zs w2 (Ints.of_row Hown2.out) hl)
  clear hB2 HG2 Hnews Hnn R0
  go_wp2_with fail
  with_reducible refine Calls.mono Ho.out ?_
  rintro e w3 ⟨g, l, rfl, h3, h4, h5, h6⟩
  have H3 := Lib.hid h3
  have H4 := Lib.hid h4
  have H5 := Lib.hid h5
  have H6 := Lib.hid h6
  clear h3 h4 h5 h6 Ho
  obtain ⟨G, c9, ev, hG1, hG2⟩ := ownsRow_addr Hown2.out (fun e => by have := HA2.out; rw [e] at this; simp [Value.ownBlock] at this)
  simp only [Value.slice.injEq, true_and] at ev
  obtain ⟨rfl, rfl⟩ := ev
  have hrow : Row8 w3 G zs.length := by
    exact Row8.of_row (ownsRow_up Hown2.out H4.out) Hu.out
  have HRow := Lib.hid hrow
  have HG1 := Lib.hid hG1
  have HG2 := Lib.hid hG2
  clear hrow hG1 hG2
  go_wp2
  go_loopw [7] (fun i wr => ∃ k : Nat, k ≤ zs.length ∧ i = .int .i64 k ∧ Row8 wr G zs.length ∧ w3.grownBy wr (some G)) (fun i _ => zs.length - (intOf i).toNat)
  case atStart => exact ⟨0, Nat.zero_le _, rfl, HRow.out, grown_self _ _⟩
  case round =>
    obtain ⟨k, hk, rfl, hR, hgr⟩ := hrel
    have HR := Lib.hid hR
    have HGr := Lib.hid hgr
    clear hR hgr
    by_cases hlt : k < zs.length
    · obtain ⟨cur, hcur, hcx⟩ := HR.out
      obtain ⟨x, hx0, hx1, hx⟩ := hcx k hlt
      have c0 := (cell_of_row _ _ k _ _ _ hcur).trans hx
      have f0 := frozen_of_row _ _ k _ _ hcur
      clear hcur hcx hx
      have HR2 := Lib.hid (HR.out.set k ((x + 1) % 256) (by omega))
      have HGr2 := Lib.hid (grownBy_trans HGr.out (grownBy_setCell wr ⟨G, k, none⟩ (.int .u8 ((x + 1) % 256))))
      go_wp2
      exact ⟨⟨k + 1, by omega, by go_num, HR2.out, HGr2.out⟩, by simp [intOf]; omega⟩
    · obtain rfl : k = zs.length := by omega
      have HS := Lib.hid (RdBoth.start (b := .slice a zs.length cap) H3.out (H2.out.trans H4.out) HGr.out (Nat.le_trans H1.out.size HG1.out) (by have := HG2.out; have := H5.out; omega) (Nat.le_trans H2.out.size H5.out) (fun k e => by have := H6.out k e; have := HG2.out; omega) (Hv.out w (Up.refl w)) Hu.out hl)
      go_wp2
      obtain ⟨X, hX⟩ : ∃ X, wr.heap.size = X := ⟨_, rfl⟩
      rw [hX] at HS ⊢
      go_loopw [9] (fun i wy => ∃ (k : Nat) (l b : Value) (E : Int) (ys : List Int), k ≤ fs.length ∧ k ≤ 40 ∧ i = .int .i64 k ∧ RdBoth w g X l b E ys wy) (fun i _ => fs.length - (intOf i).toNat)
      case atStart => exact ⟨0, _, _, _, _, Nat.zero_le _, by omega, rfl, HS.out⟩
      case round =>
        obtain ⟨k, l, b, E, ys, hk, hk40, rfl, hW⟩ := hrel
        have HW := Lib.hid hW
        clear hW
        by_cases hgo : k < fs.length ∧ k < 40
        · obtain ⟨hlt, h40⟩ := hgo
          obtain ⟨⟨kd, nn, ss⟩, hfk⟩ : ∃ f, fs[k]? = some f := ⟨fs[k], List.getElem?_eq_getElem hlt⟩
          rcases Hcell.out with rfl | ⟨bb, off, rfl, hc⟩
          · simp at hlt
          obtain ⟨k0, k1, k2⟩ := hc k _ hfk
          have Hok5 := Lib.hid (Hok.out k _ hfk)
          have Hc : Hid (∀ (wx : World), Up w wx → wx.cell? ⟨bb, off + k * 3 + 1, none⟩ = some (.int .i64 nn) ∧ wx.cell? ⟨bb, off + k * 3 + 2, none⟩ = some (.string (strOfNums ss))) := Lib.hid (fun (wx : World) (hu : Up w wx) => And.intro (later_cellF k1 hu) (later_cellF k2 hu))
          have c0 : wr.cell? ⟨bb, off + k * 3, none⟩ = some (.int .i64 kd) := later_cellF k0 HW.out.below
          obtain ⟨c1, c2⟩ := Hc.out wr HW.out.below
          have HX := Lib.hid HW.out.box
          have hb0 := cell_of_row _ _ 0 _ _ _ HX.out
          have hb1 := cell_of_row _ _ 1 _ _ _ HX.out
          simp only [List.getElem?_toArray, List.getElem?_cons_zero, List.getElem?_cons_succ] at hb0 hb1
          clear k0 k1 k2 hc hfk
          by_cases hkd : kd = 0
          · subst hkd
            obtain ⟨n5, E5, ys5, hr⟩ : ∃ n5 E5 ys5, rdNum E ys nn = (n5, E5, ys5) := ⟨_, _, _, rfl⟩
            have hinv := rdNum_inv E ys nn HW.out.inv HW.out.u8s
            rw [hr] at hinv
            have Hinv : Hid ((E5 ≠ 0 → ys5 = []) ∧ U8s ys5 ∧ ys5.length ≤ ys.length) := Lib.hid hinv
            have Hz : Hid (ys = [] → ys5 = []) := Lib.hid fun e => List.eq_nil_of_length_eq_zero (by have := Hinv.out.2.2; rw [e] at this; simpa using this)
            have Hr : Hid (∀ wx, Up wr wx → Calls Try.prog 17 #[.agg #[b, .int .i64 E], .int .i64 nn] wx (RRto wx b (.int .i64 n5) E5 ys5)) := Lib.hid fun wx hx => by
              have h := refGetNum_any b E ys nn wx (HW.out.ref.up hx) HW.out.u8s
              rw [hr] at h
              exact h
            have Hp : Hid (∀ wx, Rd wx g l E ys → Calls Try.prog 18 #[.pointer (some ⟨g, 0, none⟩), .int .i64 nn] wx fun e w' => e = .returned (.int .i64 n5) ∧ Reads g l wx E5 ys5 w') := Lib.hid fun wx hx => by
              have h := rnum_any g l E ys nn wx hx HW.out.u8s Hok5.out.2.1
              rw [hr] at h
              exact h
            clear hr hinv
            go_wp2
            go_region_with ((go_at_call 17; refine (Hr.out _ (by exact (Below.refl _ _).drew)).mono ?_; rintro e w4 ⟨b4, rfl, h5, h6, h7⟩; have hx4 := (h6.block _ (lt_of_block HX.out)).trans HX.out; have q0 := cell_of_row _ _ 0 _ _ _ hx4; have q1 := cell_of_row _ _ 1 _ _ _ hx4; have f0 := frozen_of_row _ _ 0 _ _ hx4; have f1 := frozen_of_row _ _ 1 _ _ hx4; simp only [List.getElem?_toArray, List.getElem?_cons_zero, List.getElem?_cons_succ] at q0 q1; have H5 := Lib.hid h5; have H6 := Lib.hid h6; have H7 := Lib.hid h7; obtain ⟨a4, c4, rfl, _, _, _⟩ := h5; clear h6 h7 hx4))
            all_goals
              have HD := Lib.hid (HW.out.refd (E' := E5) (Up.trans (Below.refl _ _).drew H6.out) H5.out H7.out Hz.out)
              obtain ⟨w5, hw5⟩ : ∃ w5, (w4.setCell ⟨X, 0, none⟩ (.slice a4 ys5.length c4)).setCell ⟨X, 1, none⟩ (.int .i64 E5) = w5 := ⟨_, rfl⟩
              rw [hw5] at HD ⊢
              obtain ⟨c15, c25⟩ := Hc.out w5 HD.out.2.2.2.2
              clear hw5 q0 q1 f0 f1 c0 c1 c2 hb0 hb1
              go_wp2_with fail
              with_reducible refine Calls.mono (Hp.out _ HD.out.1) ?_
              rintro e w6 ⟨rfl, h8⟩
              obtain ⟨l6, hB6⟩ := HW.out.both HD.out.2.1 HD.out.2.2.1 HD.out.2.2.2.1 HD.out.2.2.2.2 h8 Hinv.out.1 Hinv.out.2.1 Hinv.out.2.2
              have HB6 := Lib.hid hB6
              have hb0 := cell_of_row _ _ 0 _ _ _ hB6.box
              have hb1 := cell_of_row _ _ 1 _ _ _ hB6.box
              simp only [List.getElem?_toArray, List.getElem?_cons_zero, List.getElem?_cons_succ] at hb0 hb1
              have He : Hid (∀ q, Calls Try.prog 21 #[.pointer (some ⟨g, 0, none⟩)] (w6.drewN q) fun e w'' => e = .returned (.int .i64 E5) ∧ ∃ m, w'' = w6.drewN m) := Lib.hid fun q => (rerr_any g l6 E5 (w6.drewN q) HB6.out.rd.1).mono fun _ _ ⟨h1, h2⟩ => ⟨h1, q, h2.symm⟩
              have Hn : Hid (∀ q, Calls Try.prog 14 #[.int .i64 E5] (w6.drewN q) fun e w'' => e = .returned (.int .i64 E5) ∧ ∃ m, w'' = w6.drewN m) := Lib.hid fun q => (pkNum_any E5 (w6.drewN q)).mono fun _ _ ⟨h1, h2⟩ => ⟨h1, q, h2.symm⟩
              have Hl : Hid (∀ q, Calls Try.prog 22 #[.pointer (some ⟨g, 0, none⟩)] (w6.drewN q) fun e w'' => e = .returned (.int .i64 (ys5.length : Int)) ∧ ∃ m, w'' = w6.drewN m) := Lib.hid fun q => (rleft_any g l6 E5 ys5 (w6.drewN q) (HB6.out.rd.up (Up.drewN (Up.refl w6) q)) HB6.out.inv).mono fun _ _ ⟨h1, h2⟩ => ⟨h1, q, h2.symm⟩
              clear h8 hB6 c15 c25
              go_wp2
              go_quiet ((first | (go_at_call 21; exact He.out _) | (go_at_call 14; exact Hn.out _) | (go_at_call 22; exact Hl.out _)))
              all_goals
                go_wp2
                go_roundw
                case rel => exact ⟨k + 1, _, _, _, _, by omega, by omega, by go_num, HB6.out.drewN _⟩
                case measure => simp [intOf]; omega
          · have e1 : (kd == 0) = false := by rw [beq_eq_false_iff_ne]; exact hkd
            clear hkd
            obtain ⟨n5, E5, ys5, hr⟩ : ∃ n5 E5 ys5, rdText E ys nn = (n5, E5, ys5) := ⟨_, _, _, rfl⟩
            have hinv := rdText_inv E ys nn HW.out.inv HW.out.u8s
            rw [hr] at hinv
            have Hinv : Hid ((E5 ≠ 0 → ys5 = []) ∧ U8s ys5 ∧ ys5.length ≤ ys.length) := Lib.hid hinv
            have Hz : Hid (ys = [] → ys5 = []) := Lib.hid fun e => List.eq_nil_of_length_eq_zero (by have := Hinv.out.2.2; rw [e] at this; simpa using this)
            have Hr : Hid (∀ wx, Up wr wx → Calls Try.prog 19 #[.agg #[b, .int .i64 E], .int .i64 nn] wx (RRto wx b (.string (strOfNums n5)) E5 ys5)) := Lib.hid fun wx hx => by
              have h := refGetText_any b E ys nn wx (HW.out.ref.up hx) HW.out.u8s HW.out.len
              rw [hr] at h
              exact h
            have Hp : Hid (∀ wx, Rd wx g l E ys → Calls Try.prog 20 #[.pointer (some ⟨g, 0, none⟩), .int .i64 nn] wx fun e w' => e = .returned (.string (strOfNums n5)) ∧ Reads g l wx E5 ys5 w') := Lib.hid fun wx hx => by
              have h := rtext_any g l E ys nn wx hx HW.out.u8s Hok5.out.2.1
              rw [hr] at h
              exact h
            clear hr hinv
            generalize strOfNums n5 = S5 at *
            go_wp2
            go_region_with ((go_at_call 19; refine (Hr.out _ (by exact (Below.refl _ _).drew)).mono ?_; rintro e w4 ⟨b4, rfl, h5, h6, h7⟩; have hx4 := (h6.block _ (lt_of_block HX.out)).trans HX.out; have q0 := cell_of_row _ _ 0 _ _ _ hx4; have q1 := cell_of_row _ _ 1 _ _ _ hx4; have f0 := frozen_of_row _ _ 0 _ _ hx4; have f1 := frozen_of_row _ _ 1 _ _ hx4; simp only [List.getElem?_toArray, List.getElem?_cons_zero, List.getElem?_cons_succ] at q0 q1; have H5 := Lib.hid h5; have H6 := Lib.hid h6; have H7 := Lib.hid h7; obtain ⟨a4, c4, rfl, _, _, _⟩ := h5; clear h6 h7 hx4))
            all_goals
              have HD := Lib.hid (HW.out.refd (E' := E5) (Up.trans (Below.refl _ _).drew H6.out) H5.out H7.out Hz.out)
              obtain ⟨w5, hw5⟩ : ∃ w5, (w4.setCell ⟨X, 0, none⟩ (.slice a4 ys5.length c4)).setCell ⟨X, 1, none⟩ (.int .i64 E5) = w5 := ⟨_, rfl⟩
              rw [hw5] at HD ⊢
              obtain ⟨c15, c25⟩ := Hc.out w5 HD.out.2.2.2.2
              clear hw5 q0 q1 f0 f1 c0 c1 c2 hb0 hb1
              go_wp2_with fail
              with_reducible refine Calls.mono (Hp.out _ HD.out.1) ?_
              rintro e w6 ⟨rfl, h8⟩
              obtain ⟨l6, hB6⟩ := HW.out.both HD.out.2.1 HD.out.2.2.1 HD.out.2.2.2.1 HD.out.2.2.2.2 h8 Hinv.out.1 Hinv.out.2.1 Hinv.out.2.2
              have HB6 := Lib.hid hB6
              have hb0 := cell_of_row _ _ 0 _ _ _ hB6.box
              have hb1 := cell_of_row _ _ 1 _ _ _ hB6.box
              simp only [List.getElem?_toArray, List.getElem?_cons_zero, List.getElem?_cons_succ] at hb0 hb1
              have He : Hid (∀ q, Calls Try.prog 21 #[.pointer (some ⟨g, 0, none⟩)] (w6.drewN q) fun e w'' => e = .returned (.int .i64 E5) ∧ ∃ m, w'' = w6.drewN m) := Lib.hid fun q => (rerr_any g l6 E5 (w6.drewN q) HB6.out.rd.1).mono fun _ _ ⟨h1, h2⟩ => ⟨h1, q, h2.symm⟩
              have Hn : Hid (∀ q, Calls Try.prog 14 #[.int .i64 E5] (w6.drewN q) fun e w'' => e = .returned (.int .i64 E5) ∧ ∃ m, w'' = w6.drewN m) := Lib.hid fun q => (pkNum_any E5 (w6.drewN q)).mono fun _ _ ⟨h1, h2⟩ => ⟨h1, q, h2.symm⟩
              have Hl : Hid (∀ q, Calls Try.prog 22 #[.pointer (some ⟨g, 0, none⟩)] (w6.drewN q) fun e w'' => e = .returned (.int .i64 (ys5.length : Int)) ∧ ∃ m, w'' = w6.drewN m) := Lib.hid fun q => (rleft_any g l6 E5 ys5 (w6.drewN q) (HB6.out.rd.up (Up.drewN (Up.refl w6) q)) HB6.out.inv).mono fun _ _ ⟨h1, h2⟩ => ⟨h1, q, h2.symm⟩
              clear h8 hB6 c15 c25
              go_wp2
              go_quiet ((first | (go_at_call 21; exact He.out _) | (go_at_call 14; exact Hn.out _) | (go_at_call 22; exact Hl.out _)))
              all_goals
                go_wp2
                go_roundw
                case rel => exact ⟨k + 1, _, _, _, _, by omega, by omega, by go_num, HB6.out.drewN _⟩
                case measure => simp [intOf]; omega
        · have hex : k = fs.length ∨ (k < fs.length ∧ ¬ k < 40) := by omega
          clear hgo
          rcases hex with rfl | ⟨hlt, h40⟩
          all_goals
            go_wp2
            go_ret
            exact ⟨rfl, HW.out.below⟩
end
end Go.Proofs.Ytbdjbmgeelleiaa
