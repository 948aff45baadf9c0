import Derived.Test.YtbdjbmgeelleiaaPkFields
/-
  PackWrites: the walk.
-/
namespace Go.Proofs.Ytbdjbmgeelleiaa
set_option maxRecDepth 100000
section
set_option linter.unusedVariables false
open Go.RowKit

/-- BETWEEN TWO ROUNDS -/
structure WrBoth (w : World) (g X : Nat) (o b : Value) (E : Int) (bs bs' : List Int) (W : World) : Prop where
  wr : Wr W w.heap.size g o E bs
  box : W.heap[X]? = some (.cells #[b, .int .i64 E] 27 (0, 0))
  ref : Ints .u8 W b bs'
  off : ∀ k, b.ownBlock = some k → k < W.heap.size ∧ k ≠ g ∧ o.ownBlock ≠ some k ∧ k ≠ X
  same : E = 0 → bs = bs'
  len : bs.length ≤ 20482
  len' : bs'.length ≤ 20482
  base : w.heap.size ≤ X
  below : Up w W

theorem Ints.keptBut {S : Nat → Prop} {k : IntKind} {W W' : World} {v : Value} {zs : List Int} (h : Ints k W v zs) (hk : KeptBut S W W') (hS : ∀ b, v.ownBlock = some b → ¬ S b) : Ints k W' v zs := by
  obtain ⟨a, cap, rfl, h2, h3, h4⟩ := h
  refine ⟨a, cap, rfl, h2, h3, h4.imp id ?_⟩
  rintro ⟨b, off, rfl, hc⟩
  exact ⟨b, off, rfl, fun j hj => by
    have := hc j hj
    exact (World.cell?_of_block (a := ⟨b, off + j, none⟩) (hk.block b (World.block_lt_of_cell? W _ this) (hS b rfl))).trans this⟩

/-- the program's call -/
theorem WrBoth.step {w W W' : World} {g X : Nat} {o o' b : Value} {E E' : Int} {bs bs' cs : List Int} (h : WrBoth w g X o b E bs bs' W) (hg : w.heap.size ≤ g) (hs : WrStep g o o' W W') (hw : Wr W' w.heap.size g o' E' cs) :
    W'.heap[X]? = some (.cells #[b, .int .i64 E] 27 (0, 0)) ∧ Ints .u8 W' b bs' ∧ (∀ k, b.ownBlock = some k → k < W'.heap.size ∧ k ≠ g ∧ o'.ownBlock ≠ some k ∧ k ≠ X) ∧ Up w W' := by
  have hX : ¬ WrS g o X := by
    rintro (e | e)
    · have h1 := h.wr.1
      rw [← e, h.box] at h1
      simp at h1
    · exact block_off h.box (by decide) h.wr.2.2 e.symm
  refine ⟨(hs.1.block X (lt_of_block h.box) hX).trans h.box, h.ref.keptBut hs.1 ?_, ?_, Below.trans h.below (h.wr.below hs h.below.size)⟩
  · intro k hk
    have := h.off k hk
    rintro (e | e)
    · exact this.2.1 e
    · exact this.2.2.1 e
  · intro k hk
    have := h.off k hk
    refine ⟨Nat.lt_of_lt_of_le this.1 hs.1.size, this.2.1, fun e => ?_, this.2.2.2⟩
    rcases hs.2 k e with e | e
    · exact this.2.2.1 e
    · omega

/-- both calls, and what is stored behind them -/
theorem WrBoth.both {w W W3 W4 : World} {g X : Nat} {o o' b b4 : Value} {E E' : Int} {bs bs' cs ds : List Int} (h : WrBoth w g X o b E bs bs' W) (hg : w.heap.size ≤ g) (hs : WrStep g o o' W W3) (hw : Wr W3 w.heap.size g o' E' cs)
    (hu : Up W3 W4) (hi : Ints .u8 W4 b4 ds) (hn : Near W3 b b4 W4) (hsame : E' = 0 → cs = ds) (hl : cs.length ≤ 20482) (hl' : ds.length ≤ 20482) :
    WrBoth w g X o' b4 E' cs ds ((W4.setCell ⟨X, 0, none⟩ b4).setCell ⟨X, 1, none⟩ (.int .i64 E')) := by
  obtain ⟨hbox, hb, hoff, hbel⟩ := h.step hg hs hw
  have hbox4 := (hu.block X (lt_of_block hbox)).trans hbox
  have hw4 := hw.up hu
  have hXg : X ≠ g := by
    rintro rfl
    have h1 := hw.1
    rw [hbox] at h1
    simp at h1
  have hXo := block_off hbox (by decide) hw.2.2
  have hoff4 : ∀ k, b4.ownBlock = some k → k < W4.heap.size ∧ k ≠ g ∧ o'.ownBlock ≠ some k ∧ k ≠ X := by
    intro k hk
    rcases hn k hk with e | ⟨e1, e2⟩
    · have := hoff k e
      exact ⟨Nat.lt_of_lt_of_le this.1 hu.size, this.2⟩
    · refine ⟨e2, by have := hw.lt; omega, fun e => ?_, by have := lt_of_block hbox; omega⟩
      have := (hw.2.2.lt k e).2
      omega
  have hg1 := grownBy_setCell W4 ⟨X, 0, none⟩ b4
  have hg2 := grownBy_setCell (W4.setCell ⟨X, 0, none⟩ b4) ⟨X, 1, none⟩ (.int .i64 E')
  have hk : KeptBut (fun k => k = X) W4 ((W4.setCell ⟨X, 0, none⟩ b4).setCell ⟨X, 1, none⟩ (.int .i64 E')) :=
    (KeptBut.of_grown (S := fun k => k = X) hg1 (fun k e => by cases e; rfl)).trans (KeptBut.of_grown (S := fun k => k = X) hg2 (fun k e => by cases e; rfl)) (fun _ _ e => e)
  have hgg := grownBy_trans hg1 hg2
  refine ⟨⟨(hk.block g hw4.lt (fun e => hXg e.symm)).trans hw4.1, hw4.2.1, hw4.2.2.kept hgg (.inr (fun e => hXo e.symm))⟩, set_field (set_field hbox4 0 b4 rfl) 1 _ rfl, hi.keptBut hk (fun k e => (hoff4 k e).2.2.2), ?_, hsame, hl, hl', h.base, ?_⟩
  · intro k e
    have := hoff4 k e
    exact ⟨Nat.lt_of_lt_of_le this.1 hk.size, this.2⟩
  · exact up_at (hbel.trans hu) hgg h.base
theorem wsame (E : Int) (bs bs' : List Int) (h : E = 0 → bs = bs') (n : Int) : wNumE E n = 0 → wNumB E bs n = rNumB bs' n := by
  unfold wNumE wNumB rNumB wErr wPut
  intro h0
  split at h0
  · split at h0
    · cases h0
    · contradiction
  · next h1 =>
    have := h h0
    subst this
    rw [if_neg h1, if_neg h1]
    split
    · next h2 => rw [if_pos h2.2]
    · next h2 => rw [if_neg (fun e => h2 ⟨h0, e⟩)]
theorem tsame (E : Int) (bs bs' : List Int) (h : E = 0 → bs = bs') (zs : List Int) : wTextE E zs = 0 → wTextB E bs zs = rTextB bs' zs := by
  unfold wTextE wTextB rTextB wErr wPut
  intro h0
  split at h0
  · split at h0
    · cases h0
    · contradiction
  · next h1 =>
    have := h h0
    subst this
    rw [if_neg h1, if_neg h1]
    split
    · next h2 => rw [if_pos h2.2]
    · next h2 => rw [if_neg (fun e => h2 ⟨h0, e⟩)]
theorem rNumB_le (bs : List Int) (n : Int) (h : bs.length ≤ 20482) : (rNumB bs n).length ≤ 20482 := by
  unfold rNumB; split
  · exact h
  · split
    · rw [List.length_append, octAll_length]; omega
    · exact h
theorem rTextB_le (bs zs : List Int) (h : bs.length ≤ 20482) : (rTextB bs zs).length ≤ 20482 := by
  unfold rTextB; split
  · exact h
  · split
    · rw [List.length_append, List.length_append, octAll_length]; omega
    · exact h

theorem WrBoth.start (w w1 : World) (h : w.alloc (.cells #[.bool true, .slice none 0 0, .int .i64 0] 55) = w1) :
    WrBoth w w.heap.size w1.heap.size (.slice none 0 0) (.slice none 0 0) 0 [] [] (w1.alloc (.cells #[.slice none 0 0, .int .i64 0] 27)) := by
  subst h
  refine ⟨(wr_new w).up (Up.alloc (Up.refl _) _), heap_alloc_new _ _, Ints.empty (fun _ => rfl), fun k e => by simp [Value.ownBlock] at e, fun _ => rfl, by simp, by simp, by simp, Up.alloc (Up.alloc (Up.refl w) _) _⟩
theorem done_same (E : Int) (bs bs' : List Int) (h : E = 0 → bs = bs') : doneE E bs' = doneE E bs ∧ doneB E bs' = doneB E bs := by
  by_cases hE : E = 0
  · rw [h hE]; exact ⟨rfl, rfl⟩
  · simp [doneE, doneB, hE]

set_option maxHeartbeats 8000000 in
theorem lawPkWrites_any (v : Value) (fs : List Fld) (w : World) (hv : Flds w v fs) (hf : FldsOk fs) (hl : fs.length ≤ 9223372036854775807) :
    Calls Try.prog 3 #[v] w fun e w' => e = .returned (.bool true) ∧ Up w w' := by
  have Hnew := Lib.hid (new_any w)
  have Hf := Lib.hid hf
  obtain ⟨a, cap, rfl, hcap, hnil, hcell⟩ := hv
  have Hcell := Lib.hid hcell
  clear hcell hf hnil
  go_enter Try.func3, Try.ntmps3
  go_wp2_with fail
  with_reducible refine Calls.mono Hnew.out ?_
  rintro e w1 ⟨rfl, hw1⟩
  have Hw1 := Lib.hid hw1
  clear hw1
  go_wp2
  go_loopw [5] (fun i wr => ∃ (k : Nat) (o b : Value) (E : Int) (bs bs' : List Int), k ≤ fs.length ∧ k ≤ 40 ∧ i = .int .i64 k ∧ WrBoth w w.heap.size w1.heap.size o b E bs bs' wr) (fun i _ => fs.length - (intOf i).toNat)
  case atStart => exact ⟨0, _, _, _, _, _, Nat.zero_le _, by omega, rfl, WrBoth.start w w1 Hw1.out⟩
  case round =>
    obtain ⟨k, o, b, E, bs, bs', hk, hk40, rfl, hW⟩ := hrel
    have HW := Lib.hid hW
    clear hW
    by_cases hgo : k < fs.length ∧ k < 40
    · obtain ⟨hlt, h40⟩ := hgo
      obtain ⟨⟨kd, nn, ss⟩, hfk⟩ : ∃ f, fs[k]? = some f := ⟨fs[k], List.getElem?_eq_getElem hlt⟩
      rcases Hcell.out with rfl | ⟨bb, off, rfl, hc⟩
      · simp at hlt
      obtain ⟨k0, k1, k2⟩ := hc k _ hfk
      have Hok := Lib.hid (Hf.out k _ hfk)
      have Hc : Hid (∀ (wx : World), Up w wx → wx.cell? ⟨bb, off + k * 3 + 1, none⟩ = some (.int .i64 nn) ∧ wx.cell? ⟨bb, off + k * 3 + 2, none⟩ = some (.string (strOfNums ss))) := Lib.hid (fun (wx : World) (hu : Up w wx) => And.intro (later_cellF k1 hu) (later_cellF k2 hu))
      have c0 : wr.cell? ⟨bb, off + k * 3, none⟩ = some (.int .i64 kd) := later_cellF k0 HW.out.below
      obtain ⟨c1, c2⟩ := Hc.out wr HW.out.below
      clear k0 k1 k2
      clear hc hfk
      by_cases hkd : kd = 0
      · subst hkd
        have Hp := Lib.hid (wnum_any _ _ _ _ _ nn wr HW.out.wr Hok.out.2.1 (by have := HW.out.len; omega) HW.out.below.size)
        go_wp2_with fail
        with_reducible refine Calls.mono Hp.out ?_
        rintro e w3 ⟨rfl, o3, h3, h4⟩
        have hst := HW.out.step (Nat.le_refl _) h4 h3
        have H3 := Lib.hid h3
        have Hst := Lib.hid hst
        have Hst4 := Lib.hid h4
        obtain ⟨c13, c23⟩ := Hc.out w3 hst.2.2.2
        have hb0 := cell_of_row _ _ 0 _ _ _ hst.1
        have hb1 := cell_of_row _ _ 1 _ _ _ hst.1
        simp only [List.getElem?_toArray, List.getElem?_cons_zero, List.getElem?_cons_succ] at hb0 hb1
        have HX3 := Lib.hid hst.1
        have Hr : Hid (∀ wx, Up w3 wx → Calls Try.prog 9 #[.agg #[b, .int .i64 E], .int .i64 nn] wx (RWto wx b (wNumE E nn) (rNumB bs' nn))) := Lib.hid fun wx hx => refNum_any b E bs' nn wx (Hst.out.2.1.up hx) (by have := HW.out.len'; omega)
        clear h3 h4 hst
        go_wp2
        go_region_with ((go_at_call 9; refine (Hr.out _ (by exact (Below.refl _ _).drew)).mono ?_; rintro e w4 ⟨b4, rfl, h5, h6, h7⟩; have hx4 := (h6.block _ (lt_of_block HX3.out)).trans HX3.out; have q0 := cell_of_row _ _ 0 _ _ _ hx4; have q1 := cell_of_row _ _ 1 _ _ _ hx4; have f0 := frozen_of_row _ _ 0 _ _ hx4; have f1 := frozen_of_row _ _ 1 _ _ hx4; simp only [List.getElem?_toArray, List.getElem?_cons_zero, List.getElem?_cons_succ] at q0 q1; have H5 := Lib.hid h5; have H6 := Lib.hid h6; have H7 := Lib.hid h7; have HX4 := Lib.hid hx4; obtain ⟨a4, c4, rfl, _, _, _⟩ := h5; clear h6 h7 hx4))
        all_goals
          have HN := Lib.hid (HW.out.both (Nat.le_refl _) Hst4.out H3.out (Up.trans (Below.refl _ _).drew H6.out) H5.out H7.out (wsame E bs bs' HW.out.same nn) (wNumB_le E bs nn HW.out.len) (rNumB_le bs' nn HW.out.len'))
          go_wp2
          go_roundw
          case rel => exact ⟨k + 1, _, _, _, _, _, by omega, by omega, by go_num, HN.out⟩
          case measure => simp [intOf]; omega
      · have e1 : (kd == 0) = false := by rw [beq_eq_false_iff_ne]; exact hkd
        have Hp := Lib.hid (wtext_any _ _ _ _ _ ss wr HW.out.wr Hok.out.2.2.1 Hok.out.2.2.2 (by have := HW.out.len; omega) HW.out.below.size)
        have Hr : Hid (∀ w3 wx, Up w3 wx → Ints .u8 w3 b bs' → Calls Try.prog 11 #[.agg #[b, .int .i64 E], .string (strOfNums ss)] wx (RWto wx b (wTextE E ss) (rTextB bs' ss))) := Lib.hid fun w3 wx hx hi => refText_any b E bs' ss wx (hi.up hx) Hok.out.2.2.1 (by have := HW.out.len'; omega) Hok.out.2.2.2
        generalize strOfNums ss = S at *
        clear hkd
        go_wp2_with fail
        with_reducible refine Calls.mono Hp.out ?_
        rintro e w3 ⟨rfl, o3, h3, h4⟩
        have hst := HW.out.step (Nat.le_refl _) h4 h3
        have H3 := Lib.hid h3
        have Hst := Lib.hid hst
        have Hst4 := Lib.hid h4
        obtain ⟨c13, c23⟩ := Hc.out w3 hst.2.2.2
        have hb0 := cell_of_row _ _ 0 _ _ _ hst.1
        have hb1 := cell_of_row _ _ 1 _ _ _ hst.1
        simp only [List.getElem?_toArray, List.getElem?_cons_zero, List.getElem?_cons_succ] at hb0 hb1
        have HX3 := Lib.hid hst.1
        clear h3 h4 hst
        go_wp2
        go_region_with ((go_at_call 11; refine (Hr.out w3 _ (by exact (Below.refl _ _).drew) Hst.out.2.1).mono ?_; rintro e w4 ⟨b4, rfl, h5, h6, h7⟩; have hx4 := (h6.block _ (lt_of_block HX3.out)).trans HX3.out; have q0 := cell_of_row _ _ 0 _ _ _ hx4; have q1 := cell_of_row _ _ 1 _ _ _ hx4; have f0 := frozen_of_row _ _ 0 _ _ hx4; have f1 := frozen_of_row _ _ 1 _ _ hx4; simp only [List.getElem?_toArray, List.getElem?_cons_zero, List.getElem?_cons_succ] at q0 q1; have H5 := Lib.hid h5; have H6 := Lib.hid h6; have H7 := Lib.hid h7; have HX4 := Lib.hid hx4; obtain ⟨a4, c4, rfl, _, _, _⟩ := h5; clear h6 h7 hx4))
        all_goals
          have HN := Lib.hid (HW.out.both (Nat.le_refl _) Hst4.out H3.out (Up.trans (Below.refl _ _).drew H6.out) H5.out H7.out (tsame E bs bs' HW.out.same ss) (wTextB_le E bs ss HW.out.len) (rTextB_le bs' ss HW.out.len'))
          go_wp2
          go_roundw
          case rel => exact ⟨k + 1, _, _, _, _, _, by omega, by omega, by go_num, HN.out⟩
          case measure => simp [intOf]; omega
    · have Hd := Lib.hid (wdone_any _ _ _ _ _ wr HW.out.wr (by have := HW.out.len; omega))
      have Hr : Hid (∀ wx, Up wr wx → Calls Try.prog 13 #[.agg #[b, .int .i64 E]] wx fun e w' => ∃ r, e = .returned (.tuple #[r, .int .i64 (doneE E bs)]) ∧ Ints .u8 w' r (doneB E bs) ∧ Up wx w') := Lib.hid fun wx hx => by
        have h := refDone_any b E bs' wx (HW.out.ref.up hx) (by have := HW.out.len'; omega)
        rwa [(done_same E bs bs' HW.out.same).1, (done_same E bs bs' HW.out.same).2] at h
      generalize doneE E bs = DE at Hd Hr
      generalize doneB E bs = DB at Hd Hr
      have hex : k = fs.length ∨ (k < fs.length ∧ ¬ k < 40) := by omega
      clear hgo
      rcases hex with rfl | ⟨hlt, h40⟩
      all_goals
        go_wp2_with fail
        with_reducible refine Calls.mono Hd.out ?_
        rintro e w5 ⟨r5, rfl, h5, h6⟩
        have HX5 := (h6.block _ (lt_of_block HW.out.box)).trans HW.out.box
        have hb0 := cell_of_row _ _ 0 _ _ _ HX5
        have hb1 := cell_of_row _ _ 1 _ _ _ HX5
        simp only [List.getElem?_toArray, List.getElem?_cons_zero, List.getElem?_cons_succ] at hb0 hb1
        have H5 := Lib.hid (Ints.of_row h5)
        obtain ⟨a5, c5, rfl⟩ := row_shape h5
        have H6 := Lib.hid h6
        clear h5 h6 HX5
        go_wp2_with fail
        with_reducible refine Calls.mono (Hr.out _ H6.out) ?_
        rintro e w6 ⟨r6, rfl, h7, h8⟩
        have H7 := Lib.hid h7
        have H8 := Lib.hid h8
        obtain ⟨a6, c6, rfl, _, _, _⟩ := h7
        have hs5 := (H5.out.up h8).str
        have hs6 := H7.out.str
        generalize strOfNums DB = S at hs5 hs6
        clear h8
        go_wp2_with fail
        with_reducible refine Calls.mono (pkNum_any _ _) ?_
        rintro e w7 ⟨rfl, rfl⟩
        go_wp2_with fail
        with_reducible refine Calls.mono (pkAlive_any _) ?_
        rintro e w8 ⟨rfl, h9⟩
        have H9 := Lib.hid (((HW.out.below.trans H6.out).trans H8.out).trans h9)
        clear h9
        go_wp2
        go_ret
        exact ⟨rfl, H9.out⟩
end
end Go.Proofs.Ytbdjbmgeelleiaa
