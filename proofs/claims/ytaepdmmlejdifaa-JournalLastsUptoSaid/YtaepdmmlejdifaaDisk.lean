import Derived.Lib.MinMax
import Derived.Test.YtaepdmmlejdifaaDkClip
namespace Go.Proofs.Ytaepdmmlejdifaa
/-
  disk: all calls on a disk that was made, and on none.
-/
section
set_option maxRecDepth 100000
section
set_option linter.unusedVariables false
open Go.RowKit

/-- THE DISK in block g: room, how many of its octets are flushed, and all of them, in a row of its own from base on -/
structure Dk (W : World) (b0 g : Nat) (o : Value) (room fl : Nat) (bs : List Int) : Prop where
  box : W.heap[g]? = some (.cells #[.bool true, .int .i64 room, o, .int .i64 fl] 53 (0, 0))
  base : b0 ≤ g
  row : Clip W b0 o bs
  fl : fl ≤ bs.length
  len : bs.length ≤ room
  room : room ≤ 262144
section
variable {W W' w w' : World} {b0 g : Nat} {o o' : Value} {room fl : Nat} {bs : List Int}
theorem Dk.lt (h : Dk W b0 g o room fl bs) : g < W.heap.size := lt_of_block h.box
theorem Dk.up (h : Dk W b0 g o room fl bs) (hu : Up W W') : Dk W' b0 g o room fl bs := ⟨(hu.block g h.lt).trans h.box, h.base, h.row.up hu, h.fl, h.len, h.room⟩
theorem Dk.below (h : Dk w b0 g o room fl bs) (hs : WrStep g o o' w w') (hb : b0 ≤ w.heap.size) : Below b0 w w' :=
  hs.1.below hb fun k hk => by
    rcases hk with rfl | e
    · exact h.base
    · exact (h.row.lt k e).1
theorem Dk.cells (h : Dk W b0 g o room fl bs) : W.cell? ⟨g, 0, none⟩ = some (.bool true) ∧ W.cell? ⟨g, 1, none⟩ = some (.int .i64 room) ∧ W.cell? ⟨g, 2, none⟩ = some o ∧ W.cell? ⟨g, 3, none⟩ = some (.int .i64 fl) :=
  ⟨cell_of_row _ _ 0 _ _ _ h.box, cell_of_row _ _ 1 _ _ _ h.box, cell_of_row _ _ 2 _ _ _ h.box, cell_of_row _ _ 3 _ _ _ h.box⟩
end

theorem dkMade_any (g : Nat) (c1 c2 c3 : Value) (w : World) (h : w.heap[g]? = some (.cells #[.bool true, c1, c2, c3] 53 (0, 0))) :
    Calls Try.prog 28 #[.pointer (some ⟨g, 0, none⟩)] w fun e w' => e = .returned (.bool true) ∧ w = w' := by
  have hc0 := cell_of_row _ _ 0 _ _ _ h
  simp only [List.getElem?_toArray, List.getElem?_cons_zero] at hc0
  clear h
  go_enter Try.func28, Try.ntmps28
  go_wp2
  go_ret
  exact ⟨rfl, rfl⟩
theorem dkMade_nil (w : World) :
    Calls Try.prog 28 #[.pointer none] w fun e w' => e = .returned (.bool false) ∧ w = w' := by
  go_enter Try.func28, Try.ntmps28
  go_wp2
  go_ret
  exact ⟨rfl, rfl⟩
theorem dkMade_un (g : Nat) (c1 c2 c3 : Value) (w : World) (h : w.heap[g]? = some (.cells #[.bool false, c1, c2, c3] 53 (0, 0))) :
    Calls Try.prog 28 #[.pointer (some ⟨g, 0, none⟩)] w fun e w' => e = .returned (.bool false) ∧ w = w' := by
  have hc0 := cell_of_row _ _ 0 _ _ _ h
  simp only [List.getElem?_toArray, List.getElem?_cons_zero] at hc0
  clear h
  go_enter Try.func28, Try.ntmps28
  go_wp2
  go_ret
  exact ⟨rfl, rfl⟩
/-- how much room New gives -/
def dkRoom (n : Int) : Nat := (min (max n 0) 262144).toNat
theorem dkNew_any (n : Int) (w : World) :
    Calls Try.prog 13 #[.int .i64 n] w fun e w' => e = .returned (.pointer (some ⟨w.heap.size, 0, none⟩)) ∧ w.alloc (.cells #[.bool true, .int .i64 (dkRoom n), .slice none 0 0, .int .i64 0] 53) = w' := by
  have hr : ((dkRoom n : Nat) : Int) = min (max n 0) 262144 := by unfold dkRoom; omega
  rw [hr]
  clear hr
  go_enter Try.func13, Try.ntmps13
  go_wp2
  go_ret
  exact ⟨rfl, rfl⟩
theorem dk_new (n : Int) (w : World) : Dk (w.alloc (.cells #[.bool true, .int .i64 (dkRoom n), .slice none 0 0, .int .i64 0] 53)) w.heap.size w.heap.size (.slice none 0 0) (dkRoom n) 0 [] :=
  ⟨heap_alloc_new _ _, Nat.le_refl _, Clip.nil _ _, Nat.zero_le _, Nat.zero_le _, by unfold dkRoom; omega⟩

section
variable {b0 g : Nat} {o : Value} {room fl : Nat} {bs : List Int}
theorem dkLoose_any (w : World) (h : Dk w b0 g o room fl bs) :
    Calls Try.prog 19 #[.pointer (some ⟨g, 0, none⟩)] w fun e w' => e = .returned (.int .i64 ((bs.length : Int) - fl)) ∧ Up w w' := by
  have Hm := Lib.hid (dkMade_any g _ _ _ w h.box)
  obtain ⟨c0, c1, c2, c3⟩ := h.cells
  obtain ⟨a, c, rfl⟩ := h.row.shape
  have hw := IntWalk.i64_in (n := (bs.length : Int) - fl) (by have := h.len; have := h.fl; have := h.room; omega)
  clear h
  go_enter Try.func19, Try.ntmps19
  go_wp2_with fail
  with_reducible refine Calls.mono Hm.out ?_
  rintro e w1 ⟨rfl, rfl⟩
  go_wp2
  go_region
  go_wp2
  go_ret
  exact ⟨rfl, Up.drew1 w⟩
theorem dkSize_any (w : World) (h : Dk w b0 g o room fl bs) :
    Calls Try.prog 18 #[.pointer (some ⟨g, 0, none⟩)] w fun e w' => e = .returned (.int .i64 (bs.length : Int)) ∧ w = w' := by
  have Hm := Lib.hid (dkMade_any g _ _ _ w h.box)
  obtain ⟨c0, c1, c2, c3⟩ := h.cells
  obtain ⟨a, c, rfl⟩ := h.row.shape
  clear h
  go_enter Try.func18, Try.ntmps18
  go_wp2_with fail
  with_reducible refine Calls.mono Hm.out ?_
  rintro e w1 ⟨rfl, rfl⟩
  go_wp2
  go_ret
  exact ⟨rfl, rfl⟩
theorem dkRead_any (w : World) (h : Dk w b0 g o room fl bs) :
    Calls Try.prog 20 #[.pointer (some ⟨g, 0, none⟩)] w fun e w' => ∃ r, e = .returned r ∧ w'.ownsRow w.heap.size 5 1 r bs.length (bs.map (Value.int .u8)) ∧ Up w w' := by
  have Hm := Lib.hid (dkMade_any g _ _ _ w h.box)
  obtain ⟨c0, c1, c2, c3⟩ := h.cells
  have Hc := Lib.hid (clone8_any o bs w h.row.ints (by have := h.len; have := h.room; omega))
  obtain ⟨a, c, rfl⟩ := h.row.shape
  clear h
  go_enter Try.func20, Try.ntmps20
  go_wp2_with fail
  with_reducible refine Calls.mono Hm.out ?_
  rintro e w1 ⟨rfl, rfl⟩
  go_wp2_with fail
  with_reducible refine Calls.mono Hc.out ?_
  rintro e w2 ⟨r, rfl, h1, h2⟩
  obtain ⟨a2, n2, rfl⟩ := row_shape h1
  have H1 := Lib.hid h1
  have H2 := Lib.hid h2
  clear h1 h2
  go_wp2
  go_ret
  exact ⟨_, rfl, H1.out, H2.out⟩
theorem dkLeave_any (x : Int) (w : World) (h : Dk w b0 g o room fl bs) (hx0 : 0 ≤ x) (hx1 : x ≤ bs.length) :
    Calls Try.prog 29 #[.pointer (some ⟨g, 0, none⟩), .int .i64 x] w fun e w' => e = .returned (.tuple #[]) ∧ ∃ o', Dk w' b0 g o' room x.toNat (bs.take x.toNat) ∧ WrStep g o o' w w' := by
  obtain ⟨n, rfl⟩ := Int.eq_ofNat_of_zero_le hx0
  have hn : n ≤ bs.length := by omega
  have hl : (bs.take n).length = n := by rw [List.length_take]; omega
  obtain ⟨a, c, rfl⟩ := h.row.shape
  obtain ⟨c0, c1, c2, c3⟩ := h.cells
  have f2 := frozen_of_row _ _ 2 _ _ h.box
  have f3 := frozen_of_row _ _ 3 _ _ h.box
  have hcut := cut_clip a bs.length c n (Nat.le_trans hn h.row.cap.2) w
  have H := Lib.hid h
  clear h
  go_enter Try.func29, Try.ntmps29
  go_wp2
  go_end0
  have hoff := (H.out.row.cut n hn).off H.out.box (by decide)
  have hg := grownBy_trans (grownBy_setCell w ⟨g, 2, none⟩ (.slice a n n)) (grownBy_setCell (w.setCell ⟨g, 2, none⟩ (.slice a n n)) ⟨g, 3, none⟩ (.int .i64 n))
  refine ⟨rfl, .slice a n n, ⟨set_field (set_field H.out.box 2 _ rfl) 3 _ rfl, H.out.base, ?_, ?_, ?_, H.out.room⟩, KeptBut.of_grown hg (fun k e => .inl (by cases e; rfl)), fun k hk => .inl (by cases a with | none => cases hk | some ad => exact hk)⟩
  · exact (H.out.row.cut n hn).kept hg (.inr (fun e => hoff e.symm))
  · show n ≤ (bs.take n).length
    omega
  · show (bs.take n).length ≤ room
    have := H.out.len
    omega
/-- Flush -/
theorem dkFlush_any (w : World) (h : Dk w b0 g o room fl bs) :
    Calls Try.prog 15 #[.pointer (some ⟨g, 0, none⟩)] w fun e w' => e = .returned (.int .i64 ((bs.length : Int) - fl)) ∧ Dk w' b0 g o room bs.length bs ∧ WrStep g o o w w' := by
  have Hl := Lib.hid (dkLoose_any w h)
  have H := Lib.hid h
  clear h
  go_enter Try.func15, Try.ntmps15
  go_wp2_with fail
  with_reducible refine Calls.mono Hl.out ?_
  rintro e w1 ⟨rfl, hu⟩
  have h := H.out.up hu
  have Hm := Lib.hid (dkMade_any g _ _ _ w1 h.box)
  obtain ⟨c0, c1, c2, c3⟩ := h.cells
  have f3 := frozen_of_row _ _ 3 _ _ h.box
  have hoff := Lib.hid (h.row.off h.box (by decide))
  obtain ⟨a, c, rfl⟩ := h.row.shape
  have Hu := Lib.hid hu
  have H1 := Lib.hid h
  clear h hu
  go_wp2_with fail
  with_reducible refine Calls.mono Hm.out ?_
  rintro e w2 ⟨rfl, rfl⟩
  go_wp2
  go_ret
  have hg := grownBy_setCell w1 ⟨g, 3, none⟩ (.int .i64 bs.length)
  exact ⟨rfl, ⟨set_field H1.out.box 3 _ rfl, H1.out.base, H1.out.row.kept hg (.inr (fun e => hoff.out e.symm)), Nat.le_refl _, H1.out.len, H1.out.room⟩, (KeptBut.of_up Hu.out).trans (KeptBut.of_grown (S := WrS g _) hg (fun k e => .inl (by cases e; rfl))) (fun _ _ e => e), fun k hk => .inl hk⟩
/-- Append -/
theorem dkAppend_full (v : Value) (zs : List Int) (w : World) (h : Dk w b0 g o room fl bs) (hv : Ints .u8 w v zs) (hz : zs.length ≤ 9223372036854775807) (hlen : room < bs.length + zs.length) :
    Calls Try.prog 26 #[.pointer (some ⟨g, 0, none⟩), v] w fun e w' => e = .returned (.int .i64 17) ∧ Up w w' := by
  have Hm := Lib.hid (dkMade_any g _ _ _ w h.box)
  obtain ⟨c0, c1, c2, c3⟩ := h.cells
  obtain ⟨a, c, rfl⟩ := h.row.shape
  obtain ⟨b, d, rfl, _, _, _⟩ := hv
  have hw := IntWalk.i64_in ((room : Int) - bs.length) (by have := h.len; have := h.fl; have := h.room; omega)
  have hlt : (room : Int) - bs.length < zs.length := by omega
  clear h
  go_enter Try.func26, Try.ntmps26
  go_wp2_with fail
  with_reducible refine Calls.mono Hm.out ?_
  rintro e w1 ⟨rfl, rfl⟩
  go_wp2
  go_region
  go_wp2
  go_ret
  exact ⟨rfl, Up.drew1 w⟩
theorem dkAppend_on (v : Value) (zs : List Int) (w : World) (h : Dk w b0 g o room fl bs) (hv : Ints .u8 w v zs) (hlen : bs.length + zs.length ≤ room) (hb : b0 ≤ w.heap.size) :
    Calls Try.prog 26 #[.pointer (some ⟨g, 0, none⟩), v] w fun e w' => e = .returned (.int .i64 0) ∧ ∃ o', Dk w' b0 g o' room fl (bs ++ zs) ∧ WrStep g o o' w w' := by
  have Hm := Lib.hid (dkMade_any g _ _ _ w h.box)
  obtain ⟨c0, c1, c2, c3⟩ := h.cells
  have H := Lib.hid h
  have Hd := Lib.hid (h.up (Up.drew1 w))
  have hro := h.room
  obtain ⟨a, c, rfl⟩ := h.row.shape
  have Hv := Lib.hid hv
  obtain ⟨b, d, rfl, _, _, _⟩ := hv
  have hw := IntWalk.i64_in ((room : Int) - bs.length) (by have := h.len; have := h.fl; have := h.room; omega)
  have hlt : ¬ ((room : Int) - bs.length < zs.length) := by omega
  have f2 := frozen_of_row _ _ 2 _ _ h.box
  have Hoff := Lib.hid (h.row.off h.box (by decide))
  clear h
  go_enter Try.func26, Try.ntmps26
  go_wp2_with fail
  with_reducible refine Calls.mono Hm.out ?_
  rintro e w1 ⟨rfl, rfl⟩
  go_wp2
  go_region
  go_wp2_with (at_builtin; go_loud (refine wpList_append_clip _ rfl (.tmp 25) (.tmp 26) rfl b0 _ bs rfl Hd.out.row _ zs rfl (Hv.out.up (Up.drew1 w)) (by omega) hb ?_; intro v' w3 hown' hgrow hat; obtain ⟨a9, c9, hs9⟩ := hown'.shape; rw [List.length_append] at hs9; subst hs9; have hg3 := (hgrow.block g Hd.out.lt Hoff.out).trans Hd.out.box; have hc3 := cell_of_row _ _ 2 _ _ _ hg3; have hf3 := frozen_of_row _ _ 2 _ _ hg3; simp only [List.getElem?_toArray, List.getElem?_cons_zero, List.getElem?_cons_succ] at hc3; have Hg3 := Lib.hid hg3; clear hg3; have Hgrow := Lib.hid hgrow; clear hgrow; have Hown' := Lib.hid hown'; clear hown'; have Hat := Lib.hid hat; clear hat))
  go_ret
  have hne := Hown'.out.off Hg3.out (by decide)
  have hg2 := grownBy_setCell w3 ⟨g, 2, none⟩ (.slice a9 (bs.length + zs.length) c9)
  refine ⟨rfl, _, ⟨set_field Hg3.out 2 _ rfl, H.out.base, Hown'.out.kept hg2 (.inr (fun e => hne e.symm)), ?_, by rw [List.length_append]; omega, H.out.room⟩, ?_, ?_⟩
  · have := H.out.fl
    rw [List.length_append]
    omega
  · exact ((KeptBut.of_up (S := WrS g _) (Up.drew1 w)).trans (KeptBut.of_grown (S := WrS g _) Hgrow.out (fun k e => .inr e)) (fun _ _ e => e)).trans (KeptBut.of_grown (S := WrS g _) hg2 (fun k e => .inl (by cases e; rfl))) (fun _ _ e => e)
  · intro k hk
    rcases Hat.out with e | e
    · exact .inl (e.symm.trans hk)
    · rw [e] at hk; cases hk; exact .inr (Nat.le_refl _)
/-- Cut -/
theorem dkCut_no (x : Int) (w : World) (h : Dk w b0 g o room fl bs) (hx : x < 0 ∨ (bs.length : Int) < x) :
    Calls Try.prog 30 #[.pointer (some ⟨g, 0, none⟩), .int .i64 x] w fun e w' => e = .returned (.int .i64 4) ∧ w = w' := by
  have Hm := Lib.hid (dkMade_any g _ _ _ w h.box)
  obtain ⟨c0, c1, c2, c3⟩ := h.cells
  obtain ⟨a, c, rfl⟩ := h.row.shape
  clear h
  have hx' : x < 0 ∨ (¬ x < 0 ∧ (bs.length : Int) < x) := by omega
  clear hx
  rcases hx' with hx0 | ⟨hx0, hx1⟩
  all_goals
    go_enter Try.func30, Try.ntmps30
    go_wp2_with fail
    with_reducible refine Calls.mono Hm.out ?_
    rintro e w1 ⟨rfl, rfl⟩
    go_wp2
    go_ret
    exact ⟨rfl, rfl⟩
theorem dkCut_on (x : Int) (w : World) (h : Dk w b0 g o room fl bs) (hx0 : 0 ≤ x) (hx1 : x ≤ bs.length) :
    Calls Try.prog 30 #[.pointer (some ⟨g, 0, none⟩), .int .i64 x] w fun e w' => e = .returned (.int .i64 0) ∧ ∃ o', Dk w' b0 g o' room x.toNat (bs.take x.toNat) ∧ WrStep g o o' w w' := by
  have Hm := Lib.hid (dkMade_any g _ _ _ w h.box)
  have Hl := Lib.hid (dkLeave_any x w h hx0 hx1)
  obtain ⟨c0, c1, c2, c3⟩ := h.cells
  obtain ⟨a, c, rfl⟩ := h.row.shape
  clear h
  go_enter Try.func30, Try.ntmps30
  go_wp2_with fail
  with_reducible refine Calls.mono Hm.out ?_
  rintro e w1 ⟨rfl, rfl⟩
  go_wp2_with fail
  with_reducible refine Calls.mono Hl.out ?_
  rintro e w2 ⟨rfl, o', h1, h2⟩
  have H1 := Lib.hid h1
  have H2 := Lib.hid h2
  clear h1 h2
  go_wp2
  go_ret
  exact ⟨rfl, o', H1.out, H2.out⟩
end
end
end
end Go.Proofs.Ytaepdmmlejdifaa
