import Derived.Test.YtmjcjbiengcigaaHeTick
import Derived.Test.YtmjcjbiengcigaaPlainInts
/-
  HeldFresh: the walk returns true.
-/
namespace Go.Proofs.Ytmjcjbiengcigaa
set_option maxRecDepth 100000
set_option linter.unusedVariables false
open Go.RowKit Go.Shelf

/-- Tick, where the told is known -/
theorem tick_of (V H : Int) (B : ByteArray) (S T N : Int) (ys : List Int) (w : World) (hT : T ≤ 9223372036854775807) (hT0 : -9223372036854775808 ≤ T) (h : dueL B T (fullL S N) = ys) :
    Calls Try.prog 6 #[.agg (heC V H B S T), .int .i64 N] w fun e w' => ∃ a c, e = .returned (.tuple #[.agg (heC V H B S (T + ys.length)), .slice a ys.length c]) ∧ w'.ownsRow w.heap.size 3 1 (.slice a ys.length c) ys.length (ys.map (Value.int .i64)) ∧ Up w w' := by
  refine (tick_any V H B S T N w hT hT0).mono ?_
  rw [h]
  rintro e w' ⟨v, rfl, h1, h2⟩
  obtain ⟨a, c, rfl⟩ := row_shape h1
  exact ⟨a, c, rfl, h1, h2⟩
theorem runs_x : runs ⟨#[120]⟩ = true := by unfold runs; simp
theorem unL_run {B : ByteArray} (h : runs B = true) (t : Nat) : unL B t = upF t (7 - t) := by unfold unL; rw [if_pos ⟨h, by omega⟩]; simp
theorem unL_off {B : ByteArray} (h : runs B = false) (T : Int) : unL B T = [] := by unfold unL; rw [if_neg (fun e => by rw [h] at e; cases e.1)]
theorem due_off {B : ByteArray} (h : runs B = false) (T F : Int) : dueL B T F = [] := by unfold dueL; rw [unL_off h]; rfl
theorem heAlive_any (w : World) : Calls Try.prog 11 #[] w fun e w' => e = .returned (.bool true) ∧ Up w w' := by
  have HS := Lib.hid (fun wx => start_any 0 0 ⟨#[120]⟩ 5 wx)
  have hd : dueL ⟨#[120]⟩ 0 (fullL 5 8) = [1, 2] := by
    have h1 := unL_run runs_x 0
    unfold dueL
    rw [show unL ⟨#[120]⟩ 0 = _ from h1]
    decide
  have HT := Lib.hid (fun wx => tick_of 0 0 ⟨#[120]⟩ 5 0 8 [1, 2] wx (by decide) (by decide) hd)
  have HR := Lib.hid (fun wx => running_any 0 0 ⟨#[120]⟩ 5 0 wx)
  rw [runs_x] at HR
  clear hd
  unfold mkC at HS
  unfold heC at HS HT HR
  go_enter Try.func11, Try.ntmps11
  go_wp2_with fail
  with_reducible refine Calls.mono (HS.out _) ?_
  rintro e w1 ⟨rfl, hU1⟩
  have u1 := Up.alloc hU1 (.cells #[.int .i64 0, .int .i64 0, .string ⟨#[120]⟩, .int .i64 5, .int .i64 0] 25)
  have r1 := heap_alloc_new w1 (.cells #[.int .i64 0, .int .i64 0, .string ⟨#[120]⟩, .int .i64 5, .int .i64 0] 25)
  go_wp2_with fail
  with_reducible refine Calls.mono (HT.out _) ?_
  rintro e w2 ⟨a, c, rfl, hr, hU2⟩
  have u2 := Up.alloc (u1.trans hU2) (.cells #[.int .i64 0, .int .i64 0, .string ⟨#[120]⟩, .int .i64 5, .int .i64 2] 25)
  have r2 := (hU2.block _ (lt_of_block r1)).trans r1
  have u3 := Up.alloc (Up.alloc (Up.refl w2) (.cells #[.int .i64 0, .int .i64 0, .string ⟨#[120]⟩, .int .i64 5, .int .i64 2] 25)) (.cells #[.int .i64 1, .int .i64 2] 3)
  have r3 := (u3.block _ (lt_of_block r2)).trans r2
  have i3 : Ints .i64 _ (.slice a 2 c) [1, 2] := (Ints.of_row hr).up u3
  have i4 := Ints.new' (w2.alloc (.cells #[.int .i64 0, .int .i64 0, .string ⟨#[120]⟩, .int .i64 5, .int .i64 2] 25)) .i64 3 [1, 2] (w2.heap.size + 1) 2 (by simp) rfl
  simp only [List.map_cons, List.map_nil] at i4
  have HI := Lib.hid (sameInts0_any _ _ [1, 2] _ i3 i4 (by decide))
  have HU3 := Lib.hid ((u1.trans hU2).trans u3)
  have HR3 := Lib.hid r3
  clear u1 r1 u2 r2 u3 r3 i3 i4 hr hU1 hU2
  go_wp2_with fail
  with_reducible refine Calls.mono HI.out ?_
  rintro e w4 ⟨rfl, hU4⟩
  have r4 := (hU4.block _ (lt_of_block HR3.out)).trans HR3.out
  obtain ⟨q0, q1, q2, q3, q4⟩ := tx_cells r4
  go_wp2_with fail
  with_reducible refine Calls.mono (HR.out _) ?_
  rintro e w5 ⟨rfl, hU5⟩
  go_wp2
  go_ret
  exact ⟨rfl, (HU3.out.trans hU4).trans hU5⟩
theorem norm_in (s m : Int) (hm : 0 < m) (hm2 : m ≤ 1000000) : 0 ≤ (wrap64 (s.tmod m + m)).tmod m ∧ (wrap64 (s.tmod m + m)).tmod m < m := by
  have h1 := Int.lt_tmod_of_pos s hm
  have h2 := Int.tmod_lt_of_pos s hm
  have h3 : wrap64 (s.tmod m + m) = s.tmod m + m := by unfold wrap64; omega
  rw [h3]
  exact ⟨Int.tmod_nonneg _ (by omega), Int.tmod_lt_of_pos _ hm⟩
/-- which are due when a block was held from S on -/
theorem due_first (B : ByteArray) (S : Int) (h0 : 0 ≤ S) (h1 : S ≤ 100000) (d : Int) (hd : 0 ≤ d ∧ d ≤ 1) : dueL B 0 (fullL S (S + d)) = [] := by
  have hf : fullL S (S + d) = 0 := by
    unfold fullL isTk
    rw [if_pos ⟨decide_eq_true (by omega), decide_eq_true (by omega)⟩]; omega
  rw [hf]
  cases hr : runs B with
  | false => exact due_off hr _ _
  | true =>
    have h2 := unL_run hr 0
    unfold dueL
    rw [show unL B 0 = _ from h2]
    decide
theorem due_second (B : ByteArray) (S : Int) (h0 : 0 ≤ S) (h1 : S ≤ 100000) : dueL B 0 (fullL S (S + 2)) = if runs B = true then [1] else [] := by
  have hf : fullL S (S + 2) = 1 := by
    unfold fullL isTk
    rw [if_pos ⟨decide_eq_true (by omega), decide_eq_true (by omega)⟩]; omega
  rw [hf]
  cases hr : runs B with
  | false => exact due_off hr _ _
  | true =>
    have h2 := unL_run hr 0
    unfold dueL
    rw [show unL B 0 = _ from h2]
    decide
set_option maxHeartbeats 1000000 in
theorem lawHeFresh_any (V H : Int) (B : ByteArray) (s : Int) (w : World) (hs : -9223372036854775808 ≤ s ∧ s ≤ 9223372036854775807) :
    Calls Try.prog 5 #[.agg (mkC V H B), .int .i64 s] w fun e w' => e = .returned (.bool true) ∧ Up w w' := by
  have r0 := heap_alloc_new w (.cells #[.int .i64 V, .int .i64 H, .string B] 23)
  have HU0 := Lib.hid (Up.alloc (Up.refl w) (.cells #[.int .i64 V, .int .i64 H, .string B] 23))
  have HR0 := Lib.hid r0
  clear r0
  unfold mkC
  go_enter Try.func5, Try.ntmps5
  go_wp2_with fail
  with_reducible refine Calls.mono (heAlive_any _) ?_
  rintro e w1 ⟨rfl, hU1⟩
  have r1 := (hU1.block _ (lt_of_block HR0.out)).trans HR0.out
  obtain ⟨q0, q1, q2⟩ := mk_cells r1
  go_wp2_with fail
  have hn := norm_in s 100000 (by decide) (by decide)
  generalize (wrap64 (s.tmod 100000 + 100000)).tmod 100000 = S at hn ⊢
  have hw1 : wrap64 (S + 1) = S + 1 := by unfold wrap64; omega
  have hw2 : wrap64 (S + 2) = S + 2 := by unfold wrap64; omega
  have HS := Lib.hid (fun wx => start_any V H B S wx)
  have hd0 := due_first B S hn.1 (by omega) 0 (by decide)
  rw [Int.add_zero] at hd0
  have HT0 := Lib.hid (fun wx => tick_of V H B S 0 S _ wx (by decide) (by decide) hd0)
  have HT1 := Lib.hid (fun wx => tick_of V H B S 0 (S + 1) _ wx (by decide) (by decide) (due_first B S hn.1 (by omega) 1 (by decide)))
  have HT2 := Lib.hid (fun wx => tick_of V H B S 0 (S + 2) _ wx (by decide) (by decide) (due_second B S hn.1 (by omega)))
  obtain ⟨ys, hys⟩ : ∃ ys : List Int, (if runs B = true then [1] else []) = ys := ⟨_, rfl⟩
  have hyl : (((ys.length : Int) == 1) == !B.toList.isEmpty) = true := by
    rw [← hys]
    show (_ == runs B) = true
    cases runs B <;> rfl
  rw [hys] at HT2
  unfold mkC at HS
  unfold heC at HS HT0 HT1 HT2
  simp only [List.length_nil, Int.add_zero, Int.natCast_zero] at HT0 HT1
  have HRow := Lib.hid r1
  have HYL := Lib.hid hyl
  have hy7 : ys.length ≤ 1 := by rw [← hys]; split <;> simp
  clear hd0 hys hyl
  have hone := one_he V H B S 0
  with_reducible refine Calls.mono (HS.out _) ?_
  rintro e w2 ⟨rfl, hU2⟩
  have r2 := (hU2.block _ (lt_of_block r1)).trans r1
  have h2 := heap_alloc_new w2 (.cells #[.int .i64 V, .int .i64 H, .string B, .int .i64 S, .int .i64 0] 25)
  have u2 := Up.alloc (Up.refl w2) (.cells #[.int .i64 V, .int .i64 H, .string B, .int .i64 S, .int .i64 0] 25)
  have R2 := Lib.hid ((u2.block _ (lt_of_block r2)).trans r2)
  have U2 := Lib.hid (((HU0.out.trans hU1).trans hU2).trans u2)
  have H2 := Lib.hid h2
  have hlt := lt_of_block r2
  have hlw : w.heap.size ≤ w2.heap.size := by omega
  clear q0 q1 q2 r1 r2 h2 u2 hU1 hU2
  go_wp2_with fail
  generalize hb2 : w2.heap.size = b2 at *
  with_reducible refine Calls.mono (HT0.out _) ?_
  rintro e w3 ⟨a3, c3, rfl, _, hU3⟩
  have H3 := Lib.hid ((hU3.block _ (lt_of_block H2.out)).trans H2.out)
  have R3 := Lib.hid ((hU3.block _ (lt_of_block R2.out)).trans R2.out)
  have U3 := Lib.hid (U2.out.trans hU3)
  clear hU3
  go_wp2_with (refine wpList_store_agg rfl 25 (.tmp 5) (.tmp 23) rfl b2 _ #[.int .i64 V, .int .i64 H, .string B, .int .i64 S, .int .i64 0] rfl rfl 25 H3.out info_he rfl hone ?_; intro w4 hg4 hgr4; obtain ⟨q0, q1, q2, q3, q4⟩ := tx_cells hg4)
  have U4 := Lib.hid (up_at U3.out hgr4 (by omega))
  have R4 := Lib.hid ((hgr4.block _ (lt_of_block R3.out) (fun e => by simp only [Option.some.injEq] at e; omega)).trans R3.out)
  have H4 := Lib.hid hg4
  clear q0 q1 q2 q3 q4 hg4 hgr4
  with_reducible refine Calls.mono (HT1.out _) ?_
  rintro e w5 ⟨a5, c5, rfl, _, hU5⟩
  have H5 := Lib.hid ((hU5.block _ (lt_of_block H4.out)).trans H4.out)
  have R5 := Lib.hid ((hU5.block _ (lt_of_block R4.out)).trans R4.out)
  have U5 := Lib.hid (U4.out.trans hU5)
  clear hU5
  go_wp2_with (refine wpList_store_agg rfl 25 (.tmp 5) (.tmp 30) rfl b2 _ #[.int .i64 V, .int .i64 H, .string B, .int .i64 S, .int .i64 0] rfl rfl 25 H5.out info_he rfl hone ?_; intro w6 hg6 hgr6; obtain ⟨q0, q1, q2, q3, q4⟩ := tx_cells hg6)
  have U6 := Lib.hid (up_at U5.out hgr6 (by omega))
  have R6 := Lib.hid ((hgr6.block _ (lt_of_block R5.out) (fun e => by simp only [Option.some.injEq] at e; omega)).trans R5.out)
  clear q0 q1 q2 q3 q4 hg6 hgr6
  with_reducible refine Calls.mono (HT2.out _) ?_
  rintro e w7 ⟨a7, c7, rfl, _, hU7⟩
  have r7 := (hU7.block _ (lt_of_block R6.out)).trans R6.out
  have U7 := Lib.hid (U6.out.trans hU7)
  clear hU7
  have u8 := Up.alloc (Up.refl w7) (.cells #[.int .i64 V, .int .i64 H, .string B, .int .i64 S, .int .i64 (0 + (ys.length : Int))] 25)
  have r8 := (u8.block _ (lt_of_block r7)).trans r7
  obtain ⟨q0, q1, q2⟩ := mk_cells r8
  clear u8 r8 r7
  rw [Int.zero_add] at q0 q1 q2
  go_wp2
  go_ret
  exact ⟨by rw [← HYL.out]; rfl, Up.alloc U7.out _⟩
end Go.Proofs.Ytmjcjbiengcigaa
