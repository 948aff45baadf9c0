import Derived.Test.YtnnjoeppcbbblaaCtHigh
import Derived.Test.YtnnjoeppcbbblaaStrs
import Derived.Laws.StructEq
/-
  cert: whether one is the first; Check of what is so or has no votes; the page's example.
-/
namespace Go.Proofs.Ytnnjoeppcbbblaa
set_option maxRecDepth 100000
section
set_option linter.unusedVariables false
open Go.RowKit

theorem toList_dec {a b : ByteArray} : (a.toList == b.toList) = decide (a = b) := by
  by_cases h : a = b
  · subst h; simp
  · rw [decide_eq_false h]; exact beq_eq_false_iff_ne.2 fun e => h (toList_inj e)

set_option maxHeartbeats 1000000 in
theorem isFirst_any (V H : Int) (B : ByteArray) (u : Option Addr) (n c : Nat) (b : Bool) (hb : b = decide (V = 0 ∧ H = 0 ∧ B = strOfNums gen32)) (w : World) :
    Calls Try.prog 26 #[.agg #[.int .i64 V, .int .i64 H, .string B, .slice u n c]] w fun e w' => e = .returned (.bool (b && ((n : Int) == 0))) ∧ Up w w' := by
  have HM := Lib.hid (fun V H B wx => mark_any V H B u n c wx)
  have HM0 := Lib.hid (fun wx => mark_any 0 0 (strOfNums gen32) none 0 0 wx)
  have HF := Lib.hid (fun wx => first_any wx)
  generalize strOfNums gen32 = GS at hb HM0 HF ⊢
  have HUz := Lib.hid (Up.alloc (Up.refl w) (.cells #[.int .i64 V, .int .i64 H, .string B, .slice u n c] 26))
  have HB0 := Lib.hid (heap_alloc_new w (.cells #[.int .i64 V, .int .i64 H, .string B, .slice u n c] 26))
  have heq : ∀ wx : World, (binOp .eql 24 (.agg #[.int .i64 V, .int .i64 H, .string B]) (.agg #[.int .i64 0, .int .i64 0, .string GS])).run Try.prog wx = .ok (.bool b) wx := fun wx => by
    subst hb
    simp [go_sem, toList_dec, Bool.decide_and]
    repeat' split
    all_goals simp [*]
  have heg : ∀ (x y : Operand) (wx : World), (eqGuard .eql 24 x y (.agg #[.int .i64 V, .int .i64 H, .string B]) (.agg #[.int .i64 0, .int .i64 0, .string GS])).run Try.prog wx = .ok () wx := fun x y wx => by simp [go_sem]
  clear hb
  obtain ⟨hc0, hc1, hc2, hc3⟩ := ct_cells HB0.out
  go_enter Try.func26, Try.ntmps26
  go_wp2_with fail
  with_reducible refine Calls.mono (HM.out _ _ _ _) ?_
  rintro e w1 ⟨rfl, hU1⟩
  have B1 := Lib.hid ((hU1.block _ (lt_of_block HB0.out)).trans HB0.out)
  have HU1 := Lib.hid (Up.trans HUz.out hU1)
  clear hU1
  go_wp2_with fail
  with_reducible refine Calls.mono (HF.out _) ?_
  rintro e w2 ⟨rfl, hU2⟩
  have B2 := Lib.hid ((hU2.block _ (lt_of_block B1.out)).trans B1.out)
  have HU2 := Lib.hid (Up.trans HU1.out hU2)
  clear hU2
  go_wp2_with fail
  with_reducible refine Calls.mono (HM0.out _) ?_
  rintro e w3 ⟨rfl, hU3⟩
  have B3 := Lib.hid ((hU3.block _ (lt_of_block B2.out)).trans B2.out)
  have HU3 := Lib.hid (Up.trans HU2.out hU3)
  clear hU3 hc0 hc1 hc2 hc3
  obtain ⟨hc0, hc1, hc2, hc3⟩ := ct_cells B3.out
  cases b with
  | false =>
    go_wp2
    go_ret
    exact ⟨rfl, HU3.out⟩
  | true =>
    go_wp2
    go_ret
    exact ⟨rfl, HU3.out⟩

theorem check_first (w : World) : Calls Try.prog 13 #[.agg #[.int .i64 0, .int .i64 0, .string (strOfNums gen32), .slice none 0 0], .slice none 0 0, .int .i64 3] w fun e w' => e = .returned (.int .i64 0) ∧ Up w w' := by
  have HF := Lib.hid (fun wx => isFirst_any 0 0 (strOfNums gen32) none 0 0 true (by simp) wx)
  generalize strOfNums gen32 = GS at HF ⊢
  have HUz := Lib.hid (Up.alloc (Up.refl w) (.cells #[.int .i64 0, .int .i64 0, .string GS, .slice none 0 0] 26))
  have HB0 := Lib.hid (heap_alloc_new w (.cells #[.int .i64 0, .int .i64 0, .string GS, .slice none 0 0] 26))
  obtain ⟨hc0, hc1, hc2, hc3⟩ := ct_cells HB0.out
  go_enter Try.func13, Try.ntmps13
  go_wp2_with fail
  with_reducible refine Calls.mono (HF.out _) ?_
  rintro e w1 ⟨rfl, hU1⟩
  have HU1 := Lib.hid (Up.trans HUz.out hU1)
  clear hU1
  simp only [Bool.true_and, Int.natCast_zero, beq_self_eq_true]
  go_wp2
  go_ret
  exact ⟨rfl, HU1.out⟩

set_option maxHeartbeats 1000000 in
/-- none votes, some are asked -/
theorem voted_none (V H : Int) (B : ByteArray) (ra : Option Addr) (rn rc : Nat) (w : World) : Calls Try.prog 27 #[.agg #[.int .i64 V, .int .i64 H, .string B, .slice none 0 0], .slice ra rn rc, .int .i64 3] w fun e w' => e = .returned (.bool false) ∧ Up w w' := by
  have hb0 := heap_alloc_new w (.cells #[.int .i64 V, .int .i64 H, .string B, .slice none 0 0] 26)
  have hb1 := ((Up.alloc (Up.refl (w.alloc (.cells #[.int .i64 V, .int .i64 H, .string B, .slice none 0 0] 26))) (.cells #[.slice ra rn rc] 51)).block _ (lt_of_block hb0)).trans hb0
  obtain ⟨hc0, hc1, hc2, hc3⟩ := ct_cells hb1
  clear hb0 hb1
  go_enter Try.func27, Try.ntmps27
  go_wp2
  go_ret
  exact ⟨rfl, Up.alloc (Up.alloc (Up.refl w) _) _⟩
theorem check_none (w : World) : Calls Try.prog 13 #[.agg #[.int .i64 0, .int .i64 0, .string ⟨#[]⟩, .slice none 0 0], .slice none 0 0, .int .i64 3] w fun e w' => e = .returned (.int .i64 41) ∧ Up w w' := by
  have HF := Lib.hid (fun wx => isFirst_any 0 0 ⟨#[]⟩ none 0 0 false (decide_eq_false (fun h => by have := congrArg ByteArray.size h.2.2; rw [strOfNums_size] at this; simp [gen32] at this; exact absurd this (by decide))).symm wx)
  have HV := Lib.hid (fun wx => voted_none 0 0 ⟨#[]⟩ none 0 0 wx)
  have HUz := Lib.hid (Up.alloc (Up.refl w) (.cells #[.int .i64 0, .int .i64 0, .string ⟨#[]⟩, .slice none 0 0] 26))
  have HB0 := Lib.hid (heap_alloc_new w (.cells #[.int .i64 0, .int .i64 0, .string ⟨#[]⟩, .slice none 0 0] 26))
  obtain ⟨hc0, hc1, hc2, hc3⟩ := ct_cells HB0.out
  go_enter Try.func13, Try.ntmps13
  go_wp2_with fail
  with_reducible refine Calls.mono (HF.out _) ?_
  rintro e w1 ⟨rfl, hU1⟩
  have B1 := Lib.hid ((hU1.block _ (lt_of_block HB0.out)).trans HB0.out)
  have HU1 := Lib.hid (Up.trans HUz.out hU1)
  clear hU1 hc0 hc1 hc2 hc3
  obtain ⟨hc0, hc1, hc2, hc3⟩ := ct_cells B1.out
  simp only [Bool.false_and]
  go_wp2_with fail
  with_reducible refine Calls.mono (HV.out _) ?_
  rintro e w2 ⟨rfl, hU2⟩
  have HU2 := Lib.hid (Up.trans HU1.out hU2)
  clear hU2
  go_wp2
  go_ret
  exact ⟨rfl, HU2.out⟩
set_option maxHeartbeats 1000000 in
theorem ctAlive_any (w : World) : Calls Try.prog 8 #[] w fun e w' => e = .returned (.bool true) ∧ Up w w' := by
  have H1 := Lib.hid first_any
  have H2 := Lib.hid check_first
  have H3 := Lib.hid check_none
  generalize strOfNums gen32 = GS at H1 H2
  go_enter Try.func8, Try.ntmps8
  go_wp2_with fail
  with_reducible refine Calls.mono (H1.out _) ?_
  rintro e w1 ⟨rfl, hU1⟩
  have HU1 := Lib.hid hU1
  clear hU1
  go_wp2_with fail
  with_reducible refine Calls.mono (H2.out _) ?_
  rintro e w2 ⟨rfl, hU2⟩
  have HU2 := Lib.hid (Up.trans HU1.out hU2)
  clear hU2
  go_wp2_with fail
  with_reducible refine Calls.mono (H3.out _) ?_
  rintro e w3 ⟨rfl, hU3⟩
  have HU3 := Lib.hid (Up.trans HU2.out hU3)
  clear hU3
  go_wp2
  go_ret
  exact ⟨rfl, HU3.out⟩
end
end Go.Proofs.Ytnnjoeppcbbblaa
