import Derived.Test.YtmkgpegcbnmliaaPace
/-
  PaceTells: the walk returns true.
-/
namespace Go.Proofs.Ytmkgpegcbnmliaa
set_option maxRecDepth 100000
set_option linter.unusedVariables false
open Go.RowKit

/-- a base doubled k times, but at most 2^21 -/
def upL (b : Int) : Nat → Int
  | 0 => b
  | k + 1 => min (2 * upL b k) 2097152
theorem upL_is (b : Int) (hb : 1 ≤ b ∧ b ≤ 1048576) (k : Nat) : upL b k = min (b * 2 ^ k) 2097152 := by
  induction k with
  | zero => simp only [upL, Int.pow_zero, Int.mul_one]; omega
  | succ k ih => simp only [upL]; rw [ih, Int.pow_succ, ← Int.mul_assoc]; omega
theorem upL_end (b t m : Int) (k : Nat) (hk : ((k : Int) = t ∧ k ≤ 21) ∨ (t ≤ 0 ∧ k = 0) ∨ (21 ≤ t ∧ k = 21)) :
    min (upL (clamp b 1 1048576) k) (clamp m 1 1048576) = waitL b t m := by
  have h1 := clamp_in b 1 1048576 (by decide)
  have h2 := clamp_in m 1 1048576 (by decide)
  rw [upL_is _ h1]
  unfold waitL doubledTo
  rcases hk with ⟨h, h'⟩ | ⟨h, rfl⟩ | ⟨h, rfl⟩
  · rw [show t.toNat = k by omega]
    omega
  · rw [show t.toNat = 0 by omega]
    omega
  · obtain ⟨j, hj⟩ : ∃ j, t.toNat = 21 + j := ⟨t.toNat - 21, by omega⟩
    rw [hj, Int.pow_add, ← Int.mul_assoc]
    have e : clamp b 1 1048576 * 2 ^ 21 = clamp b 1 1048576 * 2097152 := rfl
    rw [e]
    have := Int.mul_le_mul_of_nonneg_left (pow_one_le j) (show 0 ≤ clamp b 1 1048576 * 2097152 by omega)
    omega
theorem lawPcTells_any (n b t m d : Int) (w : World) (ht : t ≤ 9223372036854775807) :
    Calls Try.prog 3 #[.int .i64 n, .int .i64 b, .int .i64 t, .int .i64 m, .int .i64 d] w fun e w' => e = .returned (.bool true) ∧ Up w w' := by
  have HE := Lib.hid (upL_end b t m)
  have HW := Lib.hid (fun wx => wait_any b t m wx ht)
  have HD := Lib.hid (fun wx => due_any n b t m wx ht)
  have HL := Lib.hid (fun wx => late_any n d wx)
  have hL := wait_in b t m
  have hB := clamp_in b 1 1048576 (by decide)
  have hM := clamp_in m 1 1048576 (by decide)
  have hN := clamp_in n 0 1099511627776 (by decide)
  have eB : min (max b 1) 1048576 = clamp b 1 1048576 := by unfold clamp; omega
  have eM : min (max m 1) 1048576 = clamp m 1 1048576 := by unfold clamp; omega
  have eN : min (max n 0) 1099511627776 = clamp n 0 1099511627776 := by unfold clamp; omega
  generalize waitL b t m = L at *
  generalize clamp b 1 1048576 = B at *
  generalize clamp m 1 1048576 = M at *
  generalize clamp n 0 1099511627776 = N at *
  have HB := Lib.hid eB
  have HM := Lib.hid eM
  have HN := Lib.hid eN
  clear eB eM eN
  go_enter Try.func3, Try.ntmps3
  go_wp2
  rw [HB.out, HM.out]
  go_loopw [11, 13] (fun i j wr => ∃ k : Nat, i = .int .i64 (upL B k) ∧ j = .int .i64 k ∧ k ≤ 21 ∧ ((k : Int) ≤ t ∨ k = 0) ∧ Up w wr) (fun i j _ => 21 - (intOf j).toNat)
  case atStart => exact ⟨0, rfl, rfl, by omega, Or.inr rfl, Up.refl _⟩
  case round =>
    obtain ⟨k, rfl, rfl, hk, hkt, hU⟩ := hrel
    have hup : 1 ≤ upL B k ∧ upL B k ≤ 2097152 := by
      rw [upL_is _ hB]
      have := Int.mul_le_mul_of_nonneg_left (pow_one_le k) (show 0 ≤ B by omega)
      omega
    have HS := Lib.hid (show upL B (k + 1) = min (2 * upL B k) 2097152 from rfl)
    have hE := HE.out k
    generalize upL B k = U at *
    by_cases h1 : (k : Int) < t
    · by_cases h2 : k < 21
      · have hw := IntWalk.i64_in (2 * U) (by omega)
        have hw2 := IntWalk.i64_in ((k : Int) + 1) (by omega)
        clear hE
        go_wp2
        go_roundw
        case rel => exact ⟨k + 1, by rw [HS.out], by go_num, by omega, Or.inl (by omega), hU⟩
        case measure => simp [intOf]; omega
      · obtain rfl : k = 21 := by omega
        have HX := Lib.hid (hE (Or.inr (Or.inr ⟨by omega, rfl⟩)))
        clear hE
        have h21 : ((21 : Nat) : Int) = 21 := rfl
        have hX := HX.out
        have hN' := HN.out
        go_wp2_with fail
        with_reducible refine Calls.mono (HW.out _) ?_
        rintro e w1 ⟨rfl, hU1⟩
        go_wp2_with fail
        with_reducible refine Calls.mono (HD.out _) ?_
        rintro e w2 ⟨rfl, hU2⟩
        go_wp2_with fail
        with_reducible refine Calls.mono (HL.out _) ?_
        rintro e w3 ⟨rfl, hU3⟩
        go_wp2_with fail
        with_reducible refine Calls.mono (paceAlive_any _) ?_
        rintro e w4 ⟨rfl, hU4⟩
        go_wp2
        go_ret
        exact ⟨rfl, Up.trans hU (Up.trans hU1 (Up.trans hU2 (Up.trans hU3 hU4)))⟩
    · have HX := Lib.hid (hE (by omega))
      clear hE
      have hX := HX.out
      have hN' := HN.out
      go_wp2_with fail
      with_reducible refine Calls.mono (HW.out _) ?_
      rintro e w1 ⟨rfl, hU1⟩
      go_wp2_with fail
      with_reducible refine Calls.mono (HD.out _) ?_
      rintro e w2 ⟨rfl, hU2⟩
      go_wp2_with fail
      with_reducible refine Calls.mono (HL.out _) ?_
      rintro e w3 ⟨rfl, hU3⟩
      go_wp2_with fail
      with_reducible refine Calls.mono (paceAlive_any _) ?_
      rintro e w4 ⟨rfl, hU4⟩
      go_wp2
      go_ret
      exact ⟨rfl, Up.trans hU (Up.trans hU1 (Up.trans hU2 (Up.trans hU3 hU4)))⟩
end Go.Proofs.Ytmkgpegcbnmliaa
