import Derived.Test.YtmkgpegcbnmliaaPace
/-
  PaceTells, PaceRises, PaceDue: the walks return true.
-/
namespace Go.Proofs.Ytmkgpegcbnmliaa
set_option maxRecDepth 100000
set_option linter.unusedVariables false
open Go.RowKit

theorem wait_rises (b t m : Int) : waitL b t m ≤ waitL b (t + 1) m ∧ waitL b (t + 1) m ≤ 2 * waitL b t m := by
  have h1 := clamp_in b 1 1048576 (by decide)
  have h2 := clamp_in m 1 1048576 (by decide)
  unfold waitL doubledTo
  by_cases ht : 0 ≤ t
  · rw [show (t + 1).toNat = t.toNat + 1 by omega, Int.pow_succ, ← Int.mul_assoc]
    have := Int.mul_le_mul_of_nonneg_left (pow_one_le t.toNat) (show 0 ≤ clamp b 1 1048576 by omega)
    omega
  · rw [show (t + 1).toNat = 0 by omega, show t.toNat = 0 by omega]
    simp only [Int.pow_zero, Int.mul_one]
    omega
theorem lawPcRises_any (b t m : Int) (w : World) (ht : -9223372036854775808 ≤ t) :
    Calls Try.prog 4 #[.int .i64 b, .int .i64 t, .int .i64 m] w fun e w' => e = .returned (.bool true) ∧ Up w w' := by
  have HW := Lib.hid (fun t (h : t ≤ 9223372036854775807) wx => wait_any b t m wx h)
  have main : ∀ T : Int, (t < 1099511627776 → T = t) → (1099511627776 ≤ t → T = 5) → Calls Try.prog 4 #[.int .i64 b, .int .i64 t, .int .i64 m] w fun e w' => e = .returned (.bool true) ∧ Up w w' := by
    intro T hT1 hT2
    have HA := Lib.hid (fun wx => HW.out T (by by_cases h : t < 1099511627776 <;> simp_all <;> omega) wx)
    have HB := Lib.hid (fun wx => HW.out (T + 1) (by by_cases h : t < 1099511627776 <;> simp_all <;> omega) wx)
    have h1 := wait_in b T m
    have h2 := wait_in b (T + 1) m
    have h3 := wait_rises b T m
    have hm : 1 ≤ m → clamp m 1 1048576 ≤ m := by intro h; unfold clamp; omega
    have hw : IntKind.i64.wrap (T + 1) = T + 1 := IntWalk.i64_in _ (by by_cases h : t < 1099511627776 <;> simp_all <;> omega)
    generalize waitL b T m = A at HA h1 h3
    generalize waitL b (T + 1) m = B at HB h2 h3
    generalize clamp m 1 1048576 = C at h1 h2 hm
    have hw2 := IntWalk.i64_in (2 * A) (by omega)
    go_enter Try.func4, Try.ntmps4
    go_wp2_with fail
    with_reducible refine Calls.mono (paceAlive_any _) ?_
    rintro e w1 ⟨rfl, hU1⟩
    by_cases hlt : t < 1099511627776
    · obtain rfl := hT1 hlt
      go_wp2_with fail
      with_reducible refine Calls.mono (HA.out _) ?_
      rintro e w2 ⟨rfl, hU2⟩
      go_wp2_with fail
      with_reducible refine Calls.mono (HB.out _) ?_
      rintro e w3 ⟨rfl, hU3⟩
      go_wp2
      all_goals
        go_ret
        first | exact ⟨rfl, Up.trans hU1 (Up.trans hU2 hU3)⟩ | exact ⟨by simp; omega, Up.trans hU1 (Up.trans hU2 hU3)⟩
    · obtain rfl := hT2 (by omega)
      rw [show (5 : Int) + 1 = 6 by decide] at HB hw
      go_wp2_with fail
      with_reducible refine Calls.mono (HA.out _) ?_
      rintro e w2 ⟨rfl, hU2⟩
      go_wp2_with fail
      with_reducible refine Calls.mono (HB.out _) ?_
      rintro e w3 ⟨rfl, hU3⟩
      go_wp2
      all_goals
        go_ret
        first | exact ⟨rfl, Up.trans hU1 (Up.trans hU2 hU3)⟩ | exact ⟨by simp; omega, Up.trans hU1 (Up.trans hU2 hU3)⟩
  by_cases hlt : t < 1099511627776
  · exact main t (fun _ => rfl) (fun h => by omega)
  · exact main 5 (fun h => absurd h hlt) (fun _ => rfl)
theorem lawPcDue_any (n b t m : Int) (w : World) (ht : t ≤ 9223372036854775807) :
    Calls Try.prog 5 #[.int .i64 n, .int .i64 b, .int .i64 t, .int .i64 m] w fun e w' => e = .returned (.bool true) ∧ Up w w' := by
  have hL := wait_in b t m
  have HD0 := Lib.hid (fun n wx => due_any n b t m wx ht)
  generalize waitL b t m = L at hL HD0
  have HL := Lib.hid (fun a c wx => late_any a c wx)
  have main : ∀ N : Int, 0 ≤ N → N ≤ 1099511627776 → (0 ≤ n ∧ n ≤ 1099511627776 → N = n) → (¬ (0 ≤ n ∧ n ≤ 1099511627776) → N = 7) → Calls Try.prog 5 #[.int .i64 n, .int .i64 b, .int .i64 t, .int .i64 m] w fun e w' => e = .returned (.bool true) ∧ Up w w' := by
    intro N hN1 hN2 hT1 hT2
    have hc : clamp N 0 1099511627776 = N := by unfold clamp; omega
    have HD := Lib.hid (fun wx => HD0.out N wx)
    rw [hc] at HD
    clear HD0 hc
    have hw := IntWalk.i64_in (N + L - N) (by omega)
    obtain ⟨D, hD⟩ : ∃ D, N + L = D := ⟨_, rfl⟩
    rw [hD] at HD hw
    have hd1 : decide (D ≤ N) = false := by simp; omega
    have hd2 : decide (D ≤ D) = true := by simp
    have HL1 := Lib.hid (HL.out N D)
    have HL2 := Lib.hid (HL.out D D)
    rw [hd1] at HL1
    rw [hd2] at HL2
    clear hd1 hd2
    go_enter Try.func5, Try.ntmps5
    go_wp2_with fail
    with_reducible refine Calls.mono (paceAlive_any _) ?_
    rintro e w1 ⟨rfl, hU1⟩
    by_cases hlt : 0 ≤ n ∧ n ≤ 1099511627776
    · obtain rfl := hT1 hlt
      go_wp2_with fail
      with_reducible refine Calls.mono (HD.out _) ?_
      rintro e w2 ⟨rfl, hU2⟩
      go_wp2_with fail
      with_reducible refine Calls.mono (HL1.out _) ?_
      rintro e w3 ⟨rfl, hU3⟩
      go_wp2_with fail
      with_reducible refine Calls.mono (HL2.out _) ?_
      rintro e w4 ⟨rfl, hU4⟩
      go_wp2
      go_ret
      first | exact ⟨rfl, Up.trans hU1 (Up.trans hU2 (Up.trans hU3 hU4))⟩ | exact ⟨by simp; omega, Up.trans hU1 (Up.trans hU2 (Up.trans hU3 hU4))⟩
    · obtain rfl := hT2 hlt
      by_cases hn : n < 0
      · go_wp2_with fail
        with_reducible refine Calls.mono (HD.out _) ?_
        rintro e w2 ⟨rfl, hU2⟩
        go_wp2_with fail
        with_reducible refine Calls.mono (HL1.out _) ?_
        rintro e w3 ⟨rfl, hU3⟩
        go_wp2_with fail
        with_reducible refine Calls.mono (HL2.out _) ?_
        rintro e w4 ⟨rfl, hU4⟩
        go_wp2
        go_ret
        first | exact ⟨rfl, Up.trans hU1 (Up.trans hU2 (Up.trans hU3 hU4))⟩ | exact ⟨by simp; omega, Up.trans hU1 (Up.trans hU2 (Up.trans hU3 hU4))⟩
      · have hn2 : 1099511627776 < n := by omega
        go_wp2_with fail
        with_reducible refine Calls.mono (HD.out _) ?_
        rintro e w2 ⟨rfl, hU2⟩
        go_wp2_with fail
        with_reducible refine Calls.mono (HL1.out _) ?_
        rintro e w3 ⟨rfl, hU3⟩
        go_wp2_with fail
        with_reducible refine Calls.mono (HL2.out _) ?_
        rintro e w4 ⟨rfl, hU4⟩
        go_wp2
        go_ret
        first | exact ⟨rfl, Up.trans hU1 (Up.trans hU2 (Up.trans hU3 hU4))⟩ | exact ⟨by simp; omega, Up.trans hU1 (Up.trans hU2 (Up.trans hU3 hU4))⟩
  by_cases hlt : 0 ≤ n ∧ n ≤ 1099511627776
  · exact main n hlt.1 hlt.2 (fun _ => rfl) (fun h => absurd hlt h)
  · exact main 7 (by decide) (by decide) (fun h => absurd h hlt) (fun _ => rfl)
end Go.Proofs.Ytmkgpegcbnmliaa
