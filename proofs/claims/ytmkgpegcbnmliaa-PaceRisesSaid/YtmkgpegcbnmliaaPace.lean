import Derived.Deep.RegionWith
import Derived.IntWalk
import Derived.Lib.MinMax
import Derived.Test.YtmkgpegcbnmliaaUps
/-
  pace: Wait, Due, Late, walked exactly.
-/
namespace Go.Proofs.Ytmkgpegcbnmliaa
set_option maxRecDepth 100000
set_option linter.unusedVariables false
open Go.RowKit

/-- the number from lo to hi that is nearest to n -/
def clamp (n lo hi : Int) : Int := max lo (min n hi)
/-- a base doubled so many times, but at most top -/
def doubledTo (s t top : Int) : Int := min (s * 2 ^ t.toNat) top
/-- how long a leader has -/
def waitL (b t m : Int) : Int := doubledTo (clamp b 1 1048576) t (clamp m 1 1048576)
theorem clamp_in (n lo hi : Int) (h : lo ≤ hi) : lo ≤ clamp n lo hi ∧ clamp n lo hi ≤ hi := by unfold clamp; omega
theorem doubled_done (s t top : Int) (h : t ≤ 0) : doubledTo s t top = min s top := by
  unfold doubledTo; rw [show t.toNat = 0 by omega]; simp
theorem pow_one_le (k : Nat) : (1 : Int) ≤ 2 ^ k := by
  induction k with
  | zero => decide
  | succ k ih => rw [Int.pow_succ]; omega
theorem doubled_over (s t top : Int) (hs : 1 ≤ s) (h : top ≤ s) : doubledTo s t top = min s top := by
  unfold doubledTo
  have := Int.mul_le_mul_of_nonneg_left (pow_one_le t.toNat) (show 0 ≤ s by omega)
  omega
theorem doubled_step (s t top : Int) (h : 0 < t) : doubledTo (2 * s) (t - 1) top = doubledTo s t top := by
  unfold doubledTo
  obtain ⟨k, hk⟩ : ∃ k, t.toNat = k + 1 := ⟨t.toNat - 1, by omega⟩
  rw [hk, show (t - 1).toNat = k by omega, Int.pow_succ, Int.mul_comm 2 s, Int.mul_assoc, Int.mul_comm 2]

theorem within_any (n lo hi : Int) (w : World) :
    Calls Try.prog 13 #[.int .i64 n, .int .i64 lo, .int .i64 hi] w fun e w' => e = .returned (.int .i64 (clamp n lo hi)) ∧ Up w w' := by
  have H := Lib.hid (show max lo (min n hi) = clamp n lo hi from rfl)
  go_enter Try.func13, Try.ntmps13
  go_wp2
  go_ret
  rw [← H.out]
  exact ⟨rfl, Up.refl _⟩
theorem ticks_any (n : Int) (w : World) :
    Calls Try.prog 11 #[.int .i64 n] w fun e w' => e = .returned (.int .i64 (clamp n 1 1048576)) ∧ Up w w' := by
  go_enter Try.func11, Try.ntmps11
  go_wp2_with fail
  with_reducible refine Calls.mono (within_any _ _ _ _) ?_
  rintro e w1 ⟨rfl, hU⟩
  go_wp2
  go_ret
  exact ⟨rfl, hU⟩
theorem doubled_any (n : Int) (w : World) (h : -1048576 ≤ n ∧ n ≤ 1048576) :
    Calls Try.prog 12 #[.int .i64 n] w fun e w' => e = .returned (.int .i64 (2 * n)) ∧ Up w w' := by
  have hw := IntWalk.i64_in (2 * n) (by omega)
  go_enter Try.func12, Try.ntmps12
  go_wp2
  go_ret
  exact ⟨rfl, Up.refl _⟩
theorem late_any (a b : Int) (w : World) :
    Calls Try.prog 8 #[.int .i64 a, .int .i64 b] w fun e w' => e = .returned (.bool (decide (b ≤ a))) ∧ Up w w' := by
  go_enter Try.func8, Try.ntmps8
  go_wp2
  go_ret
  exact ⟨rfl, Up.refl _⟩
theorem told_any (s t top : Int) (w : World) (hs : 1 ≤ s ∧ s ≤ 1048576) (htop : 1 ≤ top ∧ top ≤ 1048576) (ht : t ≤ 9223372036854775807) :
    Calls Try.prog 10 #[.int .i64 s, .int .i64 t, .int .i64 top, .func (.func 12) #[] #[]] w fun e w' => e = .returned (.int .i64 (doubledTo s t top)) ∧ Up w w' := by
  have HD := Lib.hid (fun n h wx => doubled_any n wx h)
  generalize hK : doubledTo s t top = K
  have HK := Lib.hid hK
  clear hK
  go_enter Try.func10, Try.ntmps10
  go_wp2
  go_loopw [0, 1] (fun i j wr => ∃ n k : Int, i = .int .i64 n ∧ j = .int .i64 k ∧ 1 ≤ n ∧ n ≤ 2097152 ∧ k ≤ 9223372036854775807 ∧ Hid (doubledTo n k top = K) ∧ Up w wr) (fun i j _ => (2097153 - intOf i).toNat)
  case atStart => exact ⟨s, t, rfl, rfl, by omega, by omega, ht, HK, Up.refl _⟩
  case round =>
    obtain ⟨n, k, rfl, rfl, hn1, hn2, hk, HE, hU⟩ := hrel
    by_cases h1 : 0 < k
    · by_cases h2 : n < top
      · have hw := IntWalk.i64_in (k - 1) (by omega)
        have HS := Lib.hid ((doubled_step n k top h1).trans HE.out)
        go_wp2_with fail
        with_reducible refine Calls.mono (HD.out n (by omega) _) ?_
        rintro e w1 ⟨rfl, hU1⟩
        go_wp2
        go_roundw
        case rel => exact ⟨2 * n, k - 1, rfl, rfl, by omega, by omega, by omega, HS, Up.trans hU hU1⟩
        case measure => simp [intOf]; omega
      · have HS := Lib.hid ((doubled_over n k top hn1 (by omega)).symm.trans HE.out)
        go_wp2
        go_ret
        rw [← HS.out]
        exact ⟨rfl, hU⟩
    · have HS := Lib.hid ((doubled_done n k top (by omega)).symm.trans HE.out)
      go_wp2
      go_ret
      rw [← HS.out]
      exact ⟨rfl, hU⟩
theorem wait_any (b t m : Int) (w : World) (ht : t ≤ 9223372036854775807) :
    Calls Try.prog 6 #[.int .i64 b, .int .i64 t, .int .i64 m] w fun e w' => e = .returned (.int .i64 (waitL b t m)) ∧ Up w w' := by
  have HT := Lib.hid (fun n wx => ticks_any n wx)
  have HB := Lib.hid (clamp_in b 1 1048576 (by decide))
  have HM := Lib.hid (clamp_in m 1 1048576 (by decide))
  unfold waitL
  generalize hB : clamp b 1 1048576 = B at HB ⊢
  generalize hM : clamp m 1 1048576 = M at HM ⊢
  have HB1 := Lib.hid hB
  have HM1 := Lib.hid hM
  clear hB hM
  have HO := Lib.hid (fun wx => told_any B t M wx HB.out HM.out ht)
  go_enter Try.func6, Try.ntmps6
  go_wp2_with fail
  with_reducible refine Calls.mono (HT.out _ _) ?_
  rintro e w1 ⟨rfl, hU1⟩
  rw [HB1.out]
  go_wp2_with fail
  with_reducible refine Calls.mono (HT.out _ _) ?_
  rintro e w2 ⟨rfl, hU2⟩
  rw [HM1.out]
  go_wp2_with fail
  with_reducible refine Calls.mono (HO.out _) ?_
  rintro e w3 ⟨rfl, hU3⟩
  go_wp2
  go_ret
  exact ⟨rfl, Up.trans hU1 (Up.trans hU2 hU3)⟩
theorem wait_in (b t m : Int) : 1 ≤ waitL b t m ∧ waitL b t m ≤ clamp m 1 1048576 ∧ clamp m 1 1048576 ≤ 1048576 := by
  have h1 := clamp_in b 1 1048576 (by decide)
  have h2 := clamp_in m 1 1048576 (by decide)
  unfold waitL doubledTo
  have := Int.mul_le_mul_of_nonneg_left (pow_one_le t.toNat) (show 0 ≤ clamp b 1 1048576 by omega)
  omega
theorem due_any (n b t m : Int) (w : World) (ht : t ≤ 9223372036854775807) :
    Calls Try.prog 7 #[.int .i64 n, .int .i64 b, .int .i64 t, .int .i64 m] w fun e w' => e = .returned (.int .i64 (clamp n 0 1099511627776 + waitL b t m)) ∧ Up w w' := by
  have HW := Lib.hid (fun wx => wait_any b t m wx ht)
  have HC := Lib.hid (fun wx => within_any n 0 1099511627776 wx)
  have hw := wait_in b t m
  have hn := clamp_in n 0 1099511627776 (by decide)
  generalize waitL b t m = L at HW hw ⊢
  generalize clamp n 0 1099511627776 = N at HC hn ⊢
  have hi := IntWalk.i64_in (N + L) (by omega)
  go_enter Try.func7, Try.ntmps7
  go_wp2_with fail
  with_reducible refine Calls.mono (HC.out _) ?_
  rintro e w1 ⟨rfl, hU1⟩
  go_wp2_with fail
  with_reducible refine Calls.mono (HW.out _) ?_
  rintro e w2 ⟨rfl, hU2⟩
  go_wp2
  go_ret
  exact ⟨rfl, Up.trans hU1 hU2⟩
theorem paceAlive_any (w : World) :
    Calls Try.prog 9 #[] w fun e w' => e = .returned (.bool true) ∧ Up w w' := by
  have HA := Lib.hid (fun wx => wait_any 2 3 10 wx (by decide))
  have HB := Lib.hid (fun wx => wait_any 2 2 10 wx (by decide))
  rw [show waitL 2 3 10 = 10 by decide] at HA
  rw [show waitL 2 2 10 = 8 by decide] at HB
  go_enter Try.func9, Try.ntmps9
  go_wp2_with fail
  with_reducible refine Calls.mono (HA.out _) ?_
  rintro e w1 ⟨rfl, hU1⟩
  go_wp2_with fail
  with_reducible refine Calls.mono (HB.out _) ?_
  rintro e w2 ⟨rfl, hU2⟩
  go_wp2
  go_ret
  exact ⟨rfl, Up.trans hU1 hU2⟩
end Go.Proofs.Ytmkgpegcbnmliaa
