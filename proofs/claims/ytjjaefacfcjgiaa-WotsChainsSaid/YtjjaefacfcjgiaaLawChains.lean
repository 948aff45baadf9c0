import Derived.Test.YtjjaefacfcjgiaaWotsAlive
/-
  WotsChains: the walk returns true.
-/
namespace Go.Proofs.Ytjjaefacfcjgiaa
set_option linter.unusedVariables false
open Go.RowKit

theorem tmod4_range (a : Int) : -3 ≤ a.tmod 4 ∧ a.tmod 4 ≤ 3 := by
  have h1 := Int.tmod_lt_of_pos a (show (0 : Int) < 4 by decide)
  have h2 := Int.lt_tmod_of_pos a (show (0 : Int) < 4 by decide)
  omega
theorem tmod4_pos (t : Int) (h : 0 ≤ t) : 0 ≤ t.tmod 4 ∧ t.tmod 4 ≤ 3 := by
  rw [Int.tmod_eq_emod_of_nonneg h]; omega

set_option maxHeartbeats 1000000 in
theorem lawChains_any (zs : List Int) (a b : Int) (w : World) (hu : U8s zs) (hl : zs.length ≤ 140737488355328) :
    Calls Try.prog 7 #[.string (strOfNums zs), .int .i64 a, .int .i64 b] w fun e w' => e = .returned (.bool true) ∧ Up w w' := by
  have Hch : Hid (∀ n wx, Calls Try.prog 11 #[.string (strOfNums zs), .int .i64 n] wx fun e w' => e = .returned (.string (strOfNums (chainB zs (stepsN n)))) ∧ Up wx w') := fun n wx => chain_any zs n wx hu hl
  have Hch2 : Hid (∀ m n wx, Calls Try.prog 11 #[.string (strOfNums (chainB zs (stepsN m))), .int .i64 n] wx fun e w' => e = .returned (.string (strOfNums (chainB (chainB zs (stepsN m)) (stepsN n)))) ∧ Up wx w') :=
    fun m n wx => chain_any _ n wx (chainB_u8s zs hu _) (chainB_le zs _ (by omega) hl _)
  clear hu hl
  have hT := tmod4_range a
  have hS := tmod4_range b
  obtain ⟨T, hT1⟩ : ∃ T, a.tmod 4 = T := ⟨_, rfl⟩
  obtain ⟨S, hS1⟩ : ∃ S, b.tmod 4 = S := ⟨_, rfl⟩
  rw [hT1] at hT
  rw [hS1] at hS
  have hA := tmod4_pos (T + 4) (by omega)
  have hB := tmod4_pos (S + 4) (by omega)
  obtain ⟨A, hA1⟩ : ∃ A, (T + 4).tmod 4 = A := ⟨_, rfl⟩
  obtain ⟨B, hB1⟩ : ∃ B, (S + 4).tmod 4 = B := ⟨_, rfl⟩
  rw [hA1] at hA
  rw [hB1] at hB
  go_enter Try.func7, Try.ntmps7
  go_wp2_with fail
  with_reducible refine Calls.mono (alive_any _) ?_
  rintro e w1 ⟨rfl, hU1⟩
  by_cases hgt : A + B > 3
  · have Hf := Lib.hid (chain_far zs (A + B) (by omega))
    go_wp2_with fail
    with_reducible refine Calls.mono (Hch.out _ _) ?_
    rintro e w2 ⟨rfl, hU2⟩
    rw [Hf.out]
    have hU2 := Up.trans hU1 hU2
    go_wp2_with fail
    with_reducible refine Calls.mono (Hch.out _ _) ?_
    rintro e w3 ⟨rfl, hU3⟩
    have hU3 := Up.trans hU2 hU3
    go_wp2
    go_ret
    exact ⟨rfl, hU3⟩
  · have Hf := Lib.hid (chain_sum zs A B (by omega) (by omega) (by omega))
    go_wp2_with fail
    with_reducible refine Calls.mono (Hch.out _ _) ?_
    rintro e w2 ⟨rfl, hU2⟩
    have hU2 := Up.trans hU1 hU2
    go_wp2_with fail
    with_reducible refine Calls.mono (Hch2.out _ _ _) ?_
    rintro e w3 ⟨rfl, hU3⟩
    rw [Hf.out]
    have hU3 := Up.trans hU2 hU3
    go_wp2_with fail
    with_reducible refine Calls.mono (Hch.out _ _) ?_
    rintro e w4 ⟨rfl, hU4⟩
    have hU4 := Up.trans hU3 hU4
    go_wp2
    go_ret
    exact ⟨rfl, hU4⟩
theorem lawChains_str (s : ByteArray) (a b : Int) (w : World) (hl : s.size ≤ 140737488351232) :
    Calls Try.prog 7 #[.string s, .int .i64 a, .int .i64 b] w fun e w' => e = .returned (.bool true) ∧ Below w.heap.size w w' := by
  have h := lawChains_any (octsOf s) a b w (octsOf_u8s s) (by rw [octsOf_length]; omega)
  rw [strOf_octs] at h
  exact h
end Go.Proofs.Ytjjaefacfcjgiaa
