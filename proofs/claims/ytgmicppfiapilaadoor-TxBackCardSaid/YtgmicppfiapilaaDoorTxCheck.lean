import Derived.Test.YtgmicppfiapilaaDoorAggs
import Derived.Test.YtgmicppfiapilaaDoorStrs
/-
  tx: the numbers of a transaction; Check; the page's example.
-/
namespace Go.Proofs.YtgmicppfiapilaaDoor
set_option maxRecDepth 100000
section
set_option linter.unusedVariables false
open Go.RowKit

/-- a transaction's cells -/
def txC (f t a n : Int) (S : ByteArray) : Array Value := #[.int .i64 f, .int .i64 t, .int .i64 a, .int .i64 n, .string S]
def numsC (f t a n : Int) : Array Value := #[.int .i64 f, .int .i64 0, .int .i64 3, .int .i64 t, .int .i64 0, .int .i64 3, .int .i64 a, .int .i64 1, .int .i64 1000, .int .i64 n, .int .i64 0, .int .i64 1099511627776]
theorem info_tx : (Tryd.prog.info? 23).map (·.size) = some 5 := by kernel_rfl
theorem numbers_any (f t a n : Int) (S : ByteArray) (w : World) :
    Calls Tryd.prog 29 #[.agg (txC f t a n S)] w fun e w' => e = .returned (.agg (numsC f t a n)) ∧ Up w w' := by
  unfold txC
  go_enter Tryd.func29, Tryd.ntmps29
  go_wp2
  exact bodyPost_ret (v := .agg (numsC f t a n)) (by simp [results, Tryd.results29, numsC, go_sem]) rfl ⟨rfl, Up.alloc (Up.alloc (Up.refl w) _) _⟩

/-- the k-th number, its least, its most -/
def txX (f t a n : Int) (k : Nat) : Int := match k with | 0 => f | 1 => t | 2 => a | _ => n
def txL (k : Nat) : Int := match k with | 2 => 1 | _ => 0
def txM (k : Nat) : Int := match k with | 0 => 3 | 1 => 3 | 2 => 1000 | _ => 1099511627776
theorem index_nums (f t a n : Int) (k : Nat) (hk : k < 4) (w : World) :
    (Instr.index 68 (.agg (numsC f t a n)) (.int .i64 k)).run Tryd.prog w = .ok (.agg #[.int .i64 (txX f t a n k), .int .i64 (txL k), .int .i64 (txM k)]) w := by
  have hc : k = 0 ∨ k = 1 ∨ k = 2 ∨ k = 3 := by omega
  rcases hc with rfl | rfl | rfl | rfl
  all_goals simp [Instr.index, numsC, txX, txL, txM, part, go_sem, Tryd.sizeOf67]

def numsOk (f t a n : Int) (k : Nat) : Prop := ∀ j, j < k → txL j ≤ txX f t a n j ∧ txX f t a n j ≤ txM j
def txE (f t a n : Int) (S : ByteArray) : Int := if ((0 ≤ f ∧ f ≤ 3) ∧ (0 ≤ t ∧ t ≤ 3) ∧ (1 ≤ a ∧ a ≤ 1000) ∧ (0 ≤ n ∧ n ≤ 1099511627776)) ∧ f ≠ t ∧ S.size ≤ 4096 then 0 else 9
theorem numsOk_four {f t a n : Int} : numsOk f t a n 4 ↔ ((0 ≤ f ∧ f ≤ 3) ∧ (0 ≤ t ∧ t ≤ 3) ∧ (1 ≤ a ∧ a ≤ 1000) ∧ (0 ≤ n ∧ n ≤ 1099511627776)) := by
  constructor
  · intro h
    exact ⟨h 0 (by omega), h 1 (by omega), h 2 (by omega), h 3 (by omega)⟩
  · intro ⟨h0, h1, h2, h3⟩ j hj
    have hc : j = 0 ∨ j = 1 ∨ j = 2 ∨ j = 3 := by omega
    rcases hc with rfl | rfl | rfl | rfl
    · exact h0
    · exact h1
    · exact h2
    · exact h3

set_option maxHeartbeats 1000000 in
theorem check_any (f t a n : Int) (S : ByteArray) (w : World) :
    Calls Tryd.prog 15 #[.agg (txC f t a n S)] w fun e w' => e = .returned (.int .i64 (txE f t a n S)) ∧ Up w w' := by
  have Hn : Hid (∀ wx, Calls Tryd.prog 29 #[.agg #[.int .i64 f, .int .i64 t, .int .i64 a, .int .i64 n, .string S]] wx fun e w' => e = .returned (.agg (numsC f t a n)) ∧ Up wx w') := fun wx => numbers_any f t a n S wx
  have Hix : Hid (∀ k, k < 4 → ∀ wx, (Instr.index 68 (.agg (numsC f t a n)) (.int .i64 (k : Nat))).run Tryd.prog wx = .ok (.agg #[.int .i64 (txX f t a n k), .int .i64 (txL k), .int .i64 (txM k)]) wx) := fun k hk wx => index_nums f t a n k hk wx
  have Hbad : Hid (∀ k, k < 4 → (txX f t a n k < txL k ∨ txM k < txX f t a n k) → txE f t a n S = 9) := by
    intro k hk hb
    refine if_neg fun ⟨h, _⟩ => ?_
    have := numsOk_four.2 h k hk
    omega
  have Hok : Hid (numsOk f t a n 4 → txE f t a n S = if f ≠ t ∧ S.size ≤ 4096 then 0 else 9) := by
    intro h
    unfold txE
    by_cases hc : f ≠ t ∧ S.size ≤ 4096
    · rw [if_pos hc, if_pos ⟨numsOk_four.1 h, hc⟩]
    · rw [if_neg hc, if_neg fun h2 => hc h2.2]
  obtain ⟨E, hE⟩ : ∃ E, txE f t a n S = E := ⟨_, rfl⟩
  rw [hE] at Hbad Hok ⊢
  clear hE
  unfold txC
  obtain ⟨X, hX⟩ : ∃ X, txX f t a n = X := ⟨_, rfl⟩
  have HN : Hid (∀ k, numsOk f t a n k ↔ ∀ j, j < k → txL j ≤ X j ∧ X j ≤ txM j) := by intro k; rw [← hX]; rfl
  simp only [hX] at Hix Hbad
  clear hX
  go_enter Tryd.func15, Tryd.ntmps15
  go_wp2_with fail
  with_reducible refine Calls.mono (Hn.out _) ?_
  rintro e w1 ⟨rfl, hU1⟩
  generalize numsC f t a n = NS at Hix ⊢
  have hbox := (hU1.block w.heap.size (by simp)).trans (heap_alloc_new w (.cells #[Value.int .i64 f, .int .i64 t, .int .i64 a, .int .i64 n, .string S] 23))
  have HU1 := Lib.hid (Up.trans (Up.alloc (Up.refl w) _) hU1)
  have Hbox := Lib.hid hbox
  clear hU1 hbox
  go_wp2
  go_loopw [7] (fun i wr => ∃ k : Nat, k ≤ 4 ∧ i = .int .i64 k ∧ Up w1 wr ∧ Hid (numsOk f t a n k)) (fun i _ => 4 - (intOf i).toNat)
  case atStart => exact ⟨0, by omega, rfl, Up.refl w1, fun j hj => by omega⟩
  case round =>
    obtain ⟨k, hk, rfl, hU, hok⟩ := hrel
    have HU := Lib.hid hU
    clear hU
    by_cases hlt : k < 4
    · have hix := Hix.out k hlt
      have hb := Lib.hid (Hbad.out k hlt)
      have Hs : Hid (txL k ≤ X k → X k ≤ txM k → numsOk f t a n (k + 1)) := by
        intro h1 h2
        refine (HN.out (k + 1)).2 fun j hj => ?_
        by_cases e : j = k
        · subst e; exact ⟨h1, h2⟩
        · exact (HN.out k).1 hok.out j (by omega)
      generalize txL k = l at hix hb Hs ⊢
      generalize txM k = m at hix hb Hs ⊢
      generalize X k = x at hix hb Hs ⊢
      by_cases h1 : x < l
      · have hb := Lib.hid (hb.out (.inl h1))
        go_wp2
        go_ret
        exact ⟨congrArg (fun x => Ending.returned (Value.int .i64 x)) hb.out.symm, Up.trans HU1.out (Up.alloc HU.out _)⟩
      · by_cases h2 : m < x
        · have hb := Lib.hid (hb.out (.inr h2))
          go_wp2
          go_ret
          exact ⟨congrArg (fun x => Ending.returned (Value.int .i64 x)) hb.out.symm, Up.trans HU1.out (Up.alloc HU.out _)⟩
        · have hok2 := Lib.hid (Hs.out (by omega) (by omega))
          go_wp2
          go_roundw
          case rel => exact ⟨k + 1, by omega, by go_num, Up.alloc HU.out _, hok2.out⟩
          case measure => simp [intOf]; omega
    · obtain rfl : k = 4 := by omega
      have hE := Lib.hid (Hok.out hok.out)
      have hbox := (HU.out.block w.heap.size (lt_of_block Hbox.out)).trans Hbox.out
      have hc0 := cell_of_row _ _ 0 _ _ _ hbox
      have hc1 := cell_of_row _ _ 1 _ _ _ hbox
      have hc4 := cell_of_row _ _ 4 _ _ _ hbox
      simp only [List.getElem?_toArray, List.getElem?_cons_zero, List.getElem?_cons_succ] at hc0 hc1 hc4
      clear hbox
      by_cases hft : f = t
      · have hE2 := Lib.hid (hE.out.trans (if_neg fun h => h.1 hft))
        subst hft
        go_wp2
        go_ret
        exact ⟨congrArg (fun x => Ending.returned (Value.int .i64 x)) hE2.out.symm, Up.trans HU1.out HU.out⟩
      · by_cases hs : S.size ≤ 4096
        · have hE2 := Lib.hid (hE.out.trans (if_pos ⟨hft, hs⟩))
          have hs1 : ¬ (4096 : Int) < (S.size : Int) := by omega
          go_wp2
          go_ret
          exact ⟨congrArg (fun x => Ending.returned (Value.int .i64 x)) hE2.out.symm, Up.trans HU1.out HU.out⟩
        · have hE2 := Lib.hid (hE.out.trans (if_neg fun h => hs h.2))
          have hs1 : (4096 : Int) < (S.size : Int) := by omega
          go_wp2
          go_ret
          exact ⟨congrArg (fun x => Ending.returned (Value.int .i64 x)) hE2.out.symm, Up.trans HU1.out HU.out⟩

theorem txAlive_any (w : World) : Calls Tryd.prog 4 #[] w fun e w' => e = .returned (.bool true) ∧ Up w w' := by
  have H1 : Hid (∀ wx, Calls Tryd.prog 15 #[.agg #[.int .i64 1, .int .i64 1, .int .i64 1, .int .i64 0, .string ⟨#[]⟩]] wx fun e w' => e = .returned (.int .i64 9) ∧ Up wx w') := fun wx => check_any 1 1 1 0 ⟨#[]⟩ wx
  have H2 : Hid (∀ wx, Calls Tryd.prog 15 #[.agg #[.int .i64 0, .int .i64 1, .int .i64 1, .int .i64 0, .string ⟨#[]⟩]] wx fun e w' => e = .returned (.int .i64 0) ∧ Up wx w') := fun wx => check_any 0 1 1 0 ⟨#[]⟩ wx
  go_enter Tryd.func4, Tryd.ntmps4
  go_wp2_with fail
  with_reducible refine Calls.mono (H1.out _) ?_
  rintro e w1 ⟨rfl, hU1⟩
  have HU1 := Lib.hid hU1
  clear hU1
  go_wp2_with fail
  with_reducible refine Calls.mono (H2.out _) ?_
  rintro e w2 ⟨rfl, hU2⟩
  have HU2 := Lib.hid (Up.trans HU1.out hU2)
  clear hU2
  go_wp2
  go_ret
  exact ⟨rfl, HU2.out⟩
end
end Go.Proofs.YtgmicppfiapilaaDoor
