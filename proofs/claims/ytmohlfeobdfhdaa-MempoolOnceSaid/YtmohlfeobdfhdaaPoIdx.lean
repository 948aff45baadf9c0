import Derived.Test.YtmohlfeobdfhdaaPoMet
/-
  slices.IndexFunc of transactions, by a method of a value; of none.
-/
namespace Go.Proofs.Ytmohlfeobdfhdaa
set_option maxRecDepth 100000
section
set_option linter.unusedVariables false
open Go.RowKit Go.Sort Go.Lib

set_option maxHeartbeats 1000000 in
theorem tsIndexM_any (g : FuncId) (rc : Value) (eg : ∀ args w, (callFunc g args).run Try.prog w = .ok (.enter g args) w) (S : Nat → World → Prop) (u : Nat → Ts) (p : Nat → Bool) (blk off n cap : Nat) (hn : n < 4611686018427387904)
    (hl : ∀ i W, i < n → S i W → (loadVar 29 ⟨blk, off + i * 5, none⟩).run Try.prog W = .ok (.agg (tsA (u i))) W)
    (hc : ∀ i W, i < n → S i W → Calls Try.prog g #[rc, .agg (tsA (u i))] W fun e w' => e = .returned (.bool (p i)) ∧ S (i + 1) w') (w : World) (hS : S 0 w) :
    Calls Try.prog 14 #[.slice (some ⟨blk, off, none⟩) n cap, .func (.func g) #[rc] #[]] w fun e w' => ∃ k : Nat, k ≤ n ∧ (∀ j, j < k → p j = false) ∧ (k < n → p k = true) ∧ e = .returned (.int .i64 (if k < n then (k : Int) else -1)) ∧ S (if k < n then k + 1 else n) w' := by
  have HL := Lib.hid hl
  have HC := Lib.hid hc
  have HS := Lib.hid hS
  clear hl hc hS
  go_enter Try.func14, Try.ntmps14
  go_wp2
  go_loopw [8] (fun vi wr => ∃ i : Nat, vi = .int .i64 (i : Nat) ∧ i ≤ n ∧ Hid (∀ j, j < i → p j = false) ∧ Hid (S i wr)) (fun vi _ => n - (RowKit.intOf vi).toNat)
  case atStart => exact ⟨0, rfl, Nat.zero_le _, Lib.hid (fun j hj => absurd hj (Nat.not_lt_zero _)), HS⟩
  case round =>
    obtain ⟨i, rfl, hi, HP, HSi⟩ := hrel
    by_cases hlt : i < n
    · have hz : (i : Int) < (n : Int) := by omega
      have Hl := Lib.hid (HL.out i wr hlt HSi.out)
      have Hc := Lib.hid (HC.out i wr hlt HSi.out)
      generalize hpi : p i = b at Hc
      have HPI := Lib.hid hpi
      clear hpi
      generalize u i = x at Hl Hc
      go_wp2_with (refine wpList_ex rfl (.agg (tsA x)) wr (ex_ldt (x := .tmp 14) rfl rfl Hl.out) ?_)
      with_reducible refine Calls.mono Hc.out ?_
      rintro e w1 ⟨rfl, hS1⟩
      have HS1 := Lib.hid hS1
      clear hS1 Hc Hl
      cases b with
      | true =>
        go_wp2
        go_ret
        exact ⟨i, hi, HP.out, fun _ => HPI.out, by rw [if_pos hlt]; rfl, by rw [if_pos hlt]; exact HS1.out⟩
      | false =>
        go_wp2
        go_roundw
        case rel => exact ⟨i + 1, by go_num, hlt, Lib.hid (fun j hj => (Nat.lt_succ_iff_lt_or_eq.1 hj).elim (HP.out j) (fun e => e ▸ HPI.out)), HS1⟩
        case measure => simp [RowKit.intOf]; omega
    · obtain rfl : i = n := by omega
      go_wp2
      go_ret
      exact ⟨i, hi, HP.out, fun h => absurd h hlt, by rw [if_neg hlt]; rfl, by rw [if_neg hlt]; exact HSi.out⟩


theorem tsIndex_zero (a : Option Addr) (cap : Nat) (fv : Value) (w : World) :
    Calls Try.prog 14 #[.slice a 0 cap, fv] w fun e w' => e = .returned (.int .i64 (-1)) ∧ w' = w := by
  go_enter Try.func14, Try.ntmps14
  go_wp2
  refine wp_loop_rounds 1 ?_
  rw [rounds_succ]
  go_wp2
  go_ret
  exact ⟨rfl, rfl⟩
end
end Go.Proofs.Ytmohlfeobdfhdaa
