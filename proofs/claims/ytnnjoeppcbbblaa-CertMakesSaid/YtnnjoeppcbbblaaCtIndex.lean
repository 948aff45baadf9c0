import Derived.Test.YtnnjoeppcbbblaaCtKit
/-
  slices.IndexFunc, slices.ContainsFunc of statements, by whatever tells.
-/
namespace Go.Proofs.Ytnnjoeppcbbblaa
set_option maxRecDepth 100000
section
set_option linter.unusedVariables false
open Go.RowKit Go.Sort Go.Lib

theorem ex_ldv {o : Oper} {x : Operand} {ρ : Operand → Value} {ad : Addr} {v : Value} {W : World} (hop : o.op = .load 38 x) (hx : ρ x = .pointer (some ad)) (hl : (loadVar 38 ad).run Try.prog W = .ok v W) : (execOp ρ o).run Try.prog W = .ok (.value v) W := by
  unfold execOp; rw [hop]; simp only [hx]
  simp [Instr.loadAt, Instr.sureAddr, hl, Result.andThen]

set_option maxHeartbeats 1000000 in
theorem index_any (g : FuncId) (cb : Array Value) (eg : ∀ args w, (callFunc g args).run Try.prog w = .ok (.enter g args) w) (S : Nat → World → Prop) (u : Nat → Vs) (p : Nat → Bool) (blk off n cap : Nat) (hn : n < 4611686018427387904)
    (hl : ∀ i W, i < n → S i W → (loadVar 38 ⟨blk, off + i * 7, none⟩).run Try.prog W = .ok (.agg (vsA (u i))) W)
    (hc : ∀ i W, i < n → S i W → Calls Try.prog g (#[.agg (vsA (u i))] ++ cb) W fun e w' => e = .returned (.bool (p i)) ∧ S (i + 1) w') (w : World) (hS : S 0 w) :
    Calls Try.prog 30 #[.slice (some ⟨blk, off, none⟩) n cap, .func (.func g) #[] cb] w fun e w' => ∃ k : Nat, k ≤ n ∧ (∀ j, j < k → p j = false) ∧ (k < n → p k = true) ∧ e = .returned (.int .i64 (if k < n then (k : Int) else -1)) ∧ S (if k < n then k + 1 else n) w' := by
  have HL := Lib.hid hl
  have HC := Lib.hid hc
  have HS := Lib.hid hS
  clear hl hc hS
  go_enter Try.func30, Try.ntmps30
  go_wp2
  go_loopw [8] (fun vi wr => ∃ i : Nat, vi = .int .i64 (i : Nat) ∧ i ≤ n ∧ Hid (∀ j, j < i → p j = false) ∧ Hid (S i wr)) (fun vi _ => n - (intOf vi).toNat)
  case atStart => exact ⟨0, rfl, Nat.zero_le _, Lib.hid (fun j hj => absurd hj (Nat.not_lt_zero _)), HS⟩
  case round =>
    obtain ⟨i, rfl, hi, HP, HSi⟩ := hrel
    by_cases hlt : i < n
    · have hz : (i : Int) < (n : Int) := by omega
      have Hl := Lib.hid (HL.out i wr hlt HSi.out)
      have Hc := Lib.hid (HC.out i wr hlt HSi.out)
      generalize hpi : p i = b at Hc
      have HPI := Lib.hid hpi
      clear hpi
      generalize u i = x at Hl Hc
      go_wp2_with (refine wpList_ex rfl (.agg (vsA x)) wr (ex_ldv (x := .tmp 14) rfl rfl Hl.out) ?_)
      with_reducible refine Calls.mono Hc.out ?_
      rintro e w1 ⟨rfl, hS1⟩
      have HS1 := Lib.hid hS1
      clear hS1 Hc Hl
      cases b with
      | true =>
        go_wp2
        go_ret
        exact ⟨i, hi, HP.out, fun _ => HPI.out, by rw [if_pos hlt]; rfl, by rw [if_pos hlt]; exact HS1.out⟩
      | false =>
        go_wp2
        go_roundw
        case rel => exact ⟨i + 1, by go_num, hlt, Lib.hid (fun j hj => (Nat.lt_succ_iff_lt_or_eq.1 hj).elim (HP.out j) (fun e => e ▸ HPI.out)), HS1⟩
        case measure => simp [intOf]; omega
    · obtain rfl : i = n := by omega
      go_wp2
      go_ret
      exact ⟨i, hi, HP.out, fun h => absurd h hlt, by rw [if_neg hlt]; rfl, by rw [if_neg hlt]; exact HSi.out⟩

theorem index_zero (a : Option Addr) (cap : Nat) (fv : Value) (w : World) :
    Calls Try.prog 30 #[.slice a 0 cap, fv] w fun e w' => e = .returned (.int .i64 (-1)) ∧ w' = w := by
  go_enter Try.func30, Try.ntmps30
  go_wp2
  go_loop [8] (fun vi => vi = .int .i64 0) (fun vi => 0)
  case atStart => rfl
  case round =>
    obtain rfl := hrel
    go_wp2
    go_ret
    exact ⟨rfl, rfl⟩

/-- is there one? -/
theorem contains_any (g : FuncId) (cb : Array Value) (eg : ∀ args w, (callFunc g args).run Try.prog w = .ok (.enter g args) w) (S : Nat → World → Prop) (u : Nat → Vs) (p : Nat → Bool) (blk off n cap : Nat) (hn : n < 4611686018427387904)
    (hl : ∀ i W, i < n → S i W → (loadVar 38 ⟨blk, off + i * 7, none⟩).run Try.prog W = .ok (.agg (vsA (u i))) W)
    (hc : ∀ i W, i < n → S i W → Calls Try.prog g (#[.agg (vsA (u i))] ++ cb) W fun e w' => e = .returned (.bool (p i)) ∧ S (i + 1) w') (w : World) (hS : S 0 w) :
    Calls Try.prog 35 #[.slice (some ⟨blk, off, none⟩) n cap, .func (.func g) #[] cb] w fun e w' => ∃ k : Nat, k ≤ n ∧ (∀ j, j < k → p j = false) ∧ (k < n → p k = true) ∧ e = .returned (.bool (decide (k < n))) ∧ S (if k < n then k + 1 else n) w' := by
  have Hc := Lib.hid (index_any g cb eg S u p blk off n cap hn hl hc w hS)
  clear hl hc hS eg
  go_enter Try.func35, Try.ntmps35
  go_wp2_with fail
  with_reducible refine Calls.mono Hc.out ?_
  rintro e w1 ⟨k, h1, h2, h3, rfl, h5⟩
  have H2 := Lib.hid (And.intro h2 (And.intro h3 h5))
  clear h2 h3 h5
  by_cases hk : k < n
  · rw [if_pos hk]
    have hz : (0 : Int) ≤ (k : Int) := by omega
    go_wp2
    go_ret
    exact ⟨k, h1, H2.out.1, H2.out.2.1, by simp [hk], H2.out.2.2⟩
  · rw [if_neg hk]
    go_wp2
    go_ret
    exact ⟨k, h1, H2.out.1, H2.out.2.1, by simp [hk], H2.out.2.2⟩
end
end Go.Proofs.Ytnnjoeppcbbblaa
