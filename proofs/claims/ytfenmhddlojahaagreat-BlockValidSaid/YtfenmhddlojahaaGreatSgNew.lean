import Derived.Test.YtfenmhddlojahaaGreatWotsSigs
import Derived.Test.YtfenmhddlojahaaGreatUps
namespace Go.Proofs.YtfenmhddlojahaaGreat
/-
  signer's texts, of whatever function is handed to it.
-/
section
set_option maxRecDepth 100000
section
set_option linter.unusedVariables false
open Go.RowKit

/-- what holds of the world of a round stays while the call writes its own -/
def Stays (n₀ : Nat) (J : Nat → World → Prop) : Prop := ∀ k W W' row, J k W → W.grownBy W' row → (∀ q, row = some q → n₀ ≤ q) → J k W'

theorem run_enter {P : Program} {f : FuncId} {fn : Func} (hf : P.funcs[f]? = some fn) (h1 : (fn.name == "runtime.NumGoroutine") = false) (h2 : fn.body.isNone = false) (args : Array Value) (w : World) : (callFunc f args).run P w = .ok (.enter f args) w := by
  have h3 : ¬ fn.name = "runtime.NumGoroutine" := by simpa using h1
  have h4 : ¬ fn.body = none := by intro e; simp [e] at h2
  simp [callFunc, hf, h3, h4, go_sem]

set_option maxHeartbeats 1000000 in
theorem texts_told (F : FuncId) (caps : Array Value) (n : Nat) (g : Nat → List Int) (J : Nat → World → Prop) (r : Option Nat) (w : World) (hn : n ≤ 100) (hF : ∀ (args : Array Value) (wx : World), (callFunc F args).run Tryz.prog wx = .ok (.enter F args) wx) (hr : ∀ q, r = some q → q < w.heap.size)
    (h0 : J 0 w) (hJ : Stays w.heap.size J) (hstep : ∀ k W, k < n → J k W → w.heap.size ≤ W.heap.size → Calls Tryz.prog F (#[.int .i64 k] ++ caps) W fun e W' => e = .returned (.string (strOfNums (g k))) ∧ J (k + 1) W' ∧ W.grownBy W' r) :
    Calls Tryz.prog 107 #[.int .i64 n, .func (.func F) #[] caps] w fun e w' => ∃ v, e = .returned v ∧ w'.ownsRow w.heap.size 9 1 v n (strVs (upTo g n)) ∧ J n w' ∧ w.grownBy w' r := by
  obtain ⟨i0, hi, hz0, hz1, hz2⟩ := info_parts info_strg
  have hmk := make_strs (n : Int) n rfl (by omega)
  have Hstep := Lib.hid hstep
  have HJ := Lib.hid hJ
  have H0 := Lib.hid h0
  have Hr := Lib.hid hr
  clear hstep hJ h0 hr
  go_enter Tryz.func107, Tryz.ntmps107
  go_wp2
  clear hmk
  have r0 := World.ownsRow_made (base := w.heap.size) (e := 9) (size := 1) w (madeCells #[.string ⟨#[]⟩] n) n (Nat.le_refl _) (by unfold maxLen; omega) (by first | (rw [size_madeCells]; done) | (rw [size_madeCells]; omega))
  have hB0 : w.grownBy (w.alloc (.cells (madeCells #[Value.string ⟨#[]⟩] n) 9)) r := World.grownBy_alloc w _ r
  have hJ0 : J 0 (w.alloc (.cells (madeCells #[Value.string ⟨#[]⟩] n) 9)) := HJ.out 0 _ _ none H0.out (World.grownBy_alloc w _ none) (fun q e => by cases e)
  go_loopw [5, 10] (fun o i wr => ∃ k : Nat, k ≤ n ∧ i = .int .i64 k ∧ wr.ownsRow w.heap.size 9 1 o k (strVs (upTo g k)) ∧ J k wr ∧ w.grownBy wr r)
    (fun _ i _ => n - (intOf i).toNat)
  case atStart => exact ⟨0, Nat.zero_le _, rfl, r0, hJ0, hB0⟩
  case round =>
    obtain ⟨k, hk, rfl, hrow, hjk, hB⟩ := hrel
    clear r0 hB0 hJ0
    by_cases hlt : k < n
    · have hs := upTo_succ g k
      have Hs := Lib.hid hs
      have Hrow := Lib.hid hrow
      have HB := Lib.hid hB
      have Hc := Lib.hid (Hstep.out k wr hlt hjk hB.size)
      clear hs hrow hjk hB
      go_wp2_with fail
      with_reducible refine Calls.mono Hc.out ?_
      rintro e w2 ⟨rfl, hJ2, hg2⟩
      have hrow := Hrow.out.kept hg2 (row_off Hrow.out Hr.out)
      have HJ2 := Lib.hid hJ2
      have HB2 := Lib.hid (grown_trans HB.out hg2)
      clear hJ2 hg2
      generalize g k = X at Hs ⊢
      go_wp2_with (at_builtin; refine wpList_append_own _ rfl (.tmp 13) (.tmp 17) 25 rfl w.heap.size 9 i0 (.string ⟨#[]⟩) 1 16 Tryz.underlying25 hi hz0 hz1 hz2 rfl (by decide) _ k _ rfl (hrow.alloc _) ⟨w2.heap.size, 0, none⟩ 1 1 [.string (strOfNums X)] rfl rfl (cell_one_new _ _ _) (by simp [Value.oneCell']) (by unfold maxLen; omega) (by omega) (by have := HB2.out.size; simp; omega) ?_; intro v' w3 hown' hgrow _)
      have hq : ∀ q, Value.ownBlock _ = some q → w.heap.size ≤ q := fun q e => (hrow.lt q e).1
      go_roundw
      case rel => exact ⟨k + 1, by omega, by go_num, by rw [Hs.out, strVs_snoc]; exact hown', HJ.out _ _ _ _ (HJ.out _ _ _ none HJ2.out (World.grownBy_alloc _ _ none) (fun q e => by cases e)) hgrow hq, grown_new (grown_trans HB2.out (World.grownBy_alloc _ _ r)) hgrow hq⟩
      case measure => simp [intOf]; omega
    · obtain rfl : k = n := by omega
      go_wp2
      go_ret
      exact ⟨_, rfl, hrow, hjk, hB⟩
end
end

/-
  signer: which heights may be, Size, New; the page's example.
-/
section
set_option maxRecDepth 100000
section
set_option linter.unusedVariables false
open Go.RowKit

theorem mayBe_no (h : Int) (w : World) (hh : h < 0 ∨ 4 < h) : Calls Tryz.prog 102 #[.int .i64 h] w fun e w' => e = .returned (.bool false) ∧ w = w' := by
  rcases hh with h1 | h1
  · have h2 : ¬ 0 ≤ h := by omega
    go_enter Tryz.func102, Tryz.ntmps102
    go_wp2
    go_ret
    exact ⟨rfl, rfl⟩
  · have h2 : 0 ≤ h := by omega
    have h3 : ¬ h ≤ 4 := by omega
    go_enter Tryz.func102, Tryz.ntmps102
    go_wp2
    go_ret
    exact ⟨rfl, rfl⟩
theorem mayBe_yes (h : Int) (w : World) (h0 : 0 ≤ h) (h4 : h ≤ 4) : Calls Tryz.prog 102 #[.int .i64 h] w fun e w' => e = .returned (.bool true) ∧ w = w' := by
  go_enter Tryz.func102, Tryz.ntmps102
  go_wp2
  go_ret
  exact ⟨rfl, rfl⟩
theorem leavesOf_any (h : Nat) (w : World) (h4 : h ≤ 4) : Calls Tryz.prog 108 #[.int .i64 h] w fun e w' => e = .returned (.int .i64 ((2 ^ h : Nat) : Int)) ∧ w = w' := by
  have hc : h = 0 ∨ h = 1 ∨ h = 2 ∨ h = 3 ∨ h = 4 := by omega
  clear h4
  rcases hc with rfl | rfl | rfl | rfl | rfl
  all_goals
    go_enter Tryz.func108, Tryz.ntmps108
    go_wp2
    go_ret
    exact ⟨rfl, rfl⟩
theorem size_yes (h : Nat) (w : World) (h4 : h ≤ 4) : Calls Tryz.prog 103 #[.int .i64 h] w fun e w' => e = .returned (.int .i64 ((90 + 8 * h : Nat) : Int)) ∧ w = w' := by
  have hc : h = 0 ∨ h = 1 ∨ h = 2 ∨ h = 3 ∨ h = 4 := by omega
  clear h4
  rcases hc with rfl | rfl | rfl | rfl | rfl
  all_goals
    go_enter Tryz.func103, Tryz.ntmps103
    go_wp2_with fail
    with_reducible refine Calls.mono (mayBe_yes _ _ (by decide) (by decide)) ?_
    rintro e w1 ⟨rfl, rfl⟩
    go_wp2
    go_ret
    exact ⟨rfl, rfl⟩
theorem size_no (h : Int) (w : World) (hh : h < 0 ∨ 4 < h) : Calls Tryz.prog 103 #[.int .i64 h] w fun e w' => e = .returned (.int .i64 0) ∧ w = w' := by
  have Hm := Lib.hid (mayBe_no h w hh)
  clear hh
  go_enter Tryz.func103, Tryz.ntmps103
  go_wp2_with fail
  with_reducible refine Calls.mono Hm.out ?_
  rintro e w1 ⟨rfl, rfl⟩
  go_wp2
  go_ret
  exact ⟨rfl, rfl⟩
/-- a key in memory, and as a value -/
def keyV (seed : List Int) (lv : Value) (next : Int) : Value := .agg #[.string (strOfNums seed), lv, .int .i64 next]
def leavesB (seed : List Int) (n : Nat) : List (List Int) := upTo (fun i => leafB seed i) n

end
end

/-
  signer: New.
-/
section
set_option maxRecDepth 100000
section
set_option linter.unusedVariables false
open Go.RowKit

theorem one_key (zs : List Int) (v : Value) (k : Int) (hv : v.oneCell' = true) : (#[.string (strOfNums zs), v, .int .i64 k] : Array Value).all (·.oneCell') = true := by
  have h1 : (Value.string (strOfNums zs)).oneCell' = true := by simp [Value.oneCell']
  have h2 : (Value.int .i64 k).oneCell' = true := by simp [Value.oneCell']
  simp [h1, h2, hv]
def noKey : Array Value := #[.string ⟨#[]⟩, .slice none 0 0, .int .i64 0]

end
end
end Go.Proofs.YtfenmhddlojahaaGreat
