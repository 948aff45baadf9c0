import Derived.Test.YtgmicppfiapilaaDoorSgTexts
/-
  signer: which heights may be, Size, New; the page's example.
-/
namespace Go.Proofs.YtgmicppfiapilaaDoor
set_option maxRecDepth 100000
section
set_option linter.unusedVariables false
open Go.RowKit

theorem mayBe_no (h : Int) (w : World) (hh : h < 0 ∨ 4 < h) : Calls Tryd.prog 30 #[.int .i64 h] w fun e w' => e = .returned (.bool false) ∧ w = w' := by
  rcases hh with h1 | h1
  · have h2 : ¬ 0 ≤ h := by omega
    go_enter Tryd.func30, Tryd.ntmps30
    go_wp2
    go_ret
    exact ⟨rfl, rfl⟩
  · have h2 : 0 ≤ h := by omega
    have h3 : ¬ h ≤ 4 := by omega
    go_enter Tryd.func30, Tryd.ntmps30
    go_wp2
    go_ret
    exact ⟨rfl, rfl⟩
theorem mayBe_yes (h : Int) (w : World) (h0 : 0 ≤ h) (h4 : h ≤ 4) : Calls Tryd.prog 30 #[.int .i64 h] w fun e w' => e = .returned (.bool true) ∧ w = w' := by
  go_enter Tryd.func30, Tryd.ntmps30
  go_wp2
  go_ret
  exact ⟨rfl, rfl⟩
theorem leavesOf_any (h : Nat) (w : World) (h4 : h ≤ 4) : Calls Tryd.prog 32 #[.int .i64 h] w fun e w' => e = .returned (.int .i64 ((2 ^ h : Nat) : Int)) ∧ w = w' := by
  have hc : h = 0 ∨ h = 1 ∨ h = 2 ∨ h = 3 ∨ h = 4 := by omega
  clear h4
  rcases hc with rfl | rfl | rfl | rfl | rfl
  all_goals
    go_enter Tryd.func32, Tryd.ntmps32
    go_wp2
    go_ret
    exact ⟨rfl, rfl⟩
theorem size_yes (h : Nat) (w : World) (h4 : h ≤ 4) : Calls Tryd.prog 52 #[.int .i64 h] w fun e w' => e = .returned (.int .i64 ((90 + 8 * h : Nat) : Int)) ∧ w = w' := by
  have hc : h = 0 ∨ h = 1 ∨ h = 2 ∨ h = 3 ∨ h = 4 := by omega
  clear h4
  rcases hc with rfl | rfl | rfl | rfl | rfl
  all_goals
    go_enter Tryd.func52, Tryd.ntmps52
    go_wp2_with fail
    with_reducible refine Calls.mono (mayBe_yes _ _ (by decide) (by decide)) ?_
    rintro e w1 ⟨rfl, rfl⟩
    go_wp2
    go_ret
    exact ⟨rfl, rfl⟩
theorem size_no (h : Int) (w : World) (hh : h < 0 ∨ 4 < h) : Calls Tryd.prog 52 #[.int .i64 h] w fun e w' => e = .returned (.int .i64 0) ∧ w = w' := by
  have Hm := Lib.hid (mayBe_no h w hh)
  clear hh
  go_enter Tryd.func52, Tryd.ntmps52
  go_wp2_with fail
  with_reducible refine Calls.mono Hm.out ?_
  rintro e w1 ⟨rfl, rfl⟩
  go_wp2
  go_ret
  exact ⟨rfl, rfl⟩
/-- a key in memory, and as a value -/
def keyV (seed : List Int) (lv : Value) (next : Int) : Value := .agg #[.string (strOfNums seed), lv, .int .i64 next]
def leavesB (seed : List Int) (n : Nat) : List (List Int) := upTo (fun i => leafB seed i) n

theorem newLeaf_any (zs : List Int) (B : Nat) (k : Int) (W : World) (hu : U8s zs) (hl : zs.length ≤ 140737488355200) (hk : -9223372036854775808 ≤ k ∧ k ≤ 9223372036854775807) (hB : W.heap[B]? = some (.cells #[.string (strOfNums zs)] 9 (0, 0))) :
    Calls Tryd.prog 33 #[.int .i64 k, .pointer (some ⟨B, 0, none⟩)] W fun e W' => e = .returned (.string (strOfNums (leafB zs k))) ∧ Up W W' := by
  have Hlf := Lib.hid (leaf_any zs k W hu hl hk)
  have hcell := cell_of_one hB
  clear hu hl hk hB
  go_enter Tryd.func33, Tryd.ntmps33
  go_wp2_with fail
  with_reducible refine Calls.mono Hlf.out ?_
  rintro e w1 ⟨rfl, hU⟩
  go_wp2
  go_ret
  exact ⟨rfl, hU⟩

theorem enterNew1 (args : Array Value) (wx : World) : (callFunc 33 args).run Tryd.prog wx = .ok (.enter 33 args) wx :=
  run_enter Tryd.func33 (by kernel_rfl) (by kernel_rfl) args wx

/-- the two results of New -/
theorem results_key {fn : Func} {p q : Tmp} (h : fn.results = #[.cell p 27, .tmp q]) (tmps : Array Value) (w : World) (B : Nat) (v0 v1 v2 u : Value) (hp : tmps.getD p undef = .pointer (some ⟨B, 0, none⟩)) (hq : tmps.getD q undef = u)
    (h0 : w.cell? ⟨B, 0, none⟩ = some v0) (h1 : w.cell? ⟨B, 1, none⟩ = some v1) (h2 : w.cell? ⟨B, 2, none⟩ = some v2) :
    (results fn tmps).run Tryd.prog w = .ok (.tuple #[.agg #[v0, v1, v2], u]) w := by
  have hp' : tmps[p]?.getD undef = .pointer (some ⟨B, 0, none⟩) := by simpa using hp
  have hq' : tmps[q]?.getD undef = u := by simpa using hq
  simp [results, h, hp', hq', asAddr, loadVar, h0, h1, h2, go_sem]
end
end Go.Proofs.YtgmicppfiapilaaDoor
