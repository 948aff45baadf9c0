import Derived.Test.YtenhjjbbmmomaaaWotsSigs
import Derived.Test.YtenhjjbbmmomaaaUps
namespace Go.Proofs.Ytenhjjbbmmomaaa
/-
  signer's texts, of whatever function is handed to it.
-/
section
set_option maxRecDepth 100000
section
set_option linter.unusedVariables false
open Go.RowKit

/-- what holds of the world of a round stays while the call writes its own -/
def Stays (n₀ : Nat) (J : Nat → World → Prop) : Prop := ∀ k W W' row, J k W → W.grownBy W' row → (∀ q, row = some q → n₀ ≤ q) → J k W'

theorem run_enter {P : Program} {f : FuncId} {fn : Func} (hf : P.funcs[f]? = some fn) (h1 : (fn.name == "runtime.NumGoroutine") = false) (h2 : fn.body.isNone = false) (args : Array Value) (w : World) : (callFunc f args).run P w = .ok (.enter f args) w := by
  have h3 : ¬ fn.name = "runtime.NumGoroutine" := by simpa using h1
  have h4 : ¬ fn.body = none := by intro e; simp [e] at h2
  simp [callFunc, hf, h3, h4, go_sem]

set_option maxHeartbeats 1000000 in
theorem texts_told (F : FuncId) (caps : Array Value) (n : Nat) (g : Nat → List Int) (J : Nat → World → Prop) (r : Option Nat) (w : World) (hn : n ≤ 100) (hF : ∀ (args : Array Value) (wx : World), (callFunc F args).run Try.prog wx = .ok (.enter F args) wx) (hr : ∀ q, r = some q → q < w.heap.size)
    (h0 : J 0 w) (hJ : Stays w.heap.size J) (hstep : ∀ k W, k < n → J k W → w.heap.size ≤ W.heap.size → Calls Try.prog F (#[.int .i64 k] ++ caps) W fun e W' => e = .returned (.string (strOfNums (g k))) ∧ J (k + 1) W' ∧ W.grownBy W' r) :
    Calls Try.prog 15 #[.int .i64 n, .func (.func F) #[] caps] w fun e w' => ∃ v, e = .returned v ∧ w'.ownsRow w.heap.size 9 1 v n (strVs (upTo g n)) ∧ J n w' ∧ w.grownBy w' r := by
  obtain ⟨i0, hi, hz0, hz1, hz2⟩ := info_parts info_strg
  have hmk := make_strs (n : Int) n rfl (by omega)
  have Hstep := Lib.hid hstep
  have HJ := Lib.hid hJ
  have H0 := Lib.hid h0
  have Hr := Lib.hid hr
  clear hstep hJ h0 hr
  go_enter Try.func15, Try.ntmps15
  go_wp2
  clear hmk
  have r0 := World.ownsRow_made (base := w.heap.size) (e := 9) (size := 1) w (madeCells #[.string ⟨#[]⟩] n) n (Nat.le_refl _) (by unfold maxLen; omega) (by first | (rw [size_madeCells]; done) | (rw [size_madeCells]; omega))
  have hB0 : w.grownBy (w.alloc (.cells (madeCells #[Value.string ⟨#[]⟩] n) 9)) r := World.grownBy_alloc w _ r
  have hJ0 : J 0 (w.alloc (.cells (madeCells #[Value.string ⟨#[]⟩] n) 9)) := HJ.out 0 _ _ none H0.out (World.grownBy_alloc w _ none) (fun q e => by cases e)
  go_loopw [5, 10] (fun o i wr => ∃ k : Nat, k ≤ n ∧ i = .int .i64 k ∧ wr.ownsRow w.heap.size 9 1 o k (strVs (upTo g k)) ∧ J k wr ∧ w.grownBy wr r)
    (fun _ i _ => n - (intOf i).toNat)
  case atStart => exact ⟨0, Nat.zero_le _, rfl, r0, hJ0, hB0⟩
  case round =>
    obtain ⟨k, hk, rfl, hrow, hjk, hB⟩ := hrel
    clear r0 hB0 hJ0
    by_cases hlt : k < n
    · have hs := upTo_succ g k
      have Hs := Lib.hid hs
      have Hrow := Lib.hid hrow
      have HB := Lib.hid hB
      have Hc := Lib.hid (Hstep.out k wr hlt hjk hB.size)
      clear hs hrow hjk hB
      go_wp2_with fail
      with_reducible refine Calls.mono Hc.out ?_
      rintro e w2 ⟨rfl, hJ2, hg2⟩
      have hrow := Hrow.out.kept hg2 (row_off Hrow.out Hr.out)
      have HJ2 := Lib.hid hJ2
      have HB2 := Lib.hid (grown_trans HB.out hg2)
      clear hJ2 hg2
      generalize g k = X at Hs ⊢
      go_wp2_with (at_builtin; refine wpList_append_own _ rfl (.tmp 13) (.tmp 17) 22 rfl w.heap.size 9 i0 (.string ⟨#[]⟩) 1 16 Try.underlying22 hi hz0 hz1 hz2 rfl (by decide) _ k _ rfl (hrow.alloc _) ⟨w2.heap.size, 0, none⟩ 1 1 [.string (strOfNums X)] rfl rfl (cell_one_new _ _ _) (by simp [Value.oneCell']) (by unfold maxLen; omega) (by omega) (by have := HB2.out.size; simp; omega) ?_; intro v' w3 hown' hgrow _)
      have hq : ∀ q, Value.ownBlock _ = some q → w.heap.size ≤ q := fun q e => (hrow.lt q e).1
      go_roundw
      case rel => exact ⟨k + 1, by omega, by go_num, by rw [Hs.out, strVs_snoc]; exact hown', HJ.out _ _ _ _ (HJ.out _ _ _ none HJ2.out (World.grownBy_alloc _ _ none) (fun q e => by cases e)) hgrow hq, grown_new (grown_trans HB2.out (World.grownBy_alloc _ _ r)) hgrow hq⟩
      case measure => simp [intOf]; omega
    · obtain rfl : k = n := by omega
      go_wp2
      go_ret
      exact ⟨_, rfl, hrow, hjk, hB⟩
end
end

/-
  signer: which heights may be, Size, New; the page's example.
-/
section
set_option maxRecDepth 100000
section
set_option linter.unusedVariables false
open Go.RowKit

theorem mayBe_no (h : Int) (w : World) (hh : h < 0 ∨ 4 < h) : Calls Try.prog 14 #[.int .i64 h] w fun e w' => e = .returned (.bool false) ∧ w = w' := by
  rcases hh with h1 | h1
  · have h2 : ¬ 0 ≤ h := by omega
    go_enter Try.func14, Try.ntmps14
    go_wp2
    go_ret
    exact ⟨rfl, rfl⟩
  · have h2 : 0 ≤ h := by omega
    have h3 : ¬ h ≤ 4 := by omega
    go_enter Try.func14, Try.ntmps14
    go_wp2
    go_ret
    exact ⟨rfl, rfl⟩
theorem mayBe_yes (h : Int) (w : World) (h0 : 0 ≤ h) (h4 : h ≤ 4) : Calls Try.prog 14 #[.int .i64 h] w fun e w' => e = .returned (.bool true) ∧ w = w' := by
  go_enter Try.func14, Try.ntmps14
  go_wp2
  go_ret
  exact ⟨rfl, rfl⟩
theorem leavesOf_any (h : Nat) (w : World) (h4 : h ≤ 4) : Calls Try.prog 16 #[.int .i64 h] w fun e w' => e = .returned (.int .i64 ((2 ^ h : Nat) : Int)) ∧ w = w' := by
  have hc : h = 0 ∨ h = 1 ∨ h = 2 ∨ h = 3 ∨ h = 4 := by omega
  clear h4
  rcases hc with rfl | rfl | rfl | rfl | rfl
  all_goals
    go_enter Try.func16, Try.ntmps16
    go_wp2
    go_ret
    exact ⟨rfl, rfl⟩
/-- a key in memory, and as a value -/
def keyV (seed : List Int) (lv : Value) (next : Int) : Value := .agg #[.string (strOfNums seed), lv, .int .i64 next]
def leavesB (seed : List Int) (n : Nat) : List (List Int) := upTo (fun i => leafB seed i) n

theorem newLeaf_any (zs : List Int) (B : Nat) (k : Int) (W : World) (hu : U8s zs) (hl : zs.length ≤ 140737488355200) (hk : -9223372036854775808 ≤ k ∧ k ≤ 9223372036854775807) (hB : W.heap[B]? = some (.cells #[.string (strOfNums zs)] 9 (0, 0))) :
    Calls Try.prog 17 #[.int .i64 k, .pointer (some ⟨B, 0, none⟩)] W fun e W' => e = .returned (.string (strOfNums (leafB zs k))) ∧ Up W W' := by
  have Hlf := Lib.hid (leaf_any zs k W hu hl hk)
  have hcell := cell_of_one hB
  clear hu hl hk hB
  go_enter Try.func17, Try.ntmps17
  go_wp2_with fail
  with_reducible refine Calls.mono Hlf.out ?_
  rintro e w1 ⟨rfl, hU⟩
  go_wp2
  go_ret
  exact ⟨rfl, hU⟩

theorem enterNew1 (args : Array Value) (wx : World) : (callFunc 17 args).run Try.prog wx = .ok (.enter 17 args) wx :=
  run_enter Try.func17 (by kernel_rfl) (by kernel_rfl) args wx

/-- the two results of New -/
theorem results_key {fn : Func} {p q : Tmp} (h : fn.results = #[.cell p 24, .tmp q]) (tmps : Array Value) (w : World) (B : Nat) (v0 v1 v2 u : Value) (hp : tmps.getD p undef = .pointer (some ⟨B, 0, none⟩)) (hq : tmps.getD q undef = u)
    (h0 : w.cell? ⟨B, 0, none⟩ = some v0) (h1 : w.cell? ⟨B, 1, none⟩ = some v1) (h2 : w.cell? ⟨B, 2, none⟩ = some v2) :
    (results fn tmps).run Try.prog w = .ok (.tuple #[.agg #[v0, v1, v2], u]) w := by
  have hp' : tmps[p]?.getD undef = .pointer (some ⟨B, 0, none⟩) := by simpa using hp
  have hq' : tmps[q]?.getD undef = u := by simpa using hq
  simp [results, h, hp', hq', asAddr, loadVar, h0, h1, h2, go_sem]
end
end

/-
  signer: New.
-/
section
set_option maxRecDepth 100000
section
set_option linter.unusedVariables false
open Go.RowKit

theorem info_key : (Try.prog.info? 24).map (·.size) = some 3 := by kernel_rfl
/-- two results, the first a key in memory -/
theorem results_keyr {fn : Func} {p q : Tmp} (h : fn.results = #[.cell p 24, .tmp q]) (tmps : Array Value) (w : World) (B : Nat) (cs : Array Value) (u : Value) (hp : tmps.getD p undef = .pointer (some ⟨B, 0, none⟩)) (hq : tmps.getD q undef = u)
    (hg : w.heap[B]? = some (.cells cs 24 (0, 0))) (hs : cs.size = 3) :
    (results fn tmps).run Try.prog w = .ok (.tuple #[.agg cs, u]) w := by
  have hp' : tmps[p]?.getD undef = .pointer (some ⟨B, 0, none⟩) := by simpa using hp
  have hq' : tmps[q]?.getD undef = u := by simpa using hq
  have hl := run_loadVar_row (P := Try.prog) w B 24 24 cs (0, 0) _ hg Try.underlying24 rfl (by rw [info_key, hs])
  simp [results, h, hp', hq', asAddr, hl]
theorem one_key (zs : List Int) (v : Value) (k : Int) (hv : v.oneCell' = true) : (#[.string (strOfNums zs), v, .int .i64 k] : Array Value).all (·.oneCell') = true := by
  have h1 : (Value.string (strOfNums zs)).oneCell' = true := by simp [Value.oneCell']
  have h2 : (Value.int .i64 k).oneCell' = true := by simp [Value.oneCell']
  simp [h1, h2, hv]
def noKey : Array Value := #[.string ⟨#[]⟩, .slice none 0 0, .int .i64 0]

set_option maxHeartbeats 1000000 in
theorem new_range (zs : List Int) (h : Int) (w : World) (hh : h < 0 ∨ 4 < h) :
    Calls Try.prog 9 #[.string (strOfNums zs), .int .i64 h] w fun e w' => e = .returned (.tuple #[.agg noKey, .int .i64 4]) ∧ Up w w' := by
  have Hm : Hid (∀ wx, Calls Try.prog 14 #[.int .i64 h] wx fun e w' => e = .returned (.bool false) ∧ wx = w') := fun wx => mayBe_no h wx hh
  clear hh
  go_enter Try.func9, Try.ntmps9
  go_wp2_with fail
  with_reducible refine Calls.mono (Hm.out _) ?_
  rintro e w1 ⟨rfl, rfl⟩
  go_wp2
  exact bodyPost_ret (v := .tuple #[.agg noKey, .int .i64 4]) (by simp [results, Try.results9, noKey, go_sem]) rfl ⟨rfl, Up.alloc (Up.alloc (Up.refl w) _) _⟩

set_option maxHeartbeats 1000000 in
theorem new_long (zs : List Int) (h : Nat) (w : World) (h4 : h ≤ 4) (hl : 64 < zs.length) (hl2 : zs.length ≤ 9223372036854775807) :
    Calls Try.prog 9 #[.string (strOfNums zs), .int .i64 h] w fun e w' => e = .returned (.tuple #[.agg noKey, .int .i64 5]) ∧ Up w w' := by
  have Hm : Hid (∀ wx, Calls Try.prog 14 #[.int .i64 h] wx fun e w' => e = .returned (.bool true) ∧ wx = w') := fun wx => mayBe_yes h wx (by omega) (by omega)
  have hs : (64 : Int) < ((strOfNums zs).size : Int) := by rw [strOfNums_size]; omega
  have hs2 : (64 : Int) < (zs.length : Int) := by omega
  clear h4 hl
  go_enter Try.func9, Try.ntmps9
  go_wp2_with fail
  with_reducible refine Calls.mono (Hm.out _) ?_
  rintro e w1 ⟨rfl, rfl⟩
  go_wp2
  exact bodyPost_ret (v := .tuple #[.agg noKey, .int .i64 5]) (by simp [results, Try.results9, noKey, go_sem]) rfl ⟨rfl, Up.alloc (Up.alloc (Up.refl w) _) _⟩

set_option maxHeartbeats 1000000 in
theorem new_ok (zs : List Int) (h : Nat) (w : World) (hu : U8s zs) (hl : zs.length ≤ 64) (h4 : h ≤ 4) :
    Calls Try.prog 9 #[.string (strOfNums zs), .int .i64 h] w fun e w' => ∃ v, e = .returned (.tuple #[keyV zs v 0, .int .i64 0]) ∧ w'.ownsRow w.heap.size 9 1 v (2 ^ h) (strVs (leavesB zs (2 ^ h))) ∧ Up w w' := by
  have Hm : Hid (∀ wx, Calls Try.prog 14 #[.int .i64 h] wx fun e w' => e = .returned (.bool true) ∧ wx = w') := fun wx => mayBe_yes h wx (by omega) (by omega)
  have Hlv : Hid (∀ wx, Calls Try.prog 16 #[.int .i64 h] wx fun e w' => e = .returned (.int .i64 ((2 ^ h : Nat) : Int)) ∧ wx = w') := fun wx => leavesOf_any h wx h4
  obtain ⟨n, hn⟩ : ∃ n, 2 ^ h = n := ⟨_, rfl⟩
  have hn0 : Hid (0 < n) := by show _ < _; rw [← hn]; exact Nat.two_pow_pos h
  have hn16 : n ≤ 100 := by
    have : h = 0 ∨ h = 1 ∨ h = 2 ∨ h = 3 ∨ h = 4 := by omega
    rcases this with rfl | rfl | rfl | rfl | rfl <;> omega
  rw [hn] at Hlv ⊢
  have Htx : Hid (∀ wx : World, w.heap.size < wx.heap.size → wx.heap[w.heap.size]? = some (.cells #[.string (strOfNums zs)] 9 (0, 0)) → Calls Try.prog 15 #[.int .i64 (n : Int), .func (.func 17) #[] #[.pointer (some ⟨w.heap.size, 0, none⟩)]] wx fun e w' => ∃ v, e = .returned v ∧ w'.ownsRow wx.heap.size 9 1 v n (strVs (leavesB zs n)) ∧ Up wx w') := by
    intro wx hlt hB
    refine (texts_told 17 #[.pointer (some ⟨w.heap.size, 0, none⟩)] n (fun i => leafB zs i) (fun _ W => W.heap[w.heap.size]? = some (.cells #[.string (strOfNums zs)] 9 (0, 0))) none wx hn16 enterNew1 (fun q e => by cases e) hB ?_ ?_).mono ?_
    · intro k W W' row hJ hg hq
      exact (hg.block w.heap.size (lt_of_block hJ) (fun e => by have := hq _ e.symm; omega)).trans hJ
    · intro k W hk hJ hs
      exact (newLeaf_any zs w.heap.size k W hu (by omega) (by omega) hJ).mono fun e W' ⟨h1, h2⟩ => ⟨h1, (h2.block _ (lt_of_block hJ)).trans hJ, grown_up h2 none⟩
    · intro e w' ⟨v, h1, h2, _, h3⟩
      exact ⟨v, h1, h2, up_grown h3⟩
  have hs2 : ¬ (64 : Int) < ((strOfNums zs).size : Int) := by rw [strOfNums_size]; omega
  clear h4 hu hl hn hn16
  go_enter Try.func9, Try.ntmps9
  go_wp2_with fail
  with_reducible refine Calls.mono (Hm.out _) ?_
  rintro e w1 ⟨rfl, rfl⟩
  go_wp2_with fail
  with_reducible refine Calls.mono (Hlv.out _) ?_
  rintro e w1 ⟨rfl, rfl⟩
  go_wp2_with fail
  with_reducible refine Calls.mono (Htx.out _ (lt_alloc2 w _ _) (heap_alloc2_old w _ _)) ?_
  rintro e w3 ⟨v, rfl, hrow, hU⟩
  have hbox := (hU.block w.heap.size (lt_alloc2 w _ _)).trans (heap_alloc2_old w _ _)
  have hkey := (hU.block (w.heap.size + 1) (lt_alloc2' w _ _)).trans (heap_alloc2_new w _ _)
  have HU := Lib.hid (Up.trans (Up.alloc (Up.alloc (Up.refl w) _) _) hU)
  have Hrow := Lib.hid hrow
  have hcell := cell_of_one hbox
  obtain ⟨g, c, rfl, _⟩ := row_slice hrow hn0.out
  have hone := one_key zs _ 0 (row_one hrow)
  clear hU hrow
  go_wp2_with (refine wpList_store_agg rfl 24 (.tmp 4) (.tmp 21) rfl (w.heap.size + 1) _ #[.string (strOfNums zs), .slice (some ⟨g, 0, none⟩) n c, .int .i64 0] rfl rfl 24 hkey info_key rfl hone ?_; intro w4 hg4 hgr4)
  refine bodyPost_ret (results_keyr rfl _ _ _ _ _ rfl rfl hg4 rfl) rfl ⟨_, rfl, ?_, up_grown (grown_new (grown_up HU.out none) hgr4 (fun q e => by cases e; omega))⟩
  exact ownsRow_base (Hrow.out.kept hgr4 (row_off Hrow.out (fun q e => by cases e; simp))) (by simp; omega)
end
end
end Go.Proofs.Ytenhjjbbmmomaaa
