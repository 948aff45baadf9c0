import Derived.Test.YtgmicppfiapilaaDoorSgNew
/-
  signer: New.
-/
namespace Go.Proofs.YtgmicppfiapilaaDoor
set_option maxRecDepth 100000
section
set_option linter.unusedVariables false
open Go.RowKit

theorem info_key : (Tryd.prog.info? 27).map (·.size) = some 3 := by kernel_rfl
/-- two results, the first a key in memory -/
theorem results_keyr {fn : Func} {p q : Tmp} (h : fn.results = #[.cell p 27, .tmp q]) (tmps : Array Value) (w : World) (B : Nat) (cs : Array Value) (u : Value) (hp : tmps.getD p undef = .pointer (some ⟨B, 0, none⟩)) (hq : tmps.getD q undef = u)
    (hg : w.heap[B]? = some (.cells cs 27 (0, 0))) (hs : cs.size = 3) :
    (results fn tmps).run Tryd.prog w = .ok (.tuple #[.agg cs, u]) w := by
  have hp' : tmps[p]?.getD undef = .pointer (some ⟨B, 0, none⟩) := by simpa using hp
  have hq' : tmps[q]?.getD undef = u := by simpa using hq
  have hl := run_loadVar_row (P := Tryd.prog) w B 27 27 cs (0, 0) _ hg Tryd.underlying27 rfl (by rw [info_key, hs])
  simp [results, h, hp', hq', asAddr, hl]
theorem one_key (zs : List Int) (v : Value) (k : Int) (hv : v.oneCell' = true) : (#[.string (strOfNums zs), v, .int .i64 k] : Array Value).all (·.oneCell') = true := by
  have h1 : (Value.string (strOfNums zs)).oneCell' = true := by simp [Value.oneCell']
  have h2 : (Value.int .i64 k).oneCell' = true := by simp [Value.oneCell']
  simp [h1, h2, hv]
def noKey : Array Value := #[.string ⟨#[]⟩, .slice none 0 0, .int .i64 0]

set_option maxHeartbeats 1000000 in
theorem new_range (zs : List Int) (h : Int) (w : World) (hh : h < 0 ∨ 4 < h) :
    Calls Tryd.prog 16 #[.string (strOfNums zs), .int .i64 h] w fun e w' => e = .returned (.tuple #[.agg noKey, .int .i64 4]) ∧ Up w w' := by
  have Hm : Hid (∀ wx, Calls Tryd.prog 30 #[.int .i64 h] wx fun e w' => e = .returned (.bool false) ∧ wx = w') := fun wx => mayBe_no h wx hh
  clear hh
  go_enter Tryd.func16, Tryd.ntmps16
  go_wp2_with fail
  with_reducible refine Calls.mono (Hm.out _) ?_
  rintro e w1 ⟨rfl, rfl⟩
  go_wp2
  exact bodyPost_ret (v := .tuple #[.agg noKey, .int .i64 4]) (by simp [results, Tryd.results16, noKey, go_sem]) rfl ⟨rfl, Up.alloc (Up.alloc (Up.refl w) _) _⟩

set_option maxHeartbeats 1000000 in
theorem new_long (zs : List Int) (h : Nat) (w : World) (h4 : h ≤ 4) (hl : 64 < zs.length) (hl2 : zs.length ≤ 9223372036854775807) :
    Calls Tryd.prog 16 #[.string (strOfNums zs), .int .i64 h] w fun e w' => e = .returned (.tuple #[.agg noKey, .int .i64 5]) ∧ Up w w' := by
  have Hm : Hid (∀ wx, Calls Tryd.prog 30 #[.int .i64 h] wx fun e w' => e = .returned (.bool true) ∧ wx = w') := fun wx => mayBe_yes h wx (by omega) (by omega)
  have hs : (64 : Int) < ((strOfNums zs).size : Int) := by rw [strOfNums_size]; omega
  have hs2 : (64 : Int) < (zs.length : Int) := by omega
  clear h4 hl
  go_enter Tryd.func16, Tryd.ntmps16
  go_wp2_with fail
  with_reducible refine Calls.mono (Hm.out _) ?_
  rintro e w1 ⟨rfl, rfl⟩
  go_wp2
  exact bodyPost_ret (v := .tuple #[.agg noKey, .int .i64 5]) (by simp [results, Tryd.results16, noKey, go_sem]) rfl ⟨rfl, Up.alloc (Up.alloc (Up.refl w) _) _⟩

set_option maxHeartbeats 1000000 in
theorem new_ok (zs : List Int) (h : Nat) (w : World) (hu : U8s zs) (hl : zs.length ≤ 64) (h4 : h ≤ 4) :
    Calls Tryd.prog 16 #[.string (strOfNums zs), .int .i64 h] w fun e w' => ∃ v, e = .returned (.tuple #[keyV zs v 0, .int .i64 0]) ∧ w'.ownsRow w.heap.size 9 1 v (2 ^ h) (strVs (leavesB zs (2 ^ h))) ∧ Up w w' := by
  have Hm : Hid (∀ wx, Calls Tryd.prog 30 #[.int .i64 h] wx fun e w' => e = .returned (.bool true) ∧ wx = w') := fun wx => mayBe_yes h wx (by omega) (by omega)
  have Hlv : Hid (∀ wx, Calls Tryd.prog 32 #[.int .i64 h] wx fun e w' => e = .returned (.int .i64 ((2 ^ h : Nat) : Int)) ∧ wx = w') := fun wx => leavesOf_any h wx h4
  obtain ⟨n, hn⟩ : ∃ n, 2 ^ h = n := ⟨_, rfl⟩
  have hn0 : Hid (0 < n) := by show _ < _; rw [← hn]; exact Nat.two_pow_pos h
  have hn16 : n ≤ 100 := by
    have : h = 0 ∨ h = 1 ∨ h = 2 ∨ h = 3 ∨ h = 4 := by omega
    rcases this with rfl | rfl | rfl | rfl | rfl <;> omega
  rw [hn] at Hlv ⊢
  have Htx : Hid (∀ wx : World, w.heap.size < wx.heap.size → wx.heap[w.heap.size]? = some (.cells #[.string (strOfNums zs)] 9 (0, 0)) → Calls Tryd.prog 31 #[.int .i64 (n : Int), .func (.func 33) #[] #[.pointer (some ⟨w.heap.size, 0, none⟩)]] wx fun e w' => ∃ v, e = .returned v ∧ w'.ownsRow wx.heap.size 9 1 v n (strVs (leavesB zs n)) ∧ Up wx w') := by
    intro wx hlt hB
    refine (texts_told 33 #[.pointer (some ⟨w.heap.size, 0, none⟩)] n (fun i => leafB zs i) (fun _ W => W.heap[w.heap.size]? = some (.cells #[.string (strOfNums zs)] 9 (0, 0))) none wx hn16 enterNew1 (fun q e => by cases e) hB ?_ ?_).mono ?_
    · intro k W W' row hJ hg hq
      exact (hg.block w.heap.size (lt_of_block hJ) (fun e => by have := hq _ e.symm; omega)).trans hJ
    · intro k W hk hJ hs
      exact (newLeaf_any zs w.heap.size k W hu (by omega) (by omega) hJ).mono fun e W' ⟨h1, h2⟩ => ⟨h1, (h2.block _ (lt_of_block hJ)).trans hJ, grown_up h2 none⟩
    · intro e w' ⟨v, h1, h2, _, h3⟩
      exact ⟨v, h1, h2, up_grown h3⟩
  have hs2 : ¬ (64 : Int) < ((strOfNums zs).size : Int) := by rw [strOfNums_size]; omega
  clear h4 hu hl hn hn16
  go_enter Tryd.func16, Tryd.ntmps16
  go_wp2_with fail
  with_reducible refine Calls.mono (Hm.out _) ?_
  rintro e w1 ⟨rfl, rfl⟩
  go_wp2_with fail
  with_reducible refine Calls.mono (Hlv.out _) ?_
  rintro e w1 ⟨rfl, rfl⟩
  go_wp2_with fail
  with_reducible refine Calls.mono (Htx.out _ (lt_alloc2 w _ _) (heap_alloc2_old w _ _)) ?_
  rintro e w3 ⟨v, rfl, hrow, hU⟩
  have hbox := (hU.block w.heap.size (lt_alloc2 w _ _)).trans (heap_alloc2_old w _ _)
  have hkey := (hU.block (w.heap.size + 1) (lt_alloc2' w _ _)).trans (heap_alloc2_new w _ _)
  have HU := Lib.hid (Up.trans (Up.alloc (Up.alloc (Up.refl w) _) _) hU)
  have Hrow := Lib.hid hrow
  have hcell := cell_of_one hbox
  obtain ⟨g, c, rfl, _⟩ := row_slice hrow hn0.out
  have hone := one_key zs _ 0 (row_one hrow)
  clear hU hrow
  go_wp2_with (refine wpList_store_agg rfl 27 (.tmp 4) (.tmp 21) rfl (w.heap.size + 1) _ #[.string (strOfNums zs), .slice (some ⟨g, 0, none⟩) n c, .int .i64 0] rfl rfl 27 hkey info_key rfl hone ?_; intro w4 hg4 hgr4)
  refine bodyPost_ret (results_keyr rfl _ _ _ _ _ rfl rfl hg4 rfl) rfl ⟨_, rfl, ?_, up_grown (grown_new (grown_up HU.out none) hgr4 (fun q e => by cases e; omega))⟩
  exact ownsRow_base (Hrow.out.kept hgr4 (row_off Hrow.out (fun q e => by cases e; simp))) (by simp; omega)
end
end Go.Proofs.YtgmicppfiapilaaDoor
