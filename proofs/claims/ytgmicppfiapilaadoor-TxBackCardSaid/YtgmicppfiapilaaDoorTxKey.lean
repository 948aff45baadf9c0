import Derived.Test.YtgmicppfiapilaaDoorTxCheck
import Derived.Test.YtgmicppfiapilaaDoorSgNewK
/-
  tx: a client's key.
-/
namespace Go.Proofs.YtgmicppfiapilaaDoor
set_option maxRecDepth 100000
section
set_option linter.unusedVariables false
open Go.RowKit

/-- the seed of a client -/
def cliB (c : Int) : List Int := [99, 108, 105, 101, 110, 116, 48 + c]
theorem cliB_u8s (c : Int) (h : 0 ≤ c ∧ c ≤ 3) : U8s (cliB c) := by
  intro j hj
  have hc : j = 0 ∨ j = 1 ∨ j = 2 ∨ j = 3 ∨ j = 4 ∨ j = 5 ∨ j = 6 := by simp [cliB] at hj; omega
  rcases hc with rfl | rfl | rfl | rfl | rfl | rfl | rfl
  all_goals simp [cliB]
  omega

/-- one result, a key in memory -/
theorem results_keyc {fn : Func} {p : Tmp} (h : fn.results = #[.cell p 27]) (tmps : Array Value) (w : World) (B : Nat) (cs : Array Value) (hp : tmps.getD p undef = .pointer (some ⟨B, 0, none⟩))
    (hg : w.heap[B]? = some (.cells cs 27 (0, 0))) (hs : cs.size = 3) :
    (results fn tmps).run Tryd.prog w = .ok (.agg cs) w := by
  have hp' : tmps[p]?.getD undef = .pointer (some ⟨B, 0, none⟩) := by simpa using hp
  have hl := run_loadVar_row (P := Tryd.prog) w B 27 27 cs (0, 0) _ hg Tryd.underlying27 rfl (by rw [info_key, hs])
  simp [results, h, hp', asAddr, hl]
theorem txKey_none (c : Int) (w : World) (h : c < 0 ∨ 3 < c) :
    Calls Tryd.prog 5 #[.int .i64 c] w fun e w' => e = .returned (.agg noKey) ∧ Up w w' := by
  rcases h with h | h
  · go_enter Tryd.func5, Tryd.ntmps5
    go_wp2
    exact bodyPost_ret (v := .agg noKey) (by simp [results, Tryd.results5, noKey, go_sem]) rfl ⟨rfl, Up.alloc (Up.refl w) _⟩
  · have h0 : ¬ c < 0 := by omega
    have h1 : 4 ≤ c := by omega
    go_enter Tryd.func5, Tryd.ntmps5
    go_wp2
    exact bodyPost_ret (v := .agg noKey) (by simp [results, Tryd.results5, noKey, go_sem]) rfl ⟨rfl, Up.alloc (Up.refl w) _⟩

set_option maxHeartbeats 1000000 in
theorem txKey_some (c : Int) (w : World) (h : 0 ≤ c ∧ c ≤ 3) :
    Calls Tryd.prog 5 #[.int .i64 c] w fun e w' => ∃ v, e = .returned (keyV (cliB c) v 0) ∧ w'.ownsRow w.heap.size 9 1 v 4 (strVs (leavesB (cliB c) 4)) ∧ Up w w' := by
  have Hnew : Hid (∀ wx, Calls Tryd.prog 16 #[.string (strOfNums (cliB c)), .int .i64 2] wx fun e w' => ∃ v, e = .returned (.tuple #[keyV (cliB c) v 0, .int .i64 0]) ∧ w'.ownsRow wx.heap.size 9 1 v 4 (strVs (leavesB (cliB c) 4)) ∧ Up wx w') := fun wx => new_ok (cliB c) 2 wx (cliB_u8s c h) (by simp [cliB]) (by omega)
  have hcv : (convert 38 9 (.slice (some ⟨w.heap.size + 1, 0, none⟩) 1 1)).run Tryd.prog ((w.alloc (.cells noKey 27)).alloc (.cells #[.int .u8 (48 + c)] 5)) = .ok (.string (strOfNums [48 + c])) ((w.alloc (.cells noKey 27)).alloc (.cells #[.int .u8 (48 + c)] 5)) :=
    (Ints.newc (w.alloc (.cells noKey 27)) .u8 5 #[.int .u8 (48 + c)] [48 + c] _ 1 (by simp) rfl rfl).str
  unfold noKey at hcv
  have hcat : (⟨#[99, 108, 105, 101, 110, 116]⟩ : ByteArray) ++ strOfNums [48 + c] = strOfNums (cliB c) := by
    rw [show (⟨#[99, 108, 105, 101, 110, 116]⟩ : ByteArray) = strOfNums [99, 108, 105, 101, 110, 116] from rfl, strOfNums_append]; rfl
  obtain ⟨h1, h2⟩ := h
  have h3 : ¬ c < 0 := by omega
  have h4 : ¬ 4 ≤ c := by omega
  go_enter Tryd.func5, Tryd.ntmps5
  go_wp2_with fail
  with_reducible refine Calls.mono (Hnew.out _) ?_
  rintro e w1 ⟨v, rfl, hrow, hU⟩
  have HU := Lib.hid (Up.trans (Up.alloc (Up.alloc (Up.refl w) _) _) hU)
  have hres := (hU.block w.heap.size (lt_alloc2 w _ _)).trans (heap_alloc2_old w _ _)
  have Hrow := Lib.hid (ownsRow_base (base' := w.heap.size) hrow (by simp; omega))
  obtain ⟨g, c2, rfl, _⟩ := row_slice hrow (by omega)
  have hone := one_key (cliB c) _ 0 (row_one hrow)
  clear hrow hU hcv hcat
  have hres2 := ((Up.alloc (Up.refl w1) (.cells #[.string (strOfNums (cliB c)), .slice (some ⟨g, 0, none⟩) 4 c2, .int .i64 0] 27)).block w.heap.size (lt_of_block hres)).trans hres
  have HU2 := Lib.hid (Up.trans HU.out (Up.alloc (Up.refl w1) (.cells #[.string (strOfNums (cliB c)), .slice (some ⟨g, 0, none⟩) 4 c2, .int .i64 0] 27)))
  have Hrow2 := Lib.hid (ownsRow_up Hrow.out (Up.alloc (Up.refl w1) (.cells #[.string (strOfNums (cliB c)), .slice (some ⟨g, 0, none⟩) 4 c2, .int .i64 0] 27)))
  have Hoff := Lib.hid (block_off hres2 (by decide) Hrow2.out)
  unfold keyV
  clear hres
  go_wp2_with (refine wpList_store_agg rfl 27 (.tmp 2) (.tmp 22) rfl w.heap.size _ #[.string (strOfNums (cliB c)), .slice (some ⟨g, 0, none⟩) 4 c2, .int .i64 0] rfl rfl 27 hres2 info_key rfl hone ?_; intro w4 hg4 hgr4)
  refine bodyPost_ret (results_keyc rfl _ _ _ _ rfl hg4 rfl) rfl ⟨_, rfl, Hrow2.out.kept hgr4 (.inr Hoff.out.symm), ?_⟩
  exact up_at HU2.out hgr4 (Nat.le_refl _)
end
end Go.Proofs.YtgmicppfiapilaaDoor
