import Derived.Deep.RegionWith
import Derived.Deep.QuietTactic
import Derived.BigQuiet
import Derived.IntWalk
import Derived.Lib.MinMax
import Derived.Shelf.Abstract
import Derived.WalkKit
import Derived.OwnWalkIn
import Derived.TacticsInMore
import Derived.LoopNIn
import Derived.LoopIn
import Derived.Outline
import Derived.Shelf.RegionOpen
import Derived.BigGuardIn
import Derived.Test.YtmjcjbiengcigaaAlong
import Derived.Test.YtmjcjbiengcigaaUps
import Derived.Test.YtmjcjbiengcigaaCtKit
/-
  held: Start, Running, Full, untold.
-/
namespace Go.Proofs.Ytmjcjbiengcigaa
set_option maxRecDepth 100000
set_option linter.unusedVariables false
open Go.RowKit Go.Shelf
attribute [local go_sem] Oper.semAt_some

/-- what is held, as cells: its mark's three, since when, how many told -/
def heC (V H : Int) (B : ByteArray) (S T : Int) : Array Value := #[.int .i64 V, .int .i64 H, .string B, .int .i64 S, .int .i64 T]
theorem info_he : (Try.prog.info? 25).map (·.size) = some 5 := by kernel_rfl
theorem one_he (V H : Int) (B : ByteArray) (S T : Int) : (#[.int .i64 V, .int .i64 H, .string B, .int .i64 S, .int .i64 T] : Array Value).all (·.oneCell') = true := by simp [Value.oneCell']
/-- is anything held? -/
def runs (B : ByteArray) : Bool := !B.toList.isEmpty
/-- may it be a tick? -/
def isTk (n : Int) : Bool := decide (0 ≤ n ∧ n ≤ 1099511627776)
/-- how many ticks went by wholly -/
def fullL (S N : Int) : Int := if isTk S = true ∧ isTk N = true then max 0 (N - S - 1) else 0
theorem isTick_any (n : Int) (w : World) :
    Calls Try.prog 13 #[.int .i64 n] w fun e w' => e = .returned (.bool (isTk n)) ∧ Up w w' := by
  unfold isTk
  by_cases h1 : 0 ≤ n
  · by_cases h2 : n ≤ 1099511627776
    · rw [decide_eq_true (show 0 ≤ n ∧ n ≤ 1099511627776 from ⟨h1, h2⟩)]
      go_enter Try.func13, Try.ntmps13
      go_wp2
      go_ret
      exact ⟨rfl, Up.refl _⟩
    · rw [decide_eq_false (show ¬ (0 ≤ n ∧ n ≤ 1099511627776) from fun h => h2 h.2)]
      go_enter Try.func13, Try.ntmps13
      go_wp2
      go_ret
      exact ⟨rfl, Up.refl _⟩
  · rw [decide_eq_false (show ¬ (0 ≤ n ∧ n ≤ 1099511627776) from fun h => h1 h.1)]
    go_enter Try.func13, Try.ntmps13
    go_wp2
    go_ret
    exact ⟨rfl, Up.refl _⟩
theorem running_any (V H : Int) (B : ByteArray) (S T : Int) (w : World) :
    Calls Try.prog 9 #[.agg (heC V H B S T)] w fun e w' => e = .returned (.bool (runs B)) ∧ Up w w' := by
  unfold heC runs
  have c0 := heap_alloc_new w (.cells #[.int .i64 V, .int .i64 H, .string B, .int .i64 S, .int .i64 T] 25)
  have HU := Lib.hid (Up.alloc (Up.refl w) (.cells #[.int .i64 V, .int .i64 H, .string B, .int .i64 S, .int .i64 T] 25))
  obtain ⟨_, _, c2, _, _⟩ := tx_cells c0
  clear c0
  go_enter Try.func9, Try.ntmps9
  go_wp2
  go_ret
  exact ⟨rfl, HU.out⟩
set_option maxHeartbeats 1000000 in
theorem full_any (V H : Int) (B : ByteArray) (S T N : Int) (w : World) :
    Calls Try.prog 7 #[.agg (heC V H B S T), .int .i64 N] w fun e w' => e = .returned (.int .i64 (fullL S N)) ∧ Up w w' := by
  have HT := Lib.hid (fun n wx => isTick_any n wx)
  have c0 := heap_alloc_new w (.cells #[.int .i64 V, .int .i64 H, .string B, .int .i64 S, .int .i64 T] 25)
  have HU := Lib.hid (Up.alloc (Up.refl w) (.cells #[.int .i64 V, .int .i64 H, .string B, .int .i64 S, .int .i64 T] 25))
  obtain ⟨_, _, _, c3, _⟩ := tx_cells c0
  unfold heC
  by_cases h1 : isTk S = true
  · by_cases h2 : isTk N = true
    · have k1 := of_decide_eq_true h1
      have k2 := of_decide_eq_true h2
      have hw := IntWalk.i64_in (N - S) (by omega)
      have hw2 := IntWalk.i64_in (N - S - 1) (by omega)
      unfold fullL
      rw [if_pos ⟨h1, h2⟩]
      have HTS := Lib.hid (HT.out S)
      have HTN := Lib.hid (HT.out N)
      rw [h1] at HTS
      rw [h2] at HTN
      obtain ⟨M, hM⟩ : ∃ M, max 0 (N - S - 1) = M := ⟨_, rfl⟩
      have HM := Lib.hid hM
      rw [hM]
      clear HT c0 h1 h2 hM
      go_enter Try.func7, Try.ntmps7
      go_wp2_with fail
      with_reducible refine Calls.mono (HTS.out _) ?_
      rintro e w1 ⟨rfl, hU1⟩
      have c3' := later_cellF c3 hU1
      go_wp2_with fail
      with_reducible refine Calls.mono (HTN.out _) ?_
      rintro e w2 ⟨rfl, hU2⟩
      have c3'' := later_cellF c3' hU2
      go_wp2
      go_ret
      rw [← HM.out]
      exact ⟨rfl, (HU.out.trans hU1).trans hU2⟩
    · have k2 : isTk N = false := by simpa using h2
      unfold fullL
      rw [if_neg (fun h => h2 h.2)]
      have HTS := Lib.hid (HT.out S)
      have HTN := Lib.hid (HT.out N)
      rw [h1] at HTS
      rw [k2] at HTN
      clear HT c0 h1 h2 k2
      go_enter Try.func7, Try.ntmps7
      go_wp2_with fail
      with_reducible refine Calls.mono (HTS.out _) ?_
      rintro e w1 ⟨rfl, hU1⟩
      have c3' := later_cellF c3 hU1
      go_wp2_with fail
      with_reducible refine Calls.mono (HTN.out _) ?_
      rintro e w2 ⟨rfl, hU2⟩
      go_wp2
      go_ret
      exact ⟨rfl, (HU.out.trans hU1).trans hU2⟩
  · have k1 : isTk S = false := by simpa using h1
    unfold fullL
    rw [if_neg (fun h => h1 h.1)]
    have HTS := Lib.hid (HT.out S)
    rw [k1] at HTS
    clear HT c0 h1 k1
    go_enter Try.func7, Try.ntmps7
    go_wp2_with fail
    with_reducible refine Calls.mono (HTS.out _) ?_
    rintro e w1 ⟨rfl, hU1⟩
    go_wp2
    go_ret
    exact ⟨rfl, HU.out.trans hU1⟩
theorem results_he {fn : Func} {p : Tmp} (h : fn.results = #[.cell p 25]) (tmps : Array Value) (w : World) (B : Nat) (cs : Array Value) (hp : tmps.getD p undef = .pointer (some ⟨B, 0, none⟩))
    (hg : w.heap[B]? = some (.cells cs 25 (0, 0))) (hs : cs.size = 5) :
    (results fn tmps).run Try.prog w = .ok (.agg cs) w := by
  have hp' : tmps[p]?.getD undef = .pointer (some ⟨B, 0, none⟩) := by simpa using hp
  have hl := run_loadVar_row (P := Try.prog) w B 25 25 cs (0, 0) _ hg Try.underlying25 rfl (by rw [info_he, hs])
  simp [results, h, hp', asAddr, hl]
theorem results_he2 {fn : Func} {p q : Tmp} (h : fn.results = #[.cell p 25, .tmp q]) (tmps : Array Value) (w : World) (B : Nat) (cs : Array Value) (hp : tmps.getD p undef = .pointer (some ⟨B, 0, none⟩))
    (hg : w.heap[B]? = some (.cells cs 25 (0, 0))) (hs : cs.size = 5) :
    (results fn tmps).run Try.prog w = .ok (.tuple #[.agg cs, tmps.getD q undef]) w := by
  have hp' : tmps[p]?.getD undef = .pointer (some ⟨B, 0, none⟩) := by simpa using hp
  have hl := run_loadVar_row (P := Try.prog) w B 25 25 cs (0, 0) _ hg Try.underlying25 rfl (by rw [info_he, hs])
  simp [results, h, hp', asAddr, hl]
set_option maxHeartbeats 1000000 in
theorem start_any (V H : Int) (B : ByteArray) (N : Int) (w : World) :
    Calls Try.prog 10 #[.agg (mkC V H B), .int .i64 N] w fun e w' => e = .returned (.agg (heC V H B N 0)) ∧ Up w w' := by
  unfold mkC heC
  have hone := one_he V H B N 0
  have ha := heap_alloc_new w (.cells #[.int .i64 V, .int .i64 H, .string B] 23)
  have hu1 := Up.alloc (Up.refl (w.alloc (.cells #[.int .i64 V, .int .i64 H, .string B] 23))) (.cells #[.int .i64 0, .int .i64 0, .string ⟨#[]⟩, .int .i64 0, .int .i64 0] 25)
  have hc := heap_alloc_new (w.alloc (.cells #[.int .i64 V, .int .i64 H, .string B] 23)) (.cells #[.int .i64 0, .int .i64 0, .string ⟨#[]⟩, .int .i64 0, .int .i64 0] 25)
  have HA := Lib.hid ((hu1.block _ (lt_of_block ha)).trans ha)
  have HC := Lib.hid hc
  have HU := Lib.hid ((Up.alloc (Up.refl w) (.cells #[.int .i64 V, .int .i64 H, .string B] 23)).trans hu1)
  clear ha hc hu1
  rw [show (w.alloc (.cells #[.int .i64 V, .int .i64 H, .string B] 23)).heap.size = w.heap.size + 1 by simp] at HC
  go_enter Try.func10, Try.ntmps10
  go_upto_region 1 with fail
  generalize (w.alloc (.cells #[.int .i64 V, .int .i64 H, .string B] 23)).alloc (.cells #[.int .i64 0, .int .i64 0, .string ⟨#[]⟩, .int .i64 0, .int .i64 0] 25) = w3 at HA HC HU ⊢
  go_wp2_with (first | (refine wpList_ex rfl (.agg #[.int .i64 V, .int .i64 H, .string B]) w3 (ex_loadrow (x := .tmp 2) rfl rfl _ 23 HA.out Try.underlying23 rfl info_mk) ?_) | (refine wpList_store_agg rfl 25 (.tmp 4) (.tmp 7) rfl (w.heap.size + 1) _ #[.int .i64 V, .int .i64 H, .string B, .int .i64 N, .int .i64 0] rfl rfl 25 HC.out info_he rfl hone ?_; intro w12 hg12 hgr12))
  refine bodyPost_ret (results_he rfl _ _ _ _ rfl hg12 rfl) rfl ⟨rfl, up_at HU.out hgr12 (by omega)⟩
theorem untold_any (V H : Int) (B : ByteArray) (S T : Int) (w : World) :
    Calls Try.prog 12 #[.agg (heC V H B S T)] w fun e w' => e = .returned (.func (.func 14) #[] #[.pointer (some ⟨w.heap.size, 0, none⟩)]) ∧ w.alloc (.cells (heC V H B S T) 25) = w' := by
  unfold heC
  go_enter Try.func12, Try.ntmps12
  go_wp2
  go_ret
  exact ⟨rfl, rfl⟩
end Go.Proofs.Ytmjcjbiengcigaa
