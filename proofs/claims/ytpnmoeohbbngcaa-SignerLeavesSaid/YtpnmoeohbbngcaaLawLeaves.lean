import Derived.Test.YtpnmoeohbbngcaaSgNewK
import Derived.Test.YtpnmoeohbbngcaaRefLeaf
import Derived.Test.YtpnmoeohbbngcaaAlongMore
/-
  SignerLeaves: the walk returns true.
-/
namespace Go.Proofs.Ytpnmoeohbbngcaa
set_option maxRecDepth 100000
section
set_option linter.unusedVariables false
open Go.RowKit

theorem field_seed (b : Nat) (w : World) : (Instr.fieldAt 29 (.pointer (some ⟨b, 0, none⟩)) 0).run Try.prog w = .ok (.pointer (some ⟨b, 0, none⟩)) w := by simp [go_sem]
theorem field_leaves (b : Nat) (w : World) : (Instr.fieldAt 29 (.pointer (some ⟨b, 0, none⟩)) 1).run Try.prog w = .ok (.pointer (some ⟨b, 1, none⟩)) w := by simp [go_sem]
theorem field_next (b : Nat) (w : World) : (Instr.fieldAt 29 (.pointer (some ⟨b, 0, none⟩)) 2).run Try.prog w = .ok (.pointer (some ⟨b, 2, none⟩)) w := by simp [go_sem]

set_option maxHeartbeats 2000000 in
theorem lawLeaves_any (zs : List Int) (at_ : Int) (w : World) (hu : U8s zs) (hl : zs.length ≤ 9223372036854775807) (hat : -9223372036854775808 ≤ at_ ∧ at_ ≤ 9223372036854775807) :
    Calls Try.prog 4 #[.string (strOfNums zs), .int .i64 at_] w fun e w' => e = .returned (.bool true) ∧ Up w w' := by
  by_cases h64 : 64 < zs.length
  · have hs : (64 : Int) < ((strOfNums zs).size : Int) := by rw [strOfNums_size]; omega
    clear hu hat h64
    go_enter Try.func4, Try.ntmps4
    go_wp2_with fail
    with_reducible refine Calls.mono (sgAlive_any _) ?_
    rintro e w1 ⟨rfl, rfl⟩
    go_wp2
    go_ret
    exact ⟨rfl, Up.refl _⟩
  · have hs : ¬ (64 : Int) < ((strOfNums zs).size : Int) := by rw [strOfNums_size]; omega
    obtain ⟨q, hq⟩ : ∃ q, at_.tmod 4 = q := ⟨_, rfl⟩
    have hq1 : -3 ≤ q ∧ q ≤ 3 := by
      have t1 := Int.lt_tmod_of_pos at_ (show (0 : Int) < 4 by omega)
      have t2 := Int.tmod_lt_of_pos at_ (show (0 : Int) < 4 by omega)
      omega
    obtain ⟨m, hm⟩ : ∃ m : Nat, (q + 4) % 4 = m := ⟨((q + 4) % 4).toNat, by omega⟩
    have hm4 : m < 4 := by omega
    have hq0 : 0 ≤ q + 4 := by omega
    have Hnew := Lib.hid (new_ok zs 2 w hu (by omega) (by omega))
    have Hlf : Hid (∀ wx, Calls Try.prog 9 #[.string (strOfNums zs), .int .i64 m] wx fun e w' => e = .returned (.string (strOfNums (leafB zs m))) ∧ Up wx w') := fun wx => refLeaf_any zs m wx hu (by omega) (by omega)
    have Hleaf : Hid (∀ (v' : Value) (W : World), W.ownsRow w.heap.size 9 1 v' 4 (strVs (leavesB zs 4)) → ∃ g c, v' = .slice (some ⟨g, 0, none⟩) 4 c ∧ W.cell? ⟨g, 0 + m, none⟩ = some (.string (strOfNums (leafB zs m)))) := by
      intro v' W hr
      obtain ⟨g, c, rfl, _⟩ := row_slice hr (by omega)
      refine ⟨g, c, rfl, ?_⟩
      have := hr.cellAt m (by omega)
      rw [Nat.zero_add, this]
      simp [strVs, leavesB, upTo, hm4]
    clear hu hl h64
    go_enter Try.func4, Try.ntmps4
    go_wp2_with fail
    with_reducible refine Calls.mono (sgAlive_any _) ?_
    rintro e w1 ⟨rfl, rfl⟩
    go_wp2_with fail
    with_reducible refine Calls.mono Hnew.out ?_
    rintro e w2 ⟨v, rfl, hrow, hU2⟩
    obtain ⟨g, c, rfl, hcell⟩ := Hleaf.out _ w2 hrow
    have Hcell := Lib.hid hcell
    have HU2 := Lib.hid hU2
    clear hrow hcell Hleaf hU2
    unfold keyV
    go_wp2
    rw [hm]
    have HK : Hid (∀ wx, Up (w2.alloc (.cells #[.string (strOfNums zs), .slice (some ⟨g, 0, none⟩) 4 c, .int .i64 0] 29)) wx → wx.cell? ⟨w2.heap.size, 0, none⟩ = some (.string (strOfNums zs)) ∧ wx.cell? ⟨w2.heap.size, 1, none⟩ = some (.slice (some ⟨g, 0, none⟩) 4 c) ∧ wx.cell? ⟨w2.heap.size, 2, none⟩ = some (.int .i64 0) ∧ wx.cell? ⟨g, 0 + m, none⟩ = some (.string (strOfNums (leafB zs m)))) := by
      intro wx hu
      have hb := heap_alloc_new w2 (.cells #[.string (strOfNums zs), .slice (some ⟨g, 0, none⟩) 4 c, .int .i64 0] 29)
      exact ⟨later_cell (cell_of_row _ _ 0 _ _ _ hb) hu, later_cell (cell_of_row _ _ 1 _ _ _ hb) hu, later_cell (cell_of_row _ _ 2 _ _ _ hb) hu, later_cell (later_cell Hcell.out (Up.alloc (Up.refl w2) _)) hu⟩
    have HUz := Lib.hid (Up.trans HU2.out (Up.alloc (Up.refl w2) (.cells #[.string (strOfNums zs), .slice (some ⟨g, 0, none⟩) 4 c, .int .i64 0] 29)))
    generalize w2.alloc (.cells #[.string (strOfNums zs), .slice (some ⟨g, 0, none⟩) 4 c, .int .i64 0] 29) = wz at HK HUz ⊢
    generalize leafB zs m = L at HK Hlf
    have hUz := Up.drew1 wz
    refine region_along [(0, true), (1, true), (2, true), (3, true), (4, true), (5, true), (6, true), (7, true), (8, true), (9, true), (10, true), (11, true), (12, true), (13, true), (14, true), (15, true), (16, false), (17, true), (18, true), (19, true), (20, true), (21, true), (22, true), (23, true), (24, true), (25, true), (26, true), (27, true), (28, true), (29, true), (30, true)] (by kernel_rfl) rfl (by kernel_rfl) (by kernel_rfl) (fun c a d v w h => by cases d <;> exact h) ?_
    refine along_move (v := .int .i64 0) rfl rfl rfl rfl ?_
    change Along _ _ _ _ { tmps := #[.string (strOfNums zs), .int .i64 m, _, _, _, .pointer (some ⟨w2.heap.size, 0, none⟩), .int .i64 0, _, _, _, _, _, _, _, _, _, _, _, _, _, _, .int .i64 0, _, _, _, _, _, _, _, _, _, _, _, _, _, _, _, _, _, _, _, _, _, _, _, _, _, _, _, _, _], defers := [] } _
    refine along_eqi rfl rfl rfl rfl rfl ?_
    change Along _ _ _ _ { tmps := #[.string (strOfNums zs), .int .i64 m, _, _, _, .pointer (some ⟨w2.heap.size, 0, none⟩), .int .i64 0, _, _, _, _, _, _, _, _, _, _, _, _, _, _, .int .i64 0, .bool true, _, _, _, _, _, _, _, _, _, _, _, _, _, _, _, _, _, _, _, _, _, _, _, _, _, _, _, _], defers := [] } _
    refine along_move (v := .bool true) rfl rfl rfl rfl ?_
    change Along _ _ _ _ { tmps := #[.string (strOfNums zs), .int .i64 m, _, _, _, .pointer (some ⟨w2.heap.size, 0, none⟩), .int .i64 0, _, _, _, _, _, _, _, _, _, _, _, _, _, _, .int .i64 0, .bool true, .bool true, _, _, _, _, _, _, _, _, _, _, _, _, _, _, _, _, _, _, _, _, _, _, _, _, _, _, _], defers := [] } _
    refine along_field (v := .pointer (some ⟨w2.heap.size, 1, none⟩)) (field_leaves _) rfl rfl rfl rfl ?_
    change Along _ _ _ _ { tmps := #[.string (strOfNums zs), .int .i64 m, _, _, _, .pointer (some ⟨w2.heap.size, 0, none⟩), .int .i64 0, _, _, _, _, _, _, _, _, _, _, _, _, _, _, .int .i64 0, .bool true, .bool true, .pointer (some ⟨w2.heap.size, 1, none⟩), _, _, _, _, _, _, _, _, _, _, _, _, _, _, _, _, _, _, _, _, _, _, _, _, _, _], defers := [] } _
    refine along_load (v := .slice (some ⟨g, 0, none⟩) 4 c) Try.isAgg27 rfl rfl rfl (fun wx hu => HK.out wx (Up.trans hUz hu) |>.2.1) rfl ?_
    change Along _ _ _ _ { tmps := #[.string (strOfNums zs), .int .i64 m, _, _, _, .pointer (some ⟨w2.heap.size, 0, none⟩), .int .i64 0, _, _, _, _, _, _, _, _, _, _, _, _, _, _, .int .i64 0, .bool true, .bool true, .pointer (some ⟨w2.heap.size, 1, none⟩), .slice (some ⟨g, 0, none⟩) 4 c, _, _, _, _, _, _, _, _, _, _, _, _, _, _, _, _, _, _, _, _, _, _, _, _, _], defers := [] } _
    refine along_lensl Try.underlying27 rfl rfl rfl rfl ?_
    change Along _ _ _ _ { tmps := #[.string (strOfNums zs), .int .i64 m, _, _, _, .pointer (some ⟨w2.heap.size, 0, none⟩), .int .i64 0, _, _, _, _, _, _, _, _, _, _, _, _, _, _, .int .i64 0, .bool true, .bool true, .pointer (some ⟨w2.heap.size, 1, none⟩), .slice (some ⟨g, 0, none⟩) 4 c, .int .i64 4, _, _, _, _, _, _, _, _, _, _, _, _, _, _, _, _, _, _, _, _, _, _, _, _], defers := [] } _
    refine along_eqi rfl rfl rfl rfl rfl ?_
    change Along _ _ _ _ { tmps := #[.string (strOfNums zs), .int .i64 m, _, _, _, .pointer (some ⟨w2.heap.size, 0, none⟩), .int .i64 0, _, _, _, _, _, _, _, _, _, _, _, _, _, _, .int .i64 0, .bool true, .bool true, .pointer (some ⟨w2.heap.size, 1, none⟩), .slice (some ⟨g, 0, none⟩) 4 c, .int .i64 4, .bool true, _, _, _, _, _, _, _, _, _, _, _, _, _, _, _, _, _, _, _, _, _, _, _], defers := [] } _
    refine along_pick (v := .bool true) rfl rfl rfl rfl rfl ?_
    change Along _ _ _ _ { tmps := #[.string (strOfNums zs), .int .i64 m, _, _, _, .pointer (some ⟨w2.heap.size, 0, none⟩), .int .i64 0, _, _, _, _, _, _, _, _, _, _, _, _, _, _, .int .i64 0, .bool true, .bool true, .pointer (some ⟨w2.heap.size, 1, none⟩), .slice (some ⟨g, 0, none⟩) 4 c, .int .i64 4, .bool true, .bool true, _, _, _, _, _, _, _, _, _, _, _, _, _, _, _, _, _, _, _, _, _, _], defers := [] } _
    refine along_move (v := .bool true) rfl rfl rfl rfl ?_
    change Along _ _ _ _ { tmps := #[.string (strOfNums zs), .int .i64 m, _, _, _, .pointer (some ⟨w2.heap.size, 0, none⟩), .int .i64 0, _, _, _, _, _, _, _, _, _, _, _, _, _, _, .int .i64 0, .bool true, .bool true, .pointer (some ⟨w2.heap.size, 1, none⟩), .slice (some ⟨g, 0, none⟩) 4 c, .int .i64 4, .bool true, .bool true, .bool true, _, _, _, _, _, _, _, _, _, _, _, _, _, _, _, _, _, _, _, _, _], defers := [] } _
    refine along_field (v := .pointer (some ⟨w2.heap.size, 1, none⟩)) (field_leaves _) rfl rfl rfl rfl ?_
    change Along _ _ _ _ { tmps := #[.string (strOfNums zs), .int .i64 m, _, _, _, .pointer (some ⟨w2.heap.size, 0, none⟩), .int .i64 0, _, _, _, _, _, _, _, _, _, _, _, _, _, _, .int .i64 0, .bool true, .bool true, .pointer (some ⟨w2.heap.size, 1, none⟩), .slice (some ⟨g, 0, none⟩) 4 c, .int .i64 4, .bool true, .bool true, .bool true, .pointer (some ⟨w2.heap.size, 1, none⟩), _, _, _, _, _, _, _, _, _, _, _, _, _, _, _, _, _, _, _, _], defers := [] } _
    refine along_load (v := .slice (some ⟨g, 0, none⟩) 4 c) Try.isAgg27 rfl rfl rfl (fun wx hu => HK.out wx (Up.trans hUz hu) |>.2.1) rfl ?_
    change Along _ _ _ _ { tmps := #[.string (strOfNums zs), .int .i64 m, _, _, _, .pointer (some ⟨w2.heap.size, 0, none⟩), .int .i64 0, _, _, _, _, _, _, _, _, _, _, _, _, _, _, .int .i64 0, .bool true, .bool true, .pointer (some ⟨w2.heap.size, 1, none⟩), .slice (some ⟨g, 0, none⟩) 4 c, .int .i64 4, .bool true, .bool true, .bool true, .pointer (some ⟨w2.heap.size, 1, none⟩), .slice (some ⟨g, 0, none⟩) 4 c, _, _, _, _, _, _, _, _, _, _, _, _, _, _, _, _, _, _, _], defers := [] } _
    refine along_move (v := .int .i64 m) rfl rfl rfl rfl ?_
    change Along _ _ _ _ { tmps := #[.string (strOfNums zs), .int .i64 m, _, _, _, .pointer (some ⟨w2.heap.size, 0, none⟩), .int .i64 0, _, _, _, _, _, _, _, _, _, _, _, _, _, _, .int .i64 0, .bool true, .bool true, .pointer (some ⟨w2.heap.size, 1, none⟩), .slice (some ⟨g, 0, none⟩) 4 c, .int .i64 4, .bool true, .bool true, .bool true, .pointer (some ⟨w2.heap.size, 1, none⟩), .slice (some ⟨g, 0, none⟩) 4 c, .int .i64 m, _, _, _, _, _, _, _, _, _, _, _, _, _, _, _, _, _, _], defers := [] } _
    refine along_index Try.underlying27 Try.sizeOf9 rfl rfl rfl rfl (hm4) rfl ?_
    change Along _ _ _ _ { tmps := #[.string (strOfNums zs), .int .i64 m, _, _, _, .pointer (some ⟨w2.heap.size, 0, none⟩), .int .i64 0, _, _, _, _, _, _, _, _, _, _, _, _, _, _, .int .i64 0, .bool true, .bool true, .pointer (some ⟨w2.heap.size, 1, none⟩), .slice (some ⟨g, 0, none⟩) 4 c, .int .i64 4, .bool true, .bool true, .bool true, .pointer (some ⟨w2.heap.size, 1, none⟩), .slice (some ⟨g, 0, none⟩) 4 c, .int .i64 m, .pointer (some ⟨g, 0 + m, none⟩), _, _, _, _, _, _, _, _, _, _, _, _, _, _, _, _, _], defers := [] } _
    refine along_load (v := .string (strOfNums L)) Try.isAgg9 rfl rfl rfl (fun wx hu => HK.out wx (Up.trans hUz hu) |>.2.2.2) rfl ?_
    change Along _ _ _ _ { tmps := #[.string (strOfNums zs), .int .i64 m, _, _, _, .pointer (some ⟨w2.heap.size, 0, none⟩), .int .i64 0, _, _, _, _, _, _, _, _, _, _, _, _, _, _, .int .i64 0, .bool true, .bool true, .pointer (some ⟨w2.heap.size, 1, none⟩), .slice (some ⟨g, 0, none⟩) 4 c, .int .i64 4, .bool true, .bool true, .bool true, .pointer (some ⟨w2.heap.size, 1, none⟩), .slice (some ⟨g, 0, none⟩) 4 c, .int .i64 m, .pointer (some ⟨g, 0 + m, none⟩), .string (strOfNums L), _, _, _, _, _, _, _, _, _, _, _, _, _, _, _, _], defers := [] } _
    refine along_move (v := .string (strOfNums zs)) rfl rfl rfl rfl ?_
    change Along _ _ _ _ { tmps := #[.string (strOfNums zs), .int .i64 m, _, _, _, .pointer (some ⟨w2.heap.size, 0, none⟩), .int .i64 0, _, _, _, _, _, _, _, _, _, _, _, _, _, _, .int .i64 0, .bool true, .bool true, .pointer (some ⟨w2.heap.size, 1, none⟩), .slice (some ⟨g, 0, none⟩) 4 c, .int .i64 4, .bool true, .bool true, .bool true, .pointer (some ⟨w2.heap.size, 1, none⟩), .slice (some ⟨g, 0, none⟩) 4 c, .int .i64 m, .pointer (some ⟨g, 0 + m, none⟩), .string (strOfNums L), .string (strOfNums zs), _, _, _, _, _, _, _, _, _, _, _, _, _, _, _], defers := [] } _
    refine along_move (v := .int .i64 m) rfl rfl rfl rfl ?_
    change Along _ _ _ _ { tmps := #[.string (strOfNums zs), .int .i64 m, _, _, _, .pointer (some ⟨w2.heap.size, 0, none⟩), .int .i64 0, _, _, _, _, _, _, _, _, _, _, _, _, _, _, .int .i64 0, .bool true, .bool true, .pointer (some ⟨w2.heap.size, 1, none⟩), .slice (some ⟨g, 0, none⟩) 4 c, .int .i64 4, .bool true, .bool true, .bool true, .pointer (some ⟨w2.heap.size, 1, none⟩), .slice (some ⟨g, 0, none⟩) 4 c, .int .i64 m, .pointer (some ⟨g, 0 + m, none⟩), .string (strOfNums L), .string (strOfNums zs), .int .i64 m, _, _, _, _, _, _, _, _, _, _, _, _, _, _], defers := [] } _
    refine along_call (vs := [.string (strOfNums zs), .int .i64 m]) rfl rfl rfl (enters_of Try.func9 (by kernel_rfl) rfl) rfl ?_
    with_reducible refine Calls.mono (Hlf.out _) ?_
    rintro e w3 ⟨rfl, hU3⟩
    refine ⟨_, rfl, hU3, ?_⟩
    change Along _ _ _ _ { tmps := #[.string (strOfNums zs), .int .i64 m, _, _, _, .pointer (some ⟨w2.heap.size, 0, none⟩), .int .i64 0, _, _, _, _, _, _, _, _, _, _, _, _, _, _, .int .i64 0, .bool true, .bool true, .pointer (some ⟨w2.heap.size, 1, none⟩), .slice (some ⟨g, 0, none⟩) 4 c, .int .i64 4, .bool true, .bool true, .bool true, .pointer (some ⟨w2.heap.size, 1, none⟩), .slice (some ⟨g, 0, none⟩) 4 c, .int .i64 m, .pointer (some ⟨g, 0 + m, none⟩), .string (strOfNums L), .string (strOfNums zs), .int .i64 m, .string (strOfNums L), _, _, _, _, _, _, _, _, _, _, _, _, _], defers := [] } _
    refine along_eqs rfl rfl rfl rfl rfl ?_
    change Along _ _ _ _ { tmps := #[.string (strOfNums zs), .int .i64 m, _, _, _, .pointer (some ⟨w2.heap.size, 0, none⟩), .int .i64 0, _, _, _, _, _, _, _, _, _, _, _, _, _, _, .int .i64 0, .bool true, .bool true, .pointer (some ⟨w2.heap.size, 1, none⟩), .slice (some ⟨g, 0, none⟩) 4 c, .int .i64 4, .bool true, .bool true, .bool true, .pointer (some ⟨w2.heap.size, 1, none⟩), .slice (some ⟨g, 0, none⟩) 4 c, .int .i64 m, .pointer (some ⟨g, 0 + m, none⟩), .string (strOfNums L), .string (strOfNums zs), .int .i64 m, .string (strOfNums L), .bool true, _, _, _, _, _, _, _, _, _, _, _, _], defers := [] } _
    refine along_pick (v := .bool true) rfl rfl rfl rfl rfl ?_
    change Along _ _ _ _ { tmps := #[.string (strOfNums zs), .int .i64 m, _, _, _, .pointer (some ⟨w2.heap.size, 0, none⟩), .int .i64 0, _, _, _, _, _, _, _, _, _, _, _, _, _, _, .int .i64 0, .bool true, .bool true, .pointer (some ⟨w2.heap.size, 1, none⟩), .slice (some ⟨g, 0, none⟩) 4 c, .int .i64 4, .bool true, .bool true, .bool true, .pointer (some ⟨w2.heap.size, 1, none⟩), .slice (some ⟨g, 0, none⟩) 4 c, .int .i64 m, .pointer (some ⟨g, 0 + m, none⟩), .string (strOfNums L), .string (strOfNums zs), .int .i64 m, .string (strOfNums L), .bool true, .bool true, _, _, _, _, _, _, _, _, _, _, _], defers := [] } _
    refine along_move (v := .bool true) rfl rfl rfl rfl ?_
    change Along _ _ _ _ { tmps := #[.string (strOfNums zs), .int .i64 m, _, _, _, .pointer (some ⟨w2.heap.size, 0, none⟩), .int .i64 0, _, _, _, _, _, _, _, _, _, _, _, _, _, _, .int .i64 0, .bool true, .bool true, .pointer (some ⟨w2.heap.size, 1, none⟩), .slice (some ⟨g, 0, none⟩) 4 c, .int .i64 4, .bool true, .bool true, .bool true, .pointer (some ⟨w2.heap.size, 1, none⟩), .slice (some ⟨g, 0, none⟩) 4 c, .int .i64 m, .pointer (some ⟨g, 0 + m, none⟩), .string (strOfNums L), .string (strOfNums zs), .int .i64 m, .string (strOfNums L), .bool true, .bool true, .bool true, _, _, _, _, _, _, _, _, _, _], defers := [] } _
    refine along_field (v := .pointer (some ⟨w2.heap.size, 2, none⟩)) (field_next _) rfl rfl rfl rfl ?_
    change Along _ _ _ _ { tmps := #[.string (strOfNums zs), .int .i64 m, _, _, _, .pointer (some ⟨w2.heap.size, 0, none⟩), .int .i64 0, _, _, _, _, _, _, _, _, _, _, _, _, _, _, .int .i64 0, .bool true, .bool true, .pointer (some ⟨w2.heap.size, 1, none⟩), .slice (some ⟨g, 0, none⟩) 4 c, .int .i64 4, .bool true, .bool true, .bool true, .pointer (some ⟨w2.heap.size, 1, none⟩), .slice (some ⟨g, 0, none⟩) 4 c, .int .i64 m, .pointer (some ⟨g, 0 + m, none⟩), .string (strOfNums L), .string (strOfNums zs), .int .i64 m, .string (strOfNums L), .bool true, .bool true, .bool true, .pointer (some ⟨w2.heap.size, 2, none⟩), _, _, _, _, _, _, _, _, _], defers := [] } _
    refine along_load (v := .int .i64 0) Try.isAgg3 rfl rfl rfl (fun wx hu => HK.out wx (Up.trans (Up.trans hUz hU3) hu) |>.2.2.1) rfl ?_
    change Along _ _ _ _ { tmps := #[.string (strOfNums zs), .int .i64 m, _, _, _, .pointer (some ⟨w2.heap.size, 0, none⟩), .int .i64 0, _, _, _, _, _, _, _, _, _, _, _, _, _, _, .int .i64 0, .bool true, .bool true, .pointer (some ⟨w2.heap.size, 1, none⟩), .slice (some ⟨g, 0, none⟩) 4 c, .int .i64 4, .bool true, .bool true, .bool true, .pointer (some ⟨w2.heap.size, 1, none⟩), .slice (some ⟨g, 0, none⟩) 4 c, .int .i64 m, .pointer (some ⟨g, 0 + m, none⟩), .string (strOfNums L), .string (strOfNums zs), .int .i64 m, .string (strOfNums L), .bool true, .bool true, .bool true, .pointer (some ⟨w2.heap.size, 2, none⟩), .int .i64 0, _, _, _, _, _, _, _, _], defers := [] } _
    refine along_eqi rfl rfl rfl rfl rfl ?_
    change Along _ _ _ _ { tmps := #[.string (strOfNums zs), .int .i64 m, _, _, _, .pointer (some ⟨w2.heap.size, 0, none⟩), .int .i64 0, _, _, _, _, _, _, _, _, _, _, _, _, _, _, .int .i64 0, .bool true, .bool true, .pointer (some ⟨w2.heap.size, 1, none⟩), .slice (some ⟨g, 0, none⟩) 4 c, .int .i64 4, .bool true, .bool true, .bool true, .pointer (some ⟨w2.heap.size, 1, none⟩), .slice (some ⟨g, 0, none⟩) 4 c, .int .i64 m, .pointer (some ⟨g, 0 + m, none⟩), .string (strOfNums L), .string (strOfNums zs), .int .i64 m, .string (strOfNums L), .bool true, .bool true, .bool true, .pointer (some ⟨w2.heap.size, 2, none⟩), .int .i64 0, .bool true, _, _, _, _, _, _, _], defers := [] } _
    refine along_pick (v := .bool true) rfl rfl rfl rfl rfl ?_
    change Along _ _ _ _ { tmps := #[.string (strOfNums zs), .int .i64 m, _, _, _, .pointer (some ⟨w2.heap.size, 0, none⟩), .int .i64 0, _, _, _, _, _, _, _, _, _, _, _, _, _, _, .int .i64 0, .bool true, .bool true, .pointer (some ⟨w2.heap.size, 1, none⟩), .slice (some ⟨g, 0, none⟩) 4 c, .int .i64 4, .bool true, .bool true, .bool true, .pointer (some ⟨w2.heap.size, 1, none⟩), .slice (some ⟨g, 0, none⟩) 4 c, .int .i64 m, .pointer (some ⟨g, 0 + m, none⟩), .string (strOfNums L), .string (strOfNums zs), .int .i64 m, .string (strOfNums L), .bool true, .bool true, .bool true, .pointer (some ⟨w2.heap.size, 2, none⟩), .int .i64 0, .bool true, .bool true, _, _, _, _, _, _], defers := [] } _
    refine along_move (v := .bool true) rfl rfl rfl rfl ?_
    change Along _ _ _ _ { tmps := #[.string (strOfNums zs), .int .i64 m, _, _, _, .pointer (some ⟨w2.heap.size, 0, none⟩), .int .i64 0, _, _, _, _, _, _, _, _, _, _, _, _, _, _, .int .i64 0, .bool true, .bool true, .pointer (some ⟨w2.heap.size, 1, none⟩), .slice (some ⟨g, 0, none⟩) 4 c, .int .i64 4, .bool true, .bool true, .bool true, .pointer (some ⟨w2.heap.size, 1, none⟩), .slice (some ⟨g, 0, none⟩) 4 c, .int .i64 m, .pointer (some ⟨g, 0 + m, none⟩), .string (strOfNums L), .string (strOfNums zs), .int .i64 m, .string (strOfNums L), .bool true, .bool true, .bool true, .pointer (some ⟨w2.heap.size, 2, none⟩), .int .i64 0, .bool true, .bool true, .bool true, _, _, _, _, _], defers := [] } _
    refine along_field (v := .pointer (some ⟨w2.heap.size, 0, none⟩)) (field_seed _) rfl rfl rfl rfl ?_
    change Along _ _ _ _ { tmps := #[.string (strOfNums zs), .int .i64 m, _, _, _, .pointer (some ⟨w2.heap.size, 0, none⟩), .int .i64 0, _, _, _, _, _, _, _, _, _, _, _, _, _, _, .int .i64 0, .bool true, .bool true, .pointer (some ⟨w2.heap.size, 1, none⟩), .slice (some ⟨g, 0, none⟩) 4 c, .int .i64 4, .bool true, .bool true, .bool true, .pointer (some ⟨w2.heap.size, 1, none⟩), .slice (some ⟨g, 0, none⟩) 4 c, .int .i64 m, .pointer (some ⟨g, 0 + m, none⟩), .string (strOfNums L), .string (strOfNums zs), .int .i64 m, .string (strOfNums L), .bool true, .bool true, .bool true, .pointer (some ⟨w2.heap.size, 2, none⟩), .int .i64 0, .bool true, .bool true, .bool true, .pointer (some ⟨w2.heap.size, 0, none⟩), _, _, _, _], defers := [] } _
    refine along_load (v := .string (strOfNums zs)) Try.isAgg9 rfl rfl rfl (fun wx hu => HK.out wx (Up.trans (Up.trans hUz hU3) hu) |>.1) rfl ?_
    change Along _ _ _ _ { tmps := #[.string (strOfNums zs), .int .i64 m, _, _, _, .pointer (some ⟨w2.heap.size, 0, none⟩), .int .i64 0, _, _, _, _, _, _, _, _, _, _, _, _, _, _, .int .i64 0, .bool true, .bool true, .pointer (some ⟨w2.heap.size, 1, none⟩), .slice (some ⟨g, 0, none⟩) 4 c, .int .i64 4, .bool true, .bool true, .bool true, .pointer (some ⟨w2.heap.size, 1, none⟩), .slice (some ⟨g, 0, none⟩) 4 c, .int .i64 m, .pointer (some ⟨g, 0 + m, none⟩), .string (strOfNums L), .string (strOfNums zs), .int .i64 m, .string (strOfNums L), .bool true, .bool true, .bool true, .pointer (some ⟨w2.heap.size, 2, none⟩), .int .i64 0, .bool true, .bool true, .bool true, .pointer (some ⟨w2.heap.size, 0, none⟩), .string (strOfNums zs), _, _, _], defers := [] } _
    refine along_move (v := .string (strOfNums zs)) rfl rfl rfl rfl ?_
    change Along _ _ _ _ { tmps := #[.string (strOfNums zs), .int .i64 m, _, _, _, .pointer (some ⟨w2.heap.size, 0, none⟩), .int .i64 0, _, _, _, _, _, _, _, _, _, _, _, _, _, _, .int .i64 0, .bool true, .bool true, .pointer (some ⟨w2.heap.size, 1, none⟩), .slice (some ⟨g, 0, none⟩) 4 c, .int .i64 4, .bool true, .bool true, .bool true, .pointer (some ⟨w2.heap.size, 1, none⟩), .slice (some ⟨g, 0, none⟩) 4 c, .int .i64 m, .pointer (some ⟨g, 0 + m, none⟩), .string (strOfNums L), .string (strOfNums zs), .int .i64 m, .string (strOfNums L), .bool true, .bool true, .bool true, .pointer (some ⟨w2.heap.size, 2, none⟩), .int .i64 0, .bool true, .bool true, .bool true, .pointer (some ⟨w2.heap.size, 0, none⟩), .string (strOfNums zs), .string (strOfNums zs), _, _], defers := [] } _
    refine along_eqs rfl rfl rfl rfl rfl ?_
    change Along _ _ _ _ { tmps := #[.string (strOfNums zs), .int .i64 m, _, _, _, .pointer (some ⟨w2.heap.size, 0, none⟩), .int .i64 0, _, _, _, _, _, _, _, _, _, _, _, _, _, _, .int .i64 0, .bool true, .bool true, .pointer (some ⟨w2.heap.size, 1, none⟩), .slice (some ⟨g, 0, none⟩) 4 c, .int .i64 4, .bool true, .bool true, .bool true, .pointer (some ⟨w2.heap.size, 1, none⟩), .slice (some ⟨g, 0, none⟩) 4 c, .int .i64 m, .pointer (some ⟨g, 0 + m, none⟩), .string (strOfNums L), .string (strOfNums zs), .int .i64 m, .string (strOfNums L), .bool true, .bool true, .bool true, .pointer (some ⟨w2.heap.size, 2, none⟩), .int .i64 0, .bool true, .bool true, .bool true, .pointer (some ⟨w2.heap.size, 0, none⟩), .string (strOfNums zs), .string (strOfNums zs), .bool true, _], defers := [] } _
    refine along_pick (v := .bool true) rfl rfl rfl rfl rfl ?_
    change Along _ _ _ _ { tmps := #[.string (strOfNums zs), .int .i64 m, _, _, _, .pointer (some ⟨w2.heap.size, 0, none⟩), .int .i64 0, _, _, _, _, _, _, _, _, _, _, _, _, _, _, .int .i64 0, .bool true, .bool true, .pointer (some ⟨w2.heap.size, 1, none⟩), .slice (some ⟨g, 0, none⟩) 4 c, .int .i64 4, .bool true, .bool true, .bool true, .pointer (some ⟨w2.heap.size, 1, none⟩), .slice (some ⟨g, 0, none⟩) 4 c, .int .i64 m, .pointer (some ⟨g, 0 + m, none⟩), .string (strOfNums L), .string (strOfNums zs), .int .i64 m, .string (strOfNums L), .bool true, .bool true, .bool true, .pointer (some ⟨w2.heap.size, 2, none⟩), .int .i64 0, .bool true, .bool true, .bool true, .pointer (some ⟨w2.heap.size, 0, none⟩), .string (strOfNums zs), .string (strOfNums zs), .bool true, .bool true], defers := [] } _
    refine along_assign (v := .bool true) rfl rfl rfl rfl ?_
    change Along _ _ _ _ { tmps := #[.string (strOfNums zs), .int .i64 m, _, _, .bool true, .pointer (some ⟨w2.heap.size, 0, none⟩), .int .i64 0, _, _, _, _, _, _, _, _, _, _, _, _, _, _, .int .i64 0, .bool true, .bool true, .pointer (some ⟨w2.heap.size, 1, none⟩), .slice (some ⟨g, 0, none⟩) 4 c, .int .i64 4, .bool true, .bool true, .bool true, .pointer (some ⟨w2.heap.size, 1, none⟩), .slice (some ⟨g, 0, none⟩) 4 c, .int .i64 m, .pointer (some ⟨g, 0 + m, none⟩), .string (strOfNums L), .string (strOfNums zs), .int .i64 m, .string (strOfNums L), .bool true, .bool true, .bool true, .pointer (some ⟨w2.heap.size, 2, none⟩), .int .i64 0, .bool true, .bool true, .bool true, .pointer (some ⟨w2.heap.size, 0, none⟩), .string (strOfNums zs), .string (strOfNums zs), .bool true, .bool true], defers := [] } _
    refine along_done ?_
    go_wp2
    go_ret
    exact ⟨rfl, Up.trans HUz.out (Up.trans hUz hU3)⟩

theorem lawLeaves_str (s : ByteArray) (at_ : Int) (w : World) (hl : s.size ≤ 9223372036854775807) (hat : -9223372036854775808 ≤ at_ ∧ at_ ≤ 9223372036854775807) :
    Calls Try.prog 4 #[.string s, .int .i64 at_] w fun e w' => e = .returned (.bool true) ∧ Below w.heap.size w w' := by
  have h := lawLeaves_any (octsOf s) at_ w (octsOf_u8s s) (by rw [octsOf_length]; exact hl) hat
  rwa [strOf_octs] at h
end
end Go.Proofs.Ytpnmoeohbbngcaa
