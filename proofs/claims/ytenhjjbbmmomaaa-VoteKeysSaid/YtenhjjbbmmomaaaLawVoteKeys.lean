import Derived.Test.YtenhjjbbmmomaaaVtMake
import Derived.Test.YtenhjjbbmmomaaaRefLeaf
import Derived.Test.YtenhjjbbmmomaaaSameKey
import Derived.Test.YtenhjjbbmmomaaaAlong
/-
  VoteKeys: the walk returns true.
-/
namespace Go.Proofs.Ytenhjjbbmmomaaa
set_option maxRecDepth 100000
section
set_option linter.unusedVariables false
open Go.RowKit

set_option maxHeartbeats 4000000 in
theorem lawVoteKeys_any (c : Int) (w : World) (hc : -9223372036854775808 ≤ c ∧ c ≤ 9223372036854775807) :
    Calls Try.prog 3 #[.int .i64 c] w fun e w' => e = .returned (.bool true) ∧ Up w w' := by
  by_cases hn : c < 0 ∨ 6 < c
  · have Hk := Lib.hid (vtKey_none c w hn)
    have Hsame : Hid (∀ wx : World, Calls Try.prog 5 #[.agg #[.string ⟨#[]⟩, .slice none 0 0, .int .i64 0], .agg #[.string ⟨#[]⟩, .slice none 0 0, .int .i64 0]] wx fun e w' => e = .returned (.bool true) ∧ Up wx w') := fun wx =>
      sameKey_any [] (.slice none 0 0) (.slice none 0 0) [] 0 wx ⟨none, 0, rfl, Nat.le_refl _, fun _ => rfl, .inl rfl⟩ ⟨none, 0, rfl, Nat.le_refl _, fun _ => rfl, .inl rfl⟩ (by simp)
    unfold noKey at Hk
    rcases hn with h | h
    all_goals
      first | have h0 : ¬ c < 0 := (by omega) | skip
      go_enter Try.func3, Try.ntmps3
      go_wp2_with fail
      with_reducible refine Calls.mono Hk.out ?_
      rintro e w1 ⟨rfl, hU1⟩
      have HU1 := Lib.hid hU1
      clear hU1
      go_wp2_with fail
      with_reducible refine Calls.mono (Hsame.out _) ?_
      rintro e w2 ⟨rfl, hU2⟩
      have HU2 := Lib.hid (Up.trans (Up.alloc HU1.out _) hU2)
      clear hU2
      go_wp2_with fail
      with_reducible refine Calls.mono (vtAlive_any _) ?_
      rintro e w3 ⟨rfl, hU3⟩
      have HU3 := Lib.hid (Up.trans HU2.out hU3)
      clear hU3
      go_wp2
      go_ret
      exact ⟨rfl, HU3.out⟩
  · have h1 : ¬ c < 0 := by omega
    have h2 : ¬ 6 < c := by omega
    have Hk := Lib.hid (vtKey_some c w ⟨by omega, by omega⟩)
    have Hlf : Hid (∀ wx, Calls Try.prog 7 #[.string (strOfNums (repB c)), .int .i64 9] wx fun e w' => e = .returned (.string (strOfNums (leafB (repB c) 9))) ∧ Up wx w') := fun wx => refLeaf_any (repB c) 9 wx (repB_u8s c ⟨by omega, by omega⟩) (by simp [repB]) (by omega)
    have Hleaf : Hid (∀ (v' : Value) (W : World), W.ownsRow w.heap.size 9 1 v' 16 (strVs (leavesB (repB c) 16)) → ∃ g c2, v' = .slice (some ⟨g, 0, none⟩) 16 c2 ∧ W.cell? ⟨g, 0 + 9 * 1, none⟩ = some (.string (strOfNums (leafB (repB c) 9)))) := by
      intro v' W hr
      obtain ⟨g, c2, rfl, _⟩ := row_slice hr (by omega)
      refine ⟨g, c2, rfl, ?_⟩
      have := hr.cellAt 9 (by omega)
      rw [show 0 + 9 * 1 = 0 + 9 from rfl, Nat.zero_add, this]
      simp [strVs, leavesB, upTo]
    have Hcv : Hid (∀ wx : World, (convert 3 5 (.int .i64 c)).run Try.prog wx = .ok (.int .u8 c) wx) := by
      intro wx
      have e : IntKind.u8.wrap c = c := by rw [IntKind.wrap_u8]; omega
      simp [convert, run_underlying Try.underlying3, run_underlying Try.underlying5, e, go_sem]
    have Hadd : Hid (∀ wx : World, (do eqGuard .add 5 (.const (.int .u8 48)) (.tmp 31) (.int .u8 48) (.int .u8 c); binOp .add 5 (.int .u8 48) (.int .u8 c) : Sem Value).run Try.prog wx = .ok (.int .u8 (48 + c)) wx) := by
      intro wx
      have e : IntKind.u8.wrap (48 + c) = 48 + c := by rw [IntKind.wrap_u8]; omega
      simp [go_sem, e]
    have Hbs : Hid (∀ wx : World, (Instr.buildSlice 28 1 #[(0, .int .u8 (48 + c))]).run Try.prog wx = .ok (.slice (some ⟨wx.heap.size, 0, none⟩) 1 1) (wx.alloc (.cells #[.int .u8 (48 + c)] 5))) := by
      intro wx
      simp [go_sem]
    have Hstr : Hid (∀ (b5 : Nat) (w5 wx : World), w5.heap[b5]? = some (.cells #[.int .u8 (48 + c)] 5) → Up w5 wx → (convert 28 9 (.slice (some ⟨b5, 0, none⟩) 1 1)).run Try.prog wx = .ok (.string (strOfNums [48 + c])) wx) := by
      intro b5 w5 wx hb hS
      refine Ints.str (zs := [48 + c]) ⟨_, _, rfl, Nat.le_refl _, by simp, .inr ⟨b5, 0, rfl, fun j hj => ?_⟩⟩
      obtain rfl : j = 0 := by simpa using hj
      exact later_cell (cell_of_row _ _ 0 _ _ _ hb) hS
    have hcat : (⟨#[114, 101, 112, 108, 105, 99, 97]⟩ : ByteArray) ++ strOfNums [48 + c] = strOfNums (repB c) := by
      rw [show (⟨#[114, 101, 112, 108, 105, 99, 97]⟩ : ByteArray) = strOfNums [114, 101, 112, 108, 105, 99, 97] from rfl, strOfNums_append]; rfl
    have Hcat : Hid (∀ wx : World, (do eqGuard .add 9 (.const (.string ⟨#[114, 101, 112, 108, 105, 99, 97]⟩)) (.tmp 34) (.string ⟨#[114, 101, 112, 108, 105, 99, 97]⟩) (.string (strOfNums [48 + c])); binOp .add 9 (.string ⟨#[114, 101, 112, 108, 105, 99, 97]⟩) (.string (strOfNums [48 + c])) : Sem Value).run Try.prog wx = .ok (.string (strOfNums (repB c))) wx) := by
      intro wx
      rw [← hcat]
      have hs : ¬ 9223372036854775807 < 7 + (strOfNums [48 + c]).size := by rw [strOfNums_size]; simp
      simp [go_sem]
      rw [strOfNums_size]; simp
    clear hcat
    go_enter Try.func3, Try.ntmps3
    go_wp2_with fail
    with_reducible refine Calls.mono Hk.out ?_
    rintro e w2 ⟨v, rfl, hrow, hU2⟩
    obtain ⟨g, c2, rfl, hcell⟩ := Hleaf.out _ w2 hrow
    have Hcell := Lib.hid hcell
    have HU2 := Lib.hid hU2
    clear hrow hcell Hleaf hU2
    unfold keyV
    go_wp2
    have HK : Hid (∀ wx, Up (w2.alloc (.cells #[.string (strOfNums (repB c)), .slice (some ⟨g, 0, none⟩) 16 c2, .int .i64 0] 24)) wx → wx.cell? ⟨w2.heap.size, 0, none⟩ = some (.string (strOfNums (repB c))) ∧ wx.cell? ⟨w2.heap.size, 1, none⟩ = some (.slice (some ⟨g, 0, none⟩) 16 c2) ∧ wx.cell? ⟨w2.heap.size, 2, none⟩ = some (.int .i64 0) ∧ wx.cell? ⟨g, 0 + 9 * 1, none⟩ = some (.string (strOfNums (leafB (repB c) 9)))) := by
      intro wx hu
      have hb := heap_alloc_new w2 (.cells #[.string (strOfNums (repB c)), .slice (some ⟨g, 0, none⟩) 16 c2, .int .i64 0] 24)
      exact ⟨later_cell (cell_of_row _ _ 0 _ _ _ hb) hu, later_cell (cell_of_row _ _ 1 _ _ _ hb) hu, later_cell (cell_of_row _ _ 2 _ _ _ hb) hu, later_cell (later_cell Hcell.out (Up.alloc (Up.refl w2) _)) hu⟩
    have HUz := Lib.hid (Up.trans HU2.out (Up.alloc (Up.refl w2) (.cells #[.string (strOfNums (repB c)), .slice (some ⟨g, 0, none⟩) 16 c2, .int .i64 0] 24)))
    generalize w2.alloc (.cells #[.string (strOfNums (repB c)), .slice (some ⟨g, 0, none⟩) 16 c2, .int .i64 0] 24) = wz at HK HUz ⊢
    generalize w2.heap.size = B at HK ⊢
    generalize leafB (repB c) 9 = L0 at HK Hlf
    generalize strOfNums L0 = L at HK Hlf
    generalize strOfNums (repB c) = SEED at HK Hlf Hcat ⊢
    have hU0 := Up.drew1 wz
    refine region_alongK (fun x => Up wz.drew x) (.read 0 (.read 1 (.read 2 (.read 3 (.read 4 (.read 5 (.read 6 (.read 7 (.read 8 (.read 9 (.read 10 (.read 11 (.read 12 (.read 13 (.read 14 (.step 15 (.read 16 (.read 17 (.read 18 (.read 19 (.read 20 (.read 21 (.read 22 (.read 23 (.read 24 (.read 25 (.read 26 (.step 27 (.read 28 (.read 29 (.read 30 (.step 31 (.read 32 (.read 33 (.nil))))))))))))))))))))))))))))))))))) (by kernel_rfl) rfl (by kernel_rfl) (by kernel_rfl) (fun c a d v w h => by cases d <;> exact h) (Up.refl _) ?_
    refine alongK_read (.pointer (some ⟨B, 1, none⟩)) rfl rfl (fun wx hS => ex_field rfl rfl wx (by simp [go_sem])) ?_
    change AlongK _ _ _ _ _ { tmps := #[.int .i64 c, _, _, .pointer (some ⟨B, 0, none⟩), _, _, _, _, _, _, _, _, _, _, _, _, _, _, .pointer (some ⟨B, 1, none⟩), _, _, _, _, _, _, _, _, _, _, _, _, _, _, _, _, _, _, _, _, _, _, _, _, _, _, _, _, _, _, _, _], defers := _ } _
    refine alongK_read (.slice (some ⟨g, 0, none⟩) 16 c2) rfl rfl (fun wx hS => ex_load Try.isAgg22 rfl rfl wx ((HK.out wx (Up.trans hU0 hS)).2.1)) ?_
    change AlongK _ _ _ _ _ { tmps := #[.int .i64 c, _, _, .pointer (some ⟨B, 0, none⟩), _, _, _, _, _, _, _, _, _, _, _, _, _, _, .pointer (some ⟨B, 1, none⟩), .slice (some ⟨g, 0, none⟩) 16 c2, _, _, _, _, _, _, _, _, _, _, _, _, _, _, _, _, _, _, _, _, _, _, _, _, _, _, _, _, _, _, _], defers := _ } _
    refine alongK_read (.int .i64 16) rfl rfl (fun wx hS => ex_lensl Try.underlying22 rfl rfl wx) ?_
    change AlongK _ _ _ _ _ { tmps := #[.int .i64 c, _, _, .pointer (some ⟨B, 0, none⟩), _, _, _, _, _, _, _, _, _, _, _, _, _, _, .pointer (some ⟨B, 1, none⟩), .slice (some ⟨g, 0, none⟩) 16 c2, .int .i64 16, _, _, _, _, _, _, _, _, _, _, _, _, _, _, _, _, _, _, _, _, _, _, _, _, _, _, _, _, _, _], defers := _ } _
    refine alongK_read (.bool true) rfl rfl (fun wx hS => ex_eqi rfl (by rfl) (by rfl) (by simp) wx) ?_
    change AlongK _ _ _ _ _ { tmps := #[.int .i64 c, _, _, .pointer (some ⟨B, 0, none⟩), _, _, _, _, _, _, _, _, _, _, _, _, _, _, .pointer (some ⟨B, 1, none⟩), .slice (some ⟨g, 0, none⟩) 16 c2, .int .i64 16, .bool true, _, _, _, _, _, _, _, _, _, _, _, _, _, _, _, _, _, _, _, _, _, _, _, _, _, _, _, _, _], defers := _ } _
    refine alongK_read (.bool true) rfl rfl (fun wx hS => ex_move (by rfl) (by rfl) wx) ?_
    change AlongK _ _ _ _ _ { tmps := #[.int .i64 c, _, _, .pointer (some ⟨B, 0, none⟩), _, _, _, _, _, _, _, _, _, _, _, _, _, _, .pointer (some ⟨B, 1, none⟩), .slice (some ⟨g, 0, none⟩) 16 c2, .int .i64 16, .bool true, .bool true, _, _, _, _, _, _, _, _, _, _, _, _, _, _, _, _, _, _, _, _, _, _, _, _, _, _, _, _], defers := _ } _
    refine alongK_read (.pointer (some ⟨B, 2, none⟩)) rfl rfl (fun wx hS => ex_field rfl rfl wx (by simp [go_sem])) ?_
    change AlongK _ _ _ _ _ { tmps := #[.int .i64 c, _, _, .pointer (some ⟨B, 0, none⟩), _, _, _, _, _, _, _, _, _, _, _, _, _, _, .pointer (some ⟨B, 1, none⟩), .slice (some ⟨g, 0, none⟩) 16 c2, .int .i64 16, .bool true, .bool true, .pointer (some ⟨B, 2, none⟩), _, _, _, _, _, _, _, _, _, _, _, _, _, _, _, _, _, _, _, _, _, _, _, _, _, _, _], defers := _ } _
    refine alongK_read (.int .i64 0) rfl rfl (fun wx hS => ex_load Try.isAgg3 rfl rfl wx ((HK.out wx (Up.trans hU0 hS)).2.2.1)) ?_
    change AlongK _ _ _ _ _ { tmps := #[.int .i64 c, _, _, .pointer (some ⟨B, 0, none⟩), _, _, _, _, _, _, _, _, _, _, _, _, _, _, .pointer (some ⟨B, 1, none⟩), .slice (some ⟨g, 0, none⟩) 16 c2, .int .i64 16, .bool true, .bool true, .pointer (some ⟨B, 2, none⟩), .int .i64 0, _, _, _, _, _, _, _, _, _, _, _, _, _, _, _, _, _, _, _, _, _, _, _, _, _, _], defers := _ } _
    refine alongK_read (.bool true) rfl rfl (fun wx hS => ex_eqi rfl (by rfl) (by rfl) (by simp) wx) ?_
    change AlongK _ _ _ _ _ { tmps := #[.int .i64 c, _, _, .pointer (some ⟨B, 0, none⟩), _, _, _, _, _, _, _, _, _, _, _, _, _, _, .pointer (some ⟨B, 1, none⟩), .slice (some ⟨g, 0, none⟩) 16 c2, .int .i64 16, .bool true, .bool true, .pointer (some ⟨B, 2, none⟩), .int .i64 0, .bool true, _, _, _, _, _, _, _, _, _, _, _, _, _, _, _, _, _, _, _, _, _, _, _, _, _], defers := _ } _
    refine alongK_read (.bool true) rfl rfl (fun wx hS => ex_pickt rfl (by rfl) (by rfl) wx) ?_
    change AlongK _ _ _ _ _ { tmps := #[.int .i64 c, _, _, .pointer (some ⟨B, 0, none⟩), _, _, _, _, _, _, _, _, _, _, _, _, _, _, .pointer (some ⟨B, 1, none⟩), .slice (some ⟨g, 0, none⟩) 16 c2, .int .i64 16, .bool true, .bool true, .pointer (some ⟨B, 2, none⟩), .int .i64 0, .bool true, .bool true, _, _, _, _, _, _, _, _, _, _, _, _, _, _, _, _, _, _, _, _, _, _, _, _], defers := _ } _
    refine alongK_read (.bool true) rfl rfl (fun wx hS => ex_move (by rfl) (by rfl) wx) ?_
    change AlongK _ _ _ _ _ { tmps := #[.int .i64 c, _, _, .pointer (some ⟨B, 0, none⟩), _, _, _, _, _, _, _, _, _, _, _, _, _, _, .pointer (some ⟨B, 1, none⟩), .slice (some ⟨g, 0, none⟩) 16 c2, .int .i64 16, .bool true, .bool true, .pointer (some ⟨B, 2, none⟩), .int .i64 0, .bool true, .bool true, .bool true, _, _, _, _, _, _, _, _, _, _, _, _, _, _, _, _, _, _, _, _, _, _, _], defers := _ } _
    refine alongK_read (.pointer (some ⟨B, 0, none⟩)) rfl rfl (fun wx hS => ex_field rfl rfl wx (by simp [go_sem])) ?_
    change AlongK _ _ _ _ _ { tmps := #[.int .i64 c, _, _, .pointer (some ⟨B, 0, none⟩), _, _, _, _, _, _, _, _, _, _, _, _, _, _, .pointer (some ⟨B, 1, none⟩), .slice (some ⟨g, 0, none⟩) 16 c2, .int .i64 16, .bool true, .bool true, .pointer (some ⟨B, 2, none⟩), .int .i64 0, .bool true, .bool true, .bool true, .pointer (some ⟨B, 0, none⟩), _, _, _, _, _, _, _, _, _, _, _, _, _, _, _, _, _, _, _, _, _, _], defers := _ } _
    refine alongK_read (.string SEED) rfl rfl (fun wx hS => ex_load Try.isAgg9 rfl rfl wx ((HK.out wx (Up.trans hU0 hS)).1)) ?_
    change AlongK _ _ _ _ _ { tmps := #[.int .i64 c, _, _, .pointer (some ⟨B, 0, none⟩), _, _, _, _, _, _, _, _, _, _, _, _, _, _, .pointer (some ⟨B, 1, none⟩), .slice (some ⟨g, 0, none⟩) 16 c2, .int .i64 16, .bool true, .bool true, .pointer (some ⟨B, 2, none⟩), .int .i64 0, .bool true, .bool true, .bool true, .pointer (some ⟨B, 0, none⟩), .string SEED, _, _, _, _, _, _, _, _, _, _, _, _, _, _, _, _, _, _, _, _, _], defers := _ } _
    refine alongK_read (.int .i64 c) rfl rfl (fun wx hS => ex_move (by rfl) (by rfl) wx) ?_
    change AlongK _ _ _ _ _ { tmps := #[.int .i64 c, _, _, .pointer (some ⟨B, 0, none⟩), _, _, _, _, _, _, _, _, _, _, _, _, _, _, .pointer (some ⟨B, 1, none⟩), .slice (some ⟨g, 0, none⟩) 16 c2, .int .i64 16, .bool true, .bool true, .pointer (some ⟨B, 2, none⟩), .int .i64 0, .bool true, .bool true, .bool true, .pointer (some ⟨B, 0, none⟩), .string SEED, .int .i64 c, _, _, _, _, _, _, _, _, _, _, _, _, _, _, _, _, _, _, _, _], defers := _ } _
    refine alongK_read (.int .u8 c) rfl rfl (fun wx hS => ex_conv rfl rfl wx wx (Hcv.out wx)) ?_
    change AlongK _ _ _ _ _ { tmps := #[.int .i64 c, _, _, .pointer (some ⟨B, 0, none⟩), _, _, _, _, _, _, _, _, _, _, _, _, _, _, .pointer (some ⟨B, 1, none⟩), .slice (some ⟨g, 0, none⟩) 16 c2, .int .i64 16, .bool true, .bool true, .pointer (some ⟨B, 2, none⟩), .int .i64 0, .bool true, .bool true, .bool true, .pointer (some ⟨B, 0, none⟩), .string SEED, .int .i64 c, .int .u8 c, _, _, _, _, _, _, _, _, _, _, _, _, _, _, _, _, _, _, _], defers := _ } _
    refine alongK_read (.int .u8 (48 + c)) rfl rfl (fun wx hS => ex_bin rfl rfl rfl wx (Hadd.out wx)) ?_
    change AlongK _ _ _ _ _ { tmps := #[.int .i64 c, _, _, .pointer (some ⟨B, 0, none⟩), _, _, _, _, _, _, _, _, _, _, _, _, _, _, .pointer (some ⟨B, 1, none⟩), .slice (some ⟨g, 0, none⟩) 16 c2, .int .i64 16, .bool true, .bool true, .pointer (some ⟨B, 2, none⟩), .int .i64 0, .bool true, .bool true, .bool true, .pointer (some ⟨B, 0, none⟩), .string SEED, .int .i64 c, .int .u8 c, .int .u8 (48 + c), _, _, _, _, _, _, _, _, _, _, _, _, _, _, _, _, _, _], defers := _ } _
    refine alongK_step ?_
    have hrun15 := Hbs.out wz.drew
    refine opK_run (.slice (some ⟨wz.drew.heap.size, 0, none⟩) 1 1) _ rfl rfl (ex_slice1 _ _ hrun15 rfl rfl) (fun x => Up (wz.drew.alloc (.cells #[.int .u8 (48 + c)] 5)) x) (fun x hx => Up.trans (Up.alloc (Up.refl wz.drew) _) hx) (Up.refl _) ?_
    change AlongK _ _ _ _ _ { tmps := #[.int .i64 c, _, _, .pointer (some ⟨B, 0, none⟩), _, _, _, _, _, _, _, _, _, _, _, _, _, _, .pointer (some ⟨B, 1, none⟩), .slice (some ⟨g, 0, none⟩) 16 c2, .int .i64 16, .bool true, .bool true, .pointer (some ⟨B, 2, none⟩), .int .i64 0, .bool true, .bool true, .bool true, .pointer (some ⟨B, 0, none⟩), .string SEED, .int .i64 c, .int .u8 c, .int .u8 (48 + c), .slice (some ⟨wz.drew.heap.size, 0, none⟩) 1 1, _, _, _, _, _, _, _, _, _, _, _, _, _, _, _, _, _], defers := _ } _
    have hU0 := Up.alloc (Up.drew1 wz) (.cells #[.int .u8 (48 + c)] 5)
    have HB5 := Lib.hid (heap_alloc_new wz.drew (.cells #[.int .u8 (48 + c)] 5))
    generalize wz.drew.heap.size = b5 at HB5 ⊢
    generalize wz.drew.alloc (.cells #[.int .u8 (48 + c)] 5) = w5 at HB5 hU0 ⊢
    refine alongK_read (.string (strOfNums [48 + c])) rfl rfl (fun wx hS => ex_conv rfl rfl wx wx (Hstr.out b5 w5 wx HB5.out hS)) ?_
    change AlongK _ _ _ _ _ { tmps := #[.int .i64 c, _, _, .pointer (some ⟨B, 0, none⟩), _, _, _, _, _, _, _, _, _, _, _, _, _, _, .pointer (some ⟨B, 1, none⟩), .slice (some ⟨g, 0, none⟩) 16 c2, .int .i64 16, .bool true, .bool true, .pointer (some ⟨B, 2, none⟩), .int .i64 0, .bool true, .bool true, .bool true, .pointer (some ⟨B, 0, none⟩), .string SEED, .int .i64 c, .int .u8 c, .int .u8 (48 + c), .slice (some ⟨b5, 0, none⟩) 1 1, .string (strOfNums [48 + c]), _, _, _, _, _, _, _, _, _, _, _, _, _, _, _, _], defers := _ } _
    refine alongK_read (.string SEED) rfl rfl (fun wx hS => ex_bin rfl rfl rfl wx (Hcat.out wx)) ?_
    change AlongK _ _ _ _ _ { tmps := #[.int .i64 c, _, _, .pointer (some ⟨B, 0, none⟩), _, _, _, _, _, _, _, _, _, _, _, _, _, _, .pointer (some ⟨B, 1, none⟩), .slice (some ⟨g, 0, none⟩) 16 c2, .int .i64 16, .bool true, .bool true, .pointer (some ⟨B, 2, none⟩), .int .i64 0, .bool true, .bool true, .bool true, .pointer (some ⟨B, 0, none⟩), .string SEED, .int .i64 c, .int .u8 c, .int .u8 (48 + c), .slice (some ⟨b5, 0, none⟩) 1 1, .string (strOfNums [48 + c]), .string SEED, _, _, _, _, _, _, _, _, _, _, _, _, _, _, _], defers := _ } _
    refine alongK_read (.bool true) rfl rfl (fun wx hS => ex_eqs rfl (by rfl) (by rfl) wx) ?_
    change AlongK _ _ _ _ _ { tmps := #[.int .i64 c, _, _, .pointer (some ⟨B, 0, none⟩), _, _, _, _, _, _, _, _, _, _, _, _, _, _, .pointer (some ⟨B, 1, none⟩), .slice (some ⟨g, 0, none⟩) 16 c2, .int .i64 16, .bool true, .bool true, .pointer (some ⟨B, 2, none⟩), .int .i64 0, .bool true, .bool true, .bool true, .pointer (some ⟨B, 0, none⟩), .string SEED, .int .i64 c, .int .u8 c, .int .u8 (48 + c), .slice (some ⟨b5, 0, none⟩) 1 1, .string (strOfNums [48 + c]), .string SEED, .bool true, _, _, _, _, _, _, _, _, _, _, _, _, _, _], defers := _ } _
    refine alongK_read (.bool true) rfl rfl (fun wx hS => ex_pickt rfl (by rfl) (by rfl) wx) ?_
    change AlongK _ _ _ _ _ { tmps := #[.int .i64 c, _, _, .pointer (some ⟨B, 0, none⟩), _, _, _, _, _, _, _, _, _, _, _, _, _, _, .pointer (some ⟨B, 1, none⟩), .slice (some ⟨g, 0, none⟩) 16 c2, .int .i64 16, .bool true, .bool true, .pointer (some ⟨B, 2, none⟩), .int .i64 0, .bool true, .bool true, .bool true, .pointer (some ⟨B, 0, none⟩), .string SEED, .int .i64 c, .int .u8 c, .int .u8 (48 + c), .slice (some ⟨b5, 0, none⟩) 1 1, .string (strOfNums [48 + c]), .string SEED, .bool true, .bool true, _, _, _, _, _, _, _, _, _, _, _, _, _], defers := _ } _
    refine alongK_read (.bool true) rfl rfl (fun wx hS => ex_move (by rfl) (by rfl) wx) ?_
    change AlongK _ _ _ _ _ { tmps := #[.int .i64 c, _, _, .pointer (some ⟨B, 0, none⟩), _, _, _, _, _, _, _, _, _, _, _, _, _, _, .pointer (some ⟨B, 1, none⟩), .slice (some ⟨g, 0, none⟩) 16 c2, .int .i64 16, .bool true, .bool true, .pointer (some ⟨B, 2, none⟩), .int .i64 0, .bool true, .bool true, .bool true, .pointer (some ⟨B, 0, none⟩), .string SEED, .int .i64 c, .int .u8 c, .int .u8 (48 + c), .slice (some ⟨b5, 0, none⟩) 1 1, .string (strOfNums [48 + c]), .string SEED, .bool true, .bool true, .bool true, _, _, _, _, _, _, _, _, _, _, _, _], defers := _ } _
    refine alongK_read (.pointer (some ⟨B, 1, none⟩)) rfl rfl (fun wx hS => ex_field rfl rfl wx (by simp [go_sem])) ?_
    change AlongK _ _ _ _ _ { tmps := #[.int .i64 c, _, _, .pointer (some ⟨B, 0, none⟩), _, _, _, _, _, _, _, _, _, _, _, _, _, _, .pointer (some ⟨B, 1, none⟩), .slice (some ⟨g, 0, none⟩) 16 c2, .int .i64 16, .bool true, .bool true, .pointer (some ⟨B, 2, none⟩), .int .i64 0, .bool true, .bool true, .bool true, .pointer (some ⟨B, 0, none⟩), .string SEED, .int .i64 c, .int .u8 c, .int .u8 (48 + c), .slice (some ⟨b5, 0, none⟩) 1 1, .string (strOfNums [48 + c]), .string SEED, .bool true, .bool true, .bool true, .pointer (some ⟨B, 1, none⟩), _, _, _, _, _, _, _, _, _, _, _], defers := _ } _
    refine alongK_read (.slice (some ⟨g, 0, none⟩) 16 c2) rfl rfl (fun wx hS => ex_load Try.isAgg22 rfl rfl wx ((HK.out wx (Up.trans hU0 hS)).2.1)) ?_
    change AlongK _ _ _ _ _ { tmps := #[.int .i64 c, _, _, .pointer (some ⟨B, 0, none⟩), _, _, _, _, _, _, _, _, _, _, _, _, _, _, .pointer (some ⟨B, 1, none⟩), .slice (some ⟨g, 0, none⟩) 16 c2, .int .i64 16, .bool true, .bool true, .pointer (some ⟨B, 2, none⟩), .int .i64 0, .bool true, .bool true, .bool true, .pointer (some ⟨B, 0, none⟩), .string SEED, .int .i64 c, .int .u8 c, .int .u8 (48 + c), .slice (some ⟨b5, 0, none⟩) 1 1, .string (strOfNums [48 + c]), .string SEED, .bool true, .bool true, .bool true, .pointer (some ⟨B, 1, none⟩), .slice (some ⟨g, 0, none⟩) 16 c2, _, _, _, _, _, _, _, _, _, _], defers := _ } _
    refine alongK_read (.pointer (some ⟨g, 0 + 9 * 1, none⟩)) rfl rfl (fun wx hS => ex_index Try.underlying22 Try.sizeOf9 rfl rfl rfl ((by omega)) wx) ?_
    change AlongK _ _ _ _ _ { tmps := #[.int .i64 c, _, _, .pointer (some ⟨B, 0, none⟩), _, _, _, _, _, _, _, _, _, _, _, _, _, _, .pointer (some ⟨B, 1, none⟩), .slice (some ⟨g, 0, none⟩) 16 c2, .int .i64 16, .bool true, .bool true, .pointer (some ⟨B, 2, none⟩), .int .i64 0, .bool true, .bool true, .bool true, .pointer (some ⟨B, 0, none⟩), .string SEED, .int .i64 c, .int .u8 c, .int .u8 (48 + c), .slice (some ⟨b5, 0, none⟩) 1 1, .string (strOfNums [48 + c]), .string SEED, .bool true, .bool true, .bool true, .pointer (some ⟨B, 1, none⟩), .slice (some ⟨g, 0, none⟩) 16 c2, .pointer (some ⟨g, 0 + 9 * 1, none⟩), _, _, _, _, _, _, _, _, _], defers := _ } _
    refine alongK_read (.string L) rfl rfl (fun wx hS => ex_load Try.isAgg9 rfl rfl wx ((HK.out wx (Up.trans hU0 hS)).2.2.2)) ?_
    change AlongK _ _ _ _ _ { tmps := #[.int .i64 c, _, _, .pointer (some ⟨B, 0, none⟩), _, _, _, _, _, _, _, _, _, _, _, _, _, _, .pointer (some ⟨B, 1, none⟩), .slice (some ⟨g, 0, none⟩) 16 c2, .int .i64 16, .bool true, .bool true, .pointer (some ⟨B, 2, none⟩), .int .i64 0, .bool true, .bool true, .bool true, .pointer (some ⟨B, 0, none⟩), .string SEED, .int .i64 c, .int .u8 c, .int .u8 (48 + c), .slice (some ⟨b5, 0, none⟩) 1 1, .string (strOfNums [48 + c]), .string SEED, .bool true, .bool true, .bool true, .pointer (some ⟨B, 1, none⟩), .slice (some ⟨g, 0, none⟩) 16 c2, .pointer (some ⟨g, 0 + 9 * 1, none⟩), .string L, _, _, _, _, _, _, _, _], defers := _ } _
    refine alongK_read (.pointer (some ⟨B, 0, none⟩)) rfl rfl (fun wx hS => ex_field rfl rfl wx (by simp [go_sem])) ?_
    change AlongK _ _ _ _ _ { tmps := #[.int .i64 c, _, _, .pointer (some ⟨B, 0, none⟩), _, _, _, _, _, _, _, _, _, _, _, _, _, _, .pointer (some ⟨B, 1, none⟩), .slice (some ⟨g, 0, none⟩) 16 c2, .int .i64 16, .bool true, .bool true, .pointer (some ⟨B, 2, none⟩), .int .i64 0, .bool true, .bool true, .bool true, .pointer (some ⟨B, 0, none⟩), .string SEED, .int .i64 c, .int .u8 c, .int .u8 (48 + c), .slice (some ⟨b5, 0, none⟩) 1 1, .string (strOfNums [48 + c]), .string SEED, .bool true, .bool true, .bool true, .pointer (some ⟨B, 1, none⟩), .slice (some ⟨g, 0, none⟩) 16 c2, .pointer (some ⟨g, 0 + 9 * 1, none⟩), .string L, .pointer (some ⟨B, 0, none⟩), _, _, _, _, _, _, _], defers := _ } _
    refine alongK_read (.string SEED) rfl rfl (fun wx hS => ex_load Try.isAgg9 rfl rfl wx ((HK.out wx (Up.trans hU0 hS)).1)) ?_
    change AlongK _ _ _ _ _ { tmps := #[.int .i64 c, _, _, .pointer (some ⟨B, 0, none⟩), _, _, _, _, _, _, _, _, _, _, _, _, _, _, .pointer (some ⟨B, 1, none⟩), .slice (some ⟨g, 0, none⟩) 16 c2, .int .i64 16, .bool true, .bool true, .pointer (some ⟨B, 2, none⟩), .int .i64 0, .bool true, .bool true, .bool true, .pointer (some ⟨B, 0, none⟩), .string SEED, .int .i64 c, .int .u8 c, .int .u8 (48 + c), .slice (some ⟨b5, 0, none⟩) 1 1, .string (strOfNums [48 + c]), .string SEED, .bool true, .bool true, .bool true, .pointer (some ⟨B, 1, none⟩), .slice (some ⟨g, 0, none⟩) 16 c2, .pointer (some ⟨g, 0 + 9 * 1, none⟩), .string L, .pointer (some ⟨B, 0, none⟩), .string SEED, _, _, _, _, _, _], defers := _ } _
    refine alongK_step ?_
    refine opK_call (vs := [.string SEED, .int .i64 9]) rfl rfl rfl (enters_of Try.func7 (by kernel_rfl) rfl) rfl ?_
    with_reducible refine Calls.mono (Hlf.out _) ?_
    rintro e w7 ⟨rfl, hU7⟩
    have hU0 := Up.trans hU0 hU7
    refine ⟨_, rfl, (fun x => Up w7 x), (fun x hx => Up.trans hU7 hx), (Up.refl w7), ?_⟩
    change AlongK _ _ _ _ _ { tmps := #[.int .i64 c, _, _, .pointer (some ⟨B, 0, none⟩), _, _, _, _, _, _, _, _, _, _, _, _, _, _, .pointer (some ⟨B, 1, none⟩), .slice (some ⟨g, 0, none⟩) 16 c2, .int .i64 16, .bool true, .bool true, .pointer (some ⟨B, 2, none⟩), .int .i64 0, .bool true, .bool true, .bool true, .pointer (some ⟨B, 0, none⟩), .string SEED, .int .i64 c, .int .u8 c, .int .u8 (48 + c), .slice (some ⟨b5, 0, none⟩) 1 1, .string (strOfNums [48 + c]), .string SEED, .bool true, .bool true, .bool true, .pointer (some ⟨B, 1, none⟩), .slice (some ⟨g, 0, none⟩) 16 c2, .pointer (some ⟨g, 0 + 9 * 1, none⟩), .string L, .pointer (some ⟨B, 0, none⟩), .string SEED, .string L, _, _, _, _, _], defers := _ } _
    refine alongK_read (.bool true) rfl rfl (fun wx hS => ex_eqs rfl (by rfl) (by rfl) wx) ?_
    change AlongK _ _ _ _ _ { tmps := #[.int .i64 c, _, _, .pointer (some ⟨B, 0, none⟩), _, _, _, _, _, _, _, _, _, _, _, _, _, _, .pointer (some ⟨B, 1, none⟩), .slice (some ⟨g, 0, none⟩) 16 c2, .int .i64 16, .bool true, .bool true, .pointer (some ⟨B, 2, none⟩), .int .i64 0, .bool true, .bool true, .bool true, .pointer (some ⟨B, 0, none⟩), .string SEED, .int .i64 c, .int .u8 c, .int .u8 (48 + c), .slice (some ⟨b5, 0, none⟩) 1 1, .string (strOfNums [48 + c]), .string SEED, .bool true, .bool true, .bool true, .pointer (some ⟨B, 1, none⟩), .slice (some ⟨g, 0, none⟩) 16 c2, .pointer (some ⟨g, 0 + 9 * 1, none⟩), .string L, .pointer (some ⟨B, 0, none⟩), .string SEED, .string L, .bool true, _, _, _, _], defers := _ } _
    refine alongK_read (.bool true) rfl rfl (fun wx hS => ex_pickt rfl (by rfl) (by rfl) wx) ?_
    change AlongK _ _ _ _ _ { tmps := #[.int .i64 c, _, _, .pointer (some ⟨B, 0, none⟩), _, _, _, _, _, _, _, _, _, _, _, _, _, _, .pointer (some ⟨B, 1, none⟩), .slice (some ⟨g, 0, none⟩) 16 c2, .int .i64 16, .bool true, .bool true, .pointer (some ⟨B, 2, none⟩), .int .i64 0, .bool true, .bool true, .bool true, .pointer (some ⟨B, 0, none⟩), .string SEED, .int .i64 c, .int .u8 c, .int .u8 (48 + c), .slice (some ⟨b5, 0, none⟩) 1 1, .string (strOfNums [48 + c]), .string SEED, .bool true, .bool true, .bool true, .pointer (some ⟨B, 1, none⟩), .slice (some ⟨g, 0, none⟩) 16 c2, .pointer (some ⟨g, 0 + 9 * 1, none⟩), .string L, .pointer (some ⟨B, 0, none⟩), .string SEED, .string L, .bool true, .bool true, _, _, _], defers := _ } _
    refine alongK_read (.bool true) rfl rfl (fun wx hS => ex_move (by rfl) (by rfl) wx) ?_
    change AlongK _ _ _ _ _ { tmps := #[.int .i64 c, _, _, .pointer (some ⟨B, 0, none⟩), _, _, _, _, _, _, _, _, _, _, _, _, _, _, .pointer (some ⟨B, 1, none⟩), .slice (some ⟨g, 0, none⟩) 16 c2, .int .i64 16, .bool true, .bool true, .pointer (some ⟨B, 2, none⟩), .int .i64 0, .bool true, .bool true, .bool true, .pointer (some ⟨B, 0, none⟩), .string SEED, .int .i64 c, .int .u8 c, .int .u8 (48 + c), .slice (some ⟨b5, 0, none⟩) 1 1, .string (strOfNums [48 + c]), .string SEED, .bool true, .bool true, .bool true, .pointer (some ⟨B, 1, none⟩), .slice (some ⟨g, 0, none⟩) 16 c2, .pointer (some ⟨g, 0 + 9 * 1, none⟩), .string L, .pointer (some ⟨B, 0, none⟩), .string SEED, .string L, .bool true, .bool true, .bool true, _, _], defers := _ } _
    refine alongK_step ?_
    refine opK_call (vs := []) rfl rfl rfl (enters_of Try.func6 (by kernel_rfl) rfl) rfl ?_
    with_reducible refine Calls.mono (vtAlive_any w7) ?_
    rintro e w8 ⟨rfl, hU8⟩
    have hU0 := Up.trans hU0 hU8
    refine ⟨_, rfl, (fun x => Up w8 x), (fun x hx => Up.trans hU8 hx), (Up.refl w8), ?_⟩
    change AlongK _ _ _ _ _ { tmps := #[.int .i64 c, _, _, .pointer (some ⟨B, 0, none⟩), _, _, _, _, _, _, _, _, _, _, _, _, _, _, .pointer (some ⟨B, 1, none⟩), .slice (some ⟨g, 0, none⟩) 16 c2, .int .i64 16, .bool true, .bool true, .pointer (some ⟨B, 2, none⟩), .int .i64 0, .bool true, .bool true, .bool true, .pointer (some ⟨B, 0, none⟩), .string SEED, .int .i64 c, .int .u8 c, .int .u8 (48 + c), .slice (some ⟨b5, 0, none⟩) 1 1, .string (strOfNums [48 + c]), .string SEED, .bool true, .bool true, .bool true, .pointer (some ⟨B, 1, none⟩), .slice (some ⟨g, 0, none⟩) 16 c2, .pointer (some ⟨g, 0 + 9 * 1, none⟩), .string L, .pointer (some ⟨B, 0, none⟩), .string SEED, .string L, .bool true, .bool true, .bool true, .bool true, _], defers := _ } _
    refine alongK_read (.bool true) rfl rfl (fun wx hS => ex_pickt rfl (by rfl) (by rfl) wx) ?_
    change AlongK _ _ _ _ _ { tmps := #[.int .i64 c, _, _, .pointer (some ⟨B, 0, none⟩), _, _, _, _, _, _, _, _, _, _, _, _, _, _, .pointer (some ⟨B, 1, none⟩), .slice (some ⟨g, 0, none⟩) 16 c2, .int .i64 16, .bool true, .bool true, .pointer (some ⟨B, 2, none⟩), .int .i64 0, .bool true, .bool true, .bool true, .pointer (some ⟨B, 0, none⟩), .string SEED, .int .i64 c, .int .u8 c, .int .u8 (48 + c), .slice (some ⟨b5, 0, none⟩) 1 1, .string (strOfNums [48 + c]), .string SEED, .bool true, .bool true, .bool true, .pointer (some ⟨B, 1, none⟩), .slice (some ⟨g, 0, none⟩) 16 c2, .pointer (some ⟨g, 0 + 9 * 1, none⟩), .string L, .pointer (some ⟨B, 0, none⟩), .string SEED, .string L, .bool true, .bool true, .bool true, .bool true, .bool true], defers := _ } _
    refine alongK_read (.bool true) rfl rfl (fun wx hS => ex_assign (by rfl) (by rfl) wx) ?_
    change AlongK _ _ _ _ _ { tmps := #[.int .i64 c, _, .bool true, .pointer (some ⟨B, 0, none⟩), _, _, _, _, _, _, _, _, _, _, _, _, _, _, .pointer (some ⟨B, 1, none⟩), .slice (some ⟨g, 0, none⟩) 16 c2, .int .i64 16, .bool true, .bool true, .pointer (some ⟨B, 2, none⟩), .int .i64 0, .bool true, .bool true, .bool true, .pointer (some ⟨B, 0, none⟩), .string SEED, .int .i64 c, .int .u8 c, .int .u8 (48 + c), .slice (some ⟨b5, 0, none⟩) 1 1, .string (strOfNums [48 + c]), .string SEED, .bool true, .bool true, .bool true, .pointer (some ⟨B, 1, none⟩), .slice (some ⟨g, 0, none⟩) 16 c2, .pointer (some ⟨g, 0 + 9 * 1, none⟩), .string L, .pointer (some ⟨B, 0, none⟩), .string SEED, .string L, .bool true, .bool true, .bool true, .bool true, .bool true], defers := _ } _
    refine alongK_done ?_
    go_wp2
    go_ret
    exact ⟨rfl, Up.trans HUz.out hU0⟩
end
end Go.Proofs.Ytenhjjbbmmomaaa
