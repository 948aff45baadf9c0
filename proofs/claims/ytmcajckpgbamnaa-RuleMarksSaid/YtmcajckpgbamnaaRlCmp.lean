import Derived.Shelf.Small.Strs
import Derived.Test.YtmcajckpgbamnaaRlCollect
import Derived.Test.YtmcajckpgbamnaaCtFirst
/-
  rule.compare; what the law of stage 21 says of marks and statements.
-/
namespace Go.Proofs.Ytmcajckpgbamnaa
set_option maxRecDepth 100000
section
set_option linter.unusedVariables false
open Go.RowKit Go.Sort Go.Lib

def lay_cmp_ren : Go.Shelf.Ren := ⟨fun | 106 => 24 | 213 => 32 | 265 => 43 | n => n, fun | 3 => 3 | 9 => 9 | n => n, fun | n => n⟩
theorem lay_cmp : Go.Proofs.Lays.n106 Try.prog lay_cmp_ren := {
  mixed := by kernel_rfl
  f106 := Try.func24.trans (congrArg some (by kernel_rfl))
  f213 := Try.func32.trans (congrArg some (by kernel_rfl))
  f265 := Try.func43.trans (congrArg some (by kernel_rfl))
  t3 := Try.underlying3
  a3 := Try.isAgg3
  z3 := Try.sizeOf3
  v3 := Try.zeroValue3
  t9 := Try.underlying9
  a9 := Try.isAgg9
  z9 := Try.sizeOf9
  v9 := Try.zeroValue9 }
theorem rl_cell3 {W : World} {B : Nat} {cs : Array Value} {t : TypeId} (h : W.heap[B]? = some (.cells cs t (0, 0))) (k : Nat) {v : Value} (hv : cs[k]? = some v) : W.cell? ⟨B, k, none⟩ = some v := by
  rw [cell_of_row _ _ k _ _ _ h, hv]
set_option maxHeartbeats 400000 in
theorem or3_any (g : Nat) (x y z : Int) (w : World) (h : w.heap[g]? = some (.cells #[.int .i64 x, .int .i64 y, .int .i64 z] 3 (0, 0))) :
    Calls Try.prog 22 #[.slice (some ⟨g, 0, none⟩) 3 3] w fun e w' => e = .returned (.int .i64 (if x = 0 then (if y = 0 then z else y) else x)) ∧ w' = w := by
  have H0 := Lib.hid (cell_of_row _ _ 0 _ _ _ h)
  have H1 := Lib.hid (cell_of_row _ _ 1 _ _ _ h)
  have H2 := Lib.hid (cell_of_row _ _ 2 _ _ _ h)
  clear h
  by_cases ex : x = 0
  · subst ex
    rw [if_pos rfl]
    by_cases ey : y = 0
    · subst ey
      rw [if_pos rfl]
      by_cases ez : z = 0
      · subst ez
        go_enter Try.func22, Try.ntmps22
        go_wp2
        go_loop [8] (fun vi => ∃ i : Nat, vi = .int .i64 i ∧ i ≤ 3) (fun vi => 3 - (intOf vi).toNat)
        case atStart => exact ⟨0, rfl, by omega⟩
        case round =>
          obtain ⟨i, rfl, hi⟩ := hrel
          match i with
          | 0 =>
            have c0 := H0.out
            simp at c0
            go_wp2
            go_round
            case rel => exact ⟨1, rfl, by omega⟩
            case measure => simp [intOf]
          | 1 =>
            have c1 := H1.out
            simp at c1
            go_wp2
            go_round
            case rel => exact ⟨2, rfl, by omega⟩
            case measure => simp [intOf]
          | 2 =>
            have c2 := H2.out
            simp at c2
            go_wp2
            go_round
            case rel => exact ⟨3, rfl, by omega⟩
            case measure => simp [intOf]
          | 3 =>
            go_wp2
            go_ret
            exact ⟨rfl, rfl⟩
          | n + 4 => omega
      · have e1 : (z == 0) = false := by simpa using ez
        have e2 : (z != 0) = true := by simpa using ez
        go_enter Try.func22, Try.ntmps22
        go_wp2
        go_loop [8] (fun vi => ∃ i : Nat, vi = .int .i64 i ∧ i ≤ 2) (fun vi => 3 - (intOf vi).toNat)
        case atStart => exact ⟨0, rfl, by omega⟩
        case round =>
          obtain ⟨i, rfl, hi⟩ := hrel
          match i with
          | 0 =>
            have c0 := H0.out
            simp at c0
            go_wp2
            go_round
            case rel => exact ⟨1, rfl, by omega⟩
            case measure => simp [intOf]
          | 1 =>
            have c1 := H1.out
            simp at c1
            go_wp2
            go_round
            case rel => exact ⟨2, rfl, by omega⟩
            case measure => simp [intOf]
          | 2 =>
            have c2 := H2.out
            simp at c2
            go_wp2
            go_ret
            exact ⟨rfl, rfl⟩
          | n + 3 => omega
    · have e1 : (y == 0) = false := by simpa using ey
      have e2 : (y != 0) = true := by simpa using ey
      rw [if_neg ey]
      go_enter Try.func22, Try.ntmps22
      go_wp2
      go_loop [8] (fun vi => ∃ i : Nat, vi = .int .i64 i ∧ i ≤ 1) (fun vi => 3 - (intOf vi).toNat)
      case atStart => exact ⟨0, rfl, by omega⟩
      case round =>
        obtain ⟨i, rfl, hi⟩ := hrel
        match i with
        | 0 =>
          have c0 := H0.out
          simp at c0
          go_wp2
          go_round
          case rel => exact ⟨1, rfl, by omega⟩
          case measure => simp [intOf]
        | 1 =>
          have c1 := H1.out
          simp at c1
          go_wp2
          go_ret
          exact ⟨rfl, rfl⟩
        | n + 2 => omega
  · have e1 : (x == 0) = false := by simpa using ex
    have e2 : (x != 0) = true := by simpa using ex
    rw [if_neg ex]
    go_enter Try.func22, Try.ntmps22
    go_wp2
    go_loop [8] (fun vi => vi = .int .i64 0) (fun vi => 3 - (intOf vi).toNat)
    case atStart => rfl
    case round =>
      obtain rfl := hrel
      have c0 := H0.out
      simp at c0
      go_wp2
      go_ret
      exact ⟨rfl, rfl⟩

/-- how two marks stand -/
def cmpM (x y : Mr) : Int := if cmpI x.V y.V = 0 then (if cmpI x.H y.H = 0 then compareBytes x.B.data.toList y.B.data.toList else cmpI x.H y.H) else cmpI x.V y.V
theorem build_three (x y z : Int) (w : World) : (Instr.buildSlice 66 3 #[(0, .int .i64 x), (1, .int .i64 y), (2, .int .i64 z)]).run Try.prog w = .ok (.slice (some ⟨w.heap.size, 0, none⟩) 3 3) (w.alloc (.cells #[.int .i64 x, .int .i64 y, .int .i64 z] 3)) := by
  simp [go_sem]
set_option maxHeartbeats 1000000 in
theorem rlCompare_any (x y : Mr) (w : World) : Calls Try.prog 14 #[.agg (mrA x), .agg (mrA y)] w fun e w' => e = .returned (.int .i64 (cmpM x y)) ∧ Gr w w' := by
  obtain ⟨V1, H1, B1⟩ := x
  obtain ⟨V2, H2, B2⟩ := y
  unfold cmpM mrA
  simp only
  generalize hcb : compareBytes B1.data.toList B2.data.toList = cb
  generalize hcv : cmpI V1 V2 = cv
  generalize hch : cmpI H1 H2 = ch
  have HCV : Hid (∀ wx, Calls Try.prog 23 #[.int .i64 V1, .int .i64 V2] wx fun e w' => e = .returned (.int .i64 cv) ∧ w' = wx) := Lib.hid (fun wx => hcv ▸ cmp_any V1 V2 wx)
  have HCH : Hid (∀ wx, Calls Try.prog 23 #[.int .i64 H1, .int .i64 H2] wx fun e w' => e = .returned (.int .i64 ch) ∧ w' = wx) := Lib.hid (fun wx => hch ▸ cmp_any H1 H2 wx)
  have HCB : Hid (∀ wx, Calls Try.prog 24 #[.string B1, .string B2] wx fun e w' => e = .returned (.int .i64 cb) ∧ w' = wx) := Lib.hid (fun wx => hcb ▸ Any.strings_Compare lay_cmp B1 B2 wx)
  have HOR : Hid (∀ wx : World, Calls Try.prog 22 #[.slice (some ⟨wx.heap.size, 0, none⟩) 3 3] (wx.alloc (.cells #[.int .i64 cv, .int .i64 ch, .int .i64 cb] 3)) fun e w' => e = .returned (.int .i64 (if cv = 0 then (if ch = 0 then cb else ch) else cv)) ∧ w' = wx.alloc (.cells #[.int .i64 cv, .int .i64 ch, .int .i64 cb] 3)) := Lib.hid (fun wx => or3_any _ cv ch cb _ (heap_alloc_new wx _))
  have HBS := Lib.hid (fun wx => build_three cv ch cb wx)
  generalize (if cv = 0 then (if ch = 0 then cb else ch) else cv) = R at HOR ⊢
  clear hcb hcv hch
  have h0 := heap_alloc_new w (.cells #[.int .i64 V1, .int .i64 H1, .string B1] 26)
  have u1 := Up.alloc (Up.refl (w.alloc (.cells #[.int .i64 V1, .int .i64 H1, .string B1] 26))) (.cells #[.int .i64 V2, .int .i64 H2, .string B2] 26)
  have h1 := heap_alloc_new (w.alloc (.cells #[.int .i64 V1, .int .i64 H1, .string B1] 26)) (.cells #[.int .i64 V2, .int .i64 H2, .string B2] 26)
  rw [show (w.alloc (.cells #[.int .i64 V1, .int .i64 H1, .string B1] 26)).heap.size = w.heap.size + 1 by simp] at h1
  have HA := Lib.hid (row_up h0 u1)
  have HB := Lib.hid h1
  have HG := Lib.hid ((Gr.alloc w (.cells #[.int .i64 V1, .int .i64 H1, .string B1] 26)).trans (Gr.alloc _ (.cells #[.int .i64 V2, .int .i64 H2, .string B2] 26)))
  clear h0 u1 h1
  go_enter Try.func14, Try.ntmps14
  go_upto_region 1 with fail
  generalize (w.alloc (.cells #[.int .i64 V1, .int .i64 H1, .string B1] 26)).alloc (.cells #[.int .i64 V2, .int .i64 H2, .string B2] 26) = w2 at HA HB HG ⊢
  generalize w.heap.size + 1 = B at HB ⊢
  generalize w.heap.size = A at HA ⊢
  refine region_alongK (fun x => Up w2.drew x) (.read 0 (.read 1 (.read 2 (.read 3 (.read 5 (.read 6 (.read 7 (.read 8 (.read 10 (.read 11 (.read 12 (.read 13 (.step 4 (.step 9 (.step 14 (.step 15 (.step 16 (.read 17 (.nil))))))))))))))))))) (by kernel_rfl) rfl (by kernel_rfl) (by kernel_rfl) (fun c a d v w h => by cases d <;> exact h) (Up.refl _) ?_
  refine alongK_read (.pointer (some ⟨A, 0, none⟩)) rfl rfl (fun wx hS => ex_field rfl rfl wx (by simp [go_sem])) ?_
  change AlongK _ _ _ _ _ { tmps := #[.agg #[.int .i64 V1, .int .i64 H1, .string B1], .agg #[.int .i64 V2, .int .i64 H2, .string B2], .pointer (some ⟨A, 0, none⟩), .pointer (some ⟨B, 0, none⟩), .int .i64 0, .pointer (some ⟨A, 0, none⟩), _, _, _, _, _, _, _, _, _, _, _, _, _, _, _, _], defers := _ } _
  refine alongK_read (.int .i64 V1) rfl rfl (fun wx hS => ex_load Try.isAgg3 rfl rfl wx (rl_cell3 (row_up HA.out ((Up.drew1 w2).trans hS)) 0 rfl)) ?_
  change AlongK _ _ _ _ _ { tmps := #[.agg #[.int .i64 V1, .int .i64 H1, .string B1], .agg #[.int .i64 V2, .int .i64 H2, .string B2], .pointer (some ⟨A, 0, none⟩), .pointer (some ⟨B, 0, none⟩), .int .i64 0, .pointer (some ⟨A, 0, none⟩), .int .i64 V1, _, _, _, _, _, _, _, _, _, _, _, _, _, _, _], defers := _ } _
  refine alongK_read (.pointer (some ⟨B, 0, none⟩)) rfl rfl (fun wx hS => ex_field rfl rfl wx (by simp [go_sem])) ?_
  change AlongK _ _ _ _ _ { tmps := #[.agg #[.int .i64 V1, .int .i64 H1, .string B1], .agg #[.int .i64 V2, .int .i64 H2, .string B2], .pointer (some ⟨A, 0, none⟩), .pointer (some ⟨B, 0, none⟩), .int .i64 0, .pointer (some ⟨A, 0, none⟩), .int .i64 V1, .pointer (some ⟨B, 0, none⟩), _, _, _, _, _, _, _, _, _, _, _, _, _, _], defers := _ } _
  refine alongK_read (.int .i64 V2) rfl rfl (fun wx hS => ex_load Try.isAgg3 rfl rfl wx (rl_cell3 (row_up HB.out ((Up.drew1 w2).trans hS)) 0 rfl)) ?_
  change AlongK _ _ _ _ _ { tmps := #[.agg #[.int .i64 V1, .int .i64 H1, .string B1], .agg #[.int .i64 V2, .int .i64 H2, .string B2], .pointer (some ⟨A, 0, none⟩), .pointer (some ⟨B, 0, none⟩), .int .i64 0, .pointer (some ⟨A, 0, none⟩), .int .i64 V1, .pointer (some ⟨B, 0, none⟩), .int .i64 V2, _, _, _, _, _, _, _, _, _, _, _, _, _], defers := _ } _
  refine alongK_read (.pointer (some ⟨A, 1, none⟩)) rfl rfl (fun wx hS => ex_field rfl rfl wx (by simp [go_sem])) ?_
  change AlongK _ _ _ _ _ { tmps := #[.agg #[.int .i64 V1, .int .i64 H1, .string B1], .agg #[.int .i64 V2, .int .i64 H2, .string B2], .pointer (some ⟨A, 0, none⟩), .pointer (some ⟨B, 0, none⟩), .int .i64 0, .pointer (some ⟨A, 0, none⟩), .int .i64 V1, .pointer (some ⟨B, 0, none⟩), .int .i64 V2, _, .pointer (some ⟨A, 1, none⟩), _, _, _, _, _, _, _, _, _, _, _], defers := _ } _
  refine alongK_read (.int .i64 H1) rfl rfl (fun wx hS => ex_load Try.isAgg3 rfl rfl wx (rl_cell3 (row_up HA.out ((Up.drew1 w2).trans hS)) 1 rfl)) ?_
  change AlongK _ _ _ _ _ { tmps := #[.agg #[.int .i64 V1, .int .i64 H1, .string B1], .agg #[.int .i64 V2, .int .i64 H2, .string B2], .pointer (some ⟨A, 0, none⟩), .pointer (some ⟨B, 0, none⟩), .int .i64 0, .pointer (some ⟨A, 0, none⟩), .int .i64 V1, .pointer (some ⟨B, 0, none⟩), .int .i64 V2, _, .pointer (some ⟨A, 1, none⟩), .int .i64 H1, _, _, _, _, _, _, _, _, _, _], defers := _ } _
  refine alongK_read (.pointer (some ⟨B, 1, none⟩)) rfl rfl (fun wx hS => ex_field rfl rfl wx (by simp [go_sem])) ?_
  change AlongK _ _ _ _ _ { tmps := #[.agg #[.int .i64 V1, .int .i64 H1, .string B1], .agg #[.int .i64 V2, .int .i64 H2, .string B2], .pointer (some ⟨A, 0, none⟩), .pointer (some ⟨B, 0, none⟩), .int .i64 0, .pointer (some ⟨A, 0, none⟩), .int .i64 V1, .pointer (some ⟨B, 0, none⟩), .int .i64 V2, _, .pointer (some ⟨A, 1, none⟩), .int .i64 H1, .pointer (some ⟨B, 1, none⟩), _, _, _, _, _, _, _, _, _], defers := _ } _
  refine alongK_read (.int .i64 H2) rfl rfl (fun wx hS => ex_load Try.isAgg3 rfl rfl wx (rl_cell3 (row_up HB.out ((Up.drew1 w2).trans hS)) 1 rfl)) ?_
  change AlongK _ _ _ _ _ { tmps := #[.agg #[.int .i64 V1, .int .i64 H1, .string B1], .agg #[.int .i64 V2, .int .i64 H2, .string B2], .pointer (some ⟨A, 0, none⟩), .pointer (some ⟨B, 0, none⟩), .int .i64 0, .pointer (some ⟨A, 0, none⟩), .int .i64 V1, .pointer (some ⟨B, 0, none⟩), .int .i64 V2, _, .pointer (some ⟨A, 1, none⟩), .int .i64 H1, .pointer (some ⟨B, 1, none⟩), .int .i64 H2, _, _, _, _, _, _, _, _], defers := _ } _
  refine alongK_read (.pointer (some ⟨A, 2, none⟩)) rfl rfl (fun wx hS => ex_field rfl rfl wx (by simp [go_sem])) ?_
  change AlongK _ _ _ _ _ { tmps := #[.agg #[.int .i64 V1, .int .i64 H1, .string B1], .agg #[.int .i64 V2, .int .i64 H2, .string B2], .pointer (some ⟨A, 0, none⟩), .pointer (some ⟨B, 0, none⟩), .int .i64 0, .pointer (some ⟨A, 0, none⟩), .int .i64 V1, .pointer (some ⟨B, 0, none⟩), .int .i64 V2, _, .pointer (some ⟨A, 1, none⟩), .int .i64 H1, .pointer (some ⟨B, 1, none⟩), .int .i64 H2, _, .pointer (some ⟨A, 2, none⟩), _, _, _, _, _, _], defers := _ } _
  refine alongK_read (.string B1) rfl rfl (fun wx hS => ex_load Try.isAgg9 rfl rfl wx (rl_cell3 (row_up HA.out ((Up.drew1 w2).trans hS)) 2 rfl)) ?_
  change AlongK _ _ _ _ _ { tmps := #[.agg #[.int .i64 V1, .int .i64 H1, .string B1], .agg #[.int .i64 V2, .int .i64 H2, .string B2], .pointer (some ⟨A, 0, none⟩), .pointer (some ⟨B, 0, none⟩), .int .i64 0, .pointer (some ⟨A, 0, none⟩), .int .i64 V1, .pointer (some ⟨B, 0, none⟩), .int .i64 V2, _, .pointer (some ⟨A, 1, none⟩), .int .i64 H1, .pointer (some ⟨B, 1, none⟩), .int .i64 H2, _, .pointer (some ⟨A, 2, none⟩), .string B1, _, _, _, _, _], defers := _ } _
  refine alongK_read (.pointer (some ⟨B, 2, none⟩)) rfl rfl (fun wx hS => ex_field rfl rfl wx (by simp [go_sem])) ?_
  change AlongK _ _ _ _ _ { tmps := #[.agg #[.int .i64 V1, .int .i64 H1, .string B1], .agg #[.int .i64 V2, .int .i64 H2, .string B2], .pointer (some ⟨A, 0, none⟩), .pointer (some ⟨B, 0, none⟩), .int .i64 0, .pointer (some ⟨A, 0, none⟩), .int .i64 V1, .pointer (some ⟨B, 0, none⟩), .int .i64 V2, _, .pointer (some ⟨A, 1, none⟩), .int .i64 H1, .pointer (some ⟨B, 1, none⟩), .int .i64 H2, _, .pointer (some ⟨A, 2, none⟩), .string B1, .pointer (some ⟨B, 2, none⟩), _, _, _, _], defers := _ } _
  refine alongK_read (.string B2) rfl rfl (fun wx hS => ex_load Try.isAgg9 rfl rfl wx (rl_cell3 (row_up HB.out ((Up.drew1 w2).trans hS)) 2 rfl)) ?_
  change AlongK _ _ _ _ _ { tmps := #[.agg #[.int .i64 V1, .int .i64 H1, .string B1], .agg #[.int .i64 V2, .int .i64 H2, .string B2], .pointer (some ⟨A, 0, none⟩), .pointer (some ⟨B, 0, none⟩), .int .i64 0, .pointer (some ⟨A, 0, none⟩), .int .i64 V1, .pointer (some ⟨B, 0, none⟩), .int .i64 V2, _, .pointer (some ⟨A, 1, none⟩), .int .i64 H1, .pointer (some ⟨B, 1, none⟩), .int .i64 H2, _, .pointer (some ⟨A, 2, none⟩), .string B1, .pointer (some ⟨B, 2, none⟩), .string B2, _, _, _], defers := _ } _
  refine alongK_step ?_
  refine opK_call (vs := [.int .i64 V1, .int .i64 V2]) rfl rfl rfl (enters_of Try.func23 (by kernel_rfl) rfl) rfl ?_
  with_reducible refine Calls.mono (HCV.out _) ?_
  rintro e w9 ⟨rfl, rfl⟩
  refine ⟨_, rfl, (fun x => Up w2.drew x), (fun x hx => hx), Up.refl _, ?_⟩
  change AlongK _ _ _ _ _ { tmps := #[.agg #[.int .i64 V1, .int .i64 H1, .string B1], .agg #[.int .i64 V2, .int .i64 H2, .string B2], .pointer (some ⟨A, 0, none⟩), .pointer (some ⟨B, 0, none⟩), .int .i64 0, .pointer (some ⟨A, 0, none⟩), .int .i64 V1, .pointer (some ⟨B, 0, none⟩), .int .i64 V2, .int .i64 cv, .pointer (some ⟨A, 1, none⟩), .int .i64 H1, .pointer (some ⟨B, 1, none⟩), .int .i64 H2, _, .pointer (some ⟨A, 2, none⟩), .string B1, .pointer (some ⟨B, 2, none⟩), .string B2, _, _, _], defers := _ } _
  refine alongK_step ?_
  refine opK_call (vs := [.int .i64 H1, .int .i64 H2]) rfl rfl rfl (enters_of Try.func23 (by kernel_rfl) rfl) rfl ?_
  with_reducible refine Calls.mono (HCH.out _) ?_
  rintro e w9 ⟨rfl, rfl⟩
  refine ⟨_, rfl, (fun x => Up w2.drew x), (fun x hx => hx), Up.refl _, ?_⟩
  change AlongK _ _ _ _ _ { tmps := #[.agg #[.int .i64 V1, .int .i64 H1, .string B1], .agg #[.int .i64 V2, .int .i64 H2, .string B2], .pointer (some ⟨A, 0, none⟩), .pointer (some ⟨B, 0, none⟩), .int .i64 0, .pointer (some ⟨A, 0, none⟩), .int .i64 V1, .pointer (some ⟨B, 0, none⟩), .int .i64 V2, .int .i64 cv, .pointer (some ⟨A, 1, none⟩), .int .i64 H1, .pointer (some ⟨B, 1, none⟩), .int .i64 H2, .int .i64 ch, .pointer (some ⟨A, 2, none⟩), .string B1, .pointer (some ⟨B, 2, none⟩), .string B2, _, _, _], defers := _ } _
  refine alongK_step ?_
  refine opK_call (vs := [.string B1, .string B2]) rfl rfl rfl (enters_of Try.func24 (by kernel_rfl) rfl) rfl ?_
  with_reducible refine Calls.mono (HCB.out _) ?_
  rintro e w9 ⟨rfl, rfl⟩
  refine ⟨_, rfl, (fun x => Up w2.drew x), (fun x hx => hx), Up.refl _, ?_⟩
  change AlongK _ _ _ _ _ { tmps := #[.agg #[.int .i64 V1, .int .i64 H1, .string B1], .agg #[.int .i64 V2, .int .i64 H2, .string B2], .pointer (some ⟨A, 0, none⟩), .pointer (some ⟨B, 0, none⟩), .int .i64 0, .pointer (some ⟨A, 0, none⟩), .int .i64 V1, .pointer (some ⟨B, 0, none⟩), .int .i64 V2, .int .i64 cv, .pointer (some ⟨A, 1, none⟩), .int .i64 H1, .pointer (some ⟨B, 1, none⟩), .int .i64 H2, .int .i64 ch, .pointer (some ⟨A, 2, none⟩), .string B1, .pointer (some ⟨B, 2, none⟩), .string B2, .int .i64 cb, _, _], defers := _ } _
  refine alongK_step ?_
  refine opK_run (.slice (some ⟨w2.drew.heap.size, 0, none⟩) 3 3) (w2.drew.alloc (.cells #[.int .i64 cv, .int .i64 ch, .int .i64 cb] 3)) rfl rfl (ex_slice3 _ _ (HBS.out w2.drew) rfl rfl rfl rfl) (fun x => Up w2.drew x) (fun x hx => hx) (Up.alloc (Up.refl _) _) ?_
  change AlongK _ _ _ _ _ { tmps := #[.agg #[.int .i64 V1, .int .i64 H1, .string B1], .agg #[.int .i64 V2, .int .i64 H2, .string B2], .pointer (some ⟨A, 0, none⟩), .pointer (some ⟨B, 0, none⟩), .int .i64 0, .pointer (some ⟨A, 0, none⟩), .int .i64 V1, .pointer (some ⟨B, 0, none⟩), .int .i64 V2, .int .i64 cv, .pointer (some ⟨A, 1, none⟩), .int .i64 H1, .pointer (some ⟨B, 1, none⟩), .int .i64 H2, .int .i64 ch, .pointer (some ⟨A, 2, none⟩), .string B1, .pointer (some ⟨B, 2, none⟩), .string B2, .int .i64 cb, .slice (some ⟨w2.drew.heap.size, 0, none⟩) 3 3, _], defers := _ } _
  refine alongK_step ?_
  refine opK_call (vs := [.slice (some ⟨w2.drew.heap.size, 0, none⟩) 3 3]) rfl rfl rfl (enters_of Try.func22 (by kernel_rfl) rfl) rfl ?_
  with_reducible refine Calls.mono (HOR.out w2.drew) ?_
  rintro e w9 ⟨rfl, rfl⟩
  refine ⟨_, rfl, (fun x => Up w2.drew x), (fun x hx => hx), (Up.alloc (Up.refl _) _), ?_⟩
  change AlongK _ _ _ _ _ { tmps := #[.agg #[.int .i64 V1, .int .i64 H1, .string B1], .agg #[.int .i64 V2, .int .i64 H2, .string B2], .pointer (some ⟨A, 0, none⟩), .pointer (some ⟨B, 0, none⟩), .int .i64 0, .pointer (some ⟨A, 0, none⟩), .int .i64 V1, .pointer (some ⟨B, 0, none⟩), .int .i64 V2, .int .i64 cv, .pointer (some ⟨A, 1, none⟩), .int .i64 H1, .pointer (some ⟨B, 1, none⟩), .int .i64 H2, .int .i64 ch, .pointer (some ⟨A, 2, none⟩), .string B1, .pointer (some ⟨B, 2, none⟩), .string B2, .int .i64 cb, .slice (some ⟨w2.drew.heap.size, 0, none⟩) 3 3, .int .i64 R], defers := _ } _
  refine alongK_read (.int .i64 R) rfl rfl (fun wx hS => ex_assign (by rfl) (by rfl) wx) ?_
  change AlongK _ _ _ _ _ { tmps := #[.agg #[.int .i64 V1, .int .i64 H1, .string B1], .agg #[.int .i64 V2, .int .i64 H2, .string B2], .pointer (some ⟨A, 0, none⟩), .pointer (some ⟨B, 0, none⟩), .int .i64 R, .pointer (some ⟨A, 0, none⟩), .int .i64 V1, .pointer (some ⟨B, 0, none⟩), .int .i64 V2, .int .i64 cv, .pointer (some ⟨A, 1, none⟩), .int .i64 H1, .pointer (some ⟨B, 1, none⟩), .int .i64 H2, .int .i64 ch, .pointer (some ⟨A, 2, none⟩), .string B1, .pointer (some ⟨B, 2, none⟩), .string B2, .int .i64 cb, .slice (some ⟨w2.drew.heap.size, 0, none⟩) 3 3, .int .i64 R], defers := _ } _
  refine alongK_done ?_
  go_wp2
  go_ret
  exact ⟨rfl, HG.out.trans ((Gr.drew1 w2).trans (Gr.alloc _ _))⟩
end
end Go.Proofs.Ytmcajckpgbamnaa
