import Derived.Test.YtnnjoeppcbbblaaCtFirst
import Derived.Test.YtnnjoeppcbbblaaAlong
/-
  cert.Higher: of two ranks which is above.
-/
namespace Go.Proofs.Ytnnjoeppcbbblaa
set_option maxRecDepth 100000
section
set_option linter.unusedVariables false
open Go.RowKit

theorem ex_slice2 {P : Program} {ρ : Operand → Value} {o : Oper} {v : Value} {x y : Operand} {t : TypeId} {v0 v1 : Value} (w w' : World) (hr : (Instr.buildSlice t 2 #[(0, v0), (1, v1)]).run P w = .ok v w') (hop : o.op = .buildSlice t 2 #[(0, x), (1, y)]) (hx : ρ x = v0) (hy : ρ y = v1) : (execOp ρ o).run P w = .ok (.value v) w' :=
  ex_slice hop (by simp only [List.map_toArray, List.map_cons, List.map_nil, hx, hy]) w w' hr
theorem mk_cells {W : World} {B : Nat} {c0 c1 c2 : Value} {ty : TypeId} {fr : Nat × Nat} (h : W.heap[B]? = some (.cells #[c0, c1, c2] ty fr)) :
    W.cell? ⟨B, 0, none⟩ = some c0 ∧ W.cell? ⟨B, 1, none⟩ = some c1 ∧ W.cell? ⟨B, 2, none⟩ = some c2 :=
  ⟨cell_of_row _ _ 0 _ _ _ h, cell_of_row _ _ 1 _ _ _ h, cell_of_row _ _ 2 _ _ _ h⟩
set_option maxHeartbeats 400000 in
theorem or_any (g : Nat) (x y : Int) (w : World) (h : w.heap[g]? = some (.cells #[.int .i64 x, .int .i64 y] 3 (0, 0))) :
    Calls Try.prog 15 #[.slice (some ⟨g, 0, none⟩) 2 2] w fun e w' => e = .returned (.int .i64 (if x = 0 then y else x)) ∧ w' = w := by
  have h0 : w.cell? ⟨g, 0, none⟩ = some (.int .i64 x) := cell_of_row _ _ 0 _ _ _ h
  have h1 : w.cell? ⟨g, 1, none⟩ = some (.int .i64 y) := cell_of_row _ _ 1 _ _ _ h
  clear h
  have H0 := Lib.hid h0
  have H1 := Lib.hid h1
  clear h0 h1
  by_cases ex : x = 0
  · subst ex
    rw [if_pos rfl]
    by_cases ey : y = 0
    · subst ey
      go_enter Try.func15, Try.ntmps15
      go_wp2
      go_loop [8] (fun vi => ∃ i : Nat, vi = .int .i64 i ∧ i ≤ 2) (fun vi => 2 - (intOf vi).toNat)
      case atStart => exact ⟨0, rfl, by omega⟩
      case round =>
        obtain ⟨i, rfl, hi⟩ := hrel
        match i with
        | 0 =>
          have c0 := H0.out
          go_wp2
          go_round
          case rel => exact ⟨1, rfl, by omega⟩
          case measure => simp [intOf]
        | 1 =>
          have c1 := H1.out
          go_wp2
          go_round
          case rel => exact ⟨2, rfl, by omega⟩
          case measure => simp [intOf]
        | 2 =>
          go_wp2
          go_ret
          exact ⟨rfl, rfl⟩
        | n + 3 => omega
    · have e1 : (y == 0) = false := by simpa using ey
      have e2 : (y != 0) = true := by simpa using ey
      go_enter Try.func15, Try.ntmps15
      go_wp2
      go_loop [8] (fun vi => ∃ i : Nat, vi = .int .i64 i ∧ i ≤ 1) (fun vi => 2 - (intOf vi).toNat)
      case atStart => exact ⟨0, rfl, by omega⟩
      case round =>
        obtain ⟨i, rfl, hi⟩ := hrel
        match i with
        | 0 =>
          have c0 := H0.out
          go_wp2
          go_round
          case rel => exact ⟨1, rfl, by omega⟩
          case measure => simp [intOf]
        | 1 =>
          have c1 := H1.out
          go_wp2
          go_ret
          exact ⟨rfl, rfl⟩
        | n + 2 => omega
  · have e1 : (x == 0) = false := by simpa using ex
    have e2 : (x != 0) = true := by simpa using ex
    rw [if_neg ex]
    go_enter Try.func15, Try.ntmps15
    go_wp2
    go_loop [8] (fun vi => vi = .int .i64 0) (fun vi => 2 - (intOf vi).toNat)
    case atStart => rfl
    case round =>
      obtain rfl := hrel
      have c0 := H0.out
      go_wp2
      go_ret
      exact ⟨rfl, rfl⟩

/-- a rank above another -/
def hiB (V1 H1 V2 H2 : Int) : Bool := decide (V2 < V1 ∨ V1 = V2 ∧ H2 < H1)
theorem hi_cmp (V1 H1 V2 H2 : Int) : decide (0 < (if cmpI V1 V2 = 0 then cmpI H1 H2 else cmpI V1 V2)) = hiB V1 H1 V2 H2 := by
  unfold hiB cmpI
  congr 1
  apply propext
  repeat' split
  all_goals omega

set_option maxHeartbeats 1000000 in
theorem higher_any (V1 H1 : Int) (B1 : ByteArray) (V2 H2 : Int) (B2 : ByteArray) (w : World) :
    Calls Try.prog 9 #[.agg (mkC V1 H1 B1), .agg (mkC V2 H2 B2)] w fun e w' => e = .returned (.bool (hiB V1 H1 V2 H2)) ∧ Up w w' := by
  have Hc1 := Lib.hid (fun wx => cmp_any V1 V2 wx)
  have Hc2 := Lib.hid (fun wx => cmp_any H1 H2 wx)
  have Hor := Lib.hid (fun g wx h => or_any g (cmpI V1 V2) (cmpI H1 H2) wx h)
  rw [← hi_cmp]
  generalize cmpI V1 V2 = C1 at Hc1 Hor ⊢
  generalize cmpI H1 H2 = C2 at Hc2 Hor ⊢
  generalize (if C1 = 0 then C2 else C1) = C3 at Hor ⊢
  have Hgt : Hid (∀ wx : World, (do eqGuard .gtr 3 (.tmp 16) (.const (.int .i64 0)) (.int .i64 C3) (.int .i64 0); binOp .gtr 3 (.int .i64 C3) (.int .i64 0) : Sem Value).run Try.prog wx = .ok (.bool (decide (0 < C3))) wx) := fun wx => by
    simp [eqGuard, go_sem]
  generalize decide (0 < C3) = D at Hgt ⊢
  have Hbs : Hid (∀ wx : World, (Instr.buildSlice 55 2 #[(0, .int .i64 C1), (1, .int .i64 C2)]).run Try.prog wx = .ok (.slice (some ⟨wx.heap.size, 0, none⟩) 2 2) (wx.alloc (.cells #[.int .i64 C1, .int .i64 C2] 3))) := by
    intro wx
    simp [go_sem]
  unfold mkC
  have ha0 := heap_alloc_new w (.cells #[.int .i64 V1, .int .i64 H1, .string B1] 24)
  have ha := ((Up.alloc (Up.refl (w.alloc (.cells #[.int .i64 V1, .int .i64 H1, .string B1] 24))) (.cells #[.int .i64 V2, .int .i64 H2, .string B2] 24)).block _ (lt_of_block ha0)).trans ha0
  have hb := heap_alloc_new (w.alloc (.cells #[.int .i64 V1, .int .i64 H1, .string B1] 24)) (.cells #[.int .i64 V2, .int .i64 H2, .string B2] 24)
  rw [show (w.alloc (.cells #[.int .i64 V1, .int .i64 H1, .string B1] 24)).heap.size = w.heap.size + 1 by simp] at hb
  have HUz := Lib.hid (Up.alloc (Up.alloc (Up.refl w) (.cells #[.int .i64 V1, .int .i64 H1, .string B1] 24)) (.cells #[.int .i64 V2, .int .i64 H2, .string B2] 24))
  have HA0 := Lib.hid ha
  have HB0 := Lib.hid hb
  clear ha0 ha hb
  go_enter Try.func9, Try.ntmps9
  go_wp2_with fail
  generalize w.heap.size + 1 = BB at HB0 ⊢
  generalize (w.alloc (.cells #[.int .i64 V1, .int .i64 H1, .string B1] 24)).alloc (.cells #[.int .i64 V2, .int .i64 H2, .string B2] 24) = wz at HA0 HB0 HUz ⊢
  generalize w.heap.size = AB at HA0 ⊢
  have HA : Hid (∀ wx, Up wz.drew wx → wx.cell? ⟨AB, 0, none⟩ = some (.int .i64 V1) ∧ wx.cell? ⟨AB, 1, none⟩ = some (.int .i64 H1)) := fun wx hu => by
    have h := (Up.trans (Up.drew1 wz) hu).block _ (lt_of_block HA0.out) |>.trans HA0.out
    exact ⟨(mk_cells h).1, (mk_cells h).2.1⟩
  have HB : Hid (∀ wx, Up wz.drew wx → wx.cell? ⟨BB, 0, none⟩ = some (.int .i64 V2) ∧ wx.cell? ⟨BB, 1, none⟩ = some (.int .i64 H2)) := fun wx hu => by
    have h := (Up.trans (Up.drew1 wz) hu).block _ (lt_of_block HB0.out) |>.trans HB0.out
    exact ⟨(mk_cells h).1, (mk_cells h).2.1⟩
  refine region_alongK (fun x => Up wz.drew x) (.read 0 (.read 1 (.read 2 (.read 3 (.read 5 (.read 6 (.read 7 (.read 8 (.step 4 (.step 9 (.step 10 (.step 11 (.read 12 (.read 13 (.nil))))))))))))))) (by kernel_rfl) rfl (by kernel_rfl) (by kernel_rfl) (fun c a d v w h => by cases d <;> exact h) (Up.refl _) ?_
  refine alongK_read (.pointer (some ⟨AB, 0, none⟩)) rfl rfl (fun wx hS => ex_field rfl rfl wx (by simp [go_sem])) ?_
  change AlongK _ _ _ _ _ { tmps := #[.agg #[.int .i64 V1, .int .i64 H1, .string B1], .agg #[.int .i64 V2, .int .i64 H2, .string B2], .pointer (some ⟨AB, 0, none⟩), .pointer (some ⟨BB, 0, none⟩), .bool false, .pointer (some ⟨AB, 0, none⟩), _, _, _, _, _, _, _, _, _, _, _, _], defers := _ } _
  refine alongK_read (.int .i64 V1) rfl rfl (fun wx hS => ex_load Try.isAgg3 rfl rfl wx ((HA.out wx hS).1)) ?_
  change AlongK _ _ _ _ _ { tmps := #[.agg #[.int .i64 V1, .int .i64 H1, .string B1], .agg #[.int .i64 V2, .int .i64 H2, .string B2], .pointer (some ⟨AB, 0, none⟩), .pointer (some ⟨BB, 0, none⟩), .bool false, .pointer (some ⟨AB, 0, none⟩), .int .i64 V1, _, _, _, _, _, _, _, _, _, _, _], defers := _ } _
  refine alongK_read (.pointer (some ⟨BB, 0, none⟩)) rfl rfl (fun wx hS => ex_field rfl rfl wx (by simp [go_sem])) ?_
  change AlongK _ _ _ _ _ { tmps := #[.agg #[.int .i64 V1, .int .i64 H1, .string B1], .agg #[.int .i64 V2, .int .i64 H2, .string B2], .pointer (some ⟨AB, 0, none⟩), .pointer (some ⟨BB, 0, none⟩), .bool false, .pointer (some ⟨AB, 0, none⟩), .int .i64 V1, .pointer (some ⟨BB, 0, none⟩), _, _, _, _, _, _, _, _, _, _], defers := _ } _
  refine alongK_read (.int .i64 V2) rfl rfl (fun wx hS => ex_load Try.isAgg3 rfl rfl wx ((HB.out wx hS).1)) ?_
  change AlongK _ _ _ _ _ { tmps := #[.agg #[.int .i64 V1, .int .i64 H1, .string B1], .agg #[.int .i64 V2, .int .i64 H2, .string B2], .pointer (some ⟨AB, 0, none⟩), .pointer (some ⟨BB, 0, none⟩), .bool false, .pointer (some ⟨AB, 0, none⟩), .int .i64 V1, .pointer (some ⟨BB, 0, none⟩), .int .i64 V2, _, _, _, _, _, _, _, _, _], defers := _ } _
  refine alongK_read (.pointer (some ⟨AB, 1, none⟩)) rfl rfl (fun wx hS => ex_field rfl rfl wx (by simp [go_sem])) ?_
  change AlongK _ _ _ _ _ { tmps := #[.agg #[.int .i64 V1, .int .i64 H1, .string B1], .agg #[.int .i64 V2, .int .i64 H2, .string B2], .pointer (some ⟨AB, 0, none⟩), .pointer (some ⟨BB, 0, none⟩), .bool false, .pointer (some ⟨AB, 0, none⟩), .int .i64 V1, .pointer (some ⟨BB, 0, none⟩), .int .i64 V2, _, .pointer (some ⟨AB, 1, none⟩), _, _, _, _, _, _, _], defers := _ } _
  refine alongK_read (.int .i64 H1) rfl rfl (fun wx hS => ex_load Try.isAgg3 rfl rfl wx ((HA.out wx hS).2)) ?_
  change AlongK _ _ _ _ _ { tmps := #[.agg #[.int .i64 V1, .int .i64 H1, .string B1], .agg #[.int .i64 V2, .int .i64 H2, .string B2], .pointer (some ⟨AB, 0, none⟩), .pointer (some ⟨BB, 0, none⟩), .bool false, .pointer (some ⟨AB, 0, none⟩), .int .i64 V1, .pointer (some ⟨BB, 0, none⟩), .int .i64 V2, _, .pointer (some ⟨AB, 1, none⟩), .int .i64 H1, _, _, _, _, _, _], defers := _ } _
  refine alongK_read (.pointer (some ⟨BB, 1, none⟩)) rfl rfl (fun wx hS => ex_field rfl rfl wx (by simp [go_sem])) ?_
  change AlongK _ _ _ _ _ { tmps := #[.agg #[.int .i64 V1, .int .i64 H1, .string B1], .agg #[.int .i64 V2, .int .i64 H2, .string B2], .pointer (some ⟨AB, 0, none⟩), .pointer (some ⟨BB, 0, none⟩), .bool false, .pointer (some ⟨AB, 0, none⟩), .int .i64 V1, .pointer (some ⟨BB, 0, none⟩), .int .i64 V2, _, .pointer (some ⟨AB, 1, none⟩), .int .i64 H1, .pointer (some ⟨BB, 1, none⟩), _, _, _, _, _], defers := _ } _
  refine alongK_read (.int .i64 H2) rfl rfl (fun wx hS => ex_load Try.isAgg3 rfl rfl wx ((HB.out wx hS).2)) ?_
  change AlongK _ _ _ _ _ { tmps := #[.agg #[.int .i64 V1, .int .i64 H1, .string B1], .agg #[.int .i64 V2, .int .i64 H2, .string B2], .pointer (some ⟨AB, 0, none⟩), .pointer (some ⟨BB, 0, none⟩), .bool false, .pointer (some ⟨AB, 0, none⟩), .int .i64 V1, .pointer (some ⟨BB, 0, none⟩), .int .i64 V2, _, .pointer (some ⟨AB, 1, none⟩), .int .i64 H1, .pointer (some ⟨BB, 1, none⟩), .int .i64 H2, _, _, _, _], defers := _ } _
  refine alongK_step ?_
  refine opK_call (vs := [.int .i64 V1, .int .i64 V2]) rfl rfl rfl (enters_of Try.func16 (by kernel_rfl) rfl) rfl ?_
  with_reducible refine Calls.mono (Hc1.out _) ?_
  rintro e w4 ⟨rfl, hw4⟩
  subst hw4
  refine ⟨_, rfl, (fun x => Up wz.drew x), (fun x hx => hx), (Up.refl _), ?_⟩
  change AlongK _ _ _ _ _ { tmps := #[.agg #[.int .i64 V1, .int .i64 H1, .string B1], .agg #[.int .i64 V2, .int .i64 H2, .string B2], .pointer (some ⟨AB, 0, none⟩), .pointer (some ⟨BB, 0, none⟩), .bool false, .pointer (some ⟨AB, 0, none⟩), .int .i64 V1, .pointer (some ⟨BB, 0, none⟩), .int .i64 V2, .int .i64 C1, .pointer (some ⟨AB, 1, none⟩), .int .i64 H1, .pointer (some ⟨BB, 1, none⟩), .int .i64 H2, _, _, _, _], defers := _ } _
  refine alongK_step ?_
  refine opK_call (vs := [.int .i64 H1, .int .i64 H2]) rfl rfl rfl (enters_of Try.func16 (by kernel_rfl) rfl) rfl ?_
  with_reducible refine Calls.mono (Hc2.out _) ?_
  rintro e w9 ⟨rfl, hw9⟩
  subst hw9
  refine ⟨_, rfl, (fun x => Up wz.drew x), (fun x hx => hx), (Up.refl _), ?_⟩
  change AlongK _ _ _ _ _ { tmps := #[.agg #[.int .i64 V1, .int .i64 H1, .string B1], .agg #[.int .i64 V2, .int .i64 H2, .string B2], .pointer (some ⟨AB, 0, none⟩), .pointer (some ⟨BB, 0, none⟩), .bool false, .pointer (some ⟨AB, 0, none⟩), .int .i64 V1, .pointer (some ⟨BB, 0, none⟩), .int .i64 V2, .int .i64 C1, .pointer (some ⟨AB, 1, none⟩), .int .i64 H1, .pointer (some ⟨BB, 1, none⟩), .int .i64 H2, .int .i64 C2, _, _, _], defers := _ } _
  refine alongK_step ?_
  have hrun10 := Hbs.out wz.drew
  refine opK_run (.slice (some ⟨wz.drew.heap.size, 0, none⟩) 2 2) _ rfl rfl (ex_slice2 _ _ hrun10 rfl rfl rfl) (fun x => Up (wz.drew.alloc (.cells #[.int .i64 C1, .int .i64 C2] 3)) x) (fun x hx => Up.trans (Up.alloc (Up.refl wz.drew) _) hx) (Up.refl _) ?_
  change AlongK _ _ _ _ _ { tmps := #[.agg #[.int .i64 V1, .int .i64 H1, .string B1], .agg #[.int .i64 V2, .int .i64 H2, .string B2], .pointer (some ⟨AB, 0, none⟩), .pointer (some ⟨BB, 0, none⟩), .bool false, .pointer (some ⟨AB, 0, none⟩), .int .i64 V1, .pointer (some ⟨BB, 0, none⟩), .int .i64 V2, .int .i64 C1, .pointer (some ⟨AB, 1, none⟩), .int .i64 H1, .pointer (some ⟨BB, 1, none⟩), .int .i64 H2, .int .i64 C2, .slice (some ⟨wz.drew.heap.size, 0, none⟩) 2 2, _, _], defers := _ } _
  have hU0 := Up.alloc (Up.drew1 wz) (.cells #[.int .i64 C1, .int .i64 C2] 3)
  have HB5 := Lib.hid (heap_alloc_new wz.drew (.cells #[.int .i64 C1, .int .i64 C2] 3))
  generalize wz.drew.heap.size = b5 at HB5 ⊢
  generalize wz.drew.alloc (.cells #[.int .i64 C1, .int .i64 C2] 3) = w5 at HB5 hU0 ⊢
  refine alongK_step ?_
  refine opK_call (vs := [.slice (some ⟨b5, 0, none⟩) 2 2]) rfl rfl rfl (enters_of Try.func15 (by kernel_rfl) rfl) rfl ?_
  with_reducible refine Calls.mono (Hor.out b5 w5 HB5.out) ?_
  rintro e w11 ⟨rfl, hw11⟩
  have hq11 := hw11.symm
  subst hq11
  refine ⟨_, rfl, (fun x => Up w5 x), (fun x hx => hx), (Up.refl _), ?_⟩
  change AlongK _ _ _ _ _ { tmps := #[.agg #[.int .i64 V1, .int .i64 H1, .string B1], .agg #[.int .i64 V2, .int .i64 H2, .string B2], .pointer (some ⟨AB, 0, none⟩), .pointer (some ⟨BB, 0, none⟩), .bool false, .pointer (some ⟨AB, 0, none⟩), .int .i64 V1, .pointer (some ⟨BB, 0, none⟩), .int .i64 V2, .int .i64 C1, .pointer (some ⟨AB, 1, none⟩), .int .i64 H1, .pointer (some ⟨BB, 1, none⟩), .int .i64 H2, .int .i64 C2, .slice (some ⟨b5, 0, none⟩) 2 2, .int .i64 C3, _], defers := _ } _
  refine alongK_read (.bool D) rfl rfl (fun wx hS => ex_bin rfl rfl rfl wx (Hgt.out wx)) ?_
  change AlongK _ _ _ _ _ { tmps := #[.agg #[.int .i64 V1, .int .i64 H1, .string B1], .agg #[.int .i64 V2, .int .i64 H2, .string B2], .pointer (some ⟨AB, 0, none⟩), .pointer (some ⟨BB, 0, none⟩), .bool false, .pointer (some ⟨AB, 0, none⟩), .int .i64 V1, .pointer (some ⟨BB, 0, none⟩), .int .i64 V2, .int .i64 C1, .pointer (some ⟨AB, 1, none⟩), .int .i64 H1, .pointer (some ⟨BB, 1, none⟩), .int .i64 H2, .int .i64 C2, .slice (some ⟨b5, 0, none⟩) 2 2, .int .i64 C3, .bool D], defers := _ } _
  refine alongK_read (.bool D) rfl rfl (fun wx hS => ex_assign (by rfl) (by rfl) wx) ?_
  change AlongK _ _ _ _ _ { tmps := #[.agg #[.int .i64 V1, .int .i64 H1, .string B1], .agg #[.int .i64 V2, .int .i64 H2, .string B2], .pointer (some ⟨AB, 0, none⟩), .pointer (some ⟨BB, 0, none⟩), .bool D, .pointer (some ⟨AB, 0, none⟩), .int .i64 V1, .pointer (some ⟨BB, 0, none⟩), .int .i64 V2, .int .i64 C1, .pointer (some ⟨AB, 1, none⟩), .int .i64 H1, .pointer (some ⟨BB, 1, none⟩), .int .i64 H2, .int .i64 C2, .slice (some ⟨b5, 0, none⟩) 2 2, .int .i64 C3, .bool D], defers := _ } _
  refine alongK_done ?_
  go_wp2
  go_ret
  exact ⟨rfl, Up.trans HUz.out hU0⟩
end
end Go.Proofs.Ytnnjoeppcbbblaa
