import Derived.Test.YtnipkhgaceicbaaGdEnter
/-
  mootlaw17.alive.
-/
namespace Go.Proofs.Ytnipkhgaceicbaa
set_option maxRecDepth 100000
section
set_option linter.unusedVariables false
open Go.RowKit Go.Sort Go.Lib

theorem gen_size : (strOfNums gen32).size = 32 := by rw [strOfNums_size]; kernel_rfl
set_option maxHeartbeats 1000000 in
theorem gdAlive_any (w : World) : Calls Try.prog 5 #[] w fun e w' => e = .returned (.bool true) ∧ Up w w' := by
  have HBg := Lib.hid (fun wx => begin_any wx)
  have HE0 : Hid (∀ wx, Calls Try.prog 9 #[.agg (gsA gs0), .int .i64 0] wx fun e w' => e = .returned (.tuple #[.agg (gsA gs0), .bool false]) ∧ Up wx w') := Lib.hid fun wx => enter_any gs0 0 wx
  have HE3 : Hid (∀ wx, Calls Try.prog 9 #[.agg (gsA gs0), .int .i64 3] wx fun e w' => e = .returned (.tuple #[.agg (gsA (enterG gs0 3)), .bool true]) ∧ Up wx w') := Lib.hid fun wx => enter_any gs0 3 wx
  have hsz : (gsA gs0).size = 11 := rfl
  have hone := gsA_one gs0
  have hsz3 : (gsA (enterG gs0 3)).size = 11 := rfl
  have hone3 := gsA_one (enterG gs0 3)
  have hc9 : (gsA gs0)[9]? = some (.string (strOfNums gen32)) := rfl
  have hc0 : (gsA (enterG gs0 3))[0]? = some (.int .i64 3) := rfl
  have hgs := gen_size
  generalize gsA gs0 = c0 at *
  generalize gsA (enterG gs0 3) = c3 at *
  generalize strOfNums gen32 = GS at *
  go_enter Try.func5, Try.ntmps5
  go_wp2_with fail
  with_reducible refine Calls.mono (HBg.out _) ?_
  rintro e w1 ⟨rfl, hU1⟩
  have HU1 := Lib.hid (Up.alloc hU1 (.cells c0 28))
  have HA1 := Lib.hid (heap_alloc_new w1 (.cells c0 28))
  clear hU1
  go_wp2_with (first | (refine wpList_exs rfl (w1.alloc (.cells c0 28)) (ex_fillG (x := .tmp 1) (y := .tmp 6) rfl rfl rfl (by rw [info_gs, hsz]) (by rw [hsz]; rfl) hone) ?_) | (refine wpList_ex rfl (.agg c0) _ (ex_loadrow (x := .tmp 1) rfl rfl _ 28 HA1.out Try.underlying28 rfl (by rw [info_gs, hsz])) ?_))
  generalize w1.alloc (.cells c0 28) = wa at HA1 HU1 ⊢
  generalize w1.heap.size = A at HA1 ⊢
  with_reducible refine Calls.mono (HE0.out _) ?_
  rintro e w2 ⟨rfl, hU2⟩
  have hUa := Up.alloc hU2 (.cells c0 28)
  have HU2 := Lib.hid (HU1.out.trans hUa)
  have HA2 := Lib.hid ((hUa.block _ (lt_of_block HA1.out)).trans HA1.out)
  clear hU2 hUa HU1 HA1
  go_wp2_with (first | (refine wpList_exs rfl (w2.alloc (.cells c0 28)) (ex_fillG (x := .tmp 2) (y := .tmp 10) rfl rfl rfl (by rw [info_gs, hsz]) (by rw [hsz]; rfl) hone) ?_) | (refine wpList_ex rfl (.agg c0) _ (ex_loadrow (x := .tmp 1) rfl rfl _ 28 HA2.out Try.underlying28 rfl (by rw [info_gs, hsz])) ?_))
  generalize w2.alloc (.cells c0 28) = wb at HA2 HU2 ⊢
  with_reducible refine Calls.mono (HE3.out _) ?_
  rintro e w3 ⟨rfl, hU3⟩
  have hUa := Up.alloc hU3 (.cells c3 28)
  have HU3 := Lib.hid (HU2.out.trans hUa)
  have HA3 := Lib.hid ((hUa.block _ (lt_of_block HA2.out)).trans HA2.out)
  have hl9 : (w3.alloc (.cells c3 28)).cell? ⟨A, 9, none⟩ = some (.string GS) := by rw [cell_of_row _ _ 9 _ _ _ HA3.out]; exact hc9
  have hl0 : (w3.alloc (.cells c3 28)).cell? ⟨w3.heap.size, 0, none⟩ = some (.int .i64 3) := by rw [cell_of_row _ _ 0 _ _ _ (heap_alloc_new w3 (.cells c3 28))]; exact hc0
  clear hU3 hUa HU2 HA2
  go_upto_region 4 with (refine wpList_exs rfl (w3.alloc (.cells c3 28)) (ex_fillG (x := .tmp 4) (y := .tmp 15) rfl rfl rfl (by rw [info_gs, hsz3]) (by rw [hsz3]; rfl) hone3) ?_)
  generalize w3.alloc (.cells c3 28) = wc at HA3 HU3 hl9 hl0 ⊢
  go_wp2
  go_ret
  exact ⟨rfl, HU3.out⟩
end
end Go.Proofs.Ytnipkhgaceicbaa
