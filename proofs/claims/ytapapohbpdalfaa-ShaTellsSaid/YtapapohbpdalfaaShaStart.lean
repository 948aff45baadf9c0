import Derived.Great.BuildSlice
import Derived.Test.YtapapohbpdalfaaShaTake
/-
  The first words.
-/
namespace Go.Proofs.Ytapapohbpdalfaa
set_option linter.unusedVariables false
open Go.RowKit

theorem size_state : (Try.prog.info? 39).map (·.size) = some 8 := by kernel_rfl
theorem size_u32 : (Try.prog.info? 36).map (·.size) = some 1 := by kernel_rfl
theorem zero_state : ((Try.prog.info? 39).bind (·.zero)).map (·.cells.size) = some 8 := by kernel_rfl
theorem zero_arr64 : ((Try.prog.info? 41).bind (·.zero)).map (·.cells.size) = some 64 := by kernel_rfl

set_option maxRecDepth 100000 in
set_option maxHeartbeats 1000000 in
theorem start_any (w : World) : Calls Try.prog 19 #[] w fun e w' => e = .returned (.agg (hSt.list.map (Value.int .u32)).toArray) ∧ Below w.heap.size w w' := by
  go_enter Try.func19, Try.ntmps19
  go_wp2_with (first | (refine wpList_buildFlatArr rfl 39 36 8 _ rfl .u32 hSt.list Try.underlying39 size_u32 zero_state rfl ?_) | (refine wpList_store_arr rfl 39 (.tmp 0) (.tmp 1) rfl w.heap.size (List.replicate 8 0) hSt.list rfl rfl 39 (Arr.new w 39 (List.replicate 8 0)) (by rw [size_state]; rfl) rfl ?_; intro w2 hA2 hG2))
  exact bodyPost_ret (results_cell_row rfl _ _ w.heap.size 39 _ (0, 0) _ rfl hA2 Try.underlying39 rfl (by rw [size_state]; rfl)) rfl ⟨rfl, ((Below.refl _ w).alloc (Nat.le_refl _) _).grown hG2 (by simp) (fun j e => by cases e; exact Nat.le_refl _)⟩

set_option maxRecDepth 100000 in
set_option maxHeartbeats 1000000 in
theorem constants_any (w : World) : Calls Try.prog 20 #[] w fun e w' => e = .returned (.agg (kL.map (Value.int .u32)).toArray) ∧ Below w.heap.size w w' := by
  go_enter Try.func20, Try.ntmps20
  go_wp2_with (first | (refine wpList_buildFlatArr rfl 41 36 64 _ rfl .u32 kL Try.underlying41 size_u32 zero_arr64 rfl ?_) | (refine wpList_store_arr rfl 41 (.tmp 0) (.tmp 1) rfl w.heap.size (List.replicate 64 0) kL rfl rfl 41 (Arr.new w 41 (List.replicate 64 0)) (by rw [size_arr64]; rfl) rfl ?_; intro w2 hA2 hG2))
  exact bodyPost_ret (results_cell_row rfl _ _ w.heap.size 41 _ (0, 0) _ rfl hA2 Try.underlying41 rfl (by rw [size_arr64]; rfl)) rfl ⟨rfl, ((Below.refl _ w).alloc (Nat.le_refl _) _).grown hG2 (by simp) (fun j e => by cases e; exact Nat.le_refl _)⟩
end Go.Proofs.Ytapapohbpdalfaa
