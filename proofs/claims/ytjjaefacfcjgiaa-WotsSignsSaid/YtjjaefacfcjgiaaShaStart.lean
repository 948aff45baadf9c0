import Derived.Great.BuildSlice
import Derived.Test.YtjjaefacfcjgiaaShaTake
/-
  The first words.
-/
namespace Go.Proofs.Ytjjaefacfcjgiaa
set_option linter.unusedVariables false
open Go.RowKit

theorem size_state : (Try.prog.info? 51).map (·.size) = some 8 := by kernel_rfl
theorem size_u32 : (Try.prog.info? 49).map (·.size) = some 1 := by kernel_rfl
theorem zero_state : ((Try.prog.info? 51).bind (·.zero)).map (·.cells.size) = some 8 := by kernel_rfl
theorem zero_arr64 : ((Try.prog.info? 53).bind (·.zero)).map (·.cells.size) = some 64 := by kernel_rfl

set_option maxRecDepth 100000 in
set_option maxHeartbeats 1000000 in
theorem start_any (w : World) : Calls Try.prog 34 #[] w fun e w' => e = .returned (.agg (hSt.list.map (Value.int .u32)).toArray) ∧ Below w.heap.size w w' := by
  go_enter Try.func34, Try.ntmps34
  go_wp2_with (first | (refine wpList_buildFlatArr rfl 51 49 8 _ rfl .u32 hSt.list Try.underlying51 size_u32 zero_state rfl ?_) | (refine wpList_store_arr rfl 51 (.tmp 0) (.tmp 1) rfl w.heap.size (List.replicate 8 0) hSt.list rfl rfl 51 (Arr.new w 51 (List.replicate 8 0)) (by rw [size_state]; rfl) rfl ?_; intro w2 hA2 hG2))
  exact bodyPost_ret (results_cell_row rfl _ _ w.heap.size 51 _ (0, 0) _ rfl hA2 Try.underlying51 rfl (by rw [size_state]; rfl)) rfl ⟨rfl, ((Below.refl _ w).alloc (Nat.le_refl _) _).grown hG2 (by simp) (fun j e => by cases e; exact Nat.le_refl _)⟩

set_option maxRecDepth 100000 in
set_option maxHeartbeats 1000000 in
theorem constants_any (w : World) : Calls Try.prog 35 #[] w fun e w' => e = .returned (.agg (kL.map (Value.int .u32)).toArray) ∧ Below w.heap.size w w' := by
  go_enter Try.func35, Try.ntmps35
  go_wp2_with (first | (refine wpList_buildFlatArr rfl 53 49 64 _ rfl .u32 kL Try.underlying53 size_u32 zero_arr64 rfl ?_) | (refine wpList_store_arr rfl 53 (.tmp 0) (.tmp 1) rfl w.heap.size (List.replicate 64 0) kL rfl rfl 53 (Arr.new w 53 (List.replicate 64 0)) (by rw [size_arr64]; rfl) rfl ?_; intro w2 hA2 hG2))
  exact bodyPost_ret (results_cell_row rfl _ _ w.heap.size 53 _ (0, 0) _ rfl hA2 Try.underlying53 rfl (by rw [size_arr64]; rfl)) rfl ⟨rfl, ((Below.refl _ w).alloc (Nat.le_refl _) _).grown hG2 (by simp) (fun j e => by cases e; exact Nat.le_refl _)⟩
end Go.Proofs.Ytjjaefacfcjgiaa
