import Derived.WalkKit
import Derived.Test.YtgmicppfiapilaaDoorSgNewK
/-
  signer: what single operations on keys do.
-/
namespace Go.Proofs.YtgmicppfiapilaaDoor
set_option maxRecDepth 100000
section
set_option linter.unusedVariables false
open Go.RowKit
theorem fld_seed (b : Nat) (w : World) : (Instr.fieldAt 27 (.pointer (some ⟨b, 0, none⟩)) 0).run Tryd.prog w = .ok (.pointer (some ⟨b, 0, none⟩)) w := by simp [go_sem]
theorem fld_leaves (b : Nat) (w : World) : (Instr.fieldAt 27 (.pointer (some ⟨b, 0, none⟩)) 1).run Tryd.prog w = .ok (.pointer (some ⟨b, 1, none⟩)) w := by simp [go_sem]
theorem fld_next (b : Nat) (w : World) : (Instr.fieldAt 27 (.pointer (some ⟨b, 0, none⟩)) 2).run Tryd.prog w = .ok (.pointer (some ⟨b, 2, none⟩)) w := by simp [go_sem]
theorem bld_one (s : ByteArray) (w : World) : (Instr.buildSlice 25 1 #[(0, .string s)]).run Tryd.prog w = .ok (.slice (some ⟨w.heap.size, 0, none⟩) 1 1) (w.alloc (.cells #[.string s] 9)) := by
  simp [go_sem]
theorem bld_three (a0 a1 a2 : Option Addr) (n0 c0 n1 c1 n2 c2 : Nat) (w : World) : (Instr.buildSlice 98 3 #[(0, .slice a0 n0 c0), (1, .slice a1 n1 c1), (2, .slice a2 n2 c2)]).run Tryd.prog w = .ok (.slice (some ⟨w.heap.size, 0, none⟩) 3 3) (w.alloc (.cells #[.slice a0 n0 c0, .slice a1 n1 c1, .slice a2 n2 c2] 25)) := by
  simp [go_sem]
theorem bld_key (s : ByteArray) (a0 : Option Addr) (n0 c0 : Nat) (m : Int) (w : World) : (Instr.build 27 #[(0, .string s), (1, .slice a0 n0 c0), (2, .int .i64 m)]).run Tryd.prog w = .ok (.agg #[.string s, .slice a0 n0 c0, .int .i64 m]) w := by
  simp [go_sem]
theorem alloc_key (w : World) : (Instr.alloc 27 true (.tuple #[])).run Tryd.prog w = .ok (.pointer (some ⟨w.heap.size, 0, none⟩)) (w.alloc (.cells noKey 27)) := by
  simp [go_sem, noKey]
theorem add_one (x y : Operand) (m : Nat) (hm : m ≤ 1000) (w : World) : (do eqGuard .add 3 x y (.int .i64 m) (.int .i64 1); binOp .add 3 (.int .i64 m) (.int .i64 1) : Sem Value).run Tryd.prog w = .ok (.int .i64 ((m + 1 : Nat) : Int)) w := by
  simp [eqGuard, go_sem]
  rw [IntKind.wrap_i64]
  omega
end
end Go.Proofs.YtgmicppfiapilaaDoor
