import Derived.WalkKit
import Derived.Test.YtgmicppfiapilaaSgNewK
/-
  signer: what single operations on keys do.
-/
namespace Go.Proofs.Ytgmicppfiapilaa
set_option maxRecDepth 100000
section
set_option linter.unusedVariables false
open Go.RowKit
theorem fld_seed (b : Nat) (w : World) : (Instr.fieldAt 24 (.pointer (some ⟨b, 0, none⟩)) 0).run Try.prog w = .ok (.pointer (some ⟨b, 0, none⟩)) w := by simp [go_sem]
theorem fld_leaves (b : Nat) (w : World) : (Instr.fieldAt 24 (.pointer (some ⟨b, 0, none⟩)) 1).run Try.prog w = .ok (.pointer (some ⟨b, 1, none⟩)) w := by simp [go_sem]
theorem fld_next (b : Nat) (w : World) : (Instr.fieldAt 24 (.pointer (some ⟨b, 0, none⟩)) 2).run Try.prog w = .ok (.pointer (some ⟨b, 2, none⟩)) w := by simp [go_sem]
theorem bld_one (s : ByteArray) (w : World) : (Instr.buildSlice 22 1 #[(0, .string s)]).run Try.prog w = .ok (.slice (some ⟨w.heap.size, 0, none⟩) 1 1) (w.alloc (.cells #[.string s] 9)) := by
  simp [go_sem]
theorem bld_key (s : ByteArray) (a0 : Option Addr) (n0 c0 : Nat) (m : Int) (w : World) : (Instr.build 24 #[(0, .string s), (1, .slice a0 n0 c0), (2, .int .i64 m)]).run Try.prog w = .ok (.agg #[.string s, .slice a0 n0 c0, .int .i64 m]) w := by
  simp [go_sem]
theorem alloc_key (w : World) : (Instr.alloc 24 true (.tuple #[])).run Try.prog w = .ok (.pointer (some ⟨w.heap.size, 0, none⟩)) (w.alloc (.cells noKey 24)) := by
  simp [go_sem, noKey]
theorem add_one (x y : Operand) (m : Nat) (hm : m ≤ 1000) (w : World) : (do eqGuard .add 3 x y (.int .i64 m) (.int .i64 1); binOp .add 3 (.int .i64 m) (.int .i64 1) : Sem Value).run Try.prog w = .ok (.int .i64 ((m + 1 : Nat) : Int)) w := by
  simp [eqGuard, go_sem]
  rw [IntKind.wrap_i64]
  omega
end
end Go.Proofs.Ytgmicppfiapilaa
