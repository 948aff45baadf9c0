import Derived.WalkKit
import Derived.Test.YtfenmhddlojahaaGreatSgNew
import Derived.Test.YtfenmhddlojahaaGreatPow2
namespace Go.Proofs.YtfenmhddlojahaaGreat
/-
  signer: which keys may be; Check.
-/
section
set_option maxRecDepth 100000
section
set_option linter.unusedVariables false
open Go.RowKit

/-- each text has eight octets -/
def All8 (ls : List (List Int)) : Prop := ∀ k, k < ls.length → (ls[k]?.getD []).length = 8
/-- A KEY MAY BE. -/
structure KeyOk (seed : List Int) (ls : List (List Int)) (next : Int) : Prop where
  seed : seed.length ≤ 64
  pow : ls.length = 1 ∨ ls.length = 2 ∨ ls.length = 4 ∨ ls.length = 8 ∨ ls.length = 16
  eight : All8 ls
  lo : 0 ≤ next
  hi : next ≤ ls.length

theorem pow16 (n : Nat) (h : n ≤ 16) : (∃ K, n = 2 ^ K) ↔ (n = 1 ∨ n = 2 ∨ n = 4 ∨ n = 8 ∨ n = 16) := by
  constructor
  · rintro ⟨K, rfl⟩
    have hK : K ≤ 4 := by
      rcases Nat.lt_or_ge 4 K with h5 | h5
      · have := Nat.pow_le_pow_right (n := 2) (by omega) h5; omega
      · exact h5
    have : K = 0 ∨ K = 1 ∨ K = 2 ∨ K = 3 ∨ K = 4 := by omega
    rcases this with rfl | rfl | rfl | rfl | rfl <;> decide
  · rintro (rfl | rfl | rfl | rfl | rfl)
    · exact ⟨0, rfl⟩
    · exact ⟨1, rfl⟩
    · exact ⟨2, rfl⟩
    · exact ⟨3, rfl⟩
    · exact ⟨4, rfl⟩

/-- what IndexFunc answers -/
def Found (ls : List (List Int)) (w : World) (e : Ending) (w' : World) : Prop := (∃ r : Int, e = .returned (.int .i64 r) ∧ ((All8 ls ∧ r = -1) ∨ (¬ All8 ls ∧ 0 ≤ r))) ∧ w = w'

end
end

/-
  signer: Check.
-/
section
set_option maxRecDepth 100000
section
set_option linter.unusedVariables false
open Go.RowKit

theorem leaves16 (w : World) : Calls Tryz.prog 108 #[.int .i64 4] w fun e w' => e = .returned (.int .i64 16) ∧ w = w' :=
  leavesOf_any 4 w (Nat.le_refl _)

theorem Strs.alloc {W : World} {v : Value} {ls : List (List Int)} (h : Strs W v ls) (o : Obj) : Strs (W.alloc o) v ls := h.up (Up.alloc (Up.refl W) o)

end
end

/-
  signer: what single operations on keys do.
-/
section
set_option maxRecDepth 100000
section
set_option linter.unusedVariables false
open Go.RowKit
theorem bld_one (s : ByteArray) (w : World) : (Instr.buildSlice 25 1 #[(0, .string s)]).run Tryz.prog w = .ok (.slice (some ⟨w.heap.size, 0, none⟩) 1 1) (w.alloc (.cells #[.string s] 9)) := by
  simp [go_sem]
theorem add_one (x y : Operand) (m : Nat) (hm : m ≤ 1000) (w : World) : (do eqGuard .add 3 x y (.int .i64 m) (.int .i64 1); binOp .add 3 (.int .i64 m) (.int .i64 1) : Sem Value).run Tryz.prog w = .ok (.int .i64 ((m + 1 : Nat) : Int)) w := by
  simp [eqGuard, go_sem]
  rw [IntKind.wrap_i64]
  omega
end
end
end Go.Proofs.YtfenmhddlojahaaGreat
