import Derived.Test.YtgmicppfiapilaaDoorAlongX
/-
  What more single operations do, apart from the walk.
-/
namespace Go.Proofs.YtgmicppfiapilaaDoor
set_option maxRecDepth 100000
section
set_option linter.unusedVariables false
open Go.RowKit
variable {P : Program} {o : Oper} {x y z : Operand} {ρ : Operand → Value} {v : Value}

theorem ex_eqs {t t' : TypeId} {s : ByteArray} (hop : o.op = .binOp .eql t x y t') (hx : ρ x = .string s) (hy : ρ y = .string s) (w : World) : (execOp ρ o).run P w = .ok (.value (.bool true)) w := by
  unfold execOp; rw [hop]; simp only [hx, hy]; simp [go_sem]
theorem ex_lensl {t e : TypeId} {ad : Option Addr} {n c : Nat} (hu : P.underlying t = some (.slice e)) (hop : o.op = .call { callee := .builtin .len, args := #[x], argTypes := #[t] }) (hx : ρ x = .slice ad n c) (w : World) :
    (execOp ρ o).run P w = .ok (.value (.int .i64 n)) w := by
  have hl : (Builtin.len_ #[t] o.type #[Value.slice ad n c]).run P w = .ok (.int .i64 n) w := by simp [Builtin.len_, run_underlying hu, goInt]
  unfold execOp; rw [hop]; simp only [resolve, List.map_toArray, List.map_cons, List.map_nil, hx]; simp [invoke, go_sem, hl, Result.andThen]
theorem ex_lens {t : TypeId} {s : ByteArray} (hu : P.underlying t = some .string) (hop : o.op = .call { callee := .builtin .len, args := #[x], argTypes := #[t] }) (hx : ρ x = .string s) (w : World) :
    (execOp ρ o).run P w = .ok (.value (.int .i64 s.size)) w := by
  have hl : (Builtin.len_ #[t] o.type #[Value.string s]).run P w = .ok (.int .i64 s.size) w := by simp [Builtin.len_, run_underlying hu, goInt]
  unfold execOp; rw [hop]; simp only [resolve, List.map_toArray, List.map_cons, List.map_nil, hx]; simp [invoke, go_sem, hl, Result.andThen]
theorem ex_extr {k : Nat} {cs : Array Value} (hop : o.op = .extract x k) (hx : ρ x = .tuple cs) (hk : cs[k]? = some v) (w : World) : (execOp ρ o).run P w = .ok (.value v) w := by
  unfold execOp; rw [hop]; simp only [hx]
  simp [Instr.extract, hk]
end
end Go.Proofs.YtgmicppfiapilaaDoor
