import Derived.Lib.Strings
import Derived.Test.YtapapohbpdalfaaGrow
/-
  More operations along a plan: len and [:k] of a string.
-/
namespace Go.Proofs.Ytapapohbpdalfaa
set_option linter.unusedVariables false
open Go.RowKit
section
variable {P : Program} {ops : Array Oper} {Q : Exit → Act → World → Prop} {md : Region.Mode}
variable {r : List (Nat × Bool)} {i : Nat} {o : Oper} {a : Act} {w : World} {x y z : Operand} {v : Value}

theorem along_lens {t : TypeId} {s : ByteArray} (hu : P.underlying t = some .string) (ho : ops[i]? = some o) (hop : o.op = .call { callee := .builtin .len, args := #[x], argTypes := #[t] }) (hx : a.eval x = .string s) (hw : Region.wanted o (yielded ops a.tmps) = true)
    (h : Along P ops Q r (a.put o.dst (.int .i64 s.size)) w) : Along P ops Q ((i, true) :: r) a w :=
  along_read ho hw (fun w' _ => by
    have hl : (Builtin.len_ #[t] o.type #[Value.string s]).run P w' = .ok (.int .i64 s.size) w' := by simp [Builtin.len_, run_underlying hu, goInt]
    unfold execOp; rw [hop]; simp only [resolve, List.map_toArray, List.map_cons, List.map_nil, hx]; simp [invoke, go_sem, hl, Result.andThen]) h
theorem along_slices {t : TypeId} {s : ByteArray} {k : Nat} {kk : Int} (hkk : kk = k) (hk : k ≤ s.size) (hu : P.underlying t = some .string) (ho : ops[i]? = some o) (hop : o.op = .slice t x none (some (.const (.int .i64 kk))) none) (hx : a.eval x = .string s) (hw : Region.wanted o (yielded ops a.tmps) = true)
    (h : Along P ops Q r (a.put o.dst (.string (s.extract 0 k))) w) : Along P ops Q ((i, true) :: r) a w :=
  along_read ho hw (fun w' _ => by
    subst hkk
    have hl : (Instr.sliceAt t (Value.string s) none (some (Value.int IntKind.i64 k)) none).run P w' = .ok (.string (s.extract 0 k)) w' := by
      have h2 := run_slice_string_to_if (P := P) (w := w') t s .i64 k hu
      rw [if_pos (by omega)] at h2
      unfold Instr.sliceAt
      simp only [Sem.run_bind, run_underlying hu, Result.andThen_ok]
      rw [h2]; simp
    unfold execOp; rw [hop]; simp only [hx]; simp [go_sem, hl, Result.andThen]) h
theorem along_lensl {t e : TypeId} {ad : Option Addr} {n c : Nat} (hu : P.underlying t = some (.slice e)) (ho : ops[i]? = some o) (hop : o.op = .call { callee := .builtin .len, args := #[x], argTypes := #[t] }) (hx : a.eval x = .slice ad n c) (hw : Region.wanted o (yielded ops a.tmps) = true)
    (h : Along P ops Q r (a.put o.dst (.int .i64 n)) w) : Along P ops Q ((i, true) :: r) a w :=
  along_read ho hw (fun w' _ => by
    have hl : (Builtin.len_ #[t] o.type #[Value.slice ad n c]).run P w' = .ok (.int .i64 n) w' := by simp [Builtin.len_, run_underlying hu, goInt]
    unfold execOp; rw [hop]; simp only [resolve, List.map_toArray, List.map_cons, List.map_nil, hx]; simp [invoke, go_sem, hl, Result.andThen]) h
/-- a remainder of numbers that are not negative -/
theorem along_rem {t t' : TypeId} {p q s : Int} (hp : 0 ≤ p) (hq : 0 < q) (hs : p % q = s) (ho : ops[i]? = some o) (hop : o.op = .binOp .rem t x y t') (hx : a.eval x = .int .i64 p) (hy : a.eval y = .int .i64 q) (hw : Region.wanted o (yielded ops a.tmps) = true)
    (h : Along P ops Q r (a.put o.dst (.int .i64 s)) w) : Along P ops Q ((i, true) :: r) a w :=
  along_read ho hw (fun w' _ => by
    have hq0 : ¬ q = 0 := by omega
    have e : p.tmod q = s := by rw [Int.tmod_eq_emod_of_nonneg hp, hs]
    unfold execOp; rw [hop]; simp only [hx, hy]; simp [go_sem, hq0, e]) h
end
end Go.Proofs.Ytapapohbpdalfaa
