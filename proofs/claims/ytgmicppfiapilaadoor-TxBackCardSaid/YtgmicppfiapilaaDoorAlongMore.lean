import Derived.Test.YtgmicppfiapilaaDoorGrowth
/-
  Plans: loads, elements, fields, on the way of region_along.
-/
namespace Go.Proofs.YtgmicppfiapilaaDoor
set_option maxRecDepth 100000
section
set_option linter.unusedVariables false
open Go.RowKit
variable {P : Program} {ops : Array Oper} {Q : Exit → Act → World → Prop} {r : List (Nat × Bool)} {a : Act} {w : World} {i : Nat} {o : Oper} {x y z : Operand}

/-- a load of what is the same in every later world -/
theorem along_load {t : TypeId} {ad : Addr} {v : Value} (hna : ∀ w, (isAgg t).run P w = .ok false w) (ho : ops[i]? = some o) (hop : o.op = .load t x) (hx : a.eval x = .pointer (some ad)) (hc : ∀ w', Up w w' → w'.cell? ad = some v) (hw : Region.wanted o (yielded ops a.tmps) = true)
    (h : Along P ops Q r (a.put o.dst v) w) : Along P ops Q ((i, true) :: r) a w :=
  along_read ho hw (fun w' hS => by
    have hcell := hc w' hS
    unfold execOp; rw [hop]; simp only [hx]
    simp [Instr.loadAt, Instr.sureAddr, loadVar, hna, hcell, Result.andThen]) h
theorem along_field {t : TypeId} {ad : Addr} {f : Nat} {v : Value} (hf : ∀ w, (Instr.fieldAt t (.pointer (some ad)) f).run P w = .ok v w) (ho : ops[i]? = some o) (hop : o.op = .fieldAddr t x f) (hx : a.eval x = .pointer (some ad)) (hw : Region.wanted o (yielded ops a.tmps) = true)
    (h : Along P ops Q r (a.put o.dst v) w) : Along P ops Q ((i, true) :: r) a w :=
  along_read ho hw (fun w' hS => by
    unfold execOp; rw [hop]; simp only [hx]
    simp [hf, Result.andThen]) h
theorem along_index {t e : TypeId} {b off n c k : Nat} (hu : P.underlying t = some (.slice e)) (hsz : ∀ w, (sizeOf e).run P w = .ok 1 w) (ho : ops[i]? = some o) (hop : o.op = .indexAddr t x y) (hx : a.eval x = .slice (some ⟨b, off, none⟩) n c) (hy : a.eval y = .int .i64 k) (hk : k < n) (hw : Region.wanted o (yielded ops a.tmps) = true)
    (h : Along P ops Q r (a.put o.dst (.pointer (some ⟨b, off + k, none⟩))) w) : Along P ops Q ((i, true) :: r) a w :=
  along_read ho hw (fun w' _ => by
    have h2 : ((⟨b, off, none⟩ : Addr).add k) = ⟨b, off + k, none⟩ := by unfold Addr.add; split <;> simp_all
    have hr : (Instr.indexAt t (.slice (some ⟨b, off, none⟩) n c) (.int .i64 k)).run P w' = .ok (.pointer (some ⟨b, off + k, none⟩)) w' := by
      have he : P.elem t = e := by simp [Program.elem, hu]
      have h3 := run_indexAt_slice (P := P) (w := w') t ⟨b, off, none⟩ n c .i64 k (by rw [he]; exact hu)
      rw [if_pos ⟨by omega, by omega⟩, he, hsz] at h3
      rw [h3]
      simp [h2]
    unfold execOp; rw [hop]; simp only [hx, hy, Sem.run_bind, hr, Result.andThen_ok, Sem.run_pure]) h
/-- an operation that looks at no memory -/
theorem along_op {v : Value} (ho : ops[i]? = some o) (hw : Region.wanted o (yielded ops a.tmps) = true) (hv : ∀ w', (execOp a.eval o).run P w' = .ok (.value v) w') (h : Along P ops Q r (a.put o.dst v) w) : Along P ops Q ((i, true) :: r) a w :=
  along_read ho hw (fun w' _ => hv w') h
theorem along_pickf {v : Value} (ho : ops[i]? = some o) (hop : o.op = .pick x y z) (hx : a.eval x = .bool false) (hv : a.eval z = v) (hw : Region.wanted o (yielded ops a.tmps) = true) (h : Along P ops Q r (a.put o.dst v) w) : Along P ops Q ((i, true) :: r) a w :=
  along_op ho hw (fun w' => by
    unfold execOp; rw [hop]; simp only [hx, hv]
    simp [asBool]) h
theorem along_bin {b : BinOp} {t t' : TypeId} {p q v : Value} (hr : ∀ w', (do eqGuard b t x y p q; binOp b t p q : Sem Value).run P w' = .ok v w') (ho : ops[i]? = some o) (hop : o.op = .binOp b t x y t') (hx : a.eval x = p) (hy : a.eval y = q) (hw : Region.wanted o (yielded ops a.tmps) = true) (h : Along P ops Q r (a.put o.dst v) w) : Along P ops Q ((i, true) :: r) a w :=
  along_op ho hw (fun w' => by
    have h1 := hr w'
    unfold execOp; rw [hop]; simp only [hx, hy]
    rw [Sem.run_bind, h1]; rfl) h
theorem along_slice {t : TypeId} {lo hi : Option Operand} {p v : Value} {l u : Option Value} (hr : ∀ w', (Instr.sliceAt t p l u none).run P w' = .ok v w') (ho : ops[i]? = some o) (hop : o.op = .slice t x lo hi none) (hx : a.eval x = p) (hlo : lo.map a.eval = l) (hhi : hi.map a.eval = u) (hw : Region.wanted o (yielded ops a.tmps) = true) (h : Along P ops Q r (a.put o.dst v) w) : Along P ops Q ((i, true) :: r) a w :=
  along_op ho hw (fun w' => by
    have h1 := hr w'
    unfold execOp; rw [hop]; simp only [hx, hlo, hhi, Option.map_none]
    rw [Sem.run_bind, h1]; rfl) h
/-- the world of a load of cells that were there -/
theorem later_cell {w w' : World} {ad : Addr} {v : Value} (h : w.cell? ad = some v) (hu : Up w w') : w'.cell? ad = some v := (hu.cell (p := ad) (World.block_lt_of_cell? w _ h)).trans h
end
end Go.Proofs.YtgmicppfiapilaaDoor
