import Derived.Test.YtnipkhgaceicbaaCtPut
import Derived.Test.YtnipkhgaceicbaaBkParts
/-
  message: structs within structs, loaded and stored in part; guarded operations that are wanted; what a message is.
-/
namespace Go.Proofs.Ytnipkhgaceicbaa
set_option maxRecDepth 100000
section
set_option linter.unusedVariables false
open Go.RowKit Go.Sort Go.Lib

section
variable {P : Program} {ops : Array Oper} {rest : List Oper} {o : Oper} {a : Act} {w : World} {Q : Exit → Act → World → Prop}
theorem wpList_exw (hw : Region.wanted o (yielded ops a.tmps) = true) (v : Value) (w' : World) (hr : (execOp a.eval o).run P w = .ok (.value v) w') (h : wpList P ops Q rest (a.put o.dst v) w') : wpList P ops Q (o :: rest) a w :=
  wpList_step fun K hK => by
    rw [if_pos hw]; unfold Oper.wp; rw [hr]; exact hK _ _ h
theorem wpList_exsw (hw : Region.wanted o (yielded ops a.tmps) = true) (w' : World) (hr : (execOp a.eval o).run P w = .ok .skip w') (h : wpList P ops Q rest (a.put o.dst undef) w') : wpList P ops Q (o :: rest) a w :=
  wpList_step fun K hK => by
    rw [if_pos hw]; unfold Oper.wp; rw [hr]; exact hK _ _ h
end

/-- so many cells from a place on are these -/
def At (cs : Array Value) (off : Nat) (l : List Value) : Prop := ∀ j v, l[j]? = some v → cs[off + j]? = some v
/-- these cells laid over what was there -/
def putAt (cs : Array Value) (off : Nat) (l : List Value) : Array Value := (cs.toList.take off ++ l ++ cs.toList.drop (off + l.length)).toArray
theorem putAt_mid (x y y' z : List Value) (h : y'.length = y.length) : putAt (x ++ (y ++ z)).toArray x.length y' = (x ++ (y' ++ z)).toArray := by
  unfold putAt
  have e1 : (x ++ (y ++ z)).take x.length = x := by simp
  have e2 : (x ++ (y ++ z)).drop (x.length + y'.length) = z := by rw [h, ← List.append_assoc, ← List.length_append, List.drop_left]
  rw [e1, e2, List.append_assoc]
theorem at_mid (x y z : List Value) : At (x ++ (y ++ z)).toArray x.length y := by
  intro j v hj
  have hj2 := (List.getElem?_eq_some_iff.1 hj).1
  rw [List.getElem?_toArray, List.getElem?_append_right (by omega), List.getElem?_append_left (by omega), show x.length + j - x.length = j by omega]
  exact hj
theorem at_row {W : World} {B : Nat} {cs : Array Value} {T : TypeId} {fr : Nat × Nat} {off : Nat} {l : List Value} (h : W.heap[B]? = some (.cells cs T fr)) (hl : At cs off l) : ∀ j v, l[j]? = some v → W.cell? ((⟨B, off, none⟩ : Addr).add j) = some v := by
  intro j v hj
  have ha : ((⟨B, off, none⟩ : Addr).add j) = ⟨B, off + j, none⟩ := by unfold Addr.add; split <;> simp_all
  rw [ha, cell_of_row _ _ (off + j) _ _ _ h, hl j v hj]

section
variable {P : Program} {o : Oper} {x y : Operand} {ρ : Operand → Value} {t T : TypeId} {B off : Nat} {cs : Array Value} {l : List Value}
/-- a part of a struct, whole -/
theorem ex_loadpart (k : Nat) (hna : ∀ w, (isAgg t).run P w = .ok true w) (hsz : ∀ w, (sizeOf t).run P w = .ok k w) (hop : o.op = .load t x) (hx : ρ x = .pointer (some ⟨B, off, none⟩)) (w : World) (hg : w.heap[B]? = some (.cells cs T (0, 0))) (hl : At cs off l) (hk : l.length = k) : (execOp ρ o).run P w = .ok (.value (.agg l.toArray)) w := by
  have h5 := run_loadCellsFrom_list P w ⟨B, off, none⟩ l k hk (at_row hg hl)
  unfold execOp; rw [hop]; simp only [hx]
  simp [Instr.loadAt, Instr.sureAddr, loadVar, loadCells, hna, hsz, h5, Result.andThen]
/-- one cell -/
theorem ex_loadcell {v : Value} (hna : ∀ w, (isAgg t).run P w = .ok false w) (hop : o.op = .load t x) (hx : ρ x = .pointer (some ⟨B, off, none⟩)) (w : World) (hg : w.heap[B]? = some (.cells cs T (0, 0))) (hl : cs[off]? = some v) : (execOp ρ o).run P w = .ok (.value v) w :=
  ex_load hna hop hx w (by rw [cell_of_row _ _ off _ _ _ hg, hl])
/-- a part of a struct is set -/
theorem ex_storepart (hsz : ∀ w, (sizeOf t).run P w = .ok l.length w) (hop : o.op = .store t x y) (hx : ρ x = .pointer (some ⟨B, off, none⟩)) (hy : ρ y = .agg l.toArray) (w : World) (hg : w.heap[B]? = some (.cells cs T (0, 0))) (hfit : off + l.length ≤ cs.size) (h1 : ∀ v ∈ l, v.oneCell' = true) : (execOp ρ o).run P w = .ok .skip (w.setRow B (putAt cs off l)) := by
  have h5 := run_storeCells_at P B off T l 0 cs w hg (by omega) h1
  unfold execOp; rw [hop]; simp only [hx, hy]
  simp [Instr.storeAt, Instr.sureAddr, storeVar, Value.cells, hsz, h5, Result.andThen, putAt]
end
end
end Go.Proofs.Ytnipkhgaceicbaa
