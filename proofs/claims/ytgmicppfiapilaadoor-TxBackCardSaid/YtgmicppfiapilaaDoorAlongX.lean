import Derived.Laws.BitsAllLaws
import Derived.Test.YtgmicppfiapilaaDoorAlongK
/-
  What more single operations do, apart from the walk.
-/
namespace Go.Proofs.YtgmicppfiapilaaDoor
set_option maxRecDepth 100000
section
set_option linter.unusedVariables false
open Go.RowKit
variable {P : Program} {o : Oper} {x y z : Operand} {ρ : Operand → Value} {v : Value}

/-- the address of an element of so many cells -/
theorem ex_index {t e : TypeId} {b off n c k s : Nat} (hu : P.underlying t = some (.slice e)) (hsz : ∀ w, (sizeOf e).run P w = .ok s w) (hop : o.op = .indexAddr t x y) (hx : ρ x = .slice (some ⟨b, off, none⟩) n c) (hy : ρ y = .int .i64 k) (hk : k < n) (w : World) :
    (execOp ρ o).run P w = .ok (.value (.pointer (some ⟨b, off + k * s, none⟩))) w := by
  have h2 : ((⟨b, off, none⟩ : Addr).add (k * s)) = ⟨b, off + k * s, none⟩ := by unfold Addr.add; split <;> simp_all
  have hr : (Instr.indexAt t (.slice (some ⟨b, off, none⟩) n c) (.int .i64 k)).run P w = .ok (.pointer (some ⟨b, off + k * s, none⟩)) w := by
    have he : P.elem t = e := by simp [Program.elem, hu]
    have h3 := run_indexAt_slice (P := P) (w := w) t ⟨b, off, none⟩ n c .i64 k (by rw [he]; exact hu)
    rw [if_pos ⟨by omega, by omega⟩, he, hsz] at h3
    rw [h3]
    simp [h2]
  unfold execOp; rw [hop]; simp only [hx, hy, Sem.run_bind, hr, Result.andThen_ok, Sem.run_pure]
theorem ex_pickt (hop : o.op = .pick x y z) (hx : ρ x = .bool true) (hv : ρ y = v) (w : World) : (execOp ρ o).run P w = .ok (.value v) w := by
  unfold execOp; rw [hop]; simp only [hx, hv]
  simp [asBool]
theorem ex_pickf (hop : o.op = .pick x y z) (hx : ρ x = .bool false) (hv : ρ z = v) (w : World) : (execOp ρ o).run P w = .ok (.value v) w := by
  unfold execOp; rw [hop]; simp only [hx, hv]
  simp [asBool]
theorem ex_eqi {t t' : TypeId} {k : IntKind} {n m : Int} {b : Bool} (hop : o.op = .binOp .eql t x y t') (hx : ρ x = .int k n) (hy : ρ y = .int k m) (hb : (n == m) = b) (w : World) : (execOp ρ o).run P w = .ok (.value (.bool b)) w := by
  unfold execOp; rw [hop]; simp only [hx, hy]; simp [go_sem, hb]
theorem ex_neqi {t t' : TypeId} {k : IntKind} {n m : Int} {b : Bool} (hop : o.op = .binOp .neq t x y t') (hx : ρ x = .int k n) (hy : ρ y = .int k m) (hb : (n != m) = b) (w : World) : (execOp ρ o).run P w = .ok (.value (.bool b)) w := by
  subst hb
  unfold execOp; rw [hop]; simp only [hx, hy]; simp [go_sem, bne]
theorem ex_neqs {t t' : TypeId} {s : ByteArray} (hop : o.op = .binOp .neq t x y t') (hx : ρ x = .string s) (hy : ρ y = .string s) (w : World) : (execOp ρ o).run P w = .ok (.value (.bool false)) w := by
  unfold execOp; rw [hop]; simp only [hx, hy]; simp [go_sem]
theorem ex_not {t : TypeId} {b : Bool} (hop : o.op = .unOp .not t x) (hx : ρ x = .bool b) (w : World) : (execOp ρ o).run P w = .ok (.value (.bool !b)) w := by
  unfold execOp; rw [hop]; simp only [hx]; simp [go_sem]
end
end Go.Proofs.YtgmicppfiapilaaDoor
