import Derived.Test.YtkelbilcjgndmaaAcKit
/-
  mootref14.Accounts.
-/
namespace Go.Proofs.Ytkelbilcjgndmaa
set_option maxRecDepth 100000
section
set_option linter.unusedVariables false
open Go.RowKit Go.Sort Go.Lib

/-- the accounts of the beginning -/
def acG : List Ac := [(250, 0), (250, 0), (250, 0), (250, 0)]
theorem acG_ok : ∀ (j : Nat) (x : Ac), acG[j]? = some x → AcOk x := by
  intro j x h
  have := List.mem_of_getElem? h
  simp [acG] at this
  rw [this]
  exact ⟨by decide, by decide⟩
theorem acGen_any (w : World) : Calls Try.prog 20 #[] w fun e w' => e = .returned (.slice (some ⟨w.heap.size, 0, none⟩) 4 4) ∧ AcRow w' w.heap.size acG ∧ Up w w' := by
  go_enter Try.func20, Try.ntmps20
  go_wp2
  go_ret
  refine ⟨rfl, ⟨_, heap_alloc_new w _, ?_⟩, Up.alloc (Up.refl w) _⟩
  intro i x h
  match i, h with
  | 0, h => cases h; exact ⟨rfl, rfl⟩
  | 1, h => cases h; exact ⟨rfl, rfl⟩
  | 2, h => cases h; exact ⟨rfl, rfl⟩
  | 3, h => cases h; exact ⟨rfl, rfl⟩
theorem ex_setA {o : Oper} {x y : Operand} {ρ : Operand → Value} {W : World} {ad : Addr} {u : Value} {m : Int} (hop : o.op = .store 3 x y) (hx : ρ x = .pointer (some ad)) (hy : ρ y = .int .i64 m) (hc : W.cell? ad = some u) (hf : W.frozen? ad = false) :
    (execOp ρ o).run Try.prog W = .ok .skip (W.setCell ad (.int .i64 m)) := by
  unfold execOp; rw [hop]; simp only [hx, hy]
  simp [Instr.storeAt, Instr.sureAddr, storeVar, Try.sizeOf3, hc, hf, go_sem, Result.andThen]
end
end Go.Proofs.Ytkelbilcjgndmaa
