import Derived.OrdersHeld
import Derived.Below
import Derived.Deep.RegionHeld
import Derived.Laws.BytesArg
import Derived.WalkKit
import Derived.RangeFuncLeaves
/-
  A STATEMENT THAT LEAVES ITS ORDER OPEN, WHOSE CALLS MAKE MEMORY AND WRITE NOTHING THAT WAS THERE: ONE WALK ALONG A PLAN.
  The calls wait for one another; whatever only reads yields the same in every world that lies beyond the one in which it could come up first. So it may be taken as soon as it can come up, and one order serves all.
-/
namespace Go.Proofs.Ytjjaefacfcjgiaa
set_option linter.unusedVariables false
open Go.RowKit

/-- w' lies beyond w: there may be more, but what was there is as it was. -/
def Up (w w' : World) : Prop := Below w.heap.size w w'
theorem Up.refl (w : World) : Up w w := Below.refl _ _
theorem Up.trans {a b c : World} (h : Up a b) (k : Up b c) : Up a c := Below.trans h (Below.mono k h.size)

section
variable {P : Program} {ops : Array Oper} {Q : Exit → Act → World → Prop} {md : Region.Mode}

theorem wpAnyH_weaken {S S' : World → Prop} (h : ∀ w, S' w → S w) : ∀ (fuel : Nat) (listed : Array Bool) (a : Act) (w : World), wpAnyH P md ops Q S' fuel listed a w → wpAnyH P md ops Q S fuel listed a w
  | 0, _, _, _, k => k
  | fuel + 1, _, _, _, k => ⟨k.1, fun i hi => wpOp_mono (fun a' w' k' => ⟨h _ k'.1, wpAnyH_weaken h fuel _ a' w' k'.2⟩) (k.2 i hi)⟩

/-- A PLAN: the operations in one order; 'true': it only reads. Whatever reads comes as soon as it can; a call comes where nothing else can. -/
def planOk (md : Region.Mode) (ops : Array Oper) : List (Nat × Bool) → Array Bool → Bool
  | [], listed => (Region.ready md ops listed).isEmpty
  | (i, true) :: r, listed => Region.free md ops listed i && (Region.ready md ops listed).contains i && planOk md ops r (listed.setIfInBounds i true)
  | (i, false) :: r, listed => decide (Region.ready md ops listed = [i]) && planOk md ops r (listed.setIfInBounds i true)

/-- THE WALK ALONG A PLAN. -/
def Along (P : Program) (ops : Array Oper) (Q : Exit → Act → World → Prop) : List (Nat × Bool) → Act → World → Prop
  | [], a, w => Q .normal a w
  | (i, true) :: r, a, w => ∃ o v, ops[i]? = some o ∧ YieldsIf P ops (Up w) o v a ∧ Along P ops Q r (a.put o.dst v) w
  | (i, false) :: r, a, w => wpOp P ops Q i (fun a' w' => Up w w' ∧ Along P ops Q r a' w') a w

theorem Along.sound (hs : Region.noSelect ops = true) (hQ : ∀ c a d v w, Q (.panic c) (Act.put a d v) w → Q (.panic c) a w) :
    ∀ (plan : List (Nat × Bool)) (listed : Array Bool) (a : Act) (w : World), planOk md ops plan listed = true → Along P ops Q plan a w → wpAnyH P md ops Q (Up w) plan.length listed a w
  | [], listed, a, w, hp, h => wpAnyH_done (by simpa [planOk] using hp) h _
  | (i, true) :: r, listed, a, w, hp, ⟨o, v, ho, hy, h⟩ => by
    simp only [planOk, Bool.and_eq_true] at hp
    exact wpAnyH_take ho hs hp.1.1 hp.1.2 (fun c a w => hQ c a _ _ w) hy (Up.refl w) (Along.sound hs hQ r _ _ w hp.2 h)
  | (i, false) :: r, listed, a, w, hp, h => by
    simp only [planOk, Bool.and_eq_true, decide_eq_true_eq] at hp
    refine wpAnyH_all hp.1 (by simp) fun j hj => ?_
    obtain rfl : j = i := by simpa using hj
    exact wpOp_mono (fun a' w' k => ⟨k.1, wpAnyH_weaken (fun _ k' => k.1.trans k') _ _ _ _ (Along.sound hs hQ r _ a' w' hp.2 k.2)⟩) h

/-- A REGION, ALONG A PLAN. -/
theorem region_along {id : Nat} {a : Act} {w : World} (plan : List (Nat × Bool)) (hm : P.follows .mixedOrders = true) (hl : plan.length = ops.size) (hs : Region.noSelect ops = true)
    (hp : planOk .any ops plan (Array.replicate ops.size false) = true) (hQ : ∀ c a d v w, Q (.panic c) (Act.put a d v) w → Q (.panic c) a w) (h : Along P ops Q plan a w.drew) : (Code.region id ops true).wp P Q a w := by
  refine wp_region_held (S := Up w.drew) hm ?_
  have := Along.sound (md := .any) hs hQ plan _ a w.drew hp h
  rwa [hl] at this

variable {r : List (Nat × Bool)} {i : Nat} {o : Oper} {a : Act} {w : World} {x y z : Operand} {v : Value}

theorem along_done (h : Q .normal a w) : Along P ops Q [] a w := h
theorem along_skip (ho : ops[i]? = some o) (hw : Region.wanted o (yielded ops a.tmps) = false) (h : Along P ops Q r (a.put o.dst undef) w) : Along P ops Q ((i, true) :: r) a w :=
  ⟨o, undef, ho, .inr ⟨hw, rfl⟩, h⟩
theorem along_read (ho : ops[i]? = some o) (hw : Region.wanted o (yielded ops a.tmps) = true) (hv : ∀ w', Up w w' → (execOp a.eval o).run P w' = .ok (.value v) w') (h : Along P ops Q r (a.put o.dst v) w) : Along P ops Q ((i, true) :: r) a w :=
  ⟨o, v, ho, .inl ⟨hw, hv⟩, h⟩
theorem along_move (ho : ops[i]? = some o) (hop : o.op = .move x) (hv : a.eval x = v) (hw : Region.wanted o (yielded ops a.tmps) = true) (h : Along P ops Q r (a.put o.dst v) w) : Along P ops Q ((i, true) :: r) a w :=
  along_read ho hw (fun w' _ => by simp [execOp, hop, hv, Sem.run_pure]) h
theorem along_assign (ho : ops[i]? = some o) (hop : o.op = .assign x) (hv : a.eval x = v) (hw : Region.wanted o (yielded ops a.tmps) = true) (h : Along P ops Q r (a.put o.dst v) w) : Along P ops Q ((i, true) :: r) a w :=
  along_read ho hw (fun w' _ => by simp [execOp, hop, hv, Sem.run_pure]) h
theorem along_pick (ho : ops[i]? = some o) (hop : o.op = .pick x y z) (hx : a.eval x = .bool true) (hv : a.eval y = v) (hw : Region.wanted o (yielded ops a.tmps) = true) (h : Along P ops Q r (a.put o.dst v) w) : Along P ops Q ((i, true) :: r) a w :=
  along_read ho hw (fun w' _ => by simp [execOp, hop, hx, hv, asBool, Sem.run_pure]) h
theorem along_conv {s d : TypeId} {u : Value} (ho : ops[i]? = some o) (hop : o.op = .convert s d x) (hx : a.eval x = v) (hw : Region.wanted o (yielded ops a.tmps) = true) (hc : ∀ w', Up w w' → (convert s d v).run P w' = .ok u w') (h : Along P ops Q r (a.put o.dst u) w) : Along P ops Q ((i, true) :: r) a w :=
  along_read ho hw (fun w' hu => by simp [execOp, hop, hx, hc w' hu, Result.andThen]) h
theorem along_eqs {t t' : TypeId} {s : ByteArray} (ho : ops[i]? = some o) (hop : o.op = .binOp .eql t x y t') (hx : a.eval x = .string s) (hy : a.eval y = .string s) (hw : Region.wanted o (yielded ops a.tmps) = true) (h : Along P ops Q r (a.put o.dst (.bool true)) w) : Along P ops Q ((i, true) :: r) a w :=
  along_read ho hw (fun w' _ => by unfold execOp; rw [hop]; simp only [hx, hy]; simp [go_sem]) h
theorem along_eqi {t t' : TypeId} {k : IntKind} {n : Int} (ho : ops[i]? = some o) (hop : o.op = .binOp .eql t x y t') (hx : a.eval x = .int k n) (hy : a.eval y = .int k n) (hw : Region.wanted o (yielded ops a.tmps) = true) (h : Along P ops Q r (a.put o.dst (.bool true)) w) : Along P ops Q ((i, true) :: r) a w :=
  along_read ho hw (fun w' _ => by unfold execOp; rw [hop]; simp only [hx, hy]; simp [go_sem]) h
/-- a call of a function of one's own -/
theorem along_call {f : FuncId} {args : List Operand} {ts : Array TypeId} {vs : List Value} (ho : ops[i]? = some o) (hop : o.op = .call { callee := .value (.func f), args := args.toArray, argTypes := ts }) (hvs : args.map a.eval = vs)
    (he : ∀ args w, (callFunc f args).run P w = .ok (.enter f args) w) (hw : Region.wanted o (yielded ops a.tmps) = true)
    (hc : Calls P f vs.toArray w fun e w' => ∃ v, e = .returned v ∧ Up w w' ∧ Along P ops Q r (a.put o.dst v) w') : Along P ops Q ((i, false) :: r) a w := by
  refine wpOp_step ho fun K' hK => ?_
  rw [if_pos hw]
  have hrun : (execOp a.eval o).run P w = .ok (.enter f vs.toArray) w := by
    have hf : a.eval (.func f) = .func (.func f) #[] #[] := rfl
    unfold execOp; rw [hop]; simp only [resolve, hf, List.map_toArray, hvs]; simp [invoke, he, go_sem]
  unfold Oper.wp
  rw [hrun, Oper.upon_enter]
  refine Calls.mono hc fun e w' ⟨v, he, hu, h⟩ => ?_
  subst he
  exact hK _ _ ⟨hu, h⟩
end
end Go.Proofs.Ytjjaefacfcjgiaa
