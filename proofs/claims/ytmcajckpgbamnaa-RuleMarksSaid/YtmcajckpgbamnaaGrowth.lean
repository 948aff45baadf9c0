import Derived.OrdersHeld
import Derived.Below
import Derived.Deep.RegionHeld
import Derived.Laws.BytesArg
import Derived.WalkKit
import Derived.RangeFuncLeaves
import Derived.Lib.Strings
import Derived.Maps.AppendAt
import Derived.Lib.AppendStr
import Derived.StillTail
import Derived.Deep.Quiet
import Derived.Deep.QuietTactic
import Derived.BigQuiet
namespace Go.Proofs.Ytmcajckpgbamnaa
/-
  A STATEMENT THAT LEAVES ITS ORDER OPEN, WHOSE CALLS MAKE MEMORY AND WRITE NOTHING THAT WAS THERE: ONE WALK ALONG A PLAN.
  The calls wait for one another; whatever only reads yields the same in every world that lies beyond the one in which it could come up first. So it may be taken as soon as it can come up, and one order serves all.
-/
section
set_option linter.unusedVariables false
open Go.RowKit

/-- w' lies beyond w: there may be more, but what was there is as it was. -/
def Up (w w' : World) : Prop := Below w.heap.size w w'
theorem Up.refl (w : World) : Up w w := Below.refl _ _
theorem Up.trans {a b c : World} (h : Up a b) (k : Up b c) : Up a c := Below.trans h (Below.mono k h.size)

section
variable {P : Program} {ops : Array Oper} {Q : Exit → Act → World → Prop} {md : Region.Mode}

theorem wpAnyH_weaken {S S' : World → Prop} (h : ∀ w, S' w → S w) : ∀ (fuel : Nat) (listed : Array Bool) (a : Act) (w : World), wpAnyH P md ops Q S' fuel listed a w → wpAnyH P md ops Q S fuel listed a w
  | 0, _, _, _, k => k
  | fuel + 1, _, _, _, k => ⟨k.1, fun i hi => wpOp_mono (fun a' w' k' => ⟨h _ k'.1, wpAnyH_weaken h fuel _ a' w' k'.2⟩) (k.2 i hi)⟩

/-- A PLAN: the operations in one order; 'true': it only reads. Whatever reads comes as soon as it can; a call comes where nothing else can. -/
def planOk (md : Region.Mode) (ops : Array Oper) : List (Nat × Bool) → Array Bool → Bool
  | [], listed => (Region.ready md ops listed).isEmpty
  | (i, true) :: r, listed => Region.free md ops listed i && (Region.ready md ops listed).contains i && planOk md ops r (listed.setIfInBounds i true)
  | (i, false) :: r, listed => decide (Region.ready md ops listed = [i]) && planOk md ops r (listed.setIfInBounds i true)

/-- THE WALK ALONG A PLAN. -/
def Along (P : Program) (ops : Array Oper) (Q : Exit → Act → World → Prop) : List (Nat × Bool) → Act → World → Prop
  | [], a, w => Q .normal a w
  | (i, true) :: r, a, w => ∃ o v, ops[i]? = some o ∧ YieldsIf P ops (Up w) o v a ∧ Along P ops Q r (a.put o.dst v) w
  | (i, false) :: r, a, w => wpOp P ops Q i (fun a' w' => Up w w' ∧ Along P ops Q r a' w') a w

theorem Along.sound (hs : Region.noSelect ops = true) (hQ : ∀ c a d v w, Q (.panic c) (Act.put a d v) w → Q (.panic c) a w) :
    ∀ (plan : List (Nat × Bool)) (listed : Array Bool) (a : Act) (w : World), planOk md ops plan listed = true → Along P ops Q plan a w → wpAnyH P md ops Q (Up w) plan.length listed a w
  | [], listed, a, w, hp, h => wpAnyH_done (by simpa [planOk] using hp) h _
  | (i, true) :: r, listed, a, w, hp, ⟨o, v, ho, hy, h⟩ => by
    simp only [planOk, Bool.and_eq_true] at hp
    exact wpAnyH_take ho hs hp.1.1 hp.1.2 (fun c a w => hQ c a _ _ w) hy (Up.refl w) (Along.sound hs hQ r _ _ w hp.2 h)
  | (i, false) :: r, listed, a, w, hp, h => by
    simp only [planOk, Bool.and_eq_true, decide_eq_true_eq] at hp
    refine wpAnyH_all hp.1 (by simp) fun j hj => ?_
    obtain rfl : j = i := by simpa using hj
    exact wpOp_mono (fun a' w' k => ⟨k.1, wpAnyH_weaken (fun _ k' => k.1.trans k') _ _ _ _ (Along.sound hs hQ r _ a' w' hp.2 k.2)⟩) h

/-- A REGION, ALONG A PLAN. -/
theorem region_along {id : Nat} {a : Act} {w : World} (plan : List (Nat × Bool)) (hm : P.follows .mixedOrders = true) (hl : plan.length = ops.size) (hs : Region.noSelect ops = true)
    (hp : planOk .any ops plan (Array.replicate ops.size false) = true) (hQ : ∀ c a d v w, Q (.panic c) (Act.put a d v) w → Q (.panic c) a w) (h : Along P ops Q plan a w.drew) : (Code.region id ops true).wp P Q a w := by
  refine wp_region_held (S := Up w.drew) hm ?_
  have := Along.sound (md := .any) hs hQ plan _ a w.drew hp h
  rwa [hl] at this

variable {r : List (Nat × Bool)} {i : Nat} {o : Oper} {a : Act} {w : World} {x y z : Operand} {v : Value}

theorem along_done (h : Q .normal a w) : Along P ops Q [] a w := h
theorem along_skip (ho : ops[i]? = some o) (hw : Region.wanted o (yielded ops a.tmps) = false) (h : Along P ops Q r (a.put o.dst undef) w) : Along P ops Q ((i, true) :: r) a w :=
  ⟨o, undef, ho, .inr ⟨hw, rfl⟩, h⟩
theorem along_read (ho : ops[i]? = some o) (hw : Region.wanted o (yielded ops a.tmps) = true) (hv : ∀ w', Up w w' → (execOp a.eval o).run P w' = .ok (.value v) w') (h : Along P ops Q r (a.put o.dst v) w) : Along P ops Q ((i, true) :: r) a w :=
  ⟨o, v, ho, .inl ⟨hw, hv⟩, h⟩
theorem along_move (ho : ops[i]? = some o) (hop : o.op = .move x) (hv : a.eval x = v) (hw : Region.wanted o (yielded ops a.tmps) = true) (h : Along P ops Q r (a.put o.dst v) w) : Along P ops Q ((i, true) :: r) a w :=
  along_read ho hw (fun w' _ => by simp [execOp, hop, hv, Sem.run_pure]) h
theorem along_assign (ho : ops[i]? = some o) (hop : o.op = .assign x) (hv : a.eval x = v) (hw : Region.wanted o (yielded ops a.tmps) = true) (h : Along P ops Q r (a.put o.dst v) w) : Along P ops Q ((i, true) :: r) a w :=
  along_read ho hw (fun w' _ => by simp [execOp, hop, hv, Sem.run_pure]) h
theorem along_pick (ho : ops[i]? = some o) (hop : o.op = .pick x y z) (hx : a.eval x = .bool true) (hv : a.eval y = v) (hw : Region.wanted o (yielded ops a.tmps) = true) (h : Along P ops Q r (a.put o.dst v) w) : Along P ops Q ((i, true) :: r) a w :=
  along_read ho hw (fun w' _ => by simp [execOp, hop, hx, hv, asBool, Sem.run_pure]) h
theorem along_conv {s d : TypeId} {u : Value} (ho : ops[i]? = some o) (hop : o.op = .convert s d x) (hx : a.eval x = v) (hw : Region.wanted o (yielded ops a.tmps) = true) (hc : ∀ w', Up w w' → (convert s d v).run P w' = .ok u w') (h : Along P ops Q r (a.put o.dst u) w) : Along P ops Q ((i, true) :: r) a w :=
  along_read ho hw (fun w' hu => by simp [execOp, hop, hx, hc w' hu, Result.andThen]) h
theorem along_eqs {t t' : TypeId} {s : ByteArray} (ho : ops[i]? = some o) (hop : o.op = .binOp .eql t x y t') (hx : a.eval x = .string s) (hy : a.eval y = .string s) (hw : Region.wanted o (yielded ops a.tmps) = true) (h : Along P ops Q r (a.put o.dst (.bool true)) w) : Along P ops Q ((i, true) :: r) a w :=
  along_read ho hw (fun w' _ => by unfold execOp; rw [hop]; simp only [hx, hy]; simp [go_sem]) h
theorem along_eqi {t t' : TypeId} {k : IntKind} {n : Int} (ho : ops[i]? = some o) (hop : o.op = .binOp .eql t x y t') (hx : a.eval x = .int k n) (hy : a.eval y = .int k n) (hw : Region.wanted o (yielded ops a.tmps) = true) (h : Along P ops Q r (a.put o.dst (.bool true)) w) : Along P ops Q ((i, true) :: r) a w :=
  along_read ho hw (fun w' _ => by unfold execOp; rw [hop]; simp only [hx, hy]; simp [go_sem]) h
/-- a call of a function of one's own -/
theorem along_call {f : FuncId} {args : List Operand} {ts : Array TypeId} {vs : List Value} (ho : ops[i]? = some o) (hop : o.op = .call { callee := .value (.func f), args := args.toArray, argTypes := ts }) (hvs : args.map a.eval = vs)
    (he : ∀ args w, (callFunc f args).run P w = .ok (.enter f args) w) (hw : Region.wanted o (yielded ops a.tmps) = true)
    (hc : Calls P f vs.toArray w fun e w' => ∃ v, e = .returned v ∧ Up w w' ∧ Along P ops Q r (a.put o.dst v) w') : Along P ops Q ((i, false) :: r) a w := by
  refine wpOp_step ho fun K' hK => ?_
  rw [if_pos hw]
  have hrun : (execOp a.eval o).run P w = .ok (.enter f vs.toArray) w := by
    have hf : a.eval (.func f) = .func (.func f) #[] #[] := rfl
    unfold execOp; rw [hop]; simp only [resolve, hf, List.map_toArray, hvs]; simp [invoke, he, go_sem]
  unfold Oper.wp
  rw [hrun, Oper.upon_enter]
  refine Calls.mono hc fun e w' ⟨v, he, hu, h⟩ => ?_
  subst he
  exact hK _ _ ⟨hu, h⟩
end
end

/-
  More operations along a plan: len and [:k] of a string.
-/
section
set_option linter.unusedVariables false
open Go.RowKit
section
variable {P : Program} {ops : Array Oper} {Q : Exit → Act → World → Prop} {md : Region.Mode}
variable {r : List (Nat × Bool)} {i : Nat} {o : Oper} {a : Act} {w : World} {x y z : Operand} {v : Value}

theorem along_lens {t : TypeId} {s : ByteArray} (hu : P.underlying t = some .string) (ho : ops[i]? = some o) (hop : o.op = .call { callee := .builtin .len, args := #[x], argTypes := #[t] }) (hx : a.eval x = .string s) (hw : Region.wanted o (yielded ops a.tmps) = true)
    (h : Along P ops Q r (a.put o.dst (.int .i64 s.size)) w) : Along P ops Q ((i, true) :: r) a w :=
  along_read ho hw (fun w' _ => by
    have hl : (Builtin.len_ #[t] o.type #[Value.string s]).run P w' = .ok (.int .i64 s.size) w' := by simp [Builtin.len_, run_underlying hu, goInt]
    unfold execOp; rw [hop]; simp only [resolve, List.map_toArray, List.map_cons, List.map_nil, hx]; simp [invoke, go_sem, hl, Result.andThen]) h
theorem along_slices {t : TypeId} {s : ByteArray} {k : Nat} {kk : Int} (hkk : kk = k) (hk : k ≤ s.size) (hu : P.underlying t = some .string) (ho : ops[i]? = some o) (hop : o.op = .slice t x none (some (.const (.int .i64 kk))) none) (hx : a.eval x = .string s) (hw : Region.wanted o (yielded ops a.tmps) = true)
    (h : Along P ops Q r (a.put o.dst (.string (s.extract 0 k))) w) : Along P ops Q ((i, true) :: r) a w :=
  along_read ho hw (fun w' _ => by
    subst hkk
    have hl : (Instr.sliceAt t (Value.string s) none (some (Value.int IntKind.i64 k)) none).run P w' = .ok (.string (s.extract 0 k)) w' := by
      have h2 := run_slice_string_to_if (P := P) (w := w') t s .i64 k hu
      rw [if_pos (by omega)] at h2
      unfold Instr.sliceAt
      simp only [Sem.run_bind, run_underlying hu, Result.andThen_ok]
      rw [h2]; simp
    unfold execOp; rw [hop]; simp only [hx]; simp [go_sem, hl, Result.andThen]) h
theorem along_lensl {t e : TypeId} {ad : Option Addr} {n c : Nat} (hu : P.underlying t = some (.slice e)) (ho : ops[i]? = some o) (hop : o.op = .call { callee := .builtin .len, args := #[x], argTypes := #[t] }) (hx : a.eval x = .slice ad n c) (hw : Region.wanted o (yielded ops a.tmps) = true)
    (h : Along P ops Q r (a.put o.dst (.int .i64 n)) w) : Along P ops Q ((i, true) :: r) a w :=
  along_read ho hw (fun w' _ => by
    have hl : (Builtin.len_ #[t] o.type #[Value.slice ad n c]).run P w' = .ok (.int .i64 n) w' := by simp [Builtin.len_, run_underlying hu, goInt]
    unfold execOp; rw [hop]; simp only [resolve, List.map_toArray, List.map_cons, List.map_nil, hx]; simp [invoke, go_sem, hl, Result.andThen]) h
/-- a remainder of numbers that are not negative -/
theorem along_rem {t t' : TypeId} {p q s : Int} (hp : 0 ≤ p) (hq : 0 < q) (hs : p % q = s) (ho : ops[i]? = some o) (hop : o.op = .binOp .rem t x y t') (hx : a.eval x = .int .i64 p) (hy : a.eval y = .int .i64 q) (hw : Region.wanted o (yielded ops a.tmps) = true)
    (h : Along P ops Q r (a.put o.dst (.int .i64 s)) w) : Along P ops Q ((i, true) :: r) a w :=
  along_read ho hw (fun w' _ => by
    have hq0 : ¬ q = 0 := by omega
    have e : p.tmod q = s := by rw [Int.tmod_eq_emod_of_nonneg hp, hs]
    unfold execOp; rw [hop]; simp only [hx, hy]; simp [go_sem, hq0, e]) h
end
end

/-
  A STATEMENT THAT LEAVES ITS ORDER OPEN, ALONG A PLAN, under one condition S on all its worlds: whatever yields the same in every world that meets S may be taken as soon as it can come up; calls, what makes memory and appends come where nothing else can, and S holds behind each.
-/
section
set_option linter.unusedVariables false
open Go.RowKit

section
variable {P : Program} {ops : Array Oper} {Q : Exit → Act → World → Prop} {md : Region.Mode} {S : World → Prop}

def AlongS (P : Program) (ops : Array Oper) (Q : Exit → Act → World → Prop) (S : World → Prop) : List (Nat × Bool) → Act → World → Prop
  | [], a, w => Q .normal a w
  | (i, true) :: r, a, w => ∃ o v, ops[i]? = some o ∧ YieldsIf P ops S o v a ∧ AlongS P ops Q S r (a.put o.dst v) w
  | (i, false) :: r, a, w => wpOp P ops Q i (fun a' w' => S w' ∧ AlongS P ops Q S r a' w') a w

theorem AlongS.sound (hs : Region.noSelect ops = true) (hQ : ∀ c a d v w, Q (.panic c) (Act.put a d v) w → Q (.panic c) a w) :
    ∀ (plan : List (Nat × Bool)) (listed : Array Bool) (a : Act) (w : World), planOk md ops plan listed = true → S w → AlongS P ops Q S plan a w → wpAnyH P md ops Q S plan.length listed a w
  | [], listed, a, w, hp, _, h => wpAnyH_done (by simpa [planOk] using hp) h _
  | (i, true) :: r, listed, a, w, hp, hS, ⟨o, v, ho, hy, h⟩ => by
    simp only [planOk, Bool.and_eq_true] at hp
    exact wpAnyH_take ho hs hp.1.1 hp.1.2 (fun c a w => hQ c a _ _ w) hy hS (AlongS.sound hs hQ r _ _ w hp.2 hS h)
  | (i, false) :: r, listed, a, w, hp, hS, h => by
    simp only [planOk, Bool.and_eq_true, decide_eq_true_eq] at hp
    refine wpAnyH_all hp.1 (by simp) fun j hj => ?_
    obtain rfl : j = i := by simpa using hj
    exact wpOp_mono (fun a' w' k => ⟨k.1, AlongS.sound hs hQ r _ a' w' hp.2 k.1 k.2⟩) h

/-- A REGION, ALONG A PLAN. -/
theorem region_alongS {id : Nat} {a : Act} {w : World} (plan : List (Nat × Bool)) (hm : P.follows .mixedOrders = true) (hl : plan.length = ops.size) (hs : Region.noSelect ops = true)
    (hp : planOk .any ops plan (Array.replicate ops.size false) = true) (hQ : ∀ c a d v w, Q (.panic c) (Act.put a d v) w → Q (.panic c) a w) (hS : S w.drew) (h : AlongS P ops Q S plan a w.drew) : (Code.region id ops true).wp P Q a w := by
  refine wp_region_held (S := S) hm ?_
  have := AlongS.sound (md := .any) hs hQ plan _ a w.drew hp hS h
  rwa [hl] at this

variable {r : List (Nat × Bool)} {i : Nat} {o : Oper} {a : Act} {w : World} {x y z : Operand} {v : Value}

theorem alongS_done (h : Q .normal a w) : AlongS P ops Q S [] a w := h
theorem alongS_read (v : Value) (ho : ops[i]? = some o) (hw : Region.wanted o (yielded ops a.tmps) = true) (hv : ∀ w', S w' → (execOp a.eval o).run P w' = .ok (.value v) w') (h : AlongS P ops Q S r (a.put o.dst v) w) : AlongS P ops Q S ((i, true) :: r) a w :=
  ⟨o, v, ho, .inl ⟨hw, hv⟩, h⟩
theorem alongS_move (v : Value) (ho : ops[i]? = some o) (hop : o.op = .move x) (hv : a.eval x = v) (hw : Region.wanted o (yielded ops a.tmps) = true) (h : AlongS P ops Q S r (a.put o.dst v) w) : AlongS P ops Q S ((i, true) :: r) a w :=
  alongS_read v ho hw (fun w' _ => by simp [execOp, hop, hv, Sem.run_pure]) h
theorem alongS_assign (v : Value) (ho : ops[i]? = some o) (hop : o.op = .assign x) (hv : a.eval x = v) (hw : Region.wanted o (yielded ops a.tmps) = true) (h : AlongS P ops Q S r (a.put o.dst v) w) : AlongS P ops Q S ((i, true) :: r) a w :=
  alongS_read v ho hw (fun w' _ => by simp [execOp, hop, hv, Sem.run_pure]) h
/-- an element's place -/
theorem alongS_index {t e : TypeId} {b off n c k : Nat} (hu : P.underlying t = some (.slice e)) (hsz : ∀ w, (sizeOf e).run P w = .ok 1 w) (ho : ops[i]? = some o) (hop : o.op = .indexAddr t x y) (hx : a.eval x = .slice (some ⟨b, off, none⟩) n c) (hy : a.eval y = .int .i64 k) (hk : k < n) (hw : Region.wanted o (yielded ops a.tmps) = true)
    (h : AlongS P ops Q S r (a.put o.dst (.pointer (some ⟨b, off + k, none⟩))) w) : AlongS P ops Q S ((i, true) :: r) a w :=
  alongS_read _ ho hw (fun w' _ => by
    have h2 : ((⟨b, off, none⟩ : Addr).add k) = ⟨b, off + k, none⟩ := by unfold Addr.add; split <;> simp_all
    have hr : (Instr.indexAt t (.slice (some ⟨b, off, none⟩) n c) (.int .i64 k)).run P w' = .ok (.pointer (some ⟨b, off + k, none⟩)) w' := by
      have he : P.elem t = e := by simp [Program.elem, hu]
      have h3 := run_indexAt_slice (P := P) (w := w') t ⟨b, off, none⟩ n c .i64 k (by rw [he]; exact hu)
      rw [if_pos ⟨by omega, by omega⟩, he, hsz] at h3
      rw [h3]
      simp [h2]
    unfold execOp; rw [hop]; simp only [hx, hy, Sem.run_bind, hr, Result.andThen_ok, Sem.run_pure]) h
/-- a load of what is the same in every world that meets S -/
theorem alongS_load {t : TypeId} {ad : Addr} (v : Value) (hna : ∀ w, (isAgg t).run P w = .ok false w) (ho : ops[i]? = some o) (hop : o.op = .load t x) (hx : a.eval x = .pointer (some ad)) (hc : ∀ w', S w' → w'.cell? ad = some v) (hw : Region.wanted o (yielded ops a.tmps) = true)
    (h : AlongS P ops Q S r (a.put o.dst v) w) : AlongS P ops Q S ((i, true) :: r) a w :=
  alongS_read v ho hw (fun w' hS => by
    have hcell := hc w' hS
    unfold execOp; rw [hop]; simp only [hx]
    simp [Instr.loadAt, Instr.sureAddr, loadVar, hna, hcell, Result.andThen]) h
/-- 'k - n' -/
theorem alongS_sub {t t' : TypeId} {p q s : Int} (hs : IntKind.i64.wrap (p - q) = s) (ho : ops[i]? = some o) (hop : o.op = .binOp .sub t x y t') (hx : a.eval x = .int .i64 p) (hy : a.eval y = .int .i64 q) (hw : Region.wanted o (yielded ops a.tmps) = true)
    (h : AlongS P ops Q S r (a.put o.dst (.int .i64 s)) w) : AlongS P ops Q S ((i, true) :: r) a w :=
  alongS_read _ ho hw (fun w' _ => by unfold execOp; rw [hop]; simp only [hx, hy]; simp [go_sem, hs]) h
/-- whatever runs without entering a function -/
theorem alongS_run (v : Value) (w' : World) (ho : ops[i]? = some o) (hw : Region.wanted o (yielded ops a.tmps) = true) (hr : (execOp a.eval o).run P w = .ok (.value v) w') (hS : S w') (h : AlongS P ops Q S r (a.put o.dst v) w') : AlongS P ops Q S ((i, false) :: r) a w := by
  refine wpOp_step ho fun K' hK => ?_
  rw [if_pos hw]
  unfold Oper.wp
  rw [hr]
  exact hK _ _ ⟨hS, h⟩
/-- a call of a function of one's own -/
theorem alongS_call {f : FuncId} {args : List Operand} {ts : Array TypeId} {vs : List Value} (ho : ops[i]? = some o) (hop : o.op = .call { callee := .value (.func f), args := args.toArray, argTypes := ts }) (hvs : args.map a.eval = vs)
    (he : ∀ args w, (callFunc f args).run P w = .ok (.enter f args) w) (hw : Region.wanted o (yielded ops a.tmps) = true)
    (hc : Calls P f vs.toArray w fun e w' => ∃ v, e = .returned v ∧ S w' ∧ AlongS P ops Q S r (a.put o.dst v) w') : AlongS P ops Q S ((i, false) :: r) a w := by
  refine wpOp_step ho fun K' hK => ?_
  rw [if_pos hw]
  have hrun : (execOp a.eval o).run P w = .ok (.enter f vs.toArray) w := by
    have hf : a.eval (.func f) = .func (.func f) #[] #[] := rfl
    unfold execOp; rw [hop]; simp only [resolve, hf, List.map_toArray, hvs]; simp [invoke, he, go_sem]
  unfold Oper.wp
  rw [hrun, Oper.upon_enter]
  refine Calls.mono hc fun e w' ⟨v, he, hu, h⟩ => ?_
  subst he
  exact hK _ _ ⟨hu, h⟩
/-- a slice of one string -/
theorem alongS_one {t e : TypeId} {s z : ByteArray} (hu : P.underlying t = some (.slice e)) (hsz : ∀ w, (sizeOf e).run P w = .ok 1 w) (hz : ∀ w, (zeroValue e).run P w = .ok (.string z) w) (ho : ops[i]? = some o) (hop : o.op = .buildSlice t 1 #[(0, x)]) (hx : a.eval x = .string s) (hw : Region.wanted o (yielded ops a.tmps) = true)
    (hS : S (w.alloc (.cells #[.string s] e))) (h : AlongS P ops Q S r (a.put o.dst (.slice (some ⟨w.heap.size, 0, none⟩) 1 1)) (w.alloc (.cells #[.string s] e))) : AlongS P ops Q S ((i, false) :: r) a w :=
  alongS_run _ _ ho hw (by
    have hm : (#[(0, x)] : Array (Nat × Operand)).map (fun (i, x) => (i, a.eval x)) = #[(0, .string s)] := by simp only [List.map_toArray, List.map_cons, List.map_nil, hx]
    unfold execOp; rw [hop]
    simp only [hm]
    simp [Instr.buildSlice, run_underlying hu, hsz, hz, go_sem, Result.andThen]) hS h
/-- append onto a slice of one's own -/
theorem alongS_append {s : Operand} {t : TypeId} (hw : Region.wanted o (yielded ops a.tmps) = true) (ho : ops[i]? = some o) (hop : o.op = .call { callee := .builtin .append, args := #[s, x], argTypes := #[t, t] })
    (base : Nat) (e : TypeId) (inf : TypeInfo) (z : Value) (size bytes : Nat) (ht : P.underlying t = some (.slice e)) (hi : P.info? e = some inf) (hz : inf.zero = some z)
    (hsize : inf.size = size) (hby : inf.bytes = bytes) (hzs : z.cells.size = size) (hsz : 0 < size)
    (v : Value) (n : Nat) (xs : List Value) (hs : a.eval s = v) (hown : w.ownsRow base e size v n xs)
    (ad : Addr) (m c : Nat) (news : List Value) (hx : a.eval x = .slice (some ad) m c) (hl : news.length = m * size) (hnews : ∀ j u, news[j]? = some u → w.cell? (ad.add j) = some u) (h1 : ∀ u ∈ news, u.oneCell' = true)
    (h63 : n + m ≤ maxLen) (hbytes : (n + m) * bytes ≤ 140737488355328) (hbase : base ≤ w.heap.size)
    (h : ∀ v' w', w'.ownsRow base e size v' (n + m) (xs ++ news) → w.grownBy w' v.ownBlock → S w' ∧ AlongS P ops Q S r (a.put o.dst v') w') : AlongS P ops Q S ((i, false) :: r) a w := by
  obtain ⟨v', w', hr, h2, h3, _, _⟩ := run_append_own_at (P := P) w base t o.type e inf z size bytes ht hi hz hsize hby hzs hsz v n xs hown ad m c news hl hnews h1 h63 hbytes hbase
  refine alongS_run v' w' ho hw ?_ (h v' w' h2 h3).1 (h v' w' h2 h3).2
  unfold execOp
  simp only [hop, resolve, invoke, builtin, Sem.run_bind, Sem.run_pure, Result.andThen_ok, List.map_toArray, List.map_cons, List.map_nil, hs, hx, hr]
/-- .. of a string -/
theorem alongS_appendstr {s : Operand} {t u : TypeId} (hw : Region.wanted o (yielded ops a.tmps) = true) (ho : ops[i]? = some o) (hop : o.op = .call { callee := .builtin .append, args := #[s, x], argTypes := #[t, u] })
    (base : Nat) (e : TypeId) (inf : TypeInfo) (ht : P.underlying t = some (.slice e)) (hu : P.underlying u = some .string) (hi : P.info? e = some inf) (hz : inf.zero = some (.int .u8 0))
    (hsize : inf.size = 1) (hby : inf.bytes = 1)
    (v : Value) (n : Nat) (xs : List Value) (hs : a.eval s = v) (hown : w.ownsRow base e 1 v n xs) (str : ByteArray) (hx : a.eval x = .string str)
    (h63 : n + str.size ≤ maxLen) (hbytes : n + str.size ≤ 140737488355328) (hbase : base ≤ w.heap.size)
    (h : ∀ v' w', w'.ownsRow base e 1 v' (n + str.size) (xs ++ Lib.strCells str) → w.grownBy w' v.ownBlock → S w' ∧ AlongS P ops Q S r (a.put o.dst v') w') : AlongS P ops Q S ((i, false) :: r) a w := by
  obtain ⟨v', w', hr, h2, h3, _⟩ := Lib.run_append_own_string (P := P) w base t u o.type e inf ht hu hi hz hsize hby v n xs hown str h63 hbytes hbase
  refine alongS_run v' w' ho hw ?_ (h v' w' h2 h3).1 (h v' w' h2 h3).2
  unfold execOp
  simp only [hop, resolve, invoke, builtin, Sem.run_bind, Sem.run_pure, Result.andThen_ok, List.map_toArray, List.map_cons, List.map_nil, hs, hx, hr]
end
end

/-
  A STATEMENT THAT LEAVES ITS ORDER OPEN: first whatever only reads or calls quietly (the calls may draw), in any order; then a forced row of operations that may do anything.
  Over worlds that differ in draws alone. The head is walked in the text's order, the tail as a list.
-/
section
set_option linter.unusedVariables false

section
variable {P : Program} {ops : Array Oper} {md : Region.Mode} {C : World → Prop}

/-- f operations of the head (the first n) are still to come; behind them L -/
def HeadQ (P : Program) (md : Region.Mode) (ops : Array Oper) (C : World → Prop) (n : Nat) (L : Array Bool → Act → Prop) : Nat → Array Bool → Act → Prop
  | 0, done, a => L done a
  | f + 1, done, a => Region.ready md ops done ≠ [] ∧ ∀ i ∈ Region.ready md ops done, i < n ∧ qOp P ops C i (HeadQ P md ops C n L f (done.setIfInBounds i true)) a

theorem wpAny_of_headQ {n g : Nat} {L : Array Bool → Act → Prop} {Q : Exit → Act → World → Prop} (hL : ∀ done a w, C w → L done a → wpAny P md ops Q g done a w) :
    ∀ (f : Nat) (done : Array Bool) (a : Act) (w : World), C w → HeadQ P md ops C n L f done a → wpAny P md ops Q (f + g) done a w
  | 0, done, a, w, hw, h => by rw [Nat.zero_add]; exact hL _ _ _ hw h
  | f + 1, done, a, w, hw, h => by
    rw [Nat.add_right_comm]
    exact ⟨fun e => absurd e h.1, fun i hi => wpOp_of_qOp hw (fun a' w' hw' h' => wpAny_of_headQ hL f _ a' w' hw' h') (h.2 i hi).2⟩

/-- one that may come up may be taken first -/
theorem headQ_first {n i : Nat} {o : Oper} {v : Value} {L : Array Bool → Act → Prop} (ho : ops[i]? = some o) (hs : Region.noSelect ops = true)
    (hsink : Region.sinkB md ops n = true) (hch : Region.chainB md ops n = true) (hn : n < ops.size) (hin : i < n) (hL : ∀ done a, L done a → ∀ j ∈ Region.ready md ops done, n ≤ j) :
    ∀ (f : Nat) (done : Array Bool) (a : Act), HeadInv md ops n done →
      (∀ j oj, ops[j]? = some oj → j ≠ i → done.getD j true = false → (∀ e ∈ oj.after, Region.binds md e = true → e.on ≠ i) → o.apart ops oj = true) →
      i ∈ Region.ready md ops done → YieldsIn P ops C o v a →
      HeadQ P md ops C n L f (done.setIfInBounds i true) (a.put o.dst v) → HeadQ P md ops C n L (f + 1) done a := by
  intro f
  induction f with
  | zero =>
    intro done a inv _ hr hy H
    have hun := (mem_ready.1 hr).1
    refine ⟨fun e => by simp [e] at hr, fun j hj => ?_⟩
    have hjn : j < n := Nat.lt_of_not_le fun hle => tail_waits hsink hch hn inv _ i rfl hin hun j hle hj
    refine ⟨hjn, ?_⟩
    by_cases e : j = i
    · rw [e]; exact hy.qOp ho H
    · have := hL _ _ H j (ready_mono hj e); omega
  | succ f ih =>
    intro done a inv hfree hr hy H
    have hun := (mem_ready.1 hr).1
    refine ⟨fun e => by simp [e] at hr, fun j hj => ?_⟩
    have hjn : j < n := Nat.lt_of_not_le fun hle => tail_waits hsink hch hn inv _ i rfl hin hun j hle hj
    refine ⟨hjn, ?_⟩
    by_cases e : j = i
    · rw [e]; exact hy.qOp ho H
    obtain ⟨hju, oj, hoj, hall⟩ := mem_ready.1 hj
    have hnot : ∀ x ∈ oj.after, Region.binds md x = true → x.on ≠ i := by
      intro x hx hb hxi
      have hd := hall x hx hb
      rw [hxi, getD_both hun] at hd
      exact Bool.false_ne_true hd
    have step := qOp_put hoj (hfree j oj hoj e hju hnot) (fun cs b => Region.noSelect_spec hs i o cs b ho) (fun cs b => Region.noSelect_spec hs j oj cs b hoj) hy (H.2 j (ready_mono hj e)).2
    refine qOp_mono (fun a' k => ih _ a' (inv.set hj hjn) (fun m om hm hmi hmu hmo => hfree m om hm hmi ?_ hmo) (ready_mono hr (Ne.symm e)) k.1 ?_) step
    · by_cases ejm : j = m
      · rw [← ejm]; exact hju
      · rwa [getD_set_ne true ejm] at hmu
    · rw [Array.setIfInBounds_comm _ _ e]; exact k.2

theorem headQ_lex {n g : Nat} {L : Act → Prop} (hs : Region.noSelect ops = true) (hsink : Region.sinkB md ops n = true) (hch : Region.chainB md ops n = true) (hn : n < ops.size) :
    ∀ (l : List Oper) (k : Nat) (done : Array Bool) (a : Act), (∀ j, j < l.length → l[j]? = ops[k + j]?) → k + l.length = n → HeadInv md ops n done →
    Region.lexHead md ops g l.length k done = true → wpQuiet P ops C L l a →
    HeadQ P md ops C n (fun done a' => Region.seqB md ops g n done = true ∧ L a') l.length done a
  | [], k, done, a, _, hk, _, hB, h => by
    obtain rfl : k = n := by simpa using hk
    exact ⟨by simpa [Region.lexHead] using hB, h⟩
  | o :: l, k, done, a, hl, hk, inv, hB, h => by
    have ho : ops[k]? = some o := by simpa using (hl 0 (by simp)).symm
    simp only [List.length_cons] at hk
    simp only [List.length_cons, Region.lexHead, Bool.and_eq_true] at hB
    have hr : k ∈ Region.ready md ops done := by simpa using hB.1.1
    obtain ⟨v, hy, hK⟩ := yieldsIn_of_qOp (K := wpQuiet P ops C L l) ho (by unfold qOp; simp only [ho]; exact h)
    refine headQ_first ho hs hsink hch hn (by omega) (fun _ _ k => seqB_ready k.1) l.length done a inv (Region.free_spec ho hB.1.2) hr hy ?_
    exact headQ_lex hs hsink hch hn l (k + 1) _ _ (fun j hj => by rw [Nat.add_assoc, Nat.add_comm 1 j]; simpa using hl (j + 1) (by simp; omega)) (by omega) (inv.set hr (by omega)) hB.2 hK

/-- A REGION: n operations that only read or call quietly, then a forced row. -/
theorem region_quiet_tail {id : Nat} {Q : Exit → Act → World → Prop} {a : Act} {w : World} {l : List Oper} (n : Nat) (hm : P.follows .mixedOrders = true) (hB : Region.lexTailB .any l.toArray n = true)
    (h : wpQuiet P l.toArray (fun w' => ∃ n, w' = w.drewN n) (fun a' => ∀ q, wpList P l.toArray Q (l.drop n) a' (w.drewN q)) (l.take n) a) : (Code.region id l.toArray true).wp P Q a w := by
  simp only [Region.lexTailB, Bool.and_eq_true, decide_eq_true_eq] at hB
  obtain ⟨⟨⟨⟨hs, hn⟩, hsink⟩, hch⟩, hlex⟩ := hB
  have ht : (l.take n).length = n := by simp at hn ⊢; omega
  have hd : (l.drop n).length = l.toArray.size - n := by simp
  have inv : HeadInv .any l.toArray n (Array.replicate l.toArray.size false) :=
    ⟨by simp, fun j oj _ e => absurd (getD_replicate_false _ _ ▸ e) Bool.false_ne_true, fun t _ hlt => getD_in (by simpa using hlt) (getD_replicate_false _ _)⟩
  have H := headQ_lex (md := .any) (g := l.toArray.size - n) hs hsink hch hn (l.take n) 0 _ a (fun j hj => by rw [ht] at hj; simp [hj]) (by omega) inv (by rw [ht]; exact hlex) h
  refine wp_region_any hm ?_
  have R := wpAny_of_headQ (Q := Q) (g := l.toArray.size - n) (fun done a' w' hw' k => by
    obtain ⟨q, rfl⟩ := hw'
    have := wpAny_of_seq (md := .any) (Q' := Q) (l.drop n) n done a' (w.drewN q) (fun j => by simp [List.getElem?_drop]) (by rw [hd]; exact k.1) (k.2 q)
    rwa [hd] at this) _ _ _ w.drew ⟨1, rfl⟩ H
  rwa [ht, show n + (l.toArray.size - n) = l.toArray.size from by omega] at R
end
end

/-
  As QuietTail, where the first operation is a copy that only the tail looks at.
-/
section
set_option linter.unusedVariables false

section
variable {P : Program} {ops : Array Oper} {md : Region.Mode} {C : World → Prop}

/-- while one of the head but the first is to come, none of the tail may come up -/
def Waits (md : Region.Mode) (ops : Array Oper) (n : Nat) : Prop :=
  ∀ (done : Array Bool) (i : Nat), HeadInv md ops n done → 1 ≤ i → i < n → done.getD i true = false → ∀ t, n ≤ t → t ∉ Region.ready md ops done

/-- each of the head but the first is waited for by one that comes behind it in the head, or by the tail's first -/
def sinkB1 (md : Region.Mode) (ops : Array Oper) (n : Nat) : Bool :=
  (List.range n).all fun i => i == 0 || (List.range (n + 1)).any fun j => decide (i < j) && Region.waitsFor md ops j i

theorem ready_after {j i : Nat} {done : Array Bool} (hj : j ∈ Region.ready md ops done) (hw : Region.waitsFor md ops j i = true) : done.getD i false = true := by
  obtain ⟨_, o, ho, hall⟩ := mem_ready.1 hj
  obtain ⟨o', ho', e, he, hb, hon⟩ := Region.waitsFor_spec hw
  obtain rfl := Option.some.inj (ho.symm.trans ho')
  rw [← hon]; exact hall e he hb

theorem waits_of {n : Nat} (hs : sinkB1 md ops n = true) (hc : Region.chainB md ops n = true) (hn : n < ops.size) : Waits md ops n := by
  intro done i inv
  generalize hd : n - i = d
  induction d using Nat.strongRecOn generalizing i with
  | _ d ih =>
    intro h1 hin hun t ht hr
    have hun' : done.getD i false = false := getD_both hun
    have htl : t < ops.size := by
      obtain ⟨_, o, ho, _⟩ := mem_ready.1 hr
      exact (Array.getElem?_eq_some_iff.1 ho).1
    have s1 := List.all_eq_true.1 hs i (List.mem_range.2 hin)
    have hi0 : (i == 0) = false := by simp; omega
    rw [hi0, Bool.false_or] at s1
    obtain ⟨j, hj, hj2⟩ := List.any_eq_true.1 s1
    simp only [Bool.and_eq_true, decide_eq_true_eq] at hj2
    have hjn := List.mem_range.1 hj
    by_cases e : j = n
    · by_cases et : t = n
      · rw [et, ← e] at hr
        rw [ready_after hr hj2.2] at hun'; cases hun'
      · have c1 := List.all_eq_true.1 hc t (List.mem_range.2 htl)
        simp only [Bool.or_eq_true, decide_eq_true_eq] at c1
        rcases c1 with c1 | c1
        · omega
        · have := ready_after hr c1
          rw [getD_both (inv.tail (t - 1) (by omega) (by omega))] at this
          cases this
    · have hjs : j < done.size := by rw [inv.size]; omega
      have hju : done.getD j false = false := by
        cases hl : done.getD j false with
        | false => rfl
        | true =>
          obtain ⟨o', ho', x, hx, hb, hon⟩ := Region.waitsFor_spec hj2.2
          have := inv.closed j o' ho' hl x hx hb
          rw [hon, hun'] at this; cases this
      exact ih (n - j) (by omega) j rfl (by omega) (by omega) (getD_in hjs hju) t ht hr

/-- one that may come up may be taken first -/
theorem headQ_first1 {n i : Nat} {o : Oper} {v : Value} {L : Array Bool → Act → Prop} (ho : ops[i]? = some o) (hs : Region.noSelect ops = true)
    (hT : Waits md ops n) (hin : i < n) (h1 : 1 ≤ i) (hL : ∀ done a, L done a → ∀ j ∈ Region.ready md ops done, n ≤ j) :
    ∀ (f : Nat) (done : Array Bool) (a : Act), HeadInv md ops n done →
      (∀ j oj, ops[j]? = some oj → j ≠ i → done.getD j true = false → (∀ e ∈ oj.after, Region.binds md e = true → e.on ≠ i) → o.apart ops oj = true) →
      i ∈ Region.ready md ops done → YieldsIn P ops C o v a →
      HeadQ P md ops C n L f (done.setIfInBounds i true) (a.put o.dst v) → HeadQ P md ops C n L (f + 1) done a := by
  intro f
  induction f with
  | zero =>
    intro done a inv _ hr hy H
    have hun := (mem_ready.1 hr).1
    refine ⟨fun e => by simp [e] at hr, fun j hj => ?_⟩
    have hjn : j < n := Nat.lt_of_not_le fun hle => hT done i inv h1 hin hun j hle hj
    refine ⟨hjn, ?_⟩
    by_cases e : j = i
    · rw [e]; exact hy.qOp ho H
    · have := hL _ _ H j (ready_mono hj e); omega
  | succ f ih =>
    intro done a inv hfree hr hy H
    have hun := (mem_ready.1 hr).1
    refine ⟨fun e => by simp [e] at hr, fun j hj => ?_⟩
    have hjn : j < n := Nat.lt_of_not_le fun hle => hT done i inv h1 hin hun j hle hj
    refine ⟨hjn, ?_⟩
    by_cases e : j = i
    · rw [e]; exact hy.qOp ho H
    obtain ⟨hju, oj, hoj, hall⟩ := mem_ready.1 hj
    have hnot : ∀ x ∈ oj.after, Region.binds md x = true → x.on ≠ i := by
      intro x hx hb hxi
      have hd := hall x hx hb
      rw [hxi, getD_both hun] at hd
      exact Bool.false_ne_true hd
    have step := qOp_put hoj (hfree j oj hoj e hju hnot) (fun cs b => Region.noSelect_spec hs i o cs b ho) (fun cs b => Region.noSelect_spec hs j oj cs b hoj) hy (H.2 j (ready_mono hj e)).2
    refine qOp_mono (fun a' k => ih _ a' (inv.set hj hjn) (fun m om hm hmi hmu hmo => hfree m om hm hmi ?_ hmo) (ready_mono hr (Ne.symm e)) k.1 ?_) step
    · by_cases ejm : j = m
      · rw [← ejm]; exact hju
      · rwa [getD_set_ne true ejm] at hmu
    · rw [Array.setIfInBounds_comm _ _ e]; exact k.2

theorem headQ_lex1 {n g : Nat} {L : Act → Prop} (hs : Region.noSelect ops = true) (hT : Waits md ops n) :
    ∀ (l : List Oper) (k : Nat) (done : Array Bool) (a : Act), 1 ≤ k → (∀ j, j < l.length → l[j]? = ops[k + j]?) → k + l.length = n → HeadInv md ops n done →
    Region.lexHead md ops g l.length k done = true → wpQuiet P ops C L l a →
    HeadQ P md ops C n (fun done a' => Region.seqB md ops g n done = true ∧ L a') l.length done a
  | [], k, done, a, _, _, hk, _, hB, h => by
    obtain rfl : k = n := by simpa using hk
    exact ⟨by simpa [Region.lexHead] using hB, h⟩
  | o :: l, k, done, a, h1, hl, hk, inv, hB, h => by
    have ho : ops[k]? = some o := by simpa using (hl 0 (by simp)).symm
    simp only [List.length_cons] at hk
    simp only [List.length_cons, Region.lexHead, Bool.and_eq_true] at hB
    have hr : k ∈ Region.ready md ops done := by simpa using hB.1.1
    obtain ⟨v, hy, hK⟩ := yieldsIn_of_qOp (K := wpQuiet P ops C L l) ho (by unfold qOp; simp only [ho]; exact h)
    refine headQ_first1 ho hs hT (by omega) h1 (fun _ _ k => seqB_ready k.1) l.length done a inv (Region.free_spec ho hB.1.2) hr hy ?_
    exact headQ_lex1 hs hT l (k + 1) _ _ (by omega) (fun j hj => by rw [Nat.add_assoc, Nat.add_comm 1 j]; simpa using hl (j + 1) (by simp; omega)) (by omega) (inv.set hr (by omega)) hB.2 hK

/-- the check -/
def tailB1 (md : Region.Mode) (ops : Array Oper) (n : Nat) : Bool :=
  Region.noSelect ops && decide (0 < n) && decide (n < ops.size) && sinkB1 md ops n && Region.chainB md ops n &&
    (Region.ready md ops (Array.replicate ops.size false)).contains 0 && Region.free md ops (Array.replicate ops.size false) 0 &&
    Region.lexHead md ops (ops.size - n) (n - 1) 1 ((Array.replicate ops.size false).setIfInBounds 0 true)

/-- A REGION whose first operation is a copy: it is taken first; then n - 1 operations that only read or call quietly, then a forced row. -/
theorem region_quiet_tail1 {id : Nat} {Q : Exit → Act → World → Prop} {a : Act} {w : World} {o : Oper} {l : List Oper} (n : Nat) (x : Operand) (hop : o.op = .move x) (hgd : o.guard = none) (hm : P.follows .mixedOrders = true) (hB : tailB1 .any (o :: l).toArray n = true)
    (hQ : ∀ c a d v w, Q (.panic c) (Act.put a d v) w → Q (.panic c) a w)
    (h : wpQuiet P (o :: l).toArray (fun w' => ∃ n, w' = w.drewN n) (fun a' => ∀ q, wpList P (o :: l).toArray Q (l.drop (n - 1)) a' (w.drewN q)) (l.take (n - 1)) (a.put o.dst (a.eval x))) : (Code.region id (o :: l).toArray true).wp P Q a w := by
  simp only [tailB1, Bool.and_eq_true, decide_eq_true_eq] at hB
  obtain ⟨⟨⟨⟨⟨⟨⟨hs, h0⟩, hn⟩, hsink⟩, hch⟩, hr⟩, hf⟩, hlex⟩ := hB
  have hn' : n < l.length + 1 := by simpa using hn
  have ht : (l.take (n - 1)).length = n - 1 := by simp; omega
  have hd : (l.drop (n - 1)).length = (o :: l).toArray.size - n := by simp; omega
  have hr' : 0 ∈ Region.ready .any (o :: l).toArray (Array.replicate (o :: l).toArray.size false) := by simpa using hr
  have inv0 : HeadInv .any (o :: l).toArray n (Array.replicate (o :: l).toArray.size false) :=
    ⟨by simp, fun j oj _ e => absurd (getD_replicate_false _ _ ▸ e) Bool.false_ne_true, fun t _ hlt => getD_in (by simpa using hlt) (getD_replicate_false _ _)⟩
  have inv := inv0.set hr' h0
  have H := headQ_lex1 (md := .any) (g := (o :: l).toArray.size - n) hs (waits_of hsink hch hn) (l.take (n - 1)) 1 _ (a.put o.dst (a.eval x)) (Nat.le_refl _) (fun j hj => by rw [ht] at hj; simp [hj, Nat.add_comm 1 j]) (by omega) inv (by rw [ht]; exact hlex) h
  refine wp_region_any hm ?_
  have R := wpAny_of_headQ (Q := Q) (g := (o :: l).toArray.size - n) (fun done a' w' hw' k => by
    obtain ⟨q, rfl⟩ := hw'
    have := wpAny_of_seq (md := .any) (Q' := Q) (l.drop (n - 1)) n done a' (w.drewN q) (fun j => by simp [List.getElem?_drop, show n + j = (n - 1 + j) + 1 from by omega]) (by rw [hd]; exact k.1) (k.2 q)
    rwa [hd] at this) _ _ _ w.drew ⟨1, rfl⟩ H
  rw [ht, show n - 1 + ((o :: l).toArray.size - n) = l.length from by simp; omega] at R
  have hsz : (o :: l).toArray.size = l.length + 1 := by simp
  rw [hsz] at R hf hr ⊢
  refine wpAny_take (oi := o) (by simp) hs hf hr (fun c a w => hQ c a _ _ w) (.inl ⟨?_, fun w' => by simp [execOp, hop, Sem.run_pure]⟩) R
  unfold Region.wanted; rw [hgd]
end
end
end Go.Proofs.Ytmcajckpgbamnaa
