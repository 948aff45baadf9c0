import Derived.OrdersHeld
import Derived.OrdersIn
import Derived.OwnWalkIn
import Derived.RangeFuncCalls
import Derived.RangeFuncSeq
import Derived.RangeFuncBox
import Derived.RangeFuncLeaves
import Derived.RangeFuncNested
import Derived.Laws.Tables
import Derived.Laws.Rows
import Derived.Laws.BitsAllLaws
import Derived.Test.YtmcajckpgbamnaaGrowth
import Derived.Test.YtmcajckpgbamnaaBase
namespace Go.Proofs.Ytmcajckpgbamnaa
section
/-
  A STATEMENT THAT LEAVES ITS ORDER OPEN, ALONG A PLAN WITH FORKS, in a function or in a round of a loop over a function. Whatever yields the same in every world that meets S may be taken as soon as it can come up; where two others can come up, both ways are gone.
-/
section
section
set_option linter.unusedVariables false
open Go.RowKit

/-- nothing is asked of calls; in the round of a loop over a function, or in none -/
def wideAt (ro : Option Nat) : Fence := { Fence.wide with round := ro }
theorem wideAt_none : wideAt none = Fence.wide := rfl
theorem wideAt_some (l : Nat) : wideAt (some l) = Fence.wide.inRound l := rfl

def noDefer (ops : Array Oper) : Bool := ops.all fun o => match o.op with | .defer _ => false | _ => true
theorem noDefer_at {ops : Array Oper} (h : noDefer ops = true) {i : Nat} {o : Oper} (ho : ops[i]? = some o) : ∀ c, o.op ≠ .defer c := by
  intro c hc
  have := Array.all_eq_true_iff_forall_mem.1 h o (Array.mem_of_getElem? ho)
  rw [hc] at this
  cases this

section
variable {ro : Option Nat} {n : Nat} {P : Program} {ops : Array Oper} {Q : Exit → Act → World → Prop} {md : Region.Mode} {S : World → Prop}

theorem oper_in {o : Oper} {a : Act} {w : World} {K : Act → World → Prop} (hd : ∀ c, o.op ≠ .defer c) :
    o.wpIn (wideAt ro) n P a w K Q ↔ o.uponIn (wideAt ro) n P a K Q ((execOp a.eval o).run P w) := by
  unfold Oper.wpIn
  rw [Oper.semAt_plain _ _ _ hd]
  exact ⟨fun h => h.2, fun h => ⟨fun _ _ => trivial, h⟩⟩

/-- what another operation leaves, when v is put ahead of it -/
theorem upon_put {o : Oper} {a : Act} {d : Option Tmp} {v : Value} {K : Act → World → Prop} {Y : Act → Prop} (hc : ∀ (b : Act) u, (b.put d v).put o.dst u = (b.put o.dst u).put d v)
    (hQ : ∀ c a w, Q (.panic c) (Act.put a d v) w → Q (.panic c) a w) (hY : ∀ b u, Y b → Y (b.put o.dst u)) (hYd : ∀ b e, Y b → Y { b with defers := e :: b.defers }) (ha : Y a) (r : Result Next)
    (h : o.uponIn (wideAt ro) n P (a.put d v) K Q r) : o.uponIn (wideAt ro) n P a (fun a' w' => Y a' ∧ K (a'.put d v) w') Q r := by
  have go : ∀ u w', K ((a.put d v).put o.dst u) w' → Y (a.put o.dst u) ∧ K ((a.put o.dst u).put d v) w' := fun u w' k => ⟨hY a u ha, by rw [← hc a u]; exact k⟩
  cases r with
  | halt x w' => cases x <;> simp only [Oper.uponIn] at h ⊢; exact hQ _ _ _ h
  | ok x w' =>
    cases x <;> simp only [Oper.uponIn] at h ⊢
    case value u => exact go u w' h
    case skip => exact go _ w' h
    case defer e => exact ⟨hY _ _ (hYd a e ha), by rw [← hc, ← Act.put_defers]; exact h⟩
    case enter f args =>
      refine ⟨h.1, CallsIn.mono h.2 fun e w'' k => ?_⟩
      cases e with
      | returned u => exact go u w'' k
      | panicked c => exact hQ _ _ _ k
      | outgrown => exact k
    case row row args => exact ⟨h.1, RowsIn.mono h.2 fun u w'' k => go u w'' k⟩
    case round l f tmps assign body =>
      refine ⟨h.1, RoundIn.mono h.2 fun e w'' k => ?_⟩
      cases e with
      | returned u => exact go u w'' k
      | panicked c => exact hQ _ _ _ k
      | outgrown => exact k

/-- whatever comes up goes on, and S holds behind it -/
def AnyF (ro : Option Nat) (n : Nat) (P : Program) (md : Region.Mode) (ops : Array Oper) (Q : Exit → Act → World → Prop) (S : World → Prop) : Nat → Array Bool → Act → World → Prop
  | 0, listed, a, w => Region.ready md ops listed = [] ∧ Q .normal a w
  | f + 1, listed, a, w => (Region.ready md ops listed = [] → Q .normal a w) ∧
    ∀ i ∈ Region.ready md ops listed, wpOpIn (wideAt ro) n P ops Q i (fun a' w' => S w' ∧ AnyF ro n P md ops Q S f (listed.setIfInBounds i true) a' w') a w

theorem AnyF.any : ∀ (f : Nat) (listed : Array Bool) (a : Act) (w : World), AnyF ro n P md ops Q S f listed a w → wpAnyIn (wideAt ro) n P md ops Q f listed a w
  | 0, _, _, _, h => h
  | f + 1, _, _, _, h => ⟨h.1, fun i hi => wpOpIn_mono (fun a' w' k => AnyF.any f _ a' w' k.2) (h.2 i hi)⟩

theorem yields_op {i : Nat} {o : Oper} {v : Value} {a : Act} {w : World} {K : Act → World → Prop} (hd : ∀ c, o.op ≠ .defer c) (ho : ops[i]? = some o) (hy : YieldsIf P ops S o v a) (hS : S w) (h : K (a.put o.dst v) w) : wpOpIn (wideAt ro) n P ops Q i K a w := by
  unfold wpOpIn
  simp only [ho]
  rcases hy with ⟨hw, hv⟩ | ⟨hw, rfl⟩
  · rw [if_pos hw, oper_in hd, hv w hS]; exact h
  · rw [if_neg (by rw [hw]; simp)]; exact ⟨fun _ _ => trivial, h⟩

/-- another operation, when one that yields v is put ahead of it -/
theorem op_behind {j : Nat} {oi oj : Oper} {v : Value} (hdj : ∀ c, oj.op ≠ .defer c) (hj : ops[j]? = some oj) (hap : oi.apart ops oj = true) (hsi : ∀ cs b, oi.op ≠ .select cs b) (hsj : ∀ cs b, oj.op ≠ .select cs b)
    (hQ : ∀ c a w, Q (.panic c) (Act.put a oi.dst v) w → Q (.panic c) a w) {K : Act → World → Prop} {a : Act} {w : World} (hy : YieldsIf P ops S oi v a) (h : wpOpIn (wideAt ro) n P ops Q j K (a.put oi.dst v) w) :
    wpOpIn (wideAt ro) n P ops Q j (fun a' w' => YieldsIf P ops S oi v a' ∧ K (a'.put oi.dst v) w') a w := by
  obtain ⟨h1, h2, h3⟩ := Oper.apart_spec hap
  have hY : ∀ b u, YieldsIf P ops S oi v b → YieldsIf P ops S oi v (b.put oj.dst u) := fun b u hb => hb.of_same (execOp_put oi hsi b oj.dst u h3) (wanted_put oi b oj.dst u h3)
  unfold wpOpIn at *
  simp only [hj] at *
  rw [wanted_put oj a oi.dst v h1] at h
  by_cases hw : Region.wanted oj (yielded ops a.tmps) = true
  · rw [if_pos hw] at h ⊢
    rw [oper_in hdj] at h ⊢
    rw [execOp_put oj hsj a oi.dst v h1] at h
    exact upon_put (fun b u => Act.put_comm b v u h2) hQ hY (fun b e hb => hb.of_same rfl rfl) hy _ h
  · rw [if_neg hw] at h ⊢
    exact ⟨fun _ _ => trivial, hY a _ hy, by rw [← Act.put_comm a v undef h2]; exact h.2⟩

theorem unlisted {done : Array Bool} {i : Nat} (h : done.getD i true = false) : done.getD i false = false := by
  by_cases hi : i < done.size
  · simpa [hi] using h
  · simp [hi] at h

/-- ONE THAT MAY COME UP, AND YIELDS THE SAME IN EVERY WORLD THAT MEETS S, MAY BE TAKEN FIRST. -/
theorem AnyF.first {i : Nat} {oi : Oper} {v : Value} (hnd : noDefer ops = true) (hi : ops[i]? = some oi) (hs : Region.noSelect ops = true)
    (hQ : ∀ c a w, Q (.panic c) (Act.put a oi.dst v) w → Q (.panic c) a w) : ∀ (f : Nat) (listed : Array Bool) (a : Act) (w : World),
      (∀ j oj, ops[j]? = some oj → j ≠ i → listed.getD j true = false → (∀ e ∈ oj.after, Region.binds md e = true → e.on ≠ i) → oi.apart ops oj = true) →
      i ∈ Region.ready md ops listed → YieldsIf P ops S oi v a → S w → AnyF ro n P md ops Q S f (listed.setIfInBounds i true) (a.put oi.dst v) w → AnyF ro n P md ops Q S (f + 1) listed a w
  | 0, listed, a, w, _, hr, hy, hS, H => by
    refine ⟨fun e => absurd hr (by rw [e]; simp), fun j hj => ?_⟩
    by_cases e : j = i
    · subst e; exact yields_op (noDefer_at hnd hi) hi hy hS ⟨hS, H⟩
    · have := ready_mono hj e
      rw [H.1] at this; cases this
  | f + 1, listed, a, w, hfree, hr, hy, hS, H => by
    have hun := (mem_ready.1 hr).1
    refine ⟨fun e => absurd hr (by rw [e]; simp), fun j hj => ?_⟩
    by_cases e : j = i
    · subst e; exact yields_op (noDefer_at hnd hi) hi hy hS ⟨hS, H⟩
    obtain ⟨hju, oj, hoj, hall⟩ := mem_ready.1 hj
    have hnot : ∀ x ∈ oj.after, Region.binds md x = true → x.on ≠ i := by
      intro x hx hb hxi
      have hd := hall x hx hb
      rw [hxi, unlisted hun] at hd
      exact Bool.false_ne_true hd
    have step := op_behind (S := S) (noDefer_at hnd hoj) hoj (hfree j oj hoj e hju hnot) (fun cs b => Region.noSelect_spec hs i oi cs b hi) (fun cs b => Region.noSelect_spec hs j oj cs b hoj) hQ hy (H.2 j (ready_mono hj e))
    refine wpOpIn_mono (fun a' w' k => ⟨k.2.1, ?_⟩) step
    refine AnyF.first hnd hi hs hQ f _ a' w' (fun m om hm hmi hmu hmo => hfree m om hm hmi ?_ hmo) (ready_mono hr (Ne.symm e)) k.1 k.2.1 ?_
    · by_cases ejm : j = m
      · rw [← ejm]; exact hju
      · rwa [getD_set_ne true ejm] at hmu
    · rw [Array.setIfInBounds_comm _ _ e]; exact k.2.2

/-- A PLAN -/
inductive Plan where
  | nil
  | read (i : Nat) (r : Plan)
  | step (i : Nat) (r : Plan)
  | fork (i : Nat) (r : Plan) (j : Nat) (q : Plan)
def Plan.size : Plan → Nat
  | .nil => 0
  | .read _ r => r.size + 1
  | .step _ r => r.size + 1
  | .fork _ r _ _ => r.size + 1
def Plan.ok (md : Region.Mode) (ops : Array Oper) : Plan → Array Bool → Bool
  | .nil, l => (Region.ready md ops l).isEmpty
  | .read i r, l => Region.free md ops l i && (Region.ready md ops l).contains i && r.ok md ops (l.setIfInBounds i true)
  | .step i r, l => decide (Region.ready md ops l = [i]) && r.ok md ops (l.setIfInBounds i true)
  | .fork i r j q, l => decide (Region.ready md ops l = [i, j]) && decide (q.size = r.size) && r.ok md ops (l.setIfInBounds i true) && q.ok md ops (l.setIfInBounds j true)

/-- THE WALK ALONG A PLAN -/
def AlongF (ro : Option Nat) (n : Nat) (P : Program) (ops : Array Oper) (Q : Exit → Act → World → Prop) (S : World → Prop) : Plan → Act → World → Prop
  | .nil, a, w => Q .normal a w
  | .read i r, a, w => ∃ o v, ops[i]? = some o ∧ YieldsIf P ops S o v a ∧ AlongF ro n P ops Q S r (a.put o.dst v) w
  | .step i r, a, w => wpOpIn (wideAt ro) n P ops Q i (fun a' w' => S w' ∧ AlongF ro n P ops Q S r a' w') a w
  | .fork i r j q, a, w => wpOpIn (wideAt ro) n P ops Q i (fun a' w' => S w' ∧ AlongF ro n P ops Q S r a' w') a w ∧ wpOpIn (wideAt ro) n P ops Q j (fun a' w' => S w' ∧ AlongF ro n P ops Q S q a' w') a w

theorem AlongF.sound (hnd : noDefer ops = true) (hs : Region.noSelect ops = true) (hQ : ∀ c a d v w, Q (.panic c) (Act.put a d v) w → Q (.panic c) a w) :
    ∀ (p : Plan) (listed : Array Bool) (a : Act) (w : World), p.ok md ops listed = true → S w → AlongF ro n P ops Q S p a w → AnyF ro n P md ops Q S p.size listed a w
  | .nil, listed, a, w, hp, _, h => ⟨by simpa [Plan.ok] using hp, h⟩
  | .read i r, listed, a, w, hp, hS, ⟨o, v, ho, hy, h⟩ => by
    simp only [Plan.ok, Bool.and_eq_true] at hp
    exact AnyF.first hnd ho hs (fun c a w => hQ c a _ _ w) _ _ _ _ (Region.free_spec ho hp.1.1) (by simpa using hp.1.2) hy hS (AlongF.sound hnd hs hQ r _ _ w hp.2 hS h)
  | .step i r, listed, a, w, hp, hS, h => by
    simp only [Plan.ok, Bool.and_eq_true, decide_eq_true_eq] at hp
    refine ⟨fun e => (by rw [hp.1] at e; cases e), fun j hj => ?_⟩
    rw [hp.1] at hj
    obtain rfl : j = i := by simpa using hj
    exact wpOpIn_mono (fun a' w' k => ⟨k.1, AlongF.sound hnd hs hQ r _ a' w' hp.2 k.1 k.2⟩) h
  | .fork i r j q, listed, a, w, hp, hS, h => by
    simp only [Plan.ok, Bool.and_eq_true, decide_eq_true_eq] at hp
    refine ⟨fun e => (by rw [hp.1.1.1] at e; cases e), fun m hm => ?_⟩
    rw [hp.1.1.1] at hm
    have hsz : (Plan.fork i r j q).size = r.size + 1 := rfl
    rcases List.mem_cons.1 hm with rfl | hm
    · exact wpOpIn_mono (fun a' w' k => ⟨k.1, AlongF.sound hnd hs hQ r _ a' w' hp.1.2 k.1 k.2⟩) h.1
    · obtain rfl : m = j := by simpa using hm
      refine wpOpIn_mono (fun a' w' k => ⟨k.1, ?_⟩) h.2
      have := AlongF.sound hnd hs hQ q (listed.setIfInBounds m true) a' w' hp.2 k.1 k.2
      rw [hp.1.1.2] at this
      exact this

/-- A REGION, ALONG A PLAN. -/
theorem region_alongF {id : Nat} {a : Act} {w : World} (S : World → Prop) (p : Plan) (hm : P.follows .mixedOrders = true) (hl : p.size = ops.size) (hnd : noDefer ops = true) (hs : Region.noSelect ops = true)
    (hp : p.ok .any ops (Array.replicate ops.size false) = true) (hQ : ∀ c a d v w, Q (.panic c) (Act.put a d v) w → Q (.panic c) a w) (hS : S w.drew) (h : AlongF ro n P ops Q S p a w.drew) : (Code.region id ops true).wpIn (wideAt ro) n P Q a w := by
  refine wpIn_region_any hm ?_
  have := AlongF.sound (md := .any) hnd hs hQ p _ a w.drew hp hS h
  rw [hl] at this
  exact AnyF.any _ _ _ _ this

variable {r q : Plan} {i j : Nat} {o : Oper} {a : Act} {w : World} {x y z : Operand} {v : Value}

theorem alongF_done (h : Q .normal a w) : AlongF ro n P ops Q S .nil a w := h
theorem alongF_read (v : Value) (ho : ops[i]? = some o) (hw : Region.wanted o (yielded ops a.tmps) = true) (hv : ∀ w', S w' → (execOp a.eval o).run P w' = .ok (.value v) w') (h : AlongF ro n P ops Q S r (a.put o.dst v) w) : AlongF ro n P ops Q S (.read i r) a w :=
  ⟨o, v, ho, .inl ⟨hw, hv⟩, h⟩
theorem alongF_skip (ho : ops[i]? = some o) (hw : Region.wanted o (yielded ops a.tmps) = false) (h : AlongF ro n P ops Q S r (a.put o.dst undef) w) : AlongF ro n P ops Q S (.read i r) a w :=
  ⟨o, undef, ho, .inr ⟨hw, rfl⟩, h⟩
theorem alongF_move (v : Value) (ho : ops[i]? = some o) (hop : o.op = .move x) (hv : a.eval x = v) (hw : Region.wanted o (yielded ops a.tmps) = true) (h : AlongF ro n P ops Q S r (a.put o.dst v) w) : AlongF ro n P ops Q S (.read i r) a w :=
  alongF_read v ho hw (fun w' _ => by simp [execOp, hop, hv, Sem.run_pure]) h
theorem alongF_assign (v : Value) (ho : ops[i]? = some o) (hop : o.op = .assign x) (hv : a.eval x = v) (hw : Region.wanted o (yielded ops a.tmps) = true) (h : AlongF ro n P ops Q S r (a.put o.dst v) w) : AlongF ro n P ops Q S (.read i r) a w :=
  alongF_read v ho hw (fun w' _ => by simp [execOp, hop, hv, Sem.run_pure]) h
/-- an element's place -/
theorem alongF_index {t e : TypeId} {b off m c k : Nat} (hu : P.underlying t = some (.slice e)) (hsz : ∀ w, (sizeOf e).run P w = .ok 1 w) (ho : ops[i]? = some o) (hop : o.op = .indexAddr t x y) (hx : a.eval x = .slice (some ⟨b, off, none⟩) m c) (hy : a.eval y = .int .i64 k) (hk : k < m) (hw : Region.wanted o (yielded ops a.tmps) = true)
    (h : AlongF ro n P ops Q S r (a.put o.dst (.pointer (some ⟨b, off + k, none⟩))) w) : AlongF ro n P ops Q S (.read i r) a w :=
  alongF_read _ ho hw (fun w' _ => by
    have h2 : ((⟨b, off, none⟩ : Addr).add k) = ⟨b, off + k, none⟩ := by unfold Addr.add; split <;> simp_all
    have hr : (Instr.indexAt t (.slice (some ⟨b, off, none⟩) m c) (.int .i64 k)).run P w' = .ok (.pointer (some ⟨b, off + k, none⟩)) w' := by
      have he : P.elem t = e := by simp [Program.elem, hu]
      have h3 := run_indexAt_slice (P := P) (w := w') t ⟨b, off, none⟩ m c .i64 k (by rw [he]; exact hu)
      rw [if_pos ⟨by omega, by omega⟩, he, hsz] at h3
      rw [h3]
      simp [h2]
    unfold execOp; rw [hop]; simp only [hx, hy, Sem.run_bind, hr, Result.andThen_ok, Sem.run_pure]) h
/-- a load of what is the same in every world that meets S -/
theorem alongF_load {t : TypeId} {ad : Addr} (v : Value) (hna : ∀ w, (isAgg t).run P w = .ok false w) (ho : ops[i]? = some o) (hop : o.op = .load t x) (hx : a.eval x = .pointer (some ad)) (hc : ∀ w', S w' → w'.cell? ad = some v) (hw : Region.wanted o (yielded ops a.tmps) = true)
    (h : AlongF ro n P ops Q S r (a.put o.dst v) w) : AlongF ro n P ops Q S (.read i r) a w :=
  alongF_read v ho hw (fun w' hS => by
    have hcell := hc w' hS
    unfold execOp; rw [hop]; simp only [hx]
    simp [Instr.loadAt, Instr.sureAddr, loadVar, hna, hcell, Result.andThen]) h
/-- 'k - n' -/
theorem alongF_sub {t t' : TypeId} {p q s : Int} (hs : IntKind.i64.wrap (p - q) = s) (ho : ops[i]? = some o) (hop : o.op = .binOp .sub t x y t') (hx : a.eval x = .int .i64 p) (hy : a.eval y = .int .i64 q) (hw : Region.wanted o (yielded ops a.tmps) = true)
    (h : AlongF ro n P ops Q S r (a.put o.dst (.int .i64 s)) w) : AlongF ro n P ops Q S (.read i r) a w :=
  alongF_read _ ho hw (fun w' _ => by unfold execOp; rw [hop]; simp only [hx, hy]; simp [go_sem, hs]) h
/-- 'k + n' -/
theorem alongF_add {t t' : TypeId} {p q s : Int} (hs : IntKind.i64.wrap (p + q) = s) (ho : ops[i]? = some o) (hop : o.op = .binOp .add t x y t') (hx : a.eval x = .int .i64 p) (hy : a.eval y = .int .i64 q) (hw : Region.wanted o (yielded ops a.tmps) = true)
    (h : AlongF ro n P ops Q S r (a.put o.dst (.int .i64 s)) w) : AlongF ro n P ops Q S (.read i r) a w :=
  alongF_read _ ho hw (fun w' _ => by unfold execOp; rw [hop]; simp only [hx, hy]; simp [go_sem, hs]) h
/-- two strings, one behind the other -/
theorem alongF_cat {t t' : TypeId} {p q s : ByteArray} (hs : p ++ q = s) (hl : s.size ≤ 4611686018427387904) (ho : ops[i]? = some o) (hop : o.op = .binOp .add t x y t') (hx : a.eval x = .string p) (hy : a.eval y = .string q) (hw : Region.wanted o (yielded ops a.tmps) = true)
    (h : AlongF ro n P ops Q S r (a.put o.dst (.string s)) w) : AlongF ro n P ops Q S (.read i r) a w :=
  alongF_read _ ho hw (fun w' _ => by
    have h2 : p.size + q.size = s.size := by rw [← hs]; simp
    unfold execOp; rw [hop]; simp only [hx, hy]; simp [go_sem, hs]; omega) h
/-- 'k ^ n' -/
theorem alongF_xor {t t' : TypeId} {p q s : Int} (hs : bits .xor .i64 p q = s) (ho : ops[i]? = some o) (hop : o.op = .binOp .xor t x y t') (hx : a.eval x = .int .i64 p) (hy : a.eval y = .int .i64 q) (hw : Region.wanted o (yielded ops a.tmps) = true)
    (h : AlongF ro n P ops Q S r (a.put o.dst (.int .i64 s)) w) : AlongF ro n P ops Q S (.read i r) a w :=
  alongF_read _ ho hw (fun w' _ => by unfold execOp; rw [hop]; simp only [hx, hy]; simp [go_sem, hs]) h
/-- whatever runs without entering a function -/
theorem opF_run (hd : ∀ c, o.op ≠ .defer c) (v : Value) (w' : World) (ho : ops[i]? = some o) (hw : Region.wanted o (yielded ops a.tmps) = true) (hr : (execOp a.eval o).run P w = .ok (.value v) w') (hS : S w') (h : AlongF ro n P ops Q S r (a.put o.dst v) w') : wpOpIn (wideAt ro) n P ops Q i (fun a' w' => S w' ∧ AlongF ro n P ops Q S r a' w') a w := by
  unfold wpOpIn
  simp only [ho]
  rw [if_pos hw, oper_in hd, hr]
  exact ⟨hS, h⟩
/-- a load, at its turn -/
theorem opF_load {t : TypeId} {ad : Addr} (v : Value) (hna : ∀ w, (isAgg t).run P w = .ok false w) (ho : ops[i]? = some o) (hop : o.op = .load t x) (hx : a.eval x = .pointer (some ad)) (hc : w.cell? ad = some v) (hw : Region.wanted o (yielded ops a.tmps) = true) (hS : S w)
    (h : AlongF ro n P ops Q S r (a.put o.dst v) w) : wpOpIn (wideAt ro) n P ops Q i (fun a' w' => S w' ∧ AlongF ro n P ops Q S r a' w') a w :=
  opF_run (by rw [hop]; intro c e; cases e) v w ho hw (by
    unfold execOp; rw [hop]; simp only [hx]
    simp [Instr.loadAt, Instr.sureAddr, loadVar, hna, hc, Result.andThen]) hS h
/-- a conversion -/
theorem opF_conv {t u : TypeId} {x' : Value} (v : Value) (w' : World) (ho : ops[i]? = some o) (hop : o.op = .convert t u x) (hx : a.eval x = x') (hr : (convert t u x').run P w = .ok v w') (hw : Region.wanted o (yielded ops a.tmps) = true) (hS : S w')
    (h : AlongF ro n P ops Q S r (a.put o.dst v) w') : wpOpIn (wideAt ro) n P ops Q i (fun a' w' => S w' ∧ AlongF ro n P ops Q S r a' w') a w :=
  opF_run (by rw [hop]; intro c e; cases e) v w' ho hw (by simp [execOp, hop, hx, hr, Result.andThen]) hS h
/-- a call of a function of one's own -/
theorem opF_call {f : FuncId} {args : List Operand} {ts : Array TypeId} {vs : List Value} (ho : ops[i]? = some o) (hop : o.op = .call { callee := .value (.func f), args := args.toArray, argTypes := ts }) (hvs : args.map a.eval = vs)
    (he : ∀ args w, (callFunc f args).run P w = .ok (.enter f args) w) (hw : Region.wanted o (yielded ops a.tmps) = true)
    (hc : Calls P f vs.toArray w fun e w' => ∃ v, e = .returned v ∧ S w' ∧ AlongF ro n P ops Q S r (a.put o.dst v) w') : wpOpIn (wideAt ro) n P ops Q i (fun a' w' => S w' ∧ AlongF ro n P ops Q S r a' w') a w := by
  have hrun : (execOp a.eval o).run P w = .ok (.enter f vs.toArray) w := by
    have hf : a.eval (.func f) = .func (.func f) #[] #[] := rfl
    unfold execOp; rw [hop]; simp only [resolve, hf, List.map_toArray, hvs]; simp [invoke, he, go_sem]
  unfold wpOpIn
  simp only [ho]
  rw [if_pos hw, oper_in (by rw [hop]; intro c e; cases e), hrun, Oper.uponIn_enter]
  refine ⟨fun h => (by cases h), CallsIn.mono (show CallsIn (wideAt ro) (n - 1) P f vs.toArray w _ from (callsIn_wide (n := n - 1)).2 hc) fun e w' ⟨v, he, hu, h⟩ => ?_⟩
  subst he
  exact ⟨hu, h⟩
/-- a slice of one string -/
theorem opF_one {t e : TypeId} {s z : ByteArray} (hu : P.underlying t = some (.slice e)) (hsz : ∀ w, (sizeOf e).run P w = .ok 1 w) (hz : ∀ w, (zeroValue e).run P w = .ok (.string z) w) (ho : ops[i]? = some o) (hop : o.op = .buildSlice t 1 #[(0, x)]) (hx : a.eval x = .string s) (hw : Region.wanted o (yielded ops a.tmps) = true)
    (hS : S (w.alloc (.cells #[.string s] e))) (h : AlongF ro n P ops Q S r (a.put o.dst (.slice (some ⟨w.heap.size, 0, none⟩) 1 1)) (w.alloc (.cells #[.string s] e))) : wpOpIn (wideAt ro) n P ops Q i (fun a' w' => S w' ∧ AlongF ro n P ops Q S r a' w') a w :=
  opF_run (by rw [hop]; intro c e; cases e) _ _ ho hw (by
    have hm : (#[(0, x)] : Array (Nat × Operand)).map (fun (i, x) => (i, a.eval x)) = #[(0, .string s)] := by simp only [List.map_toArray, List.map_cons, List.map_nil, hx]
    unfold execOp; rw [hop]
    simp only [hm]
    simp [Instr.buildSlice, run_underlying hu, hsz, hz, go_sem, Result.andThen]) hS h
/-- append onto a slice of one's own -/
theorem opF_append {s : Operand} {t : TypeId} (hw : Region.wanted o (yielded ops a.tmps) = true) (ho : ops[i]? = some o) (hop : o.op = .call { callee := .builtin .append, args := #[s, x], argTypes := #[t, t] })
    (base : Nat) (e : TypeId) (inf : TypeInfo) (z : Value) (size bytes : Nat) (ht : P.underlying t = some (.slice e)) (hi : P.info? e = some inf) (hz : inf.zero = some z)
    (hsize : inf.size = size) (hby : inf.bytes = bytes) (hzs : z.cells.size = size) (hsz : 0 < size)
    (v : Value) (m : Nat) (xs : List Value) (hs : a.eval s = v) (hown : w.ownsRow base e size v m xs)
    (ad : Addr) (k c : Nat) (news : List Value) (hx : a.eval x = .slice (some ad) k c) (hl : news.length = k * size) (hnews : ∀ j u, news[j]? = some u → w.cell? (ad.add j) = some u) (h1 : ∀ u ∈ news, u.oneCell' = true)
    (h63 : m + k ≤ maxLen) (hbytes : (m + k) * bytes ≤ 140737488355328) (hbase : base ≤ w.heap.size)
    (h : ∀ v' w', w'.ownsRow base e size v' (m + k) (xs ++ news) → w.grownBy w' v.ownBlock → S w' ∧ AlongF ro n P ops Q S r (a.put o.dst v') w') : wpOpIn (wideAt ro) n P ops Q i (fun a' w' => S w' ∧ AlongF ro n P ops Q S r a' w') a w := by
  obtain ⟨v', w', hr, h2, h3, _, _⟩ := run_append_own_at (P := P) w base t o.type e inf z size bytes ht hi hz hsize hby hzs hsz v m xs hown ad k c news hl hnews h1 h63 hbytes hbase
  refine opF_run (by rw [hop]; intro c e; cases e) v' w' ho hw ?_ (h v' w' h2 h3).1 (h v' w' h2 h3).2
  unfold execOp
  simp only [hop, resolve, invoke, builtin, Sem.run_bind, Sem.run_pure, Result.andThen_ok, List.map_toArray, List.map_cons, List.map_nil, hs, hx, hr]
/-- a store of a slice into one cell -/
theorem opF_store {t : TypeId} {ad : Addr} {va : Option Addr} {vn vc : Nat} (hsz : ∀ w, (sizeOf t).run P w = .ok 1 w) (ho : ops[i]? = some o) (hop : o.op = .store t x y) (hx : a.eval x = .pointer (some ad)) (hy : a.eval y = .slice va vn vc) {u : Value} (hc : w.cell? ad = some u) (hf : w.frozen? ad = false) (hw : Region.wanted o (yielded ops a.tmps) = true) (hS : S (w.setCell ad (.slice va vn vc)))
    (h : AlongF ro n P ops Q S r (a.put o.dst undef) (w.setCell ad (.slice va vn vc))) : wpOpIn (wideAt ro) n P ops Q i (fun a' w' => S w' ∧ AlongF ro n P ops Q S r a' w') a w := by
  have hrun : (execOp a.eval o).run P w = .ok .skip (w.setCell ad (.slice va vn vc)) := by
    unfold execOp; rw [hop]; simp only [hx, hy]
    simp [Instr.storeAt, Instr.sureAddr, storeVar, hsz, hc, hf, go_sem, Result.andThen]
  unfold wpOpIn
  simp only [ho]
  rw [if_pos hw, oper_in (by rw [hop]; intro c e; cases e), hrun]
  exact ⟨hS, h⟩
theorem alongF_step (h : wpOpIn (wideAt ro) n P ops Q i (fun a' w' => S w' ∧ AlongF ro n P ops Q S r a' w') a w) : AlongF ro n P ops Q S (.step i r) a w := h
theorem alongF_fork (h : wpOpIn (wideAt ro) n P ops Q i (fun a' w' => S w' ∧ AlongF ro n P ops Q S r a' w') a w) (h' : wpOpIn (wideAt ro) n P ops Q j (fun a' w' => S w' ∧ AlongF ro n P ops Q S q a' w') a w) : AlongF ro n P ops Q S (.fork i r j q) a w := ⟨h, h'⟩
end
end
end

/-
  A LOOP OVER A FUNCTION WHOSE ROUNDS ARE TOLD WHAT THE ELEMENT IS: where it lies and what it reads as, in the world in which it is handed over.
-/
section
section
set_option linter.unusedVariables false
open Go.RowKit
variable {α : Type} {P : Program}

/-- WHAT AN ITERATOR PROMISES. Between two rounds it makes memory, and writes nothing that was there. Of an element that it hands over it says Ok (with the size of the heap when the round before had ended); of a round that goes on it wants Af. When all have come, it says S. -/
def Gives (P : Program) (g : Nat) (lb : Array Value) (enc : α → Value) (Ok : List α → α → Nat → World → Prop) (Af : α → World → Prop) (S : List α → Prop) (w : World) : Prop :=
  ∀ (l : Nat) (J Jx : List α → World → Prop) (W : World), Below w.heap.size w W →
    (∀ pre x W0 W1, J pre W0 → Up W0 W1 → Ok pre x W0.heap.size W1 → YieldAt Fence.wide 1 P l #[enc x] W1 fun e W' =>
      (e = .returned (.bool true) ∧ J (pre ++ [x]) W' ∧ Af x W') ∨ (e = .returned (.bool false) ∧ Jx (pre ++ [x]) W')) →
    J [] W →
    CallsIn Fence.wide 2 P g (#[.func (.yield l) #[] #[]] ++ lb) W fun e W' => (∃ v, e = .returned v) ∧ ((∃ xs W0, S xs ∧ J xs W0 ∧ Up W0 W') ∨ (∃ pre W0, Jx pre W0 ∧ Up W0 W'))

/-- a round's two ways, by what yield hands back -/
def TwoWays (T F : World → Prop) (e : Ending) (W : World) : Prop := ∃ b : Bool, e = .returned (.bool b) ∧ (b = true → T W) ∧ (b = false → F W)
theorem TwoWays.of {T F : World → Prop} {e : Ending} {W : World} (h : (e = .returned (.bool true) ∧ T W) ∨ (e = .returned (.bool false) ∧ F W)) : TwoWays T F e W := by
  rcases h with ⟨rfl, h⟩ | ⟨rfl, h⟩
  · exact ⟨true, rfl, fun _ => h, fun h => (by cases h)⟩
  · exact ⟨false, rfl, fun h => (by cases h), fun _ => h⟩
theorem YieldAt.mono {F : Fence} {m : Nat} {P : Program} {l : Nat} {args : Array Value} {W : World} {R R' : Ending → World → Prop} (h : YieldAt F m P l args W R) (hR : ∀ e W', R e W' → R' e W') : YieldAt F m P l args W R' := by
  obtain ⟨fn, tmps, assign, body, h1, h2⟩ := h
  exact ⟨fn, tmps, assign, body, h1, h2.mono hR⟩
/-- HOW A ROUND MAY END. -/
def RoundEnds (Af : World → Prop) (I : World → Prop) (Ix : Code → World → Prop) (W : World) : Exit → Act → World → Prop
  | .normal, _, W' => KeepsOthers W W' ∧ Af W' ∧ I W'
  | .ret, _, W' => KeepsOthers W W' ∧ Ix .ret W'
  | .exit id, _, W' => KeepsOthers W W' ∧ Ix (.exit id) W'
  | .goto t, _, W' => KeepsOthers W W' ∧ Ix (.goto t) W'
  | .panic _, _, _ => False
  | .outgrown, _, _ => False

theorem Up.grownBy {A B : World} (h : Up A B) (row : Option Nat) : A.grownBy B row := grown_of_below row h
theorem Up.others {A B : World} (h : Up A B) : KeepsOthers A B := ⟨h.size, fun k o hk _ => (h.block k (Array.getElem?_eq_some_iff.1 hk).1).trans hk⟩
theorem OwnFrom.up {β : Type} {B : Nat} {I : β → World → Prop} (h : OwnFrom B I) {s : β} {X Y : World} (hs : I s X) (hu : Up X Y) : I s Y := h s X Y none hs (hu.grownBy none) (fun r e => by cases e)

/-- the mark of this loop among the deferred calls -/
def withMark (a : Act) (D : Nat) : Act := { a with defers := { target := .collected D, args := #[] } :: a.defers }

theorem wpIn_over {g : Operand} {ps : Array Tmp} {assign body : Code} {Q : Exit → Act → World → Prop} {a : Act} {w : World}
    {gf : Nat} {lb : Array Value} (hg : a.eval g = .func (.func gf) #[] lb) (eg : ∀ args w, (callFunc gf args).run P w = .ok (.enter gf args) w)
    {enc : α → Value} {Ok : List α → α → Nat → World → Prop} {Af : α → World → Prop} {S : List α → Prop} (hseq : Gives P gf lb enc Ok Af S w) (hps : ps.size = 1)
    (hOk : ∀ pre x n, OwnFrom w.heap.size (fun (_ : Unit) W => Ok pre x n W)) (hAf : ∀ x, OwnFrom w.heap.size (fun (_ : Unit) W => Af x W))
    (I : List α → World → Prop) (Ix : Code → List α → World → Prop) (hI : OwnFrom w.heap.size I) (hIx : ∀ c, OwnFrom w.heap.size (Ix c)) (h0 : I [] w) (a₁ : α → Act)
    (hassign : ∀ (l : Nat) (x : α) (W : World) (K : Act → World → Prop), K (a₁ x) W →
      assign.wpIn (Fence.wide.inRound l) 1 P (Exit.then K (fun _ _ _ => False)) { tmps := (ps.zip #[enc x]).foldl (fun t (p, v) => t.setIfInBounds p v) a.tmps, defers := [] } W)
    (hbody : ∀ (l : Nat) (pre : List α) (x : α) (W0 W1 : World), w.heap.size ≤ l → (∃ o, W0.heap[l]? = some o ∧ o.isCells = false) → I pre W0 → W0.grownBy W1 (some l) → I pre W1 → Ok pre x W0.heap.size W1 →
      body.wpIn (Fence.wide.inRound l) 1 P (RoundEnds (Af x) (I (pre ++ [x])) (fun c => Ix c (pre ++ [x])) W1) (a₁ x) W1)
    (hdone : ∀ (D : Nat) (xs : List α) (W : World), w.heap.size ≤ D → S xs → I xs W → W.heap[D]? = some (.deferred (some [])) → Q .normal (withMark a D) W)
    (hstop : ∀ (D : Nat) (c : Code) (pre : List α) (W : World), w.heap.size ≤ D → Ix c pre W → W.heap[D]? = some (.deferred (some [])) → c.wpIn Fence.wide 3 P Q (withMark a D) W) :
    (Code.rangeFunc g ps assign body).wpIn Fence.wide 3 P Q a w := by
  refine wpIn_rangeFunc fun fn _ => ?_
  -- the record of this loop, in each of its states
  let R : LoopState → Option Code → Obj := fun st pe => .loop { state := st, pending := pe, fn, tmps := a.tmps, params := ps, assign, body, defers := w.heap.size }
  have RC : ∀ st pe, (R st pe).isCells = false := fun _ _ => rfl
  generalize hX : (w.alloc (.deferred (some []))).alloc (R .ready none) = X
  have xl : X.heap[w.heap.size + 1]? = some (R .ready none) := by
    have := World.alloc_heap_new (w.alloc (.deferred (some []))) (R .ready none)
    rw [← hX]; rwa [World.size_alloc] at this
  have xd : X.heap[w.heap.size]? = some (.deferred (some [])) := by
    rw [← hX, Below.heap_alloc _ _ _ (by simp)]; exact World.alloc_heap_new w _
  have ux : Up w X := by rw [← hX]; exact Below.alloc ((Below.refl _ w).alloc (Nat.le_refl _) _) (by simp) _
  have ix : I [] X := OwnFrom.up hI h0 ux
  refine ⟨w.heap.size + 1, [{ target := .collected w.heap.size, args := #[] }], X, { target := .fn (.func gf) lb, args := #[.func (.yield (w.heap.size + 1)) #[] #[]] }, X, gf,
    #[.func (.yield (w.heap.size + 1)) #[] #[]] ++ lb, X, ?_, ?_, fun _ _ => trivial, ?_, fun _ => by decide, ?_⟩
  · rw [← hX]; exact run_enterLoop_outer _ _ _ _ _
  · simp only [resolve, hg]; simp [go_sem]
  · simp [invoke, go_sem, eg]
  -- what is said between two rounds, with the two blocks of book-keeping
  refine CallsIn.mono (hseq (w.heap.size + 1) (fun pre W => I pre W ∧ W.heap[w.heap.size + 1]? = some (R .ready none) ∧ W.heap[w.heap.size]? = some (.deferred (some [])))
    (fun pre W => ∃ c, Ix c pre W ∧ W.heap[w.heap.size + 1]? = some (R .done (some c)) ∧ W.heap[w.heap.size]? = some (.deferred (some []))) X ux ?_ ⟨ix, xl, xd⟩) ?_
  · rintro pre x W0 W1 ⟨hi, hl, hd⟩ hu hok
    have kl := (hu.block _ (Array.getElem?_eq_some_iff.1 hl).1).trans hl
    have kd := (hu.block _ (Array.getElem?_eq_some_iff.1 hd).1).trans hd
    have hlt := (Array.getElem?_eq_some_iff.1 kl).1
    refine ⟨fn, _, assign, body, run_yield (P := P) (args := #[enc x]) kl hps.symm, roundIn_of_wpIn trivial (hassign _ x W1 _ ⟨_, run_beginRound kl rfl, ?_⟩)⟩
    have bl : (W1.putObj (w.heap.size + 1) (R .busy none)).heap[w.heap.size + 1]? = some (R .busy none) := World.putObj_heap_same hlt
    have bd : (W1.putObj (w.heap.size + 1) (R .busy none)).heap[w.heap.size]? = some (.deferred (some [])) := (World.putObj_heap_other (by omega)).trans kd
    refine wpIn_mono (hbody (w.heap.size + 1) pre x W0 _ (by omega) ⟨_, hl, rfl⟩ hi (grownBy_trans (hu.grownBy _) (grownBy_putObj' _ _ _)) (OwnFrom.putObj hI _ (OwnFrom.up hI hi hu) (by omega) kl rfl) (OwnFrom.putObj (hOk pre x _) (s := ()) _ hok (by omega) kl rfl)) ?_
    -- a round's end: the record is turned once more
    have fin : ∀ (jump : Option Code) (Y : World), KeepsOthers (W1.putObj (w.heap.size + 1) (R .busy none)) Y →
        (Instr.endRound (w.heap.size + 1) jump).run P Y = .ok (.bool jump.isNone) (Y.putObj (w.heap.size + 1) (R (if jump.isNone then .ready else .done) jump)) ∧
        Y.heap[w.heap.size + 1]? = some (R .busy none) ∧
        (Y.putObj (w.heap.size + 1) (R (if jump.isNone then .ready else .done) jump)).heap[w.heap.size + 1]? = some (R (if jump.isNone then .ready else .done) jump) ∧
        (Y.putObj (w.heap.size + 1) (R (if jump.isNone then .ready else .done) jump)).heap[w.heap.size]? = some (.deferred (some [])) := fun jump Y hk => by
      have yl := hk.same _ _ bl rfl
      exact ⟨run_endRound (P := P) jump yl, yl, World.putObj_heap_same (Array.getElem?_eq_some_iff.1 yl).1, (World.putObj_heap_other (by omega)).trans (hk.same _ _ bd rfl)⟩
    intro e a' Y hp
    cases e with
    | normal =>
      obtain ⟨hk, haf, hi'⟩ := hp
      obtain ⟨hr, yl, zl, zd⟩ := fin none Y hk
      exact ⟨_, _, hr, .inl ⟨rfl, ⟨OwnFrom.putObj hI _ hi' (by omega) yl rfl, zl, zd⟩, OwnFrom.putObj (hAf x) (s := ()) _ haf (by omega) yl rfl⟩⟩
    | ret =>
      obtain ⟨hr, yl, zl, zd⟩ := fin (some .ret) Y hp.1
      exact ⟨_, _, hr, .inr ⟨rfl, _, OwnFrom.putObj (hIx _) _ hp.2 (by omega) yl rfl, zl, zd⟩⟩
    | exit id =>
      obtain ⟨hr, yl, zl, zd⟩ := fin (some (.exit id)) Y hp.1
      exact ⟨_, _, hr, .inr ⟨rfl, _, OwnFrom.putObj (hIx _) _ hp.2 (by omega) yl rfl, zl, zd⟩⟩
    | goto t =>
      obtain ⟨hr, yl, zl, zd⟩ := fin (some (.goto t)) Y hp.1
      exact ⟨_, _, hr, .inr ⟨rfl, _, OwnFrom.putObj (hIx _) _ hp.2 (by omega) yl rfl, zl, zd⟩⟩
    | panic ch => exact hp.elim
    | outgrown => exact hp.elim
  · rintro e Y ⟨⟨v, rfl⟩, ⟨xs, W0, hS, ⟨hi, hl, hd⟩, hu⟩ | ⟨pre, W0, ⟨c, hi, hl, hd⟩, hu⟩⟩
    · have kl := (hu.block _ (Array.getElem?_eq_some_iff.1 hl).1).trans hl
      have kd := (hu.block _ (Array.getElem?_eq_some_iff.1 hd).1).trans hd
      exact ⟨none, _, run_endLoop (P := P) kl (by simp), hdone _ xs _ (Nat.le_refl _) hS (OwnFrom.putObj hI _ (OwnFrom.up hI hi hu) (by omega) kl rfl) ((World.putObj_heap_other (by omega)).trans kd)⟩
    · have kl := (hu.block _ (Array.getElem?_eq_some_iff.1 hl).1).trans hl
      have kd := (hu.block _ (Array.getElem?_eq_some_iff.1 hd).1).trans hd
      exact ⟨some c, _, run_endLoop (P := P) kl (by simp), hstop _ c pre _ (Nat.le_refl _) (OwnFrom.putObj (hIx c) _ (OwnFrom.up (hIx c) hi hu) (by omega) kl rfl) ((World.putObj_heap_other (by omega)).trans kd)⟩
end
end
end

/-
  PLANS WITH FORKS, outside fences: the walk along one; what single operations do, apart from the walk.
-/
section
set_option maxRecDepth 100000
section
set_option linter.unusedVariables false
open Go.RowKit
variable {P : Program} {ops : Array Oper} {Q : Exit → Act → World → Prop} {md : Region.Mode} {S : World → Prop}

def AlongK (P : Program) (ops : Array Oper) (Q : Exit → Act → World → Prop) : Plan → (World → Prop) → Act → World → Prop
  | .nil, _, a, w => Q .normal a w
  | .read i r, S, a, w => ∃ o v, ops[i]? = some o ∧ YieldsIf P ops S o v a ∧ AlongK P ops Q r S (a.put o.dst v) w
  | .step i r, S, a, w => wpOp P ops Q i (fun a' w' => ∃ S' : World → Prop, (∀ x, S' x → S x) ∧ S' w' ∧ AlongK P ops Q r S' a' w') a w
  | .fork i r j q, S, a, w => wpOp P ops Q i (fun a' w' => ∃ S' : World → Prop, (∀ x, S' x → S x) ∧ S' w' ∧ AlongK P ops Q r S' a' w') a w ∧ wpOp P ops Q j (fun a' w' => ∃ S' : World → Prop, (∀ x, S' x → S x) ∧ S' w' ∧ AlongK P ops Q q S' a' w') a w

theorem AlongK.sound (hs : Region.noSelect ops = true) (hQ : ∀ c a d v w, Q (.panic c) (Act.put a d v) w → Q (.panic c) a w) :
    ∀ (p : Plan) (S : World → Prop) (listed : Array Bool) (a : Act) (w : World), p.ok md ops listed = true → S w → AlongK P ops Q p S a w → wpAnyH P md ops Q S p.size listed a w
  | .nil, S, listed, a, w, hp, _, h => wpAnyH_done (by simpa [Plan.ok] using hp) h _
  | .read i r, S, listed, a, w, hp, hS, ⟨o, v, ho, hy, h⟩ => by
    simp only [Plan.ok, Bool.and_eq_true] at hp
    exact wpAnyH_take ho hs hp.1.1 hp.1.2 (fun c a w => hQ c a _ _ w) hy hS (AlongK.sound hs hQ r S _ _ w hp.2 hS h)
  | .step i r, S, listed, a, w, hp, hS, h => by
    simp only [Plan.ok, Bool.and_eq_true, decide_eq_true_eq] at hp
    refine wpAnyH_all hp.1 (by simp) fun j hj => ?_
    obtain rfl : j = i := by simpa using hj
    exact wpOp_mono (fun a' w' ⟨S', h1, h2, k⟩ => ⟨h1 _ h2, wpAnyH_weaken h1 _ _ _ _ (AlongK.sound hs hQ r S' _ a' w' hp.2 h2 k)⟩) h
  | .fork i r j q, S, listed, a, w, hp, hS, h => by
    simp only [Plan.ok, Bool.and_eq_true, decide_eq_true_eq] at hp
    refine wpAnyH_all hp.1.1.1 (by simp) fun m hm => ?_
    rcases List.mem_cons.1 hm with rfl | hm
    · exact wpOp_mono (fun a' w' ⟨S', h1, h2, k⟩ => ⟨h1 _ h2, wpAnyH_weaken h1 _ _ _ _ (AlongK.sound hs hQ r S' _ a' w' hp.1.2 h2 k)⟩) h.1
    · obtain rfl : m = j := by simpa using hm
      refine wpOp_mono (fun a' w' ⟨S', h1, h2, k⟩ => ⟨h1 _ h2, ?_⟩) h.2
      have := AlongK.sound hs hQ q S' (listed.setIfInBounds m true) a' w' hp.2 h2 k
      rw [hp.1.1.2] at this
      exact wpAnyH_weaken h1 _ _ _ _ this

/-- A REGION, ALONG A PLAN WITH FORKS; what holds of all later worlds may grow stronger on the way. -/
theorem region_alongK {id : Nat} {a : Act} {w : World} (S : World → Prop) (p : Plan) (hm : P.follows .mixedOrders = true) (hl : p.size = ops.size) (hs : Region.noSelect ops = true)
    (hp : p.ok .any ops (Array.replicate ops.size false) = true) (hQ : ∀ c a d v w, Q (.panic c) (Act.put a d v) w → Q (.panic c) a w) (hS : S w.drew) (h : AlongK P ops Q p S a w.drew) : (Code.region id ops true).wp P Q a w := by
  refine wp_region_held (S := S) hm ?_
  have := AlongK.sound (md := .any) hs hQ p S _ a w.drew hp hS h
  rwa [hl] at this

variable {r q : Plan} {i j : Nat} {o : Oper} {a : Act} {w : World} {x y z : Operand}

theorem alongK_done (h : Q .normal a w) : AlongK P ops Q .nil S a w := h
theorem alongK_read (v : Value) (ho : ops[i]? = some o) (hw : Region.wanted o (yielded ops a.tmps) = true) (hv : ∀ w', S w' → (execOp a.eval o).run P w' = .ok (.value v) w') (h : AlongK P ops Q r S (a.put o.dst v) w) : AlongK P ops Q (.read i r) S a w :=
  ⟨o, v, ho, .inl ⟨hw, hv⟩, h⟩
theorem alongK_skip (ho : ops[i]? = some o) (hw : Region.wanted o (yielded ops a.tmps) = false) (h : AlongK P ops Q r S (a.put o.dst undef) w) : AlongK P ops Q (.read i r) S a w :=
  ⟨o, undef, ho, .inr ⟨hw, rfl⟩, h⟩
theorem alongK_step (h : wpOp P ops Q i (fun a' w' => ∃ S' : World → Prop, (∀ x, S' x → S x) ∧ S' w' ∧ AlongK P ops Q r S' a' w') a w) : AlongK P ops Q (.step i r) S a w := h
theorem alongK_fork (h : wpOp P ops Q i (fun a' w' => ∃ S' : World → Prop, (∀ x, S' x → S x) ∧ S' w' ∧ AlongK P ops Q r S' a' w') a w) (h' : wpOp P ops Q j (fun a' w' => ∃ S' : World → Prop, (∀ x, S' x → S x) ∧ S' w' ∧ AlongK P ops Q q S' a' w') a w) : AlongK P ops Q (.fork i r j q) S a w := ⟨h, h'⟩
/-- what runs without entering a function -/
theorem opK_run (v : Value) (w' : World) (ho : ops[i]? = some o) (hw : Region.wanted o (yielded ops a.tmps) = true) (hr : (execOp a.eval o).run P w = .ok (.value v) w') (S' : World → Prop) (hSS : ∀ x, S' x → S x) (hS : S' w') (h : AlongK P ops Q r S' (a.put o.dst v) w') : wpOp P ops Q i (fun a' w' => ∃ S' : World → Prop, (∀ x, S' x → S x) ∧ S' w' ∧ AlongK P ops Q r S' a' w') a w := by
  refine wpOp_step ho fun K' hK => ?_
  rw [if_pos hw]
  unfold Oper.wp
  rw [hr]
  exact hK _ _ ⟨S', hSS, hS, h⟩
/-- a store -/
theorem opK_store (w' : World) (ho : ops[i]? = some o) (hw : Region.wanted o (yielded ops a.tmps) = true) (hr : (execOp a.eval o).run P w = .ok .skip w') (S' : World → Prop) (hSS : ∀ x, S' x → S x) (hS : S' w') (h : AlongK P ops Q r S' (a.put o.dst undef) w') : wpOp P ops Q i (fun a' w' => ∃ S' : World → Prop, (∀ x, S' x → S x) ∧ S' w' ∧ AlongK P ops Q r S' a' w') a w := by
  refine wpOp_step ho fun K' hK => ?_
  rw [if_pos hw]
  unfold Oper.wp
  rw [hr]
  exact hK _ _ ⟨S', hSS, hS, h⟩
/-- a call of a function of one's own -/
theorem opK_call {f : FuncId} {args : List Operand} {ts : Array TypeId} {vs : List Value} (ho : ops[i]? = some o) (hop : o.op = .call { callee := .value (.func f), args := args.toArray, argTypes := ts }) (hvs : args.map a.eval = vs)
    (he : ∀ args w, (callFunc f args).run P w = .ok (.enter f args) w) (hw : Region.wanted o (yielded ops a.tmps) = true)
    (hc : Calls P f vs.toArray w fun e w' => ∃ v, e = .returned v ∧ ∃ S' : World → Prop, (∀ x, S' x → S x) ∧ S' w' ∧ AlongK P ops Q r S' (a.put o.dst v) w') : wpOp P ops Q i (fun a' w' => ∃ S' : World → Prop, (∀ x, S' x → S x) ∧ S' w' ∧ AlongK P ops Q r S' a' w') a w := by
  refine wpOp_step ho fun K' hK => ?_
  rw [if_pos hw]
  have hrun : (execOp a.eval o).run P w = .ok (.enter f vs.toArray) w := by
    have hf : a.eval (.func f) = .func (.func f) #[] #[] := rfl
    unfold execOp; rw [hop]; simp only [resolve, hf, List.map_toArray, hvs]; simp [invoke, he, go_sem]
  unfold Oper.wp
  rw [hrun, Oper.upon_enter]
  refine Calls.mono hc fun e w' ⟨v, he, h⟩ => ?_
  subst he
  exact hK _ _ h

section
variable {ρ : Operand → Value} {v : Value}
theorem ex_move (hop : o.op = .move x) (hv : ρ x = v) (w : World) : (execOp ρ o).run P w = .ok (.value v) w := by simp [execOp, hop, hv, Sem.run_pure]
theorem ex_assign (hop : o.op = .assign x) (hv : ρ x = v) (w : World) : (execOp ρ o).run P w = .ok (.value v) w := by simp [execOp, hop, hv, Sem.run_pure]
theorem ex_field {t : TypeId} {ad : Addr} {f : Nat} (hop : o.op = .fieldAddr t x f) (hx : ρ x = .pointer (some ad)) (w : World) (hf : (Instr.fieldAt t (.pointer (some ad)) f).run P w = .ok v w) : (execOp ρ o).run P w = .ok (.value v) w := by
  unfold execOp; rw [hop]; simp only [hx]
  simp [hf, Result.andThen]
theorem ex_load {t : TypeId} {ad : Addr} (hna : ∀ w, (isAgg t).run P w = .ok false w) (hop : o.op = .load t x) (hx : ρ x = .pointer (some ad)) (w : World) (hc : w.cell? ad = some v) : (execOp ρ o).run P w = .ok (.value v) w := by
  unfold execOp; rw [hop]; simp only [hx]
  simp [Instr.loadAt, Instr.sureAddr, loadVar, hna, hc, Result.andThen]
/-- a whole struct -/
theorem ex_loadrow {t : TypeId} {g : Nat} {cs : Array Value} {d : TypeDesc} (hop : o.op = .load t x) (hx : ρ x = .pointer (some ⟨g, 0, none⟩)) (w : World) (t' : TypeId) (hg : w.heap[g]? = some (.cells cs t' (0, 0)))
    (hu : P.underlying t = some d) (hd : (match d with | .struct _ | .array _ _ => true | _ => false) = true) (hi : (P.info? t).map (·.size) = some cs.size) : (execOp ρ o).run P w = .ok (.value (.agg cs)) w := by
  have h1 := run_loadVar_row (P := P) w g t' t cs (0, 0) d hg hu hd hi
  unfold execOp; rw [hop]; simp only [hx]
  simp [Instr.loadAt, Instr.sureAddr, h1, Result.andThen]
theorem ex_conv {s d : TypeId} {u : Value} (hop : o.op = .convert s d x) (hx : ρ x = u) (w w' : World) (hc : (convert s d u).run P w = .ok v w') : (execOp ρ o).run P w = .ok (.value v) w' := by
  simp [execOp, hop, hx, hc, Result.andThen]
theorem ex_bin {b : BinOp} {t t' : TypeId} {p q : Value} (hop : o.op = .binOp b t x y t') (hx : ρ x = p) (hy : ρ y = q) (w : World) (hr : (do eqGuard b t x y p q; binOp b t p q : Sem Value).run P w = .ok v w) : (execOp ρ o).run P w = .ok (.value v) w := by
  unfold execOp; rw [hop]; simp only [hx, hy]
  rw [Sem.run_bind, hr]; rfl
theorem ex_cat {t t' : TypeId} {p q s : ByteArray} (hs : p ++ q = s) (hl : s.size ≤ 4611686018427387904) (hop : o.op = .binOp .add t x y t') (hx : ρ x = .string p) (hy : ρ y = .string q) (w : World) : (execOp ρ o).run P w = .ok (.value (.string s)) w := by
  have h2 : p.size + q.size = s.size := by rw [← hs]; simp
  unfold execOp; rw [hop]; simp only [hx, hy]; simp [go_sem, hs]; omega
theorem ex_build {t : TypeId} {parts : Array (Nat × Operand)} {vs : Array (Nat × Value)} (hop : o.op = .build t parts) (hp : parts.map (fun (i, x) => (i, ρ x)) = vs) (w w' : World) (hr : (Instr.build t vs).run P w = .ok v w') : (execOp ρ o).run P w = .ok (.value v) w' := by
  unfold execOp; rw [hop]; simp only [hp]
  rw [Sem.run_bind, hr]; rfl
theorem ex_slice {t : TypeId} {n : Nat} {parts : Array (Nat × Operand)} {vs : Array (Nat × Value)} (hop : o.op = .buildSlice t n parts) (hp : parts.map (fun (i, x) => (i, ρ x)) = vs) (w w' : World) (hr : (Instr.buildSlice t n vs).run P w = .ok v w') : (execOp ρ o).run P w = .ok (.value v) w' := by
  unfold execOp; rw [hop]; simp only [hp]
  rw [Sem.run_bind, hr]; rfl
theorem ex_slice1 {t : TypeId} {v0 : Value} (w w' : World) (hr : (Instr.buildSlice t 1 #[(0, v0)]).run P w = .ok v w') (hop : o.op = .buildSlice t 1 #[(0, x)]) (hx : ρ x = v0) : (execOp ρ o).run P w = .ok (.value v) w' :=
  ex_slice hop (by simp only [List.map_toArray, List.map_cons, List.map_nil, hx]) w w' hr
theorem ex_slice3 {t : TypeId} {v0 v1 v2 : Value} (w w' : World) (hr : (Instr.buildSlice t 3 #[(0, v0), (1, v1), (2, v2)]).run P w = .ok v w') (hop : o.op = .buildSlice t 3 #[(0, x), (1, y), (2, z)]) (hx : ρ x = v0) (hy : ρ y = v1) (hz : ρ z = v2) : (execOp ρ o).run P w = .ok (.value v) w' :=
  ex_slice hop (by simp only [List.map_toArray, List.map_cons, List.map_nil, hx, hy, hz]) w w' hr
theorem ex_build3 {t : TypeId} {v0 v1 v2 : Value} (w w' : World) (hr : (Instr.build t #[(0, v0), (1, v1), (2, v2)]).run P w = .ok v w') (hop : o.op = .build t #[(0, x), (1, y), (2, z)]) (hx : ρ x = v0) (hy : ρ y = v1) (hz : ρ z = v2) : (execOp ρ o).run P w = .ok (.value v) w' :=
  ex_build hop (by simp only [List.map_toArray, List.map_cons, List.map_nil, hx, hy, hz]) w w' hr
theorem ex_alloc {t : TypeId} (hop : o.op = .alloc t) (w w' : World) (hr : (Instr.alloc t true (.tuple #[])).run P w = .ok v w') : (execOp ρ o).run P w = .ok (.value v) w' := by
  unfold execOp; rw [hop]
  show (do let a ← Instr.alloc t true (.tuple #[]); pure (.value a) : Sem Next).run P w = _
  rw [Sem.run_bind, hr]; rfl
/-- a whole struct into its block -/
theorem ex_storerow {t : TypeId} {g : Nat} {c0 c1 : Array Value} (hop : o.op = .store t x y) (hx : ρ x = .pointer (some ⟨g, 0, none⟩)) (hy : ρ y = .agg c1) (w : World) (t' : TypeId) (hg : w.heap[g]? = some (.cells c0 t' (0, 0)))
    (hi : (P.info? t).map (·.size) = some c1.size) (hl : c0.size = c1.size) (hone : c1.all (·.oneCell') = true) : (execOp ρ o).run P w = .ok .skip (w.setRow g c1) := by
  have h1 := run_storeVar_row (P := P) w g t' t c0 c1 hg hi hl hone
  unfold execOp; rw [hop]; simp only [hx, hy]
  simp [Instr.storeAt, Instr.sureAddr, h1, Result.andThen]
end
end
end

/-
  What more single operations do, apart from the walk.
-/
section
set_option maxRecDepth 100000
section
set_option linter.unusedVariables false
open Go.RowKit
variable {P : Program} {o : Oper} {x y z : Operand} {ρ : Operand → Value} {v : Value}

/-- the address of an element of so many cells -/
theorem ex_index {t e : TypeId} {b off n c k s : Nat} (hu : P.underlying t = some (.slice e)) (hsz : ∀ w, (sizeOf e).run P w = .ok s w) (hop : o.op = .indexAddr t x y) (hx : ρ x = .slice (some ⟨b, off, none⟩) n c) (hy : ρ y = .int .i64 k) (hk : k < n) (w : World) :
    (execOp ρ o).run P w = .ok (.value (.pointer (some ⟨b, off + k * s, none⟩))) w := by
  have h2 : ((⟨b, off, none⟩ : Addr).add (k * s)) = ⟨b, off + k * s, none⟩ := by unfold Addr.add; split <;> simp_all
  have hr : (Instr.indexAt t (.slice (some ⟨b, off, none⟩) n c) (.int .i64 k)).run P w = .ok (.pointer (some ⟨b, off + k * s, none⟩)) w := by
    have he : P.elem t = e := by simp [Program.elem, hu]
    have h3 := run_indexAt_slice (P := P) (w := w) t ⟨b, off, none⟩ n c .i64 k (by rw [he]; exact hu)
    rw [if_pos ⟨by omega, by omega⟩, he, hsz] at h3
    rw [h3]
    simp [h2]
  unfold execOp; rw [hop]; simp only [hx, hy, Sem.run_bind, hr, Result.andThen_ok, Sem.run_pure]
theorem ex_pickt (hop : o.op = .pick x y z) (hx : ρ x = .bool true) (hv : ρ y = v) (w : World) : (execOp ρ o).run P w = .ok (.value v) w := by
  unfold execOp; rw [hop]; simp only [hx, hv]
  simp [asBool]
theorem ex_pickf (hop : o.op = .pick x y z) (hx : ρ x = .bool false) (hv : ρ z = v) (w : World) : (execOp ρ o).run P w = .ok (.value v) w := by
  unfold execOp; rw [hop]; simp only [hx, hv]
  simp [asBool]
theorem ex_eqi {t t' : TypeId} {k : IntKind} {n m : Int} {b : Bool} (hop : o.op = .binOp .eql t x y t') (hx : ρ x = .int k n) (hy : ρ y = .int k m) (hb : (n == m) = b) (w : World) : (execOp ρ o).run P w = .ok (.value (.bool b)) w := by
  unfold execOp; rw [hop]; simp only [hx, hy]; simp [go_sem, hb]
theorem ex_neqi {t t' : TypeId} {k : IntKind} {n m : Int} {b : Bool} (hop : o.op = .binOp .neq t x y t') (hx : ρ x = .int k n) (hy : ρ y = .int k m) (hb : (n != m) = b) (w : World) : (execOp ρ o).run P w = .ok (.value (.bool b)) w := by
  subst hb
  unfold execOp; rw [hop]; simp only [hx, hy]; simp [go_sem, bne]
theorem ex_neqs {t t' : TypeId} {s : ByteArray} (hop : o.op = .binOp .neq t x y t') (hx : ρ x = .string s) (hy : ρ y = .string s) (w : World) : (execOp ρ o).run P w = .ok (.value (.bool false)) w := by
  unfold execOp; rw [hop]; simp only [hx, hy]; simp [go_sem]
theorem ex_not {t : TypeId} {b : Bool} (hop : o.op = .unOp .not t x) (hx : ρ x = .bool b) (w : World) : (execOp ρ o).run P w = .ok (.value (.bool !b)) w := by
  unfold execOp; rw [hop]; simp only [hx]; simp [go_sem]
end
end

/-
  What more single operations do, apart from the walk.
-/
section
set_option maxRecDepth 100000
section
set_option linter.unusedVariables false
open Go.RowKit
variable {P : Program} {o : Oper} {x y z : Operand} {ρ : Operand → Value} {v : Value}

theorem ex_eqs {t t' : TypeId} {s : ByteArray} (hop : o.op = .binOp .eql t x y t') (hx : ρ x = .string s) (hy : ρ y = .string s) (w : World) : (execOp ρ o).run P w = .ok (.value (.bool true)) w := by
  unfold execOp; rw [hop]; simp only [hx, hy]; simp [go_sem]
theorem ex_lensl {t e : TypeId} {ad : Option Addr} {n c : Nat} (hu : P.underlying t = some (.slice e)) (hop : o.op = .call { callee := .builtin .len, args := #[x], argTypes := #[t] }) (hx : ρ x = .slice ad n c) (w : World) :
    (execOp ρ o).run P w = .ok (.value (.int .i64 n)) w := by
  have hl : (Builtin.len_ #[t] o.type #[Value.slice ad n c]).run P w = .ok (.int .i64 n) w := by simp [Builtin.len_, run_underlying hu, goInt]
  unfold execOp; rw [hop]; simp only [resolve, List.map_toArray, List.map_cons, List.map_nil, hx]; simp [invoke, go_sem, hl, Result.andThen]
theorem ex_lens {t : TypeId} {s : ByteArray} (hu : P.underlying t = some .string) (hop : o.op = .call { callee := .builtin .len, args := #[x], argTypes := #[t] }) (hx : ρ x = .string s) (w : World) :
    (execOp ρ o).run P w = .ok (.value (.int .i64 s.size)) w := by
  have hl : (Builtin.len_ #[t] o.type #[Value.string s]).run P w = .ok (.int .i64 s.size) w := by simp [Builtin.len_, run_underlying hu, goInt]
  unfold execOp; rw [hop]; simp only [resolve, List.map_toArray, List.map_cons, List.map_nil, hx]; simp [invoke, go_sem, hl, Result.andThen]
theorem ex_extr {k : Nat} {cs : Array Value} (hop : o.op = .extract x k) (hx : ρ x = .tuple cs) (hk : cs[k]? = some v) (w : World) : (execOp ρ o).run P w = .ok (.value v) w := by
  unfold execOp; rw [hop]; simp only [hx]
  simp [Instr.extract, hk]
end
end

/-
  Plans: loads, elements, fields, on the way of region_along.
-/
section
set_option maxRecDepth 100000
section
set_option linter.unusedVariables false
open Go.RowKit
variable {P : Program} {ops : Array Oper} {Q : Exit → Act → World → Prop} {r : List (Nat × Bool)} {a : Act} {w : World} {i : Nat} {o : Oper} {x y z : Operand}

/-- a load of what is the same in every later world -/
theorem along_load {t : TypeId} {ad : Addr} {v : Value} (hna : ∀ w, (isAgg t).run P w = .ok false w) (ho : ops[i]? = some o) (hop : o.op = .load t x) (hx : a.eval x = .pointer (some ad)) (hc : ∀ w', Up w w' → w'.cell? ad = some v) (hw : Region.wanted o (yielded ops a.tmps) = true)
    (h : Along P ops Q r (a.put o.dst v) w) : Along P ops Q ((i, true) :: r) a w :=
  along_read ho hw (fun w' hS => by
    have hcell := hc w' hS
    unfold execOp; rw [hop]; simp only [hx]
    simp [Instr.loadAt, Instr.sureAddr, loadVar, hna, hcell, Result.andThen]) h
theorem along_field {t : TypeId} {ad : Addr} {f : Nat} {v : Value} (hf : ∀ w, (Instr.fieldAt t (.pointer (some ad)) f).run P w = .ok v w) (ho : ops[i]? = some o) (hop : o.op = .fieldAddr t x f) (hx : a.eval x = .pointer (some ad)) (hw : Region.wanted o (yielded ops a.tmps) = true)
    (h : Along P ops Q r (a.put o.dst v) w) : Along P ops Q ((i, true) :: r) a w :=
  along_read ho hw (fun w' hS => by
    unfold execOp; rw [hop]; simp only [hx]
    simp [hf, Result.andThen]) h
theorem along_index {t e : TypeId} {b off n c k : Nat} (hu : P.underlying t = some (.slice e)) (hsz : ∀ w, (sizeOf e).run P w = .ok 1 w) (ho : ops[i]? = some o) (hop : o.op = .indexAddr t x y) (hx : a.eval x = .slice (some ⟨b, off, none⟩) n c) (hy : a.eval y = .int .i64 k) (hk : k < n) (hw : Region.wanted o (yielded ops a.tmps) = true)
    (h : Along P ops Q r (a.put o.dst (.pointer (some ⟨b, off + k, none⟩))) w) : Along P ops Q ((i, true) :: r) a w :=
  along_read ho hw (fun w' _ => by
    have h2 : ((⟨b, off, none⟩ : Addr).add k) = ⟨b, off + k, none⟩ := by unfold Addr.add; split <;> simp_all
    have hr : (Instr.indexAt t (.slice (some ⟨b, off, none⟩) n c) (.int .i64 k)).run P w' = .ok (.pointer (some ⟨b, off + k, none⟩)) w' := by
      have he : P.elem t = e := by simp [Program.elem, hu]
      have h3 := run_indexAt_slice (P := P) (w := w') t ⟨b, off, none⟩ n c .i64 k (by rw [he]; exact hu)
      rw [if_pos ⟨by omega, by omega⟩, he, hsz] at h3
      rw [h3]
      simp [h2]
    unfold execOp; rw [hop]; simp only [hx, hy, Sem.run_bind, hr, Result.andThen_ok, Sem.run_pure]) h
/-- an operation that looks at no memory -/
theorem along_op {v : Value} (ho : ops[i]? = some o) (hw : Region.wanted o (yielded ops a.tmps) = true) (hv : ∀ w', (execOp a.eval o).run P w' = .ok (.value v) w') (h : Along P ops Q r (a.put o.dst v) w) : Along P ops Q ((i, true) :: r) a w :=
  along_read ho hw (fun w' _ => hv w') h
theorem along_pickf {v : Value} (ho : ops[i]? = some o) (hop : o.op = .pick x y z) (hx : a.eval x = .bool false) (hv : a.eval z = v) (hw : Region.wanted o (yielded ops a.tmps) = true) (h : Along P ops Q r (a.put o.dst v) w) : Along P ops Q ((i, true) :: r) a w :=
  along_op ho hw (fun w' => by
    unfold execOp; rw [hop]; simp only [hx, hv]
    simp [asBool]) h
theorem along_bin {b : BinOp} {t t' : TypeId} {p q v : Value} (hr : ∀ w', (do eqGuard b t x y p q; binOp b t p q : Sem Value).run P w' = .ok v w') (ho : ops[i]? = some o) (hop : o.op = .binOp b t x y t') (hx : a.eval x = p) (hy : a.eval y = q) (hw : Region.wanted o (yielded ops a.tmps) = true) (h : Along P ops Q r (a.put o.dst v) w) : Along P ops Q ((i, true) :: r) a w :=
  along_op ho hw (fun w' => by
    have h1 := hr w'
    unfold execOp; rw [hop]; simp only [hx, hy]
    rw [Sem.run_bind, h1]; rfl) h
theorem along_slice {t : TypeId} {lo hi : Option Operand} {p v : Value} {l u : Option Value} (hr : ∀ w', (Instr.sliceAt t p l u none).run P w' = .ok v w') (ho : ops[i]? = some o) (hop : o.op = .slice t x lo hi none) (hx : a.eval x = p) (hlo : lo.map a.eval = l) (hhi : hi.map a.eval = u) (hw : Region.wanted o (yielded ops a.tmps) = true) (h : Along P ops Q r (a.put o.dst v) w) : Along P ops Q ((i, true) :: r) a w :=
  along_op ho hw (fun w' => by
    have h1 := hr w'
    unfold execOp; rw [hop]; simp only [hx, hlo, hhi, Option.map_none]
    rw [Sem.run_bind, h1]; rfl) h
/-- the world of a load of cells that were there -/
theorem later_cell {w w' : World} {ad : Addr} {v : Value} (h : w.cell? ad = some v) (hu : Up w w') : w'.cell? ad = some v := (hu.cell (p := ad) (World.block_lt_of_cell? w _ h)).trans h
end
end
section
set_option linter.unusedVariables false
open Go.RowKit Go.Lib
/-
  In a fence: operations by their runs.
-/
section
variable {ro : Option Nat} {n : Nat} {P : Program} {ops : Array Oper} {rest : List Oper} {Q : Exit → Act → World → Prop} {o : Oper} {a : Act} {w : World}
theorem wpListIn_exs (hgd : o.guard = none) (hd : ∀ c, o.op ≠ .defer c) (w' : World) (hr : (execOp a.eval o).run P w = .ok .skip w') (h : wpListIn (wideAt ro) n P ops Q rest (a.put o.dst undef) w') : wpListIn (wideAt ro) n P ops Q (o :: rest) a w :=
  wpListIn_plain hgd fun K hK => by rw [oper_in hd, hr]; exact hK _ _ h
theorem wpListIn_ex (hgd : o.guard = none) (hd : ∀ c, o.op ≠ .defer c) (v : Value) (w' : World) (hr : (execOp a.eval o).run P w = .ok (.value v) w') (h : wpListIn (wideAt ro) n P ops Q rest (a.put o.dst v) w') : wpListIn (wideAt ro) n P ops Q (o :: rest) a w :=
  wpListIn_plain hgd fun K hK => by rw [oper_in hd, hr]; exact hK _ _ h
theorem wpListIn_exsW (hgd : o.guard = none) (hd : ∀ c, o.op ≠ .defer c) (w' : World) (hr : (execOp a.eval o).run P w = .ok .skip w') (h : wpListIn Fence.wide n P ops Q rest (a.put o.dst undef) w') : wpListIn Fence.wide n P ops Q (o :: rest) a w :=
  wpListIn_exs (ro := none) hgd hd w' hr h
theorem wpListIn_exW (hgd : o.guard = none) (hd : ∀ c, o.op ≠ .defer c) (v : Value) (w' : World) (hr : (execOp a.eval o).run P w = .ok (.value v) w') (h : wpListIn Fence.wide n P ops Q rest (a.put o.dst v) w') : wpListIn Fence.wide n P ops Q (o :: rest) a w :=
  wpListIn_ex (ro := none) hgd hd v w' hr h
theorem wpListIn_exsR {l : Nat} (hgd : o.guard = none) (hd : ∀ c, o.op ≠ .defer c) (w' : World) (hr : (execOp a.eval o).run P w = .ok .skip w') (h : wpListIn (Fence.wide.inRound l) n P ops Q rest (a.put o.dst undef) w') : wpListIn (Fence.wide.inRound l) n P ops Q (o :: rest) a w :=
  wpListIn_exs (ro := some l) hgd hd w' hr h
theorem wpListIn_exR {l : Nat} (hgd : o.guard = none) (hd : ∀ c, o.op ≠ .defer c) (v : Value) (w' : World) (hr : (execOp a.eval o).run P w = .ok (.value v) w') (h : wpListIn (Fence.wide.inRound l) n P ops Q rest (a.put o.dst v) w') : wpListIn (Fence.wide.inRound l) n P ops Q (o :: rest) a w :=
  wpListIn_ex (ro := some l) hgd hd v w' hr h
/-- an operation that yields nothing, in a plan -/
theorem opF_skip {S : World → Prop} {r : Plan} {i : Nat} (hd : ∀ c, o.op ≠ .defer c) (w' : World) (ho : ops[i]? = some o) (hw : Region.wanted o (yielded ops a.tmps) = true) (hr : (execOp a.eval o).run P w = .ok .skip w') (hS : S w') (h : AlongF ro n P ops Q S r (a.put o.dst undef) w') : wpOpIn (wideAt ro) n P ops Q i (fun a' w' => S w' ∧ AlongF ro n P ops Q S r a' w') a w := by
  unfold wpOpIn
  simp only [ho]
  rw [if_pos hw, oper_in hd, hr]
  exact ⟨hS, h⟩
/-- a region that doesn't panic -/
theorem wpIn_calm {F : Fence} {n : Nat} {P : Program} {c : Code} {Q : Exit → Act → World → Prop} {a : Act} {w : World} (h : c.wpIn F n P (fun e a w => (∀ ch, e ≠ .panic ch) ∧ Q e a w) a w) : c.wpIn F n P Q a w := wpIn_mono h fun _ _ _ k => k.2
theorem ex_ldG {ty : TypeId} {x : Operand} {ρ : Operand → Value} {ad : Addr} {v : Value} {W : World} (hop : o.op = .load ty x) (hx : ρ x = .pointer (some ad)) (hl : (loadVar ty ad).run P W = .ok v W) : (execOp ρ o).run P W = .ok (.value v) W := by
  unfold execOp; rw [hop]; simp only [hx]
  simp [Instr.loadAt, Instr.sureAddr, hl, Result.andThen]
end
end
end Go.Proofs.Ytmcajckpgbamnaa
