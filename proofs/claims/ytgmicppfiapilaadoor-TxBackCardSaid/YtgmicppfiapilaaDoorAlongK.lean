import Derived.Laws.Tables
import Derived.Laws.Rows
import Derived.Test.YtgmicppfiapilaaDoorAlong
/-
  PLANS WITH FORKS, outside fences: the walk along one; what single operations do, apart from the walk.
-/
namespace Go.Proofs.YtgmicppfiapilaaDoor
set_option maxRecDepth 100000
section
set_option linter.unusedVariables false
open Go.RowKit
variable {P : Program} {ops : Array Oper} {Q : Exit → Act → World → Prop} {md : Region.Mode} {S : World → Prop}

def AlongK (P : Program) (ops : Array Oper) (Q : Exit → Act → World → Prop) : Plan → (World → Prop) → Act → World → Prop
  | .nil, _, a, w => Q .normal a w
  | .read i r, S, a, w => ∃ o v, ops[i]? = some o ∧ YieldsIf P ops S o v a ∧ AlongK P ops Q r S (a.put o.dst v) w
  | .step i r, S, a, w => wpOp P ops Q i (fun a' w' => ∃ S' : World → Prop, (∀ x, S' x → S x) ∧ S' w' ∧ AlongK P ops Q r S' a' w') a w
  | .fork i r j q, S, a, w => wpOp P ops Q i (fun a' w' => ∃ S' : World → Prop, (∀ x, S' x → S x) ∧ S' w' ∧ AlongK P ops Q r S' a' w') a w ∧ wpOp P ops Q j (fun a' w' => ∃ S' : World → Prop, (∀ x, S' x → S x) ∧ S' w' ∧ AlongK P ops Q q S' a' w') a w

theorem AlongK.sound (hs : Region.noSelect ops = true) (hQ : ∀ c a d v w, Q (.panic c) (Act.put a d v) w → Q (.panic c) a w) :
    ∀ (p : Plan) (S : World → Prop) (listed : Array Bool) (a : Act) (w : World), p.ok md ops listed = true → S w → AlongK P ops Q p S a w → wpAnyH P md ops Q S p.size listed a w
  | .nil, S, listed, a, w, hp, _, h => wpAnyH_done (by simpa [Plan.ok] using hp) h _
  | .read i r, S, listed, a, w, hp, hS, ⟨o, v, ho, hy, h⟩ => by
    simp only [Plan.ok, Bool.and_eq_true] at hp
    exact wpAnyH_take ho hs hp.1.1 hp.1.2 (fun c a w => hQ c a _ _ w) hy hS (AlongK.sound hs hQ r S _ _ w hp.2 hS h)
  | .step i r, S, listed, a, w, hp, hS, h => by
    simp only [Plan.ok, Bool.and_eq_true, decide_eq_true_eq] at hp
    refine wpAnyH_all hp.1 (by simp) fun j hj => ?_
    obtain rfl : j = i := by simpa using hj
    exact wpOp_mono (fun a' w' ⟨S', h1, h2, k⟩ => ⟨h1 _ h2, wpAnyH_weaken h1 _ _ _ _ (AlongK.sound hs hQ r S' _ a' w' hp.2 h2 k)⟩) h
  | .fork i r j q, S, listed, a, w, hp, hS, h => by
    simp only [Plan.ok, Bool.and_eq_true, decide_eq_true_eq] at hp
    refine wpAnyH_all hp.1.1.1 (by simp) fun m hm => ?_
    rcases List.mem_cons.1 hm with rfl | hm
    · exact wpOp_mono (fun a' w' ⟨S', h1, h2, k⟩ => ⟨h1 _ h2, wpAnyH_weaken h1 _ _ _ _ (AlongK.sound hs hQ r S' _ a' w' hp.1.2 h2 k)⟩) h.1
    · obtain rfl : m = j := by simpa using hm
      refine wpOp_mono (fun a' w' ⟨S', h1, h2, k⟩ => ⟨h1 _ h2, ?_⟩) h.2
      have := AlongK.sound hs hQ q S' (listed.setIfInBounds m true) a' w' hp.2 h2 k
      rw [hp.1.1.2] at this
      exact wpAnyH_weaken h1 _ _ _ _ this

/-- A REGION, ALONG A PLAN WITH FORKS; what holds of all later worlds may grow stronger on the way. -/
theorem region_alongK {id : Nat} {a : Act} {w : World} (S : World → Prop) (p : Plan) (hm : P.follows .mixedOrders = true) (hl : p.size = ops.size) (hs : Region.noSelect ops = true)
    (hp : p.ok .any ops (Array.replicate ops.size false) = true) (hQ : ∀ c a d v w, Q (.panic c) (Act.put a d v) w → Q (.panic c) a w) (hS : S w.drew) (h : AlongK P ops Q p S a w.drew) : (Code.region id ops true).wp P Q a w := by
  refine wp_region_held (S := S) hm ?_
  have := AlongK.sound (md := .any) hs hQ p S _ a w.drew hp hS h
  rwa [hl] at this

variable {r q : Plan} {i j : Nat} {o : Oper} {a : Act} {w : World} {x y z : Operand}

theorem alongK_done (h : Q .normal a w) : AlongK P ops Q .nil S a w := h
theorem alongK_read (v : Value) (ho : ops[i]? = some o) (hw : Region.wanted o (yielded ops a.tmps) = true) (hv : ∀ w', S w' → (execOp a.eval o).run P w' = .ok (.value v) w') (h : AlongK P ops Q r S (a.put o.dst v) w) : AlongK P ops Q (.read i r) S a w :=
  ⟨o, v, ho, .inl ⟨hw, hv⟩, h⟩
theorem alongK_skip (ho : ops[i]? = some o) (hw : Region.wanted o (yielded ops a.tmps) = false) (h : AlongK P ops Q r S (a.put o.dst undef) w) : AlongK P ops Q (.read i r) S a w :=
  ⟨o, undef, ho, .inr ⟨hw, rfl⟩, h⟩
theorem alongK_step (h : wpOp P ops Q i (fun a' w' => ∃ S' : World → Prop, (∀ x, S' x → S x) ∧ S' w' ∧ AlongK P ops Q r S' a' w') a w) : AlongK P ops Q (.step i r) S a w := h
theorem alongK_fork (h : wpOp P ops Q i (fun a' w' => ∃ S' : World → Prop, (∀ x, S' x → S x) ∧ S' w' ∧ AlongK P ops Q r S' a' w') a w) (h' : wpOp P ops Q j (fun a' w' => ∃ S' : World → Prop, (∀ x, S' x → S x) ∧ S' w' ∧ AlongK P ops Q q S' a' w') a w) : AlongK P ops Q (.fork i r j q) S a w := ⟨h, h'⟩
/-- what runs without entering a function -/
theorem opK_run (v : Value) (w' : World) (ho : ops[i]? = some o) (hw : Region.wanted o (yielded ops a.tmps) = true) (hr : (execOp a.eval o).run P w = .ok (.value v) w') (S' : World → Prop) (hSS : ∀ x, S' x → S x) (hS : S' w') (h : AlongK P ops Q r S' (a.put o.dst v) w') : wpOp P ops Q i (fun a' w' => ∃ S' : World → Prop, (∀ x, S' x → S x) ∧ S' w' ∧ AlongK P ops Q r S' a' w') a w := by
  refine wpOp_step ho fun K' hK => ?_
  rw [if_pos hw]
  unfold Oper.wp
  rw [hr]
  exact hK _ _ ⟨S', hSS, hS, h⟩
/-- a store -/
theorem opK_store (w' : World) (ho : ops[i]? = some o) (hw : Region.wanted o (yielded ops a.tmps) = true) (hr : (execOp a.eval o).run P w = .ok .skip w') (S' : World → Prop) (hSS : ∀ x, S' x → S x) (hS : S' w') (h : AlongK P ops Q r S' (a.put o.dst undef) w') : wpOp P ops Q i (fun a' w' => ∃ S' : World → Prop, (∀ x, S' x → S x) ∧ S' w' ∧ AlongK P ops Q r S' a' w') a w := by
  refine wpOp_step ho fun K' hK => ?_
  rw [if_pos hw]
  unfold Oper.wp
  rw [hr]
  exact hK _ _ ⟨S', hSS, hS, h⟩
/-- a call of a function of one's own -/
theorem opK_call {f : FuncId} {args : List Operand} {ts : Array TypeId} {vs : List Value} (ho : ops[i]? = some o) (hop : o.op = .call { callee := .value (.func f), args := args.toArray, argTypes := ts }) (hvs : args.map a.eval = vs)
    (he : ∀ args w, (callFunc f args).run P w = .ok (.enter f args) w) (hw : Region.wanted o (yielded ops a.tmps) = true)
    (hc : Calls P f vs.toArray w fun e w' => ∃ v, e = .returned v ∧ ∃ S' : World → Prop, (∀ x, S' x → S x) ∧ S' w' ∧ AlongK P ops Q r S' (a.put o.dst v) w') : wpOp P ops Q i (fun a' w' => ∃ S' : World → Prop, (∀ x, S' x → S x) ∧ S' w' ∧ AlongK P ops Q r S' a' w') a w := by
  refine wpOp_step ho fun K' hK => ?_
  rw [if_pos hw]
  have hrun : (execOp a.eval o).run P w = .ok (.enter f vs.toArray) w := by
    have hf : a.eval (.func f) = .func (.func f) #[] #[] := rfl
    unfold execOp; rw [hop]; simp only [resolve, hf, List.map_toArray, hvs]; simp [invoke, he, go_sem]
  unfold Oper.wp
  rw [hrun, Oper.upon_enter]
  refine Calls.mono hc fun e w' ⟨v, he, h⟩ => ?_
  subst he
  exact hK _ _ h

section
variable {ρ : Operand → Value} {v : Value}
theorem ex_move (hop : o.op = .move x) (hv : ρ x = v) (w : World) : (execOp ρ o).run P w = .ok (.value v) w := by simp [execOp, hop, hv, Sem.run_pure]
theorem ex_assign (hop : o.op = .assign x) (hv : ρ x = v) (w : World) : (execOp ρ o).run P w = .ok (.value v) w := by simp [execOp, hop, hv, Sem.run_pure]
theorem ex_field {t : TypeId} {ad : Addr} {f : Nat} (hop : o.op = .fieldAddr t x f) (hx : ρ x = .pointer (some ad)) (w : World) (hf : (Instr.fieldAt t (.pointer (some ad)) f).run P w = .ok v w) : (execOp ρ o).run P w = .ok (.value v) w := by
  unfold execOp; rw [hop]; simp only [hx]
  simp [hf, Result.andThen]
theorem ex_load {t : TypeId} {ad : Addr} (hna : ∀ w, (isAgg t).run P w = .ok false w) (hop : o.op = .load t x) (hx : ρ x = .pointer (some ad)) (w : World) (hc : w.cell? ad = some v) : (execOp ρ o).run P w = .ok (.value v) w := by
  unfold execOp; rw [hop]; simp only [hx]
  simp [Instr.loadAt, Instr.sureAddr, loadVar, hna, hc, Result.andThen]
/-- a whole struct -/
theorem ex_loadrow {t : TypeId} {g : Nat} {cs : Array Value} {d : TypeDesc} (hop : o.op = .load t x) (hx : ρ x = .pointer (some ⟨g, 0, none⟩)) (w : World) (t' : TypeId) (hg : w.heap[g]? = some (.cells cs t' (0, 0)))
    (hu : P.underlying t = some d) (hd : (match d with | .struct _ | .array _ _ => true | _ => false) = true) (hi : (P.info? t).map (·.size) = some cs.size) : (execOp ρ o).run P w = .ok (.value (.agg cs)) w := by
  have h1 := run_loadVar_row (P := P) w g t' t cs (0, 0) d hg hu hd hi
  unfold execOp; rw [hop]; simp only [hx]
  simp [Instr.loadAt, Instr.sureAddr, h1, Result.andThen]
theorem ex_conv {s d : TypeId} {u : Value} (hop : o.op = .convert s d x) (hx : ρ x = u) (w w' : World) (hc : (convert s d u).run P w = .ok v w') : (execOp ρ o).run P w = .ok (.value v) w' := by
  simp [execOp, hop, hx, hc, Result.andThen]
theorem ex_bin {b : BinOp} {t t' : TypeId} {p q : Value} (hop : o.op = .binOp b t x y t') (hx : ρ x = p) (hy : ρ y = q) (w : World) (hr : (do eqGuard b t x y p q; binOp b t p q : Sem Value).run P w = .ok v w) : (execOp ρ o).run P w = .ok (.value v) w := by
  unfold execOp; rw [hop]; simp only [hx, hy]
  rw [Sem.run_bind, hr]; rfl
theorem ex_build {t : TypeId} {parts : Array (Nat × Operand)} {vs : Array (Nat × Value)} (hop : o.op = .build t parts) (hp : parts.map (fun (i, x) => (i, ρ x)) = vs) (w w' : World) (hr : (Instr.build t vs).run P w = .ok v w') : (execOp ρ o).run P w = .ok (.value v) w' := by
  unfold execOp; rw [hop]; simp only [hp]
  rw [Sem.run_bind, hr]; rfl
theorem ex_slice {t : TypeId} {n : Nat} {parts : Array (Nat × Operand)} {vs : Array (Nat × Value)} (hop : o.op = .buildSlice t n parts) (hp : parts.map (fun (i, x) => (i, ρ x)) = vs) (w w' : World) (hr : (Instr.buildSlice t n vs).run P w = .ok v w') : (execOp ρ o).run P w = .ok (.value v) w' := by
  unfold execOp; rw [hop]; simp only [hp]
  rw [Sem.run_bind, hr]; rfl
theorem ex_slice1 {t : TypeId} {v0 : Value} (w w' : World) (hr : (Instr.buildSlice t 1 #[(0, v0)]).run P w = .ok v w') (hop : o.op = .buildSlice t 1 #[(0, x)]) (hx : ρ x = v0) : (execOp ρ o).run P w = .ok (.value v) w' :=
  ex_slice hop (by simp only [List.map_toArray, List.map_cons, List.map_nil, hx]) w w' hr
theorem ex_slice3 {t : TypeId} {v0 v1 v2 : Value} (w w' : World) (hr : (Instr.buildSlice t 3 #[(0, v0), (1, v1), (2, v2)]).run P w = .ok v w') (hop : o.op = .buildSlice t 3 #[(0, x), (1, y), (2, z)]) (hx : ρ x = v0) (hy : ρ y = v1) (hz : ρ z = v2) : (execOp ρ o).run P w = .ok (.value v) w' :=
  ex_slice hop (by simp only [List.map_toArray, List.map_cons, List.map_nil, hx, hy, hz]) w w' hr
theorem ex_build3 {t : TypeId} {v0 v1 v2 : Value} (w w' : World) (hr : (Instr.build t #[(0, v0), (1, v1), (2, v2)]).run P w = .ok v w') (hop : o.op = .build t #[(0, x), (1, y), (2, z)]) (hx : ρ x = v0) (hy : ρ y = v1) (hz : ρ z = v2) : (execOp ρ o).run P w = .ok (.value v) w' :=
  ex_build hop (by simp only [List.map_toArray, List.map_cons, List.map_nil, hx, hy, hz]) w w' hr
theorem ex_alloc {t : TypeId} (hop : o.op = .alloc t) (w w' : World) (hr : (Instr.alloc t true (.tuple #[])).run P w = .ok v w') : (execOp ρ o).run P w = .ok (.value v) w' := by
  unfold execOp; rw [hop]
  show (do let a ← Instr.alloc t true (.tuple #[]); pure (.value a) : Sem Next).run P w = _
  rw [Sem.run_bind, hr]; rfl
/-- a whole struct into its block -/
theorem ex_storerow {t : TypeId} {g : Nat} {c0 c1 : Array Value} (hop : o.op = .store t x y) (hx : ρ x = .pointer (some ⟨g, 0, none⟩)) (hy : ρ y = .agg c1) (w : World) (t' : TypeId) (hg : w.heap[g]? = some (.cells c0 t' (0, 0)))
    (hi : (P.info? t).map (·.size) = some c1.size) (hl : c0.size = c1.size) (hone : c1.all (·.oneCell') = true) : (execOp ρ o).run P w = .ok .skip (w.setRow g c1) := by
  have h1 := run_storeVar_row (P := P) w g t' t c0 c1 hg hi hl hone
  unfold execOp; rw [hop]; simp only [hx, hy]
  simp [Instr.storeAt, Instr.sureAddr, h1, Result.andThen]
end
end
end Go.Proofs.YtgmicppfiapilaaDoor
