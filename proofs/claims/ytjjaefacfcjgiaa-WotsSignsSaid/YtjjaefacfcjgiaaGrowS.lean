import Derived.Maps.AppendAt
import Derived.Lib.AppendStr
import Derived.Test.YtjjaefacfcjgiaaGrow
/-
  A STATEMENT THAT LEAVES ITS ORDER OPEN, ALONG A PLAN, under one condition S on all its worlds: whatever yields the same in every world that meets S may be taken as soon as it can come up; calls, what makes memory and appends come where nothing else can, and S holds behind each.
-/
namespace Go.Proofs.Ytjjaefacfcjgiaa
set_option linter.unusedVariables false
open Go.RowKit

section
variable {P : Program} {ops : Array Oper} {Q : Exit → Act → World → Prop} {md : Region.Mode} {S : World → Prop}

def AlongS (P : Program) (ops : Array Oper) (Q : Exit → Act → World → Prop) (S : World → Prop) : List (Nat × Bool) → Act → World → Prop
  | [], a, w => Q .normal a w
  | (i, true) :: r, a, w => ∃ o v, ops[i]? = some o ∧ YieldsIf P ops S o v a ∧ AlongS P ops Q S r (a.put o.dst v) w
  | (i, false) :: r, a, w => wpOp P ops Q i (fun a' w' => S w' ∧ AlongS P ops Q S r a' w') a w

theorem AlongS.sound (hs : Region.noSelect ops = true) (hQ : ∀ c a d v w, Q (.panic c) (Act.put a d v) w → Q (.panic c) a w) :
    ∀ (plan : List (Nat × Bool)) (listed : Array Bool) (a : Act) (w : World), planOk md ops plan listed = true → S w → AlongS P ops Q S plan a w → wpAnyH P md ops Q S plan.length listed a w
  | [], listed, a, w, hp, _, h => wpAnyH_done (by simpa [planOk] using hp) h _
  | (i, true) :: r, listed, a, w, hp, hS, ⟨o, v, ho, hy, h⟩ => by
    simp only [planOk, Bool.and_eq_true] at hp
    exact wpAnyH_take ho hs hp.1.1 hp.1.2 (fun c a w => hQ c a _ _ w) hy hS (AlongS.sound hs hQ r _ _ w hp.2 hS h)
  | (i, false) :: r, listed, a, w, hp, hS, h => by
    simp only [planOk, Bool.and_eq_true, decide_eq_true_eq] at hp
    refine wpAnyH_all hp.1 (by simp) fun j hj => ?_
    obtain rfl : j = i := by simpa using hj
    exact wpOp_mono (fun a' w' k => ⟨k.1, AlongS.sound hs hQ r _ a' w' hp.2 k.1 k.2⟩) h

/-- A REGION, ALONG A PLAN. -/
theorem region_alongS {id : Nat} {a : Act} {w : World} (plan : List (Nat × Bool)) (hm : P.follows .mixedOrders = true) (hl : plan.length = ops.size) (hs : Region.noSelect ops = true)
    (hp : planOk .any ops plan (Array.replicate ops.size false) = true) (hQ : ∀ c a d v w, Q (.panic c) (Act.put a d v) w → Q (.panic c) a w) (hS : S w.drew) (h : AlongS P ops Q S plan a w.drew) : (Code.region id ops true).wp P Q a w := by
  refine wp_region_held (S := S) hm ?_
  have := AlongS.sound (md := .any) hs hQ plan _ a w.drew hp hS h
  rwa [hl] at this

variable {r : List (Nat × Bool)} {i : Nat} {o : Oper} {a : Act} {w : World} {x y z : Operand} {v : Value}

theorem alongS_done (h : Q .normal a w) : AlongS P ops Q S [] a w := h
theorem alongS_read (v : Value) (ho : ops[i]? = some o) (hw : Region.wanted o (yielded ops a.tmps) = true) (hv : ∀ w', S w' → (execOp a.eval o).run P w' = .ok (.value v) w') (h : AlongS P ops Q S r (a.put o.dst v) w) : AlongS P ops Q S ((i, true) :: r) a w :=
  ⟨o, v, ho, .inl ⟨hw, hv⟩, h⟩
theorem alongS_move (v : Value) (ho : ops[i]? = some o) (hop : o.op = .move x) (hv : a.eval x = v) (hw : Region.wanted o (yielded ops a.tmps) = true) (h : AlongS P ops Q S r (a.put o.dst v) w) : AlongS P ops Q S ((i, true) :: r) a w :=
  alongS_read v ho hw (fun w' _ => by simp [execOp, hop, hv, Sem.run_pure]) h
theorem alongS_assign (v : Value) (ho : ops[i]? = some o) (hop : o.op = .assign x) (hv : a.eval x = v) (hw : Region.wanted o (yielded ops a.tmps) = true) (h : AlongS P ops Q S r (a.put o.dst v) w) : AlongS P ops Q S ((i, true) :: r) a w :=
  alongS_read v ho hw (fun w' _ => by simp [execOp, hop, hv, Sem.run_pure]) h
/-- an element's place -/
theorem alongS_index {t e : TypeId} {b off n c k : Nat} (hu : P.underlying t = some (.slice e)) (hsz : ∀ w, (sizeOf e).run P w = .ok 1 w) (ho : ops[i]? = some o) (hop : o.op = .indexAddr t x y) (hx : a.eval x = .slice (some ⟨b, off, none⟩) n c) (hy : a.eval y = .int .i64 k) (hk : k < n) (hw : Region.wanted o (yielded ops a.tmps) = true)
    (h : AlongS P ops Q S r (a.put o.dst (.pointer (some ⟨b, off + k, none⟩))) w) : AlongS P ops Q S ((i, true) :: r) a w :=
  alongS_read _ ho hw (fun w' _ => by
    have h2 : ((⟨b, off, none⟩ : Addr).add k) = ⟨b, off + k, none⟩ := by unfold Addr.add; split <;> simp_all
    have hr : (Instr.indexAt t (.slice (some ⟨b, off, none⟩) n c) (.int .i64 k)).run P w' = .ok (.pointer (some ⟨b, off + k, none⟩)) w' := by
      have he : P.elem t = e := by simp [Program.elem, hu]
      have h3 := run_indexAt_slice (P := P) (w := w') t ⟨b, off, none⟩ n c .i64 k (by rw [he]; exact hu)
      rw [if_pos ⟨by omega, by omega⟩, he, hsz] at h3
      rw [h3]
      simp [h2]
    unfold execOp; rw [hop]; simp only [hx, hy, Sem.run_bind, hr, Result.andThen_ok, Sem.run_pure]) h
/-- a load of what is the same in every world that meets S -/
theorem alongS_load {t : TypeId} {ad : Addr} (v : Value) (hna : ∀ w, (isAgg t).run P w = .ok false w) (ho : ops[i]? = some o) (hop : o.op = .load t x) (hx : a.eval x = .pointer (some ad)) (hc : ∀ w', S w' → w'.cell? ad = some v) (hw : Region.wanted o (yielded ops a.tmps) = true)
    (h : AlongS P ops Q S r (a.put o.dst v) w) : AlongS P ops Q S ((i, true) :: r) a w :=
  alongS_read v ho hw (fun w' hS => by
    have hcell := hc w' hS
    unfold execOp; rw [hop]; simp only [hx]
    simp [Instr.loadAt, Instr.sureAddr, loadVar, hna, hcell, Result.andThen]) h
/-- 'k - n' -/
theorem alongS_sub {t t' : TypeId} {p q s : Int} (hs : IntKind.i64.wrap (p - q) = s) (ho : ops[i]? = some o) (hop : o.op = .binOp .sub t x y t') (hx : a.eval x = .int .i64 p) (hy : a.eval y = .int .i64 q) (hw : Region.wanted o (yielded ops a.tmps) = true)
    (h : AlongS P ops Q S r (a.put o.dst (.int .i64 s)) w) : AlongS P ops Q S ((i, true) :: r) a w :=
  alongS_read _ ho hw (fun w' _ => by unfold execOp; rw [hop]; simp only [hx, hy]; simp [go_sem, hs]) h
/-- whatever runs without entering a function -/
theorem alongS_run (v : Value) (w' : World) (ho : ops[i]? = some o) (hw : Region.wanted o (yielded ops a.tmps) = true) (hr : (execOp a.eval o).run P w = .ok (.value v) w') (hS : S w') (h : AlongS P ops Q S r (a.put o.dst v) w') : AlongS P ops Q S ((i, false) :: r) a w := by
  refine wpOp_step ho fun K' hK => ?_
  rw [if_pos hw]
  unfold Oper.wp
  rw [hr]
  exact hK _ _ ⟨hS, h⟩
/-- a call of a function of one's own -/
theorem alongS_call {f : FuncId} {args : List Operand} {ts : Array TypeId} {vs : List Value} (ho : ops[i]? = some o) (hop : o.op = .call { callee := .value (.func f), args := args.toArray, argTypes := ts }) (hvs : args.map a.eval = vs)
    (he : ∀ args w, (callFunc f args).run P w = .ok (.enter f args) w) (hw : Region.wanted o (yielded ops a.tmps) = true)
    (hc : Calls P f vs.toArray w fun e w' => ∃ v, e = .returned v ∧ S w' ∧ AlongS P ops Q S r (a.put o.dst v) w') : AlongS P ops Q S ((i, false) :: r) a w := by
  refine wpOp_step ho fun K' hK => ?_
  rw [if_pos hw]
  have hrun : (execOp a.eval o).run P w = .ok (.enter f vs.toArray) w := by
    have hf : a.eval (.func f) = .func (.func f) #[] #[] := rfl
    unfold execOp; rw [hop]; simp only [resolve, hf, List.map_toArray, hvs]; simp [invoke, he, go_sem]
  unfold Oper.wp
  rw [hrun, Oper.upon_enter]
  refine Calls.mono hc fun e w' ⟨v, he, hu, h⟩ => ?_
  subst he
  exact hK _ _ ⟨hu, h⟩
/-- a slice of one string -/
theorem alongS_one {t e : TypeId} {s z : ByteArray} (hu : P.underlying t = some (.slice e)) (hsz : ∀ w, (sizeOf e).run P w = .ok 1 w) (hz : ∀ w, (zeroValue e).run P w = .ok (.string z) w) (ho : ops[i]? = some o) (hop : o.op = .buildSlice t 1 #[(0, x)]) (hx : a.eval x = .string s) (hw : Region.wanted o (yielded ops a.tmps) = true)
    (hS : S (w.alloc (.cells #[.string s] e))) (h : AlongS P ops Q S r (a.put o.dst (.slice (some ⟨w.heap.size, 0, none⟩) 1 1)) (w.alloc (.cells #[.string s] e))) : AlongS P ops Q S ((i, false) :: r) a w :=
  alongS_run _ _ ho hw (by
    have hm : (#[(0, x)] : Array (Nat × Operand)).map (fun (i, x) => (i, a.eval x)) = #[(0, .string s)] := by simp only [List.map_toArray, List.map_cons, List.map_nil, hx]
    unfold execOp; rw [hop]
    simp only [hm]
    simp [Instr.buildSlice, run_underlying hu, hsz, hz, go_sem, Result.andThen]) hS h
/-- append onto a slice of one's own -/
theorem alongS_append {s : Operand} {t : TypeId} (hw : Region.wanted o (yielded ops a.tmps) = true) (ho : ops[i]? = some o) (hop : o.op = .call { callee := .builtin .append, args := #[s, x], argTypes := #[t, t] })
    (base : Nat) (e : TypeId) (inf : TypeInfo) (z : Value) (size bytes : Nat) (ht : P.underlying t = some (.slice e)) (hi : P.info? e = some inf) (hz : inf.zero = some z)
    (hsize : inf.size = size) (hby : inf.bytes = bytes) (hzs : z.cells.size = size) (hsz : 0 < size)
    (v : Value) (n : Nat) (xs : List Value) (hs : a.eval s = v) (hown : w.ownsRow base e size v n xs)
    (ad : Addr) (m c : Nat) (news : List Value) (hx : a.eval x = .slice (some ad) m c) (hl : news.length = m * size) (hnews : ∀ j u, news[j]? = some u → w.cell? (ad.add j) = some u) (h1 : ∀ u ∈ news, u.oneCell' = true)
    (h63 : n + m ≤ maxLen) (hbytes : (n + m) * bytes ≤ 140737488355328) (hbase : base ≤ w.heap.size)
    (h : ∀ v' w', w'.ownsRow base e size v' (n + m) (xs ++ news) → w.grownBy w' v.ownBlock → S w' ∧ AlongS P ops Q S r (a.put o.dst v') w') : AlongS P ops Q S ((i, false) :: r) a w := by
  obtain ⟨v', w', hr, h2, h3, _, _⟩ := run_append_own_at (P := P) w base t o.type e inf z size bytes ht hi hz hsize hby hzs hsz v n xs hown ad m c news hl hnews h1 h63 hbytes hbase
  refine alongS_run v' w' ho hw ?_ (h v' w' h2 h3).1 (h v' w' h2 h3).2
  unfold execOp
  simp only [hop, resolve, invoke, builtin, Sem.run_bind, Sem.run_pure, Result.andThen_ok, List.map_toArray, List.map_cons, List.map_nil, hs, hx, hr]
/-- .. of a string -/
theorem alongS_appendstr {s : Operand} {t u : TypeId} (hw : Region.wanted o (yielded ops a.tmps) = true) (ho : ops[i]? = some o) (hop : o.op = .call { callee := .builtin .append, args := #[s, x], argTypes := #[t, u] })
    (base : Nat) (e : TypeId) (inf : TypeInfo) (ht : P.underlying t = some (.slice e)) (hu : P.underlying u = some .string) (hi : P.info? e = some inf) (hz : inf.zero = some (.int .u8 0))
    (hsize : inf.size = 1) (hby : inf.bytes = 1)
    (v : Value) (n : Nat) (xs : List Value) (hs : a.eval s = v) (hown : w.ownsRow base e 1 v n xs) (str : ByteArray) (hx : a.eval x = .string str)
    (h63 : n + str.size ≤ maxLen) (hbytes : n + str.size ≤ 140737488355328) (hbase : base ≤ w.heap.size)
    (h : ∀ v' w', w'.ownsRow base e 1 v' (n + str.size) (xs ++ Lib.strCells str) → w.grownBy w' v.ownBlock → S w' ∧ AlongS P ops Q S r (a.put o.dst v') w') : AlongS P ops Q S ((i, false) :: r) a w := by
  obtain ⟨v', w', hr, h2, h3, _⟩ := Lib.run_append_own_string (P := P) w base t u o.type e inf ht hu hi hz hsize hby v n xs hown str h63 hbytes hbase
  refine alongS_run v' w' ho hw ?_ (h v' w' h2 h3).1 (h v' w' h2 h3).2
  unfold execOp
  simp only [hop, resolve, invoke, builtin, Sem.run_bind, Sem.run_pure, Result.andThen_ok, List.map_toArray, List.map_cons, List.map_nil, hs, hx, hr]
end
end Go.Proofs.Ytjjaefacfcjgiaa
