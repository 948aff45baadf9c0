import Derived.Maps.AppendAt
import Derived.Test.YtacamknljicjmaaMsBorne
/-
  Rows of structs that grow while a reader reads.
-/
namespace Go.Proofs.Ytacamknljicjmaa
set_option maxRecDepth 100000
section
set_option linter.unusedVariables false
open Go.RowKit Go.Sort Go.Lib

/-- here a walk stops: 'refine Stp.h ?_', and goes on: 'refine Stp.mk ?_' -/
structure Stp (p : Prop) : Prop where
  h : p
/-- one struct more in a row of one's own -/
theorem app_st {st et : TypeId} {z : Value} {sz by_ : Nat} (hu : Try.prog.underlying st = some (.slice et)) (hi : (Try.prog.info? et).map (fun i => (i.zero, i.size, i.bytes)) = some (some z, sz, by_)) (hz : z.cells.size = sz) (hs0 : 0 < sz) (base : Nat) (w : World) (va : Option Addr) (vc n : Nat) (xs : List Value) (u : Array Value)
    (ho : w.ownsRow base et sz (.slice va n vc) n xs) (hul : u.size = sz) (h1 : ∀ v ∈ u.toList, v.oneCell' = true) (hb : (n + 1) * by_ ≤ 140737488355328) (hn : (n + 1) * sz ≤ maxLen) (hn2 : n + 1 ≤ maxLen) (hbase : base ≤ w.heap.size) :
    ∃ (va' : Option Addr) (vc' : Nat) (w' : World), (Builtin.append_ #[st, st] st #[.slice va n vc, .slice (some ⟨w.heap.size, 0, none⟩) 1 1]).run Try.prog (w.alloc (.cells u et)) = .ok (.slice va' (n + 1) vc') w' ∧
      w'.ownsRow base et sz (.slice va' (n + 1) vc') (n + 1) (xs ++ u.toList) ∧ (w.alloc (.cells u et)).grownBy w' (Value.slice va n vc).ownBlock := by
  obtain ⟨i0, hi0, hz0, hz1, hz2⟩ : ∃ i, Try.prog.info? et = some i ∧ i.zero = some z ∧ i.size = sz ∧ i.bytes = by_ := by
    cases hq : Try.prog.info? et with
    | none => rw [hq] at hi; cases hi
    | some i =>
      rw [hq] at hi
      simp only [Option.map_some, Option.some.injEq, Prod.mk.injEq] at hi
      exact ⟨i, rfl, hi.1, hi.2.1, hi.2.2⟩
  have hnb := heap_alloc_new w (.cells u et)
  have hu1 := Up.alloc (Up.refl w) (.cells u et)
  obtain ⟨v', w', k1, k2, k3, _, _⟩ := run_append_own_at (P := Try.prog) (w.alloc (.cells u et)) base st st et i0 z sz by_ hu hi0 hz0 hz1 hz2 hz hs0 (.slice va n vc) n xs (ownsRow_up ho hu1) ⟨w.heap.size, 0, none⟩ 1 1 u.toList (by simp [hul])
    (fun j y hy => by
      have hadd : (⟨w.heap.size, 0, none⟩ : Addr).add j = ⟨w.heap.size, j, none⟩ := by unfold Addr.add; split <;> simp_all
      rw [hadd, cell_of_row _ _ j _ _ _ hnb, ← Array.getElem?_toList]
      exact hy) h1 hn2 hb (Nat.le_trans hbase hu1.size)
  obtain ⟨va', vc', rfl⟩ := row_shape k2
  exact ⟨va', vc', w', k1, k2, k3⟩
theorem info_vt3 : (Try.prog.info? 29).map (fun i => (i.zero, i.size, i.bytes)) = some (some (.agg (vsA zV)), 7, 72) := by kernel_rfl
theorem info_ts3 : (Try.prog.info? 31).map (fun i => (i.zero, i.size, i.bytes)) = some (some (.agg (tsA zT)), 5, 48) := by kernel_rfl
theorem build_vs1 (x : Vs) (w : World) : (Instr.buildSlice 22 1 #[(0, .agg (vsA x))]).run Try.prog w = .ok (.slice (some ⟨w.heap.size, 0, none⟩) 1 1) (w.alloc (.cells (vsA x) 29)) := by
  obtain ⟨⟨K, V, H, B, T, G⟩, S⟩ := x
  show (Instr.buildSlice 22 1 #[(0, .agg #[.int .i64 K, .int .i64 V, .int .i64 H, .string (strOfNums B), .int .i64 T, .int .i64 G, .string S])]).run Try.prog w = .ok (.slice (some ⟨w.heap.size, 0, none⟩) 1 1) (w.alloc (.cells #[.int .i64 K, .int .i64 V, .int .i64 H, .string (strOfNums B), .int .i64 T, .int .i64 G, .string S] 29))
  simp [go_sem]
theorem build_ts1 (x : Ts) (w : World) : (Instr.buildSlice 25 1 #[(0, .agg (tsA x))]).run Try.prog w = .ok (.slice (some ⟨w.heap.size, 0, none⟩) 1 1) (w.alloc (.cells (tsA x) 31)) := by
  obtain ⟨⟨F, T, A, N⟩, S⟩ := x
  show (Instr.buildSlice 25 1 #[(0, .agg #[.int .i64 F, .int .i64 T, .int .i64 A, .int .i64 N, .string S])]).run Try.prog w = .ok (.slice (some ⟨w.heap.size, 0, none⟩) 1 1) (w.alloc (.cells #[.int .i64 F, .int .i64 T, .int .i64 A, .int .i64 N, .string S] 31))
  simp [go_sem]
/-- all cells of so many transactions -/
def tsF (xs : List Ts) : List Value := xs.flatMap tsC
theorem tsF_append (a b : List Ts) : tsF (a ++ b) = tsF a ++ tsF b := by unfold tsF; rw [List.flatMap_append]
theorem tsF_get : ∀ (xs : List Ts) (i : Nat) (x : Ts) (k : Nat), xs[i]? = some x → k < 5 → (tsF xs)[i * 5 + k]? = some ((tsC x)[k]!)
  | [], i, x, k, h, _ => by simp at h
  | y :: t, i, x, k, h, hk => by
    have e : tsF (y :: t) = tsC y ++ tsF t := by unfold tsF; rw [List.flatMap_cons]
    rw [e]
    cases i with
    | zero =>
      rw [List.getElem?_cons_zero] at h
      cases h
      rw [Nat.zero_mul, Nat.zero_add, List.getElem?_append_left (by rw [tsC_len]; exact hk), getElem!_pos (tsC y) k (by rw [tsC_len]; exact hk)]
      exact List.getElem?_eq_getElem _
    | succ i =>
      rw [List.getElem?_cons_succ] at h
      rw [List.getElem?_append_right (by rw [tsC_len]; omega), tsC_len, show (i + 1) * 5 + k - 5 = i * 5 + k by omega]
      exact tsF_get t i x k h hk
theorem tsF_length : ∀ xs : List Ts, (tsF xs).length = xs.length * 5
  | [] => rfl
  | x :: t => by
    have := tsF_length t
    unfold tsF at this ⊢
    rw [List.flatMap_cons, List.length_append, this, tsC_len, List.length_cons]; omega
theorem varg_of_own {W : World} {base n c : Nat} {a : Option Addr} {D : List Vs} (h : W.ownsRow base 29 7 (.slice a n c) n (vsF D)) (hn : D.length = n) : VArg W (.slice a n c) D := by
  subst hn
  rcases h.2 with ⟨he, h0⟩ | ⟨g, cap, cur, he, _, hg, hc, _, hs, ht⟩
  · simp only [Value.slice.injEq] at he
    obtain ⟨rfl, _, rfl⟩ := he
    exact ⟨none, 0, rfl, Nat.le_of_eq h0, fun _ => rfl, .inl (List.eq_nil_of_length_eq_zero h0)⟩
  · cases he
    refine ⟨_, c, rfl, hc, (fun e => by cases e), .inr ⟨g, 0, rfl, fun j hj => ?_⟩⟩
    rw [Nat.zero_add, cell_of_row _ _ j _ _ _ hg, ← ht, List.getElem?_take_of_lt (by omega), Array.getElem?_toList]
theorem targ_of_own {W : World} {base n c : Nat} {a : Option Addr} {D : List Ts} (h : W.ownsRow base 31 5 (.slice a n c) n (tsF D)) (hn : D.length = n) : TArg W (.slice a n c) D := by
  subst hn
  rcases h.2 with ⟨he, h0⟩ | ⟨g, cap, cur, he, _, hg, hc, _, hs, ht⟩
  · simp only [Value.slice.injEq] at he
    obtain ⟨rfl, _, rfl⟩ := he
    exact ⟨none, 0, rfl, Nat.le_of_eq h0, fun _ => rfl, .inl (List.eq_nil_of_length_eq_zero h0)⟩
  · cases he
    refine ⟨_, c, rfl, hc, (fun e => by cases e), .inr ⟨g, 0, rfl, fun i x hx k hk => ?_⟩⟩
    have hi := (List.getElem?_eq_some_iff.1 hx).1
    rw [Nat.zero_add, cell_of_row _ _ (i * 5 + k) _ _ _ hg, ← tsF_get D i x k hx hk, ← ht, List.getElem?_take_of_lt (by omega), Array.getElem?_toList]
/-- a row of one's own is kept where others are written -/
theorem own_but {S : Nat → Prop} {w w' : World} {base : Nat} {e : TypeId} {sz : Nat} {v : Value} {n : Nat} {xs : List Value} (h : w.ownsRow base e sz v n xs) (k : KeptBut S w w') (hS : ∀ g, v.ownBlock = some g → ¬ S g) : w'.ownsRow base e sz v n xs := by
  refine ⟨h.1, ?_⟩
  rcases h.2 with hn | ⟨g, cap, cur, rfl, hb, hgg, rest⟩
  · exact .inl hn
  · exact .inr ⟨g, cap, cur, rfl, hb, (k.block g (lt_of_block hgg) (hS g rfl)).trans hgg, rest⟩
/-- the reader's block is written: a younger row stays -/
theorem own_read {w w' : World} {base g : Nat} {e : TypeId} {sz : Nat} {v : Value} {n : Nat} {xs : List Value} (h : w.ownsRow base e sz v n xs) (hg : w.grownBy w' (some g)) (hb : g < base) : w'.ownsRow base e sz v n xs :=
  own_but h (KeptBut.of_grown (S := fun k => k = g) hg (fun k e => by cases e; rfl)) (fun k hk e => by have := (h.lt k hk).1; omega)
theorem block_read {w w' : World} {g B : Nat} {x : Obj} (h : w.heap[B]? = some x) (hg : w.grownBy w' (some g)) (hb : B ≠ g) : w'.heap[B]? = some x :=
  (hg.block B (lt_of_block h) (fun e => hb (by simpa using e))).trans h
/-- a row of one's own grows: the reader stays -/
theorem reads_row {g : Nat} {l : Value} {w W W' : World} {E : Int} {zs : List Int} {base n sz : Nat} {e : TypeId} {v : Value} {xs : List Value} (h : Reads g l w E zs W) (hr : W.ownsRow base e sz v n xs) (hg : W.grownBy W' v.ownBlock) (hgb : g < base) (hwb : w.heap.size ≤ base) (hl : ∀ k, l.ownBlock = some k → k < w.heap.size) : Reads g l w E zs W' := by
  rcases hob : v.ownBlock with _ | b
  · rw [hob] at hg
    exact h.up (up_grown hg)
  · rw [hob] at hg
    have hb := (hr.lt b hob).1
    exact h.put hg (by omega) (fun k hk => by have := hl k hk; omega) (by omega)
/-- reads of a transaction, a statement, on and on -/
def rTs (q : Int × List Int) : Ts :=
  if (rSig q).2.1 = 0 ∧ strOfNums (rdText q.1 q.2 4096).1 = ⟨#[116, 120]⟩ ∧ txE (rX q 0) (rX q 1) (rX q 2) (rX q 3) (strOfNums (rSig q).1) = 0 then (⟨rX q 0, rX q 1, rX q 2, rX q 3⟩, strOfNums (rSig q).1) else zT
def tsR (q : Int × List Int) : Int × List Int := ((rSig q).2.1, (rSig q).2.2)
theorem rTs_eq (q : Int × List Int) : rTxC q = tsA (rTs q) := by
  unfold rTxC rTs
  split <;> rfl
open Classical in
noncomputable def rVs (q : Int × List Int) : Vs := if VrOk q then (vrV q, strOfNums (vrSig q)) else zV
theorem rVs_eq (q : Int × List Int) : rVtC q = vsA (rVs q) := by
  unfold rVtC rVs
  split
  · rfl
  · rfl
theorem tsR_inv {q : Int × List Int} (h : RvInv q) : RvInv (tsR q) := by
  have k := rS_inv q h.1 h.2 4
  exact ⟨(rdText_inv _ _ 4096 k.1 k.2).1, (rdText_inv _ _ 4096 k.1 k.2).2.1⟩
theorem txRead_on (g : Nat) (l : Value) (q : Int × List Int) (w W : World) (h : Reads g l w q.1 q.2 W) (hi : RvInv q) (hl : ∀ k, l.ownBlock = some k → k < w.heap.size) :
    Calls Try.prog 39 #[.pointer (some ⟨g, 0, none⟩)] W fun e w' => e = .returned (.agg (tsA (rTs q))) ∧ Reads g l w (tsR q).1 (tsR q).2 w' ∧ W.grownBy w' (some g) := by
  have hsz := h.size
  obtain ⟨l', h1, h2, h3⟩ := h
  refine (txRead_any g l' q.1 q.2 W h1 hi.1 hi.2 (fun k hk => by have := hl k (h3 k hk); omega)).mono fun e w' ⟨k1, k2⟩ => ⟨by rw [k1, rTs_eq], Reads.trans h2 h3 k2, ?_⟩
  obtain ⟨_, _, k4, _⟩ := k2
  exact k4
theorem vtRead_on (g : Nat) (l : Value) (q : Int × List Int) (w W : World) (h : Reads g l w q.1 q.2 W) (hi : RvInv q) (hl : ∀ k, l.ownBlock = some k → k < w.heap.size) :
    Calls Try.prog 36 #[.pointer (some ⟨g, 0, none⟩)] W fun e w' => e = .returned (.agg (vsA (rVs q))) ∧ Reads g l w (vr7 q).1 (vr7 q).2 w' ∧ W.grownBy w' (some g) := by
  have hsz := h.size
  obtain ⟨l', h1, h2, h3⟩ := h
  refine (vtRead_any g l' q.1 q.2 W h1 hi.1 hi.2 (fun k hk => by have := hl k (h3 k hk); omega)).mono fun e w' ⟨k1, k2⟩ => ⟨by rw [k1, rVs_eq], Reads.trans h2 h3 k2, ?_⟩
  obtain ⟨_, _, k4, _⟩ := k2
  exact k4
/-- so many statements, transactions -/
noncomputable def rVsL : Nat → Int × List Int → List Vs × (Int × List Int)
  | 0, q => ([], q)
  | n + 1, q => (rVs q :: (rVsL n (vr7 q)).1, (rVsL n (vr7 q)).2)
def rTsL : Nat → Int × List Int → List Ts × (Int × List Int)
  | 0, q => ([], q)
  | n + 1, q => if q.1 ≠ 0 then ([], q) else (rTs q :: (rTsL n (tsR q)).1, (rTsL n (tsR q)).2)
theorem ex_append1 {P : Program} {ρ : Operand → Value} {o : Oper} {s x : Operand} {v u v' : Value} {t : TypeId} {w w' : World} (hop : o.op = .call { callee := .builtin .append, args := #[s, x], argTypes := #[t, t] }) (hty : o.type = t) (hs : ρ s = v) (hx : ρ x = u)
    (hr : (Builtin.append_ #[t, t] t #[v, u]).run P w = .ok v' w') : (execOp ρ o).run P w = .ok (.value v') w' := by
  unfold execOp
  simp only [hop, resolve, invoke, builtin, Sem.run_bind, Sem.run_pure, Result.andThen_ok, List.map_toArray, List.map_cons, List.map_nil, hs, hx, hty, hr]
end
end Go.Proofs.Ytacamknljicjmaa
