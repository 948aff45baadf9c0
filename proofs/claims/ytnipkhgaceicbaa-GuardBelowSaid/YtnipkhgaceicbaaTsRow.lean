import Derived.Maps.AppendAt
import Derived.Test.YtnipkhgaceicbaaTxKit
/-
  Rows of transactions of one's own.
-/
namespace Go.Proofs.Ytnipkhgaceicbaa
set_option maxRecDepth 100000
section
set_option linter.unusedVariables false
open Go.RowKit Go.Sort Go.Lib

theorem info_tsd : (Try.prog.info? 90).map (fun i => (i.zero, i.size, i.bytes)) = some (some (.agg (tsA default)), 5, 48) := by kernel_rfl
theorem ex_app {P : Program} {o : Oper} {s x : Operand} {ρ : Operand → Value} {v u v' : Value} {w w' : World} {t t2 ty : TypeId} (hr : (Builtin.append_ #[t, t2] ty #[v, u]).run P w = .ok v' w') (hop : o.op = .call { callee := .builtin .append, args := #[s, x], argTypes := #[t, t2] }) (hs : ρ s = v) (hx : ρ x = u) (hty : o.type = ty) :
    (execOp ρ o).run P w = .ok (.value v') w' := by
  subst hty
  unfold execOp
  simp only [hop, resolve, invoke, builtin, Sem.run_bind, Sem.run_pure, Result.andThen_ok, List.map_toArray, List.map_cons, List.map_nil, hs, hx, hr]
theorem tx_cell {W : World} {B : Nat} {cs : Array Value} {t : TypeId} (h : W.heap[B]? = some (.cells cs t (0, 0))) (k : Nat) {v : Value} (hv : cs[k]? = some v) : W.cell? ⟨B, k, none⟩ = some v := by
  rw [cell_of_row _ _ k _ _ _ h, hv]
theorem info_partsT {P : Program} {t : TypeId} {z : Value} {s b : Nat} (h : (P.info? t).map (fun i => (i.zero, i.size, i.bytes)) = some (some z, s, b)) : ∃ i, P.info? t = some i ∧ i.zero = some z ∧ i.size = s ∧ i.bytes = b := by
  cases hq : P.info? t with
  | none => rw [hq] at h; cases h
  | some i =>
    rw [hq] at h
    simp only [Option.map_some, Option.some.injEq, Prod.mk.injEq] at h
    exact ⟨i, rfl, h.1, h.2.1, h.2.2⟩
theorem tsC_one (x : Ts) : ∀ v ∈ tsC x, v.oneCell' = true := by intro v hv; simp [tsC] at hv; rcases hv with rfl | rfl | rfl | rfl | rfl <;> rfl
/-- here a walk stops: 'refine Stp.h ?_', and goes on: 'refine Stp.mk ?_' -/
structure Stp (p : Prop) : Prop where
  h : p
/-- one struct more in a row of one's own -/
theorem app_st {st et : TypeId} {z : Value} {sz by_ : Nat} (hu : Try.prog.underlying st = some (.slice et)) (hi : (Try.prog.info? et).map (fun i => (i.zero, i.size, i.bytes)) = some (some z, sz, by_)) (hz : z.cells.size = sz) (hs0 : 0 < sz) (base : Nat) (w : World) (va : Option Addr) (vc n : Nat) (xs : List Value) (u : Array Value)
    (ho : w.ownsRow base et sz (.slice va n vc) n xs) (hul : u.size = sz) (h1 : ∀ v ∈ u.toList, v.oneCell' = true) (hb : (n + 1) * by_ ≤ 140737488355328) (hn : (n + 1) * sz ≤ maxLen) (hn2 : n + 1 ≤ maxLen) (hbase : base ≤ w.heap.size) :
    ∃ (va' : Option Addr) (vc' : Nat) (w' : World), (Builtin.append_ #[st, st] st #[.slice va n vc, .slice (some ⟨w.heap.size, 0, none⟩) 1 1]).run Try.prog (w.alloc (.cells u et)) = .ok (.slice va' (n + 1) vc') w' ∧
      w'.ownsRow base et sz (.slice va' (n + 1) vc') (n + 1) (xs ++ u.toList) ∧ (w.alloc (.cells u et)).grownBy w' (Value.slice va n vc).ownBlock := by
  obtain ⟨i0, hi0, hz0, hz1, hz2⟩ : ∃ i, Try.prog.info? et = some i ∧ i.zero = some z ∧ i.size = sz ∧ i.bytes = by_ := by
    cases hq : Try.prog.info? et with
    | none => rw [hq] at hi; cases hi
    | some i =>
      rw [hq] at hi
      simp only [Option.map_some, Option.some.injEq, Prod.mk.injEq] at hi
      exact ⟨i, rfl, hi.1, hi.2.1, hi.2.2⟩
  have hnb := heap_alloc_new w (.cells u et)
  have hu1 := Up.alloc (Up.refl w) (.cells u et)
  obtain ⟨v', w', k1, k2, k3, _, _⟩ := run_append_own_at (P := Try.prog) (w.alloc (.cells u et)) base st st et i0 z sz by_ hu hi0 hz0 hz1 hz2 hz hs0 (.slice va n vc) n xs (ownsRow_up ho hu1) ⟨w.heap.size, 0, none⟩ 1 1 u.toList (by simp [hul])
    (fun j y hy => by
      have hadd : (⟨w.heap.size, 0, none⟩ : Addr).add j = ⟨w.heap.size, j, none⟩ := by unfold Addr.add; split <;> simp_all
      rw [hadd, cell_of_row _ _ j _ _ _ hnb, ← Array.getElem?_toList]
      exact hy) h1 hn2 hb (Nat.le_trans hbase hu1.size)
  obtain ⟨va', vc', rfl⟩ := row_shape k2
  exact ⟨va', vc', w', k1, k2, k3⟩
theorem build_ts1 (x : Ts) (w : World) : (Instr.buildSlice 39 1 #[(0, .agg (tsA x))]).run Try.prog w = .ok (.slice (some ⟨w.heap.size, 0, none⟩) 1 1) (w.alloc (.cells (tsA x) 90)) := by
  obtain ⟨⟨F, T, A, N⟩, S⟩ := x
  show (Instr.buildSlice 39 1 #[(0, .agg #[.int .i64 F, .int .i64 T, .int .i64 A, .int .i64 N, .string S])]).run Try.prog w = .ok (.slice (some ⟨w.heap.size, 0, none⟩) 1 1) (w.alloc (.cells #[.int .i64 F, .int .i64 T, .int .i64 A, .int .i64 N, .string S] 90))
  simp [go_sem]
/-- all cells of so many transactions -/
def tsF (xs : List Ts) : List Value := xs.flatMap tsC
theorem tsF_append (a b : List Ts) : tsF (a ++ b) = tsF a ++ tsF b := by unfold tsF; rw [List.flatMap_append]
theorem tsF_get : ∀ (xs : List Ts) (i : Nat) (x : Ts) (k : Nat), xs[i]? = some x → k < 5 → (tsF xs)[i * 5 + k]? = some ((tsC x)[k]!)
  | [], i, x, k, h, _ => by simp at h
  | y :: t, i, x, k, h, hk => by
    have e : tsF (y :: t) = tsC y ++ tsF t := by unfold tsF; rw [List.flatMap_cons]
    rw [e]
    cases i with
    | zero =>
      rw [List.getElem?_cons_zero] at h
      cases h
      rw [Nat.zero_mul, Nat.zero_add, List.getElem?_append_left (by rw [tsC_len]; exact hk), getElem!_pos (tsC y) k (by rw [tsC_len]; exact hk)]
      exact List.getElem?_eq_getElem _
    | succ i =>
      rw [List.getElem?_cons_succ] at h
      rw [List.getElem?_append_right (by rw [tsC_len]; omega), tsC_len, show (i + 1) * 5 + k - 5 = i * 5 + k by omega]
      exact tsF_get t i x k h hk
theorem tsF_length : ∀ xs : List Ts, (tsF xs).length = xs.length * 5
  | [] => rfl
  | x :: t => by
    have := tsF_length t
    unfold tsF at this ⊢
    rw [List.flatMap_cons, List.length_append, this, tsC_len, List.length_cons]; omega
theorem targ_of_own {W : World} {base n c : Nat} {a : Option Addr} {D : List Ts} (h : W.ownsRow base 90 5 (.slice a n c) n (tsF D)) (hn : D.length = n) : TArg W (.slice a n c) D := by
  subst hn
  rcases h.2 with ⟨he, h0⟩ | ⟨g, cap, cur, he, _, hg, hc, _, hs, ht⟩
  · simp only [Value.slice.injEq] at he
    obtain ⟨rfl, _, rfl⟩ := he
    exact ⟨none, 0, rfl, Nat.le_of_eq h0, fun _ => rfl, .inl (List.eq_nil_of_length_eq_zero h0)⟩
  · cases he
    refine ⟨_, c, rfl, hc, (fun e => by cases e), .inr ⟨g, 0, rfl, fun i x hx k hk => ?_⟩⟩
    have hi := (List.getElem?_eq_some_iff.1 hx).1
    rw [Nat.zero_add, cell_of_row _ _ (i * 5 + k) _ _ _ hg, ← tsF_get D i x k hx hk, ← ht, List.getElem?_take_of_lt (by omega), Array.getElem?_toList]
/-- a row of one's own is kept where others are written -/
theorem own_but {S : Nat → Prop} {w w' : World} {base : Nat} {e : TypeId} {sz : Nat} {v : Value} {n : Nat} {xs : List Value} (h : w.ownsRow base e sz v n xs) (k : KeptBut S w w') (hS : ∀ g, v.ownBlock = some g → ¬ S g) : w'.ownsRow base e sz v n xs := by
  refine ⟨h.1, ?_⟩
  rcases h.2 with hn | ⟨g, cap, cur, rfl, hb, hgg, rest⟩
  · exact .inl hn
  · exact .inr ⟨g, cap, cur, rfl, hb, (k.block g (lt_of_block hgg) (hS g rfl)).trans hgg, rest⟩
/-- the reader's block is written: a younger row stays -/
theorem own_read {w w' : World} {base g : Nat} {e : TypeId} {sz : Nat} {v : Value} {n : Nat} {xs : List Value} (h : w.ownsRow base e sz v n xs) (hg : w.grownBy w' (some g)) (hb : g < base) : w'.ownsRow base e sz v n xs :=
  own_but h (KeptBut.of_grown (S := fun k => k = g) hg (fun k e => by cases e; rfl)) (fun k hk e => by have := (h.lt k hk).1; omega)
theorem block_read {w w' : World} {g B : Nat} {x : Obj} (h : w.heap[B]? = some x) (hg : w.grownBy w' (some g)) (hb : B ≠ g) : w'.heap[B]? = some x :=
  (hg.block B (lt_of_block h) (fun e => hb (by simpa using e))).trans h
theorem tsF_one (xs : List Ts) : ∀ v ∈ tsF xs, v.oneCell' = true := by
  intro v hv
  unfold tsF at hv
  rw [List.mem_flatMap] at hv
  obtain ⟨x, _, hx⟩ := hv
  exact tsC_one x v hx
theorem tsF_cons (x : Ts) (t : List Ts) : tsF (x :: t) = tsC x ++ tsF t := by unfold tsF; rw [List.flatMap_cons]
/-- all cells of a slice that came in -/
theorem targ_cells {W : World} {a : Option Addr} {n cap : Nat} {xs : List Ts} (h : TArg W (.slice a n cap) xs) : ∀ ad, a = some ad → ∀ j u, (tsF xs)[j]? = some u → W.cell? (ad.add j) = some u := by
  intro ad had j u hj
  have hjl : j < xs.length * 5 := by have := (List.getElem?_eq_some_iff.1 hj).1; rwa [tsF_length] at this
  obtain ⟨a', cap', e, h1, h2, h3⟩ := h
  cases e
  rcases h3 with rfl | ⟨b, off, e, hc⟩
  · simp at hjl
  · rw [had] at e
    obtain rfl := Option.some.inj e
    have hi : j / 5 < xs.length := by omega
    have hk : j % 5 < 5 := by omega
    have h4 := hc (j / 5) xs[j / 5] (List.getElem?_eq_getElem hi) (j % 5) hk
    have h5 := tsF_get xs (j / 5) xs[j / 5] (j % 5) (List.getElem?_eq_getElem hi) hk
    rw [show j / 5 * 5 + j % 5 = j by omega] at h4 h5
    have ha : ((⟨b, off, none⟩ : Addr).add j) = ⟨b, off + j, none⟩ := by unfold Addr.add; split <;> simp_all
    rw [ha, h4, ← h5, hj]
theorem TArg.cell {W : World} {b off n cap : Nat} {xs : List Ts} (h : TArg W (.slice (some ⟨b, off, none⟩) n cap) xs) {i : Nat} {x : Ts} (hx : xs[i]? = some x) :
    W.cell? ⟨b, off + i * 5, none⟩ = some (.int .i64 x.1.F) ∧ W.cell? ⟨b, off + i * 5 + 3, none⟩ = some (.int .i64 x.1.N) := by
  obtain ⟨a', cap', e, h1, h2, h3⟩ := h
  cases e
  have hi : i < xs.length := (List.getElem?_eq_some_iff.1 hx).1
  rcases h3 with rfl | ⟨b', off', e, h4⟩
  · simp at hi
  · cases e
    have c0 := h4 i x hx 0 (by omega)
    have c3 := h4 i x hx 3 (by omega)
    rw [Nat.add_zero] at c0
    rw [show off + (i * 5 + 3) = off + i * 5 + 3 by omega] at c3
    exact ⟨c0, c3⟩
end
end Go.Proofs.Ytnipkhgaceicbaa
