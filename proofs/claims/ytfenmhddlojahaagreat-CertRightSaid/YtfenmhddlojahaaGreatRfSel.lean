import Derived.Test.YtfenmhddlojahaaGreatCtMake
import Derived.Test.YtfenmhddlojahaaGreatFirsts
/-
  The reference's Make: a choice, and what is left.
-/
namespace Go.Proofs.YtfenmhddlojahaaGreat
set_option maxRecDepth 100000
section
set_option linter.unusedVariables false
open Go.RowKit Go.Sort Go.Lib

theorem VArg.of_own {W : World} {base : Nat} {v : Value} {D : List Vs} (h : W.ownsRow base 49 7 v D.length (vsF D)) : VArg W v D := by
  by_cases hv : v = .slice none 0 0
  · subst hv
    obtain ⟨_, h2 | ⟨g, cap, cur, e1, _⟩⟩ := h
    · exact ⟨none, 0, by rw [h2.2], by rw [h2.2]; exact Nat.le_refl _, fun _ => rfl, .inl (List.eq_nil_of_length_eq_zero h2.2)⟩
    · cases e1
  · obtain ⟨g, cap, rfl, _, _, h4, _, R⟩ := row_of_owns h hv
    have := varg_of_sw (SWK.start R.hH) R rfl D.length cap (by simp) h4
    simpa using this
theorem own_kept {S : Nat → Prop} {w w' : World} {base : Nat} {e : TypeId} {sz : Nat} {v : Value} {n : Nat} {xs : List Value} (h : w.ownsRow base e sz v n xs) (k : KeptBut S w w') (hS : ∀ g, v.ownBlock = some g → ¬ S g) : w'.ownsRow base e sz v n xs := by
  refine ⟨h.1, ?_⟩
  rcases h.2 with hn | ⟨g, cap, cur, rfl, hb, hgg, rest⟩
  · exact .inl hn
  · exact .inr ⟨g, cap, cur, rfl, hb, (k.block g (lt_of_block hgg) (hS g rfl)).trans hgg, rest⟩
theorem own_base {w : World} {base base' : Nat} {e : TypeId} {sz : Nat} {v : Value} {n : Nat} {xs : List Value} (h : w.ownsRow base e sz v n xs) (hb : base' ≤ base) : w.ownsRow base' e sz v n xs := by
  refine ⟨h.1, ?_⟩
  rcases h.2 with hn | ⟨g, cap, cur, e1, e2, rest⟩
  · exact .inl hn
  · exact .inr ⟨g, cap, cur, e1, Nat.le_trans hb e2, rest⟩
theorem ex_app {P : Program} {ρ : Operand → Value} {o : Oper} {s x : Operand} {v u v' : Value} {t : TypeId} {w w' : World} (hop : o.op = .call { callee := .builtin .append, args := #[s, x], argTypes := #[t, t] }) (hty : o.type = t) (hs : ρ s = v) (hx : ρ x = u)
    (hr : (Builtin.append_ #[t, t] t #[v, u]).run P w = .ok v' w') : (execOp ρ o).run P w = .ok (.value v') w' := by
  unfold execOp
  simp only [hop, resolve, invoke, builtin, Sem.run_bind, Sem.run_pure, Result.andThen_ok, List.map_toArray, List.map_cons, List.map_nil, hs, hx, hty, hr]
theorem app_vts (w : World) (base : Nat) (v : Value) (n : Nat) (xs : List Value) (hown : w.ownsRow base 49 7 v n xs) (ad : Addr) (m c : Nat) (news : List Value) (hl : news.length = m * 7) (hnews : ∀ j u, news[j]? = some u → w.cell? (ad.add j) = some u)
    (h1 : ∀ u ∈ news, u.oneCell' = true) (hb : (n + m) * 72 ≤ 140737488355328) (hbase : base ≤ w.heap.size) :
    ∃ v' w', (Builtin.append_ #[22, 22] 22 #[v, .slice (some ad) m c]).run Tryz.prog w = .ok v' w' ∧ w'.ownsRow base 49 7 v' (n + m) (xs ++ news) ∧ w.grownBy w' v.ownBlock ∧ (v'.ownBlock = v.ownBlock ∨ v'.ownBlock = some w.heap.size) := by
  obtain ⟨i0, hi0, hz0, hz1, hz2⟩ := info_parts_any info_vts
  obtain ⟨v', w', h2, h3, h4, _, h5⟩ := run_append_own_at (P := Tryz.prog) w base 22 22 49 i0 (.agg (vsA default)) 7 72 Tryz.underlying22 hi0 hz0 hz1 hz2 rfl (by decide) v n xs hown ad m c news hl hnews h1 (by unfold maxLen; omega) hb hbase
  exact ⟨v', w', h2, h3, h4, h5⟩
theorem ex_sto {o : Oper} {x y : Operand} {ρ : Operand → Value} {w : World} {cb i : Nat} {cs : Array Value} {ty : TypeId} {a : Option Addr} {n c : Nat} (hop : o.op = .store 22 x y) (hx : ρ x = .pointer (some ⟨cb, i, none⟩)) (hy : ρ y = .slice a n c)
    (hg : w.heap[cb]? = some (.cells cs ty (0, 0))) (hi : i < cs.size) : (execOp ρ o).run Tryz.prog w = .ok .skip (w.setCell ⟨cb, i, none⟩ (.slice a n c)) := by
  have h1 := run_storeCells_cells (P := Tryz.prog) cb i [.slice a n c] 0 w (fun j hj => by
      have : j = 0 := by simpa using hj
      subst this
      rw [Nat.add_zero, cell_of_row _ _ i _ _ _ hg, Array.getElem?_eq_getElem hi]; rfl)
    (fun j hj => by
      have : j = 0 := by simpa using hj
      subst this
      exact frozen_of_row _ _ _ _ _ hg)
    (fun u hu => by simp at hu; subst hu; simp [Value.oneCell'])
  have h2 : w.setCells cb (i + 0) [.slice a n c] = w.setCell ⟨cb, i, none⟩ (.slice a n c) := rfl
  rw [h2] at h1
  unfold execOp; rw [hop]; simp only [hx, hy]
  simp [Instr.storeAt, Instr.sureAddr, storeVar, Value.cells, Tryz.sizeOf22, h1, Result.andThen]

/-- the choice, on the way: what lies where -/
structure SelM (wb : World) (cb : Nat) (V H : Int) (B : ByteArray) (R : List Vs) (t : Nat) (ra : Option Addr) (rc : Nat) (D : List Vs) (ca : Option Addr) (cc : Nat) (wr : World) : Prop where
  cbox : wr.heap[cb]? = some (.cells #[.int .i64 V, .int .i64 H, .string B, .slice ca t cc] 24 (0, 0))
  rest : wr.ownsRow wb.heap.size 49 7 (.slice ra D.length rc) D.length (vsF D)
  votes : wr.ownsRow wb.heap.size 49 7 (.slice ca t cc) t (vsF (R.take t))
  apart : ∀ g, (Value.slice ra D.length rc).ownBlock = some g → (Value.slice ca t cc).ownBlock = some g → False
  kept : KeptBut (fun k => k = cb) wb wr
/-- with what it means -/
structure Sel (wb : World) (cb : Nat) (V H : Int) (B : ByteArray) (R : List Vs) (t : Nat) (ra : Option Addr) (rc : Nat) (D : List Vs) (ca : Option Addr) (cc : Nat) (wr : World) : Prop extends SelM wb cb V H B R t ra rc D ca cc wr where
  nd : Ndk vsK D
  fst : ∀ z, fk vsK z D = fk vsK z (R.drop t)
  len : D.length + t = R.length

theorem tk_next' {xs : List Vs} {i : Nat} {x : Vs} (hx : xs[i]? = some x) : xs.take (i + 1) = xs.take i ++ [x] := by
  obtain ⟨hi, e⟩ := List.getElem?_eq_some_iff.1 hx
  rw [List.take_succ_eq_append_getElem hi, e]
/-- a part of a slice of statements -/
theorem varg_part {w : World} {g go n rc : Nat} {D : List Vs} (h : VArg w (.slice (some ⟨g, go, none⟩) n rc) D) (k m off : Nat) (hm : k + m ≤ D.length) (hoff : 0 < m → off = go + k * 7) : ∀ j u, (vsF ((D.drop k).take m))[j]? = some u → w.cell? ((⟨g, off, none⟩ : Addr).add j) = some u := by
  obtain ⟨a', cap', e, h1, h2, h3⟩ := h
  cases e
  intro j u hu
  have hl : ((D.drop k).take m).length = m := by rw [List.length_take, List.length_drop]; omega
  have hj : j < m * 7 := by
    have := (List.getElem?_eq_some_iff.1 hu).1
    rw [vsF_length, hl] at this; exact this
  have ho := hoff (by omega)
  rcases h3 with rfl | ⟨b, o, e, h4⟩
  · simp at hm; omega
  · cases e
    have ha : (⟨g, off, none⟩ : Addr).add j = ⟨g, go + (k * 7 + j), none⟩ := by
      unfold Addr.add; split
      · simp_all
      · simp only [Addr.mk.injEq, true_and, and_true]; omega
    rw [ha, h4 (k * 7 + j) (by omega)]
    have e1 : vsF D = vsF (D.take k) ++ (vsF ((D.drop k).take m) ++ vsF ((D.drop k).drop m)) := by
      rw [← vsF_append, List.take_append_drop, ← vsF_append, List.take_append_drop]
    have l1 : (vsF (D.take k)).length = k * 7 := by rw [vsF_length, List.length_take, Nat.min_eq_left (by omega)]
    rw [e1, List.getElem?_append_right (by omega), l1, show k * 7 + j - k * 7 = j by omega, List.getElem?_append_left (by rw [vsF_length, hl]; omega)]
    exact hu
theorem kept_set (w : World) (cb i : Nat) (v : Value) : KeptBut (fun k => k = cb) w (w.setCell ⟨cb, i, none⟩ v) := KeptBut.of_grown (grownBy_setCell w ⟨cb, i, none⟩ v) (fun k e => by cases e; rfl)

theorem SelM.up {wb : World} {cb : Nat} {V H : Int} {B : ByteArray} {R : List Vs} {t : Nat} {ra : Option Addr} {rc : Nat} {D : List Vs} {ca : Option Addr} {cc : Nat} {wr w' : World} (h : SelM wb cb V H B R t ra rc D ca cc wr) (hu : Up wr w') : SelM wb cb V H B R t ra rc D ca cc w' :=
  ⟨(hu.block _ (lt_of_block h.cbox)).trans h.cbox, ownsRow_up h.rest hu, ownsRow_up h.votes hu, h.apart, h.kept.trans (KeptBut.of_up (S := fun k => k = cb) hu) (fun _ _ e => e)⟩
theorem SelM.vote {wb : World} {cb : Nat} {V H : Int} {B : ByteArray} {R : List Vs} {t : Nat} {ra : Option Addr} {rc : Nat} {D : List Vs} {ca : Option Addr} {cc : Nat} {wr w' : World} (h : SelM wb cb V H B R t ra rc D ca cc wr) {r : Vs} (hr : R[t]? = some r) {ca' : Option Addr} {cc' : Nat}
    (hg : wr.grownBy w' (Value.slice ca t cc).ownBlock) (ho : w'.ownsRow wb.heap.size 49 7 (.slice ca' (t + 1) cc') (t + 1) (vsF (R.take t) ++ vsC r))
    (hat : (Value.slice ca' (t + 1) cc').ownBlock = (Value.slice ca t cc).ownBlock ∨ ∃ m, wr.heap.size ≤ m ∧ (Value.slice ca' (t + 1) cc').ownBlock = some m) :
    w'.heap[cb]? = some (.cells #[.int .i64 V, .int .i64 H, .string B, .slice ca t cc] 24 (0, 0)) ∧ SelM wb cb V H B R (t + 1) ra rc D ca' cc' (w'.setCell ⟨cb, 3, none⟩ (.slice ca' (t + 1) cc')) := by
  have hc := (hg.block cb (lt_of_block h.cbox) (block_off h.cbox (by decide) h.votes)).trans h.cbox
  have e1 : vsF [r] = vsC r := by unfold vsF; simp
  have e2 : vsF (R.take (t + 1)) = vsF (R.take t) ++ vsC r := by rw [tk_next' hr, vsF_append, e1]
  have k1 : KeptBut (fun k => k = cb ∨ (Value.slice ca t cc).ownBlock = some k) wr w' := KeptBut.of_grown hg (fun k e => .inr e)
  have k2 := kept_set w' cb 3 (.slice ca' (t + 1) cc')
  have k3 : KeptBut (fun k => k = cb ∨ (Value.slice ca t cc).ownBlock = some k) wr (w'.setCell ⟨cb, 3, none⟩ (.slice ca' (t + 1) cc')) := k1.trans k2 (fun _ _ e => .inl e)
  refine ⟨hc, set_field hc 3 _ rfl, own_kept h.rest k3 ?_, ?_, ?_, ?_⟩
  · rintro g hgb (rfl | e)
    · exact block_off h.cbox (by decide) h.rest hgb.symm
    · exact h.apart g hgb e
  · rw [e2]
    exact own_kept ho k2 (fun g hgb e => by subst e; exact block_off hc (by decide) ho hgb.symm)
  · intro g h1 h2
    rcases hat with hat | ⟨m, hm, hat⟩
    · exact h.apart g h1 (hat ▸ h2)
    · have := (h.rest.lt g h1).2
      rw [hat] at h2
      cases h2
      omega
  · exact h.kept.trans k3 (fun k hk e => by
      rcases e with e | e
      · exact e
      · have := (h.votes.lt k e).1; omega)
theorem SelM.left {wb : World} {cb : Nat} {V H : Int} {B : ByteArray} {R : List Vs} {t : Nat} {ra : Option Addr} {rc : Nat} {D : List Vs} {ca : Option Addr} {cc : Nat} {wr w' : World} (h : SelM wb cb V H B R t ra rc D ca cc wr) {D' : List Vs} {ra' : Option Addr} {rc' : Nat}
    (hu : Up wr w') (ho : w'.ownsRow wr.heap.size 49 7 (.slice ra' D'.length rc') D'.length (vsF D')) : SelM wb cb V H B R t ra' rc' D' ca cc w' := by
  have h' := h.up hu
  refine ⟨h'.cbox, own_base ho h.kept.size, h'.votes, ?_, h'.kept⟩
  intro g h1 h2
  have k1 := (ho.lt g h1).1
  have k2 := (h.votes.lt g h2).2
  omega
theorem SelM.sel {wb : World} {cb : Nat} {V H : Int} {B : ByteArray} {R : List Vs} {t : Nat} {ra : Option Addr} {rc : Nat} {D : List Vs} {ca : Option Addr} {cc : Nat} {wr w' : World} {ra' : Option Addr} {rc' : Nat} {ca' : Option Addr} {cc' : Nat} {bst : Nat}
    (h0 : Sel wb cb V H B R t ra rc D ca cc wr) (hb : bst < D.length) (h : SelM wb cb V H B R (t + 1) ra' rc' (D.take bst ++ D.drop (bst + 1)) ca' cc' w') (hR : R.Pairwise fun x y => vsK x < vsK y) (hm : ∀ x ∈ D, vsK (D[bst]?.getD default) ≤ vsK x) : Sel wb cb V H B R (t + 1) ra' rc' (D.take bst ++ D.drop (bst + 1)) ca' cc' w' := by
  have ht : t < R.length := by have := h0.len; omega
  have e1 : R.drop t = R[t] :: R.drop (t + 1) := List.drop_eq_getElem_cons ht
  have e2 : D = D.take bst ++ D[bst] :: D.drop (bst + 1) := by rw [← List.drop_eq_getElem_cons hb, List.take_append_drop]
  have hRd : (R[t] :: R.drop (t + 1)).Pairwise fun x y => vsK x < vsK y := by rw [← e1]; exact hR.sublist (List.drop_sublist _ _)
  have hf : ∀ z, fk vsK z D = fk vsK z (R[t] :: R.drop (t + 1)) := fun z => by rw [h0.fst z, e1]
  rw [List.getElem?_eq_getElem hb, Option.getD_some] at hm
  have hbr := least_next vsK h0.nd hRd hf (List.getElem_mem hb) hm
  rw [hbr] at e2
  refine { toSelM := h, nd := ?_, fst := ?_, len := ?_ }
  · have := h0.nd; rw [e2] at this; exact ndk_out vsK this
  · intro z
    refine least_rest vsK (r := R[t]) ?_ hRd ?_ z
    · rw [← e2]; exact h0.nd
    · intro z; rw [← e2]; exact hf z
  · have := h0.len; simp; omega
theorem SelM.next {wb : World} {cb : Nat} {V H : Int} {B : ByteArray} {R : List Vs} {t : Nat} {ra : Option Addr} {rc : Nat} {D : List Vs} {ca : Option Addr} {cc : Nat} {wr : World} {bst : Nat}
    (h0 : Sel wb cb V H B R t ra rc D ca cc wr) (hb : bst < D.length) (hR : R.Pairwise fun x y => vsK x < vsK y) (hm : ∀ x ∈ D, vsK (D[bst]?.getD default) ≤ vsK x) : ∃ r, D[bst]? = some r ∧ R[t]? = some r := by
  have ht : t < R.length := by have := h0.len; omega
  have e1 : R.drop t = R[t] :: R.drop (t + 1) := List.drop_eq_getElem_cons ht
  have hRd : (R[t] :: R.drop (t + 1)).Pairwise fun x y => vsK x < vsK y := by rw [← e1]; exact hR.sublist (List.drop_sublist _ _)
  have hf : ∀ z, fk vsK z D = fk vsK z (R[t] :: R.drop (t + 1)) := fun z => by rw [h0.fst z, e1]
  rw [List.getElem?_eq_getElem hb, Option.getD_some] at hm
  have hbr := least_next vsK h0.nd hRd hf (List.getElem_mem hb) hm
  exact ⟨R[t], by rw [List.getElem?_eq_getElem hb, hbr], List.getElem?_eq_getElem ht⟩
/-- rest[:best], rest[best+1:] -/
theorem cut_sufv (g go n c k : Nat) (hk : k ≤ n) (hn : n ≤ c) : ∃ off', (k < n → off' = go + k * 7) ∧ ∀ w : World, (Instr.sliceAt 22 (.slice (some ⟨g, go, none⟩) n c) (some (.int .i64 k)) none none).run Tryz.prog w = .ok (.slice (some ⟨g, off', none⟩) (n - k) (c - k)) w := by
  refine ⟨if c = k then go else go + k * 7, fun h => by rw [if_neg (by omega)], fun w => ?_⟩
  have h0 : (k : Int) ≤ (n : Int) := by omega
  have ha : (⟨g, go, none⟩ : Addr).add (k * 7) = ⟨g, go + k * 7, none⟩ := by unfold Addr.add; split <;> simp_all
  have h1 : (Instr.slice 22 (.slice (some ⟨g, go, none⟩) n c) (some (.int .i64 k)) none none).run Tryz.prog w = .ok (.slice (some ⟨g, if c = k then go else go + k * 7, none⟩) (n - k) (c - k)) w := by
    by_cases hc : c = k
    · simp [Instr.slice, run_underlying (P := Tryz.prog) (w := w) Tryz.underlying22, Instr.sliceBounds, run_sliceBound, go_sem, hk, hc]
    · simp [Instr.slice, run_underlying (P := Tryz.prog) (w := w) Tryz.underlying22, Instr.sliceBounds, run_sliceBound, go_sem, hk, hc]
  simpa [Instr.sliceAt, run_underlying (P := Tryz.prog) (w := w) Tryz.underlying22] using h1
theorem cut_prev (g go n c k : Nat) (hk : k ≤ c) (hc0 : 0 < c) (w : World) : (Instr.sliceAt 22 (.slice (some ⟨g, go, none⟩) n c) none (some (.int .i64 k)) none).run Tryz.prog w = .ok (.slice (some ⟨g, go, none⟩) k c) w := by
  have h0 : c ≠ 0 := by omega
  have h1 : (Instr.slice 22 (.slice (some ⟨g, go, none⟩) n c) none (some (.int .i64 k)) none).run Tryz.prog w = .ok (.slice (some ⟨g, go, none⟩) k c) w := by
    simp [Instr.slice, run_underlying (P := Tryz.prog) (w := w) Tryz.underlying22, Instr.sliceBounds, run_sliceBound, go_sem, hk]
  simpa [Instr.sliceAt, run_underlying (P := Tryz.prog) (w := w) Tryz.underlying22] using h1
theorem ex_cut {o : Oper} {x : Operand} {lo hi : Option Operand} {ρ : Operand → Value} {sv v : Value} {lv hv : Option Value} (hop : o.op = .slice 22 x lo hi none) (hx : ρ x = sv) (hl : lo.map ρ = lv) (hh : hi.map ρ = hv) (w : World) (hr : (Instr.sliceAt 22 sv lv hv none).run Tryz.prog w = .ok v w) : (execOp ρ o).run Tryz.prog w = .ok (.value v) w := by
  unfold execOp; rw [hop]; simp only [hx, hl, hh, Option.map_none]
  rw [Sem.run_bind, hr]; rfl
/-- what is left, put together anew -/
theorem sel_app1 {w : World} {base g go rc : Nat} {D : List Vs} {bst : Nat} (h : VArg w (.slice (some ⟨g, go, none⟩) D.length rc) D) (hb : bst < D.length) (hD : D.length * 72 ≤ 140737488355328) (hbase : base ≤ w.heap.size) :
    ∃ v' w', (Builtin.append_ #[22, 22] 22 #[.slice none 0 0, .slice (some ⟨g, go, none⟩) bst rc]).run Tryz.prog w = .ok v' w' ∧ w'.ownsRow base 49 7 v' bst (vsF (D.take bst)) ∧ Up w w' := by
  obtain ⟨v', w', h1, h2, h3, _⟩ := app_vts w base (.slice none 0 0) 0 [] ⟨rfl, .inl ⟨rfl, rfl⟩⟩ ⟨g, go, none⟩ bst rc (vsF (D.take bst)) (by rw [vsF_length, List.length_take, Nat.min_eq_left (by omega)])
    (by have := varg_part h 0 bst go (by omega) (fun _ => by omega); rwa [List.drop_zero] at this) (vsF_one _) (by omega) hbase
  rw [Nat.zero_add, List.nil_append] at h2
  exact ⟨v', w', h1, h2, up_grown h3⟩
theorem sel_app2 {w : World} {base g go off rc c2 : Nat} {D : List Vs} {bst : Nat} {v : Value} (h : VArg w (.slice (some ⟨g, go, none⟩) D.length rc) D) (hb : bst < D.length) (hD : D.length * 72 ≤ 140737488355328) (hbase : base ≤ w.heap.size)
    (ho : w.ownsRow base 49 7 v bst (vsF (D.take bst))) (hoff : bst + 1 < D.length → off = go + (bst + 1) * 7) :
    ∃ (a : Option Addr) (c : Nat) (w' : World), (Builtin.append_ #[22, 22] 22 #[v, .slice (some ⟨g, off, none⟩) (D.length - (bst + 1)) c2]).run Tryz.prog w = .ok (.slice a (D.take bst ++ D.drop (bst + 1)).length c) w' ∧
      w'.ownsRow base 49 7 (.slice a (D.take bst ++ D.drop (bst + 1)).length c) (D.take bst ++ D.drop (bst + 1)).length (vsF (D.take bst ++ D.drop (bst + 1))) ∧ w.grownBy w' v.ownBlock := by
  have hn : (D.take bst ++ D.drop (bst + 1)).length = bst + (D.length - (bst + 1)) := by simp; omega
  have hld : (D.drop (bst + 1)).length = D.length - (bst + 1) := List.length_drop
  obtain ⟨v', w', h1, h2, h3, _⟩ := app_vts w base v bst (vsF (D.take bst)) ho ⟨g, off, none⟩ (D.length - (bst + 1)) c2 (vsF (D.drop (bst + 1))) (by rw [vsF_length, hld])
    (by have := varg_part h (bst + 1) (D.length - (bst + 1)) off (by omega) (fun hq => hoff (by omega)); rwa [List.take_of_length_le (by omega)] at this) (vsF_one _) (by omega) hbase
  rw [← vsF_append, ← hn] at h2
  obtain ⟨a, c, e⟩ := row_shape h2
  subst e
  exact ⟨a, c, w', h1, h2, h3⟩

theorem build_one (x : Vs) (w : World) : (Instr.buildSlice 22 1 #[(0, .agg (vsA x))]).run Tryz.prog w = .ok (.slice (some ⟨w.heap.size, 0, none⟩) 1 1) (w.alloc (.cells (vsA x) 49)) := by
  obtain ⟨⟨K, V, H, B, T, G⟩, S⟩ := x
  show (Instr.buildSlice 22 1 #[(0, .agg #[.int .i64 K, .int .i64 V, .int .i64 H, .string (strOfNums B), .int .i64 T, .int .i64 G, .string S])]).run Tryz.prog w = .ok (.slice (some ⟨w.heap.size, 0, none⟩) 1 1) (w.alloc (.cells #[.int .i64 K, .int .i64 V, .int .i64 H, .string (strOfNums B), .int .i64 T, .int .i64 G, .string S] 49))
  simp [go_sem]
theorem SelM.off {wb : World} {cb : Nat} {V H : Int} {B : ByteArray} {R : List Vs} {t : Nat} {ra : Option Addr} {rc : Nat} {D : List Vs} {ca : Option Addr} {cc : Nat} {wr : World} (h : SelM wb cb V H B R t ra rc D ca cc wr) : ∀ g, (Value.slice ra D.length rc).ownBlock = some g → ¬ (g = cb ∨ (Value.slice ca t cc).ownBlock = some g) := by
  rintro g hgb (rfl | e)
  · exact block_off h.cbox (by decide) h.rest hgb.symm
  · exact h.apart g hgb e
/-- a vote is chosen -/
theorem sel_pick {wb : World} {cb : Nat} {V H : Int} {B : ByteArray} {R : List Vs} {t : Nat} {ra : Option Addr} {rc : Nat} {D : List Vs} {ca : Option Addr} {cc : Nat} {wr : World} (h : SelM wb cb V H B R t ra rc D ca cc wr) {r : Vs} (hr : R[t]? = some r) (hb : R.length * 72 ≤ 140737488355328) :
    ∃ (bx : Nat) (wn : World) (ca' : Option Addr) (cc' : Nat) (w' : World), (Instr.buildSlice 22 1 #[(0, .agg (vsA r))]).run Tryz.prog wr.drew = .ok (.slice (some ⟨bx, 0, none⟩) 1 1) wn ∧ Up wr wn ∧
      (Builtin.append_ #[22, 22] 22 #[.slice ca t cc, .slice (some ⟨bx, 0, none⟩) 1 1]).run Tryz.prog wn = .ok (.slice ca' (t + 1) cc') w' ∧
      KeptBut (fun k => k = cb ∨ (Value.slice ca t cc).ownBlock = some k) wr w' ∧ w'.heap[cb]? = some (.cells #[.int .i64 V, .int .i64 H, .string B, .slice ca t cc] 24 (0, 0)) ∧
      KeptBut (fun k => k = cb ∨ (Value.slice ca t cc).ownBlock = some k) wr (w'.setCell ⟨cb, 3, none⟩ (.slice ca' (t + 1) cc')) ∧
      SelM wb cb V H B R (t + 1) ra rc D ca' cc' (w'.setCell ⟨cb, 3, none⟩ (.slice ca' (t + 1) cc')) := by
  have hu : Up wr (wr.drew.alloc (.cells (vsA r) 49)) := Up.alloc (Up.drew1 wr) _
  have hn := h.up hu
  have htl : t < R.length := (List.getElem?_eq_some_iff.1 hr).1
  have hnb := heap_alloc_new wr.drew (.cells (vsA r) 49)
  obtain ⟨v', w', h1, h2, h3, h4⟩ := app_vts (wr.drew.alloc (.cells (vsA r) 49)) wb.heap.size (.slice ca t cc) t _ hn.votes ⟨wr.drew.heap.size, 0, none⟩ 1 1 (vsC r) rfl
    (fun j u hu => by
      have hadd : (⟨wr.drew.heap.size, 0, none⟩ : Addr).add j = ⟨wr.drew.heap.size, j, none⟩ := by unfold Addr.add; split <;> simp_all
      rw [hadd, cell_of_row _ _ j _ _ _ hnb]
      unfold vsA
      simpa using hu) (vsC_one r) (by omega) hn.kept.size
  obtain ⟨ca', cc', rfl⟩ := row_shape h2
  have hv := hn.vote hr h3 h2 (h4.imp id fun e => ⟨_, Nat.le_refl _, e⟩)
  have k1 : KeptBut (fun k => k = cb ∨ (Value.slice ca t cc).ownBlock = some k) wr w' := KeptBut.of_grown (grown_trans (grown_up hu _) h3) (fun k e => .inr e)
  exact ⟨_, _, ca', cc', w', build_one r wr.drew, hu, h1, k1, hv.1, k1.trans (kept_set w' cb 3 _) (fun _ _ e => .inl e), hv.2⟩
theorem SelM.varg {wb : World} {cb : Nat} {V H : Int} {B : ByteArray} {R : List Vs} {t : Nat} {ra : Option Addr} {rc : Nat} {D : List Vs} {ca : Option Addr} {cc : Nat} {wr w' : World} (h : SelM wb cb V H B R t ra rc D ca cc wr) (ht : t ≤ R.length) {rb : Nat} {cs : Array Value} (hr : wr.heap[rb]? = some (.cells cs 24 (0, 0))) (hg : wr.grownBy w' (some rb)) : VArg w' (.slice ca t cc) (R.take t) := by
  have ho := own_kept h.votes (KeptBut.of_grown (S := fun k => k = rb) hg (fun k e => by cases e; rfl)) (fun g hgb e => by subst e; exact block_off hr (by decide) h.votes hgb.symm)
  have hl : (R.take t).length = t := by rw [List.length_take, Nat.min_eq_left ht]
  exact VArg.of_own (by rw [hl]; exact ho)
end
end Go.Proofs.YtfenmhddlojahaaGreat
