import Derived.Deep.WholeRow
import Derived.Test.YtmcajckpgbamnaaStKit
import Derived.Test.YtmcajckpgbamnaaVtRead
import Derived.Test.YtmcajckpgbamnaaCtFirst
namespace Go.Proofs.Ytmcajckpgbamnaa
/-
  cert: slices of statements that came in, rows of one's own; operations in a region whose order is told.
-/
section
set_option maxRecDepth 100000
section
set_option linter.unusedVariables false
open Go.RowKit Go.Sort Go.Lib

section
variable {P : Program} {ops : Array Oper} {rest : List Oper} {o : Oper} {a : Act} {w : World} {Q : Exit → Act → World → Prop}
theorem wpList_ex (hgd : o.guard = none) (v : Value) (w' : World) (hr : (execOp a.eval o).run P w = .ok (.value v) w') (h : wpList P ops Q rest (a.put o.dst v) w') : wpList P ops Q (o :: rest) a w :=
  wpList_plain hgd fun _ hK => by unfold Oper.wp; rw [hr]; exact hK _ _ h
theorem wpList_exs (hgd : o.guard = none) (w' : World) (hr : (execOp a.eval o).run P w = .ok .skip w') (h : wpList P ops Q rest (a.put o.dst undef) w') : wpList P ops Q (o :: rest) a w :=
  wpList_plain hgd fun _ hK => by unfold Oper.wp; rw [hr]; exact hK _ _ h
/-- a call of a function value -/
theorem wpList_callv {f : FuncId} {cb : Array Value} {t : Operand} {args : List Operand} {ts : Array TypeId} {vs : List Value} (hgd : o.guard = none) (hop : o.op = .call { callee := .value t, args := args.toArray, argTypes := ts }) (ht : a.eval t = .func (.func f) #[] cb) (hvs : args.map a.eval = vs)
    (he : ∀ args w, (callFunc f args).run P w = .ok (.enter f args) w)
    (hc : Calls P f (vs.toArray ++ cb) w fun e w' => ∃ v, e = .returned v ∧ wpList P ops Q rest (a.put o.dst v) w') : wpList P ops Q (o :: rest) a w :=
  wpList_plain hgd fun _ hK => by
    have hrun : (execOp a.eval o).run P w = .ok (.enter f (vs.toArray ++ cb)) w := by
      unfold execOp; rw [hop]; simp only [resolve, ht, List.map_toArray, hvs]; simp [invoke, he, go_sem]
    unfold Oper.wp
    rw [hrun, Oper.upon_enter]
    refine Calls.mono hc fun e w' ⟨v, he, h⟩ => ?_
    subst he
    exact hK _ _ h
end

/-- all cells of so many statements -/
def vsF (xs : List Vs) : List Value := xs.flatMap vsC
theorem vsF_length : ∀ xs : List Vs, (vsF xs).length = xs.length * 7
  | [] => rfl
  | x :: t => by
    have := vsF_length t
    unfold vsF at this ⊢
    rw [List.flatMap_cons, List.length_append, this, vsC_len, List.length_cons]; omega
theorem vsF_append (a b : List Vs) : vsF (a ++ b) = vsF a ++ vsF b := by unfold vsF; rw [List.flatMap_append]
theorem vsF_one (xs : List Vs) : ∀ v ∈ vsF xs, v.oneCell' = true := by
  intro v hv
  unfold vsF at hv
  rw [List.mem_flatMap] at hv
  obtain ⟨x, _, hx⟩ := hv
  exact vsC_one x v hx
theorem vsF_get : ∀ (xs : List Vs) (t : Nat), t < xs.length * 7 → (vsF xs)[t]? = some ((flatK vsC 7 xs.toArray)[t]!)
  | xs, t, h => by
    have hd : t / 7 < xs.length := by omega
    rw [get_flatK _ _ _ _ (by simpa using h)]
    have key : ∀ (xs : List Vs) (q r : Nat), q < xs.length → r < 7 → (vsF xs)[q * 7 + r]? = (vsC (xs[q]?.getD default))[r]? := by
      intro xs
      induction xs with
      | nil => intro q r hq; cases hq
      | cons x t ih =>
        intro q r hq hr
        have e : vsF (x :: t) = vsC x ++ vsF t := by unfold vsF; rw [List.flatMap_cons]
        rw [e]
        cases q with
        | zero => rw [List.getElem?_append_left (by rw [vsC_len]; omega)]; simp
        | succ q =>
          rw [List.getElem?_append_right (by rw [vsC_len]; omega), vsC_len, show (q + 1) * 7 + r - 7 = q * 7 + r by omega, ih q r (by simpa using hq) hr]
          simp
    have := key xs (t / 7) (t % 7) hd (Nat.mod_lt _ (by omega))
    rw [show t / 7 * 7 + t % 7 = t by omega] at this
    rw [this]
    have hl : t % 7 < (vsC (xs[t / 7]?.getD default)).length := by rw [vsC_len]; exact Nat.mod_lt _ (by omega)
    rw [List.getElem?_eq_getElem hl]
    congr 1
    have : xs.toArray[t / 7]! = xs[t / 7]?.getD default := by
      simp [Array.getElem!_eq_getD, Array.getD_eq_getD_getElem?]
    rw [this, getElem!_pos (vsC (xs[t / 7]?.getD default)) (t % 7) hl]

/-- a slice of statements that came in -/
def VArg (W : World) (v : Value) (xs : List Vs) : Prop := ∃ a cap, v = .slice a xs.length cap ∧ xs.length ≤ cap ∧ (a = none → cap = 0) ∧ (xs = [] ∨ ∃ b off, a = some ⟨b, off, none⟩ ∧ ∀ j, j < xs.length * 7 → W.cell? ⟨b, off + j, none⟩ = (vsF xs)[j]?)
theorem VArg.up {W W' : World} {v : Value} {xs : List Vs} (h : VArg W v xs) (hu : Up W W') : VArg W' v xs := by
  obtain ⟨a, cap, h1, h2, h3, h4⟩ := h
  refine ⟨a, cap, h1, h2, h3, h4.imp id ?_⟩
  rintro ⟨b, off, h5, h6⟩
  refine ⟨b, off, h5, fun j hj => ?_⟩
  have h7 := h6 j hj
  rw [List.getElem?_eq_getElem (by rw [vsF_length]; exact hj)] at h7 ⊢
  exact later_cellF h7 hu

section
variable {w w0 W : World} {blk off : Nat} {dk d0 : Array Vs}
theorem sw_other (h : SW w0 blk off dk W) {b : Nat} (hb : b ≠ blk) (hl : b < w0.heap.size) : W.heap[b]? = w0.heap[b]? := by
  obtain ⟨n, os, rfl⟩ := h
  unfold sortWorldK grow putRowK putRow mapBlock Sort.ahead
  simp only
  rw [Array.getElem?_append_left (by simpa using hl), Array.getElem?_modify, if_neg (fun e => hb e.symm)]
theorem sw_up (hU : Up w w0) (h : SW w0 blk off dk W) (hb : w.heap.size ≤ blk) : Up w W := by
  have hsz := hU.size
  have hle := SWK.le h
  have ho : ∀ k, k < w.heap.size → W.heap[k]? = w0.heap[k]? := fun k hk => sw_other h (by omega) (by omega)
  obtain ⟨n, os, rfl⟩ := h
  exact Below.trans hU ⟨rfl, rfl, rfl, hle, ho⟩
theorem holds_pre (h : HoldsK vsC 7 W blk off dk) {k : Nat} (hk : k ≤ dk.size) : HoldsK vsC 7 W blk off (dk.extract 0 k) := by
  intro t ht
  have hs : (dk.extract 0 k).size = k := by simp; omega
  have ht7 : t < k * 7 := by rw [size_flatK, hs] at ht; exact ht
  have := h t (by rw [size_flatK]; omega)
  rw [get_flatK _ _ _ _ (by omega)] at this
  rw [get_flatK _ _ _ _ (by rw [hs]; exact ht7)]
  have e : (dk.extract 0 k)[t / 7]! = dk[t / 7]! := by
    have a1 : t / 7 < k := by omega
    have e : (dk.extract 0 k)[t / 7]? = dk[t / 7]? := by rw [Array.getElem?_extract]; simp; omega
    simp [Array.getElem!_eq_getD, Array.getD_eq_getD_getElem?, e]
  rw [e]
  exact this
theorem row_of_owns {base : Nat} {v : Value} {xs : List Vs} (h : W.ownsRow base 28 7 v xs.length (vsF xs)) (hv : v ≠ .slice none 0 0) :
    ∃ g cap, v = .slice (some ⟨g, 0, none⟩) xs.length cap ∧ base ≤ g ∧ g < W.heap.size ∧ xs.length ≤ cap ∧ cap ≤ maxLen ∧ RowK vsC 7 W g 0 xs.toArray := by
  obtain ⟨h1, h2 | ⟨g, cap, cur, e1, e2, e3, e4, e5, e6, e7⟩⟩ := h
  · exact absurd h2.1 hv
  · refine ⟨g, cap, e1, e2, lt_of_block e3, e4, e5, fun x => vsC_len x, vsC_one, ?_, lt_of_block e3⟩
    intro t ht
    have ht7 : t < xs.length * 7 := by rw [size_flatK] at ht; simpa using ht
    have hc : cur[t]? = some ((flatK vsC 7 xs.toArray)[t]!) := by
      rw [← vsF_get xs t ht7, ← e7, List.getElem?_take_of_lt ht7, Array.getElem?_toList]
    refine ⟨?_, ?_⟩
    · rw [Nat.zero_add, cell_of_row W g t cur _ _ e3, hc]; rfl
    · rw [Nat.zero_add]; exact frozen_of_row W g t cur _ e3
end
theorem VArg.ptr {W : World} {a : Option Addr} {n cap : Nat} {xs : List Vs} (h : VArg W (.slice a n cap) xs) (hx : 0 < xs.length) : ∃ b off, a = some ⟨b, off, none⟩ := by
  obtain ⟨a', cap', e, h1, h2, h3⟩ := h
  cases e
  rcases h3 with rfl | ⟨b, off, e, _⟩
  · simp at hx
  · exact ⟨b, off, e⟩

theorem VArg.load {W : World} {b off n cap : Nat} {xs : List Vs} (h : VArg W (.slice (some ⟨b, off, none⟩) n cap) xs) {i : Nat} {x : Vs} (hx : xs[i]? = some x) : (loadVar 28 ⟨b, off + i * 7, none⟩).run Try.prog W = .ok (.agg (vsA x)) W := by
  obtain ⟨a', cap', e, h1, h2, h3⟩ := h
  cases e
  have hi : i < xs.length := (List.getElem?_eq_some_iff.1 hx).1
  rcases h3 with rfl | ⟨b', off', e, h4⟩
  · simp at hi
  · cases e
    have hcell : ∀ j v, (vsC x)[j]? = some v → W.cell? ((⟨b, off + i * 7, none⟩ : Addr).add j) = some v := by
      intro j v hv
      have hj : j < 7 := by have := (List.getElem?_eq_some_iff.1 hv).1; rwa [vsC_len] at this
      have ha : ((⟨b, off + i * 7, none⟩ : Addr).add j) = ⟨b, off + (i * 7 + j), none⟩ := by unfold Addr.add; split <;> simp_all [Nat.add_assoc]
      rw [ha, h4 (i * 7 + j) (by omega), vsF_get xs (i * 7 + j) (by omega), get_flatK _ _ _ _ (by simp; omega)]
      have e1 : (i * 7 + j) / 7 = i := by omega
      have e2 : (i * 7 + j) % 7 = j := by omega
      rw [e1, e2]
      have : xs.toArray[i]! = x := by simp [Array.getElem!_eq_getD, Array.getD_eq_getD_getElem?, hx]
      rw [this, getElem!_pos (vsC x) j (by rw [vsC_len]; exact hj)]
      rw [List.getElem?_eq_getElem (by rw [vsC_len]; exact hj)] at hv
      rw [Option.some.inj hv]
    have h5 := run_loadCellsFrom_list Try.prog W ⟨b, off + i * 7, none⟩ (vsC x) 7 (vsC_len x) hcell
    simp [loadVar, loadCells, Try.isAgg28, Try.sizeOf28, h5, Result.andThen, vsA]

theorem vsA_one (x : Vs) : (vsA x).all (·.oneCell') = true := one_vt _ _ _ _ _ _ _
theorem alloc_setRow (w : World) (c0 c1 : Array Value) (t : TypeId) : (w.alloc (.cells c0 t)).setRow w.heap.size c1 = w.alloc (.cells c1 t) := World.setRow_alloc_new w c0 c1 t
theorem ex_fill {o : Oper} {x y : Operand} {ρ : Operand → Value} {W : World} {c0 : Array Value} {u : Vs} (hop : o.op = .store 28 x y) (hx : ρ x = .pointer (some ⟨W.heap.size, 0, none⟩)) (hy : ρ y = .agg (vsA u)) (h0 : c0.size = 7) :
    (execOp ρ o).run Try.prog (W.alloc (.cells c0 28)) = .ok .skip (W.alloc (.cells (vsA u) 28)) := by
  have h1 := ex_storerow (P := Try.prog) (g := W.heap.size) (c0 := c0) (c1 := vsA u) hop hx hy (W.alloc (.cells c0 28)) 28 (heap_alloc_new W _) info_vt h0 (vsA_one u)
  rwa [alloc_setRow] at h1
theorem up_kept {w wb wr : World} {cb : Nat} (h : Up w wb) (k : KeptBut (fun k => k = cb) wb wr) (hc : w.heap.size ≤ cb) : Up w wr :=
  up_at h ⟨k.os, k.tape, k.output, k.size, fun i hi hn => k.block i hi (fun e => hn (by rw [e]))⟩ hc
end
end

/-
  slices.IndexFunc, slices.ContainsFunc of statements, by whatever tells.
-/
section
set_option maxRecDepth 100000
section
set_option linter.unusedVariables false
open Go.RowKit Go.Sort Go.Lib

theorem ex_ldv {o : Oper} {x : Operand} {ρ : Operand → Value} {ad : Addr} {v : Value} {W : World} (hop : o.op = .load 28 x) (hx : ρ x = .pointer (some ad)) (hl : (loadVar 28 ad).run Try.prog W = .ok v W) : (execOp ρ o).run Try.prog W = .ok (.value v) W := by
  unfold execOp; rw [hop]; simp only [hx]
  simp [Instr.loadAt, Instr.sureAddr, hl, Result.andThen]

end
end

/-
  cert: what tells of a statement: it makes memory and draws, and nothing else turns.
-/
section
set_option maxRecDepth 100000
section
set_option linter.unusedVariables false
open Go.RowKit Go.Sort Go.Lib

/-- memory has been made, and it was drawn: nothing else -/
def Gr (w w' : World) : Prop := ∃ q os, w' = grow (w.drewN q) os
theorem Gr.refl (w : World) : Gr w w := ⟨0, #[], by rw [grow_empty]; rfl⟩
theorem Gr.trans {a b c : World} (h : Gr a b) (k : Gr b c) : Gr a c := by
  obtain ⟨q, os, rfl⟩ := h
  obtain ⟨q', os', rfl⟩ := k
  refine ⟨q + q', os ++ os', ?_⟩
  show grow (grow ((a.drewN q).drewN q') os) os' = _
  rw [grow_grow, World.drewN_drewN]
theorem Gr.drew1 (w : World) : Gr w w.drew := ⟨1, #[], by rw [grow_empty]; rfl⟩
theorem Gr.alloc (w : World) (o : Obj) : Gr w (w.alloc o) := ⟨0, #[o], by rw [alloc_eq_grow]; rfl⟩
theorem Gr.up {w w' : World} (h : Gr w w') : Up w w' := by
  obtain ⟨q, os, rfl⟩ := h
  exact ⟨rfl, rfl, rfl, by rw [size_grow]; exact Nat.le_add_right _ _, fun k hk => heap_grow_old (w.drewN q) os hk⟩
theorem Gr.setRow {w w' : World} (h : Gr w w') {g : Nat} (hg : w.heap.size ≤ g) (cs : Array Value) : Gr w (w'.setRow g cs) := by
  obtain ⟨q, os, rfl⟩ := h
  refine ⟨q, os.modify (g - w.heap.size) (fun | .cells _ elem frozen => .cells cs elem frozen | o => o), ?_⟩
  unfold World.setRow grow
  simp only
  congr 1
  exact modify_append_right _ _ _ _ hg
theorem Gr.sw {w0 W W' : World} {blk off : Nat} {dk : Array Vs} (h : Gr W W') (hS : SW w0 blk off dk W) : SW w0 blk off dk W' := by
  obtain ⟨q, os, rfl⟩ := h
  exact SWK.grown hS q os
theorem Gr.block {w w' : World} (h : Gr w w') {b : Nat} {o : Obj} (hb : w.heap[b]? = some o) : w'.heap[b]? = some o := (h.up.block _ (lt_of_block hb)).trans hb

set_option maxHeartbeats 400000 in
theorem about_gr (K V H : Int) (BS : ByteArray) (T G : Int) (SG : ByteArray) (w : World) :
    Calls Try.prog 11 #[.agg #[.int .i64 K, .int .i64 V, .int .i64 H, .string BS, .int .i64 T, .int .i64 G, .string SG]] w fun e w' => e = .returned (.agg #[.int .i64 V, .int .i64 H, .string BS]) ∧ Gr w w' := by
  have hb0 := heap_alloc_new w (.cells #[.int .i64 K, .int .i64 V, .int .i64 H, .string BS, .int .i64 T, .int .i64 G, .string SG] 28)
  have hb1 := (Gr.alloc (w.alloc (.cells #[.int .i64 K, .int .i64 V, .int .i64 H, .string BS, .int .i64 T, .int .i64 G, .string SG] 28)) (.cells #[.int .i64 0, .int .i64 0, .string ⟨#[]⟩] 26)).block hb0
  have hm := heap_alloc_new (w.alloc (.cells #[.int .i64 K, .int .i64 V, .int .i64 H, .string BS, .int .i64 T, .int .i64 G, .string SG] 28)) (.cells #[.int .i64 V, .int .i64 H, .string BS] 26)
  rw [show (w.alloc (.cells #[.int .i64 K, .int .i64 V, .int .i64 H, .string BS, .int .i64 T, .int .i64 G, .string SG] 28)).heap.size = w.heap.size + 1 by simp] at hm
  have HM := Lib.hid hm
  obtain ⟨_, c1, c2, c3, _⟩ := vt_cells hb1
  clear hb0 hb1 hm
  go_enter Try.func11, Try.ntmps11
  go_wp2
  exact bodyPost_ret (results_mk rfl _ _ _ _ rfl HM.out rfl) rfl ⟨rfl, (Gr.alloc _ _).trans (Gr.alloc _ _)⟩

/-- is a statement a vote about that? -/
def vsOf (mV mH : Int) (mB : ByteArray) (x : Vs) : Bool := decide (x.1.K = 1) && decide (x.1.V = mV ∧ x.1.H = mH ∧ strOfNums x.1.B = mB)
theorem mk_eql (V1 H1 : Int) (B1 : ByteArray) (V2 H2 : Int) (B2 : ByteArray) (x y : Operand) (w : World) : (do eqGuard .eql 26 x y (.agg #[.int .i64 V1, .int .i64 H1, .string B1]) (.agg #[.int .i64 V2, .int .i64 H2, .string B2]); binOp .eql 26 (.agg #[.int .i64 V1, .int .i64 H1, .string B1]) (.agg #[.int .i64 V2, .int .i64 H2, .string B2]) : Sem Value).run Try.prog w = .ok (.bool (decide (V1 = V2 ∧ H1 = H2 ∧ B1 = B2))) w := by
  simp [eqGuard, go_sem, toList_dec, Bool.decide_and]
  repeat' split
  all_goals simp [*]

end
end
end Go.Proofs.Ytmcajckpgbamnaa
