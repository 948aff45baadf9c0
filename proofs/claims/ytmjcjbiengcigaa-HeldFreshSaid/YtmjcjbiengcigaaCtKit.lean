import Derived.Deep.WholeRow
import Derived.Test.YtmjcjbiengcigaaStKit
import Derived.Test.YtmjcjbiengcigaaVtRead
import Derived.Test.YtmjcjbiengcigaaCtFirst
namespace Go.Proofs.Ytmjcjbiengcigaa
/-
  cert: slices of statements that came in, rows of one's own; operations in a region whose order is told.
-/
section
set_option maxRecDepth 100000
section
set_option linter.unusedVariables false
open Go.RowKit Go.Sort Go.Lib

section
variable {P : Program} {ops : Array Oper} {rest : List Oper} {o : Oper} {a : Act} {w : World} {Q : Exit → Act → World → Prop}
theorem wpList_ex (hgd : o.guard = none) (v : Value) (w' : World) (hr : (execOp a.eval o).run P w = .ok (.value v) w') (h : wpList P ops Q rest (a.put o.dst v) w') : wpList P ops Q (o :: rest) a w :=
  wpList_plain hgd fun _ hK => by unfold Oper.wp; rw [hr]; exact hK _ _ h
theorem wpList_exs (hgd : o.guard = none) (w' : World) (hr : (execOp a.eval o).run P w = .ok .skip w') (h : wpList P ops Q rest (a.put o.dst undef) w') : wpList P ops Q (o :: rest) a w :=
  wpList_plain hgd fun _ hK => by unfold Oper.wp; rw [hr]; exact hK _ _ h
/-- a call of a function value -/
theorem wpList_callv {f : FuncId} {cb : Array Value} {t : Operand} {args : List Operand} {ts : Array TypeId} {vs : List Value} (hgd : o.guard = none) (hop : o.op = .call { callee := .value t, args := args.toArray, argTypes := ts }) (ht : a.eval t = .func (.func f) #[] cb) (hvs : args.map a.eval = vs)
    (he : ∀ args w, (callFunc f args).run P w = .ok (.enter f args) w)
    (hc : Calls P f (vs.toArray ++ cb) w fun e w' => ∃ v, e = .returned v ∧ wpList P ops Q rest (a.put o.dst v) w') : wpList P ops Q (o :: rest) a w :=
  wpList_plain hgd fun _ hK => by
    have hrun : (execOp a.eval o).run P w = .ok (.enter f (vs.toArray ++ cb)) w := by
      unfold execOp; rw [hop]; simp only [resolve, ht, List.map_toArray, hvs]; simp [invoke, he, go_sem]
    unfold Oper.wp
    rw [hrun, Oper.upon_enter]
    refine Calls.mono hc fun e w' ⟨v, he, h⟩ => ?_
    subst he
    exact hK _ _ h
end

/-- all cells of so many statements -/
def vsF (xs : List Vs) : List Value := xs.flatMap vsC
theorem vsF_length : ∀ xs : List Vs, (vsF xs).length = xs.length * 7
  | [] => rfl
  | x :: t => by
    have := vsF_length t
    unfold vsF at this ⊢
    rw [List.flatMap_cons, List.length_append, this, vsC_len, List.length_cons]; omega
theorem vsF_append (a b : List Vs) : vsF (a ++ b) = vsF a ++ vsF b := by unfold vsF; rw [List.flatMap_append]
theorem vsF_one (xs : List Vs) : ∀ v ∈ vsF xs, v.oneCell' = true := by
  intro v hv
  unfold vsF at hv
  rw [List.mem_flatMap] at hv
  obtain ⟨x, _, hx⟩ := hv
  exact vsC_one x v hx
theorem vsF_get : ∀ (xs : List Vs) (t : Nat), t < xs.length * 7 → (vsF xs)[t]? = some ((flatK vsC 7 xs.toArray)[t]!)
  | xs, t, h => by
    have hd : t / 7 < xs.length := by omega
    rw [get_flatK _ _ _ _ (by simpa using h)]
    have key : ∀ (xs : List Vs) (q r : Nat), q < xs.length → r < 7 → (vsF xs)[q * 7 + r]? = (vsC (xs[q]?.getD default))[r]? := by
      intro xs
      induction xs with
      | nil => intro q r hq; cases hq
      | cons x t ih =>
        intro q r hq hr
        have e : vsF (x :: t) = vsC x ++ vsF t := by unfold vsF; rw [List.flatMap_cons]
        rw [e]
        cases q with
        | zero => rw [List.getElem?_append_left (by rw [vsC_len]; omega)]; simp
        | succ q =>
          rw [List.getElem?_append_right (by rw [vsC_len]; omega), vsC_len, show (q + 1) * 7 + r - 7 = q * 7 + r by omega, ih q r (by simpa using hq) hr]
          simp
    have := key xs (t / 7) (t % 7) hd (Nat.mod_lt _ (by omega))
    rw [show t / 7 * 7 + t % 7 = t by omega] at this
    rw [this]
    have hl : t % 7 < (vsC (xs[t / 7]?.getD default)).length := by rw [vsC_len]; exact Nat.mod_lt _ (by omega)
    rw [List.getElem?_eq_getElem hl]
    congr 1
    have : xs.toArray[t / 7]! = xs[t / 7]?.getD default := by
      simp [Array.getElem!_eq_getD, Array.getD_eq_getD_getElem?]
    rw [this, getElem!_pos (vsC (xs[t / 7]?.getD default)) (t % 7) hl]

/-- a slice of statements that came in -/
def VArg (W : World) (v : Value) (xs : List Vs) : Prop := ∃ a cap, v = .slice a xs.length cap ∧ xs.length ≤ cap ∧ (a = none → cap = 0) ∧ (xs = [] ∨ ∃ b off, a = some ⟨b, off, none⟩ ∧ ∀ j, j < xs.length * 7 → W.cell? ⟨b, off + j, none⟩ = (vsF xs)[j]?)
theorem VArg.up {W W' : World} {v : Value} {xs : List Vs} (h : VArg W v xs) (hu : Up W W') : VArg W' v xs := by
  obtain ⟨a, cap, h1, h2, h3, h4⟩ := h
  refine ⟨a, cap, h1, h2, h3, h4.imp id ?_⟩
  rintro ⟨b, off, h5, h6⟩
  refine ⟨b, off, h5, fun j hj => ?_⟩
  have h7 := h6 j hj
  rw [List.getElem?_eq_getElem (by rw [vsF_length]; exact hj)] at h7 ⊢
  exact later_cellF h7 hu

section
variable {w w0 W : World} {blk off : Nat} {dk d0 : Array Vs}
theorem sw_other (h : SW w0 blk off dk W) {b : Nat} (hb : b ≠ blk) (hl : b < w0.heap.size) : W.heap[b]? = w0.heap[b]? := by
  obtain ⟨n, os, rfl⟩ := h
  unfold sortWorldK grow putRowK putRow mapBlock Sort.ahead
  simp only
  rw [Array.getElem?_append_left (by simpa using hl), Array.getElem?_modify, if_neg (fun e => hb e.symm)]
theorem sw_up (hU : Up w w0) (h : SW w0 blk off dk W) (hb : w.heap.size ≤ blk) : Up w W := by
  have hsz := hU.size
  have hle := SWK.le h
  have ho : ∀ k, k < w.heap.size → W.heap[k]? = w0.heap[k]? := fun k hk => sw_other h (by omega) (by omega)
  obtain ⟨n, os, rfl⟩ := h
  exact Below.trans hU ⟨rfl, rfl, rfl, hle, ho⟩
theorem holds_pre (h : HoldsK vsC 7 W blk off dk) {k : Nat} (hk : k ≤ dk.size) : HoldsK vsC 7 W blk off (dk.extract 0 k) := by
  intro t ht
  have hs : (dk.extract 0 k).size = k := by simp; omega
  have ht7 : t < k * 7 := by rw [size_flatK, hs] at ht; exact ht
  have := h t (by rw [size_flatK]; omega)
  rw [get_flatK _ _ _ _ (by omega)] at this
  rw [get_flatK _ _ _ _ (by rw [hs]; exact ht7)]
  have e : (dk.extract 0 k)[t / 7]! = dk[t / 7]! := by
    have a1 : t / 7 < k := by omega
    have e : (dk.extract 0 k)[t / 7]? = dk[t / 7]? := by rw [Array.getElem?_extract]; simp; omega
    simp [Array.getElem!_eq_getD, Array.getD_eq_getD_getElem?, e]
  rw [e]
  exact this
end
theorem VArg.ptr {W : World} {a : Option Addr} {n cap : Nat} {xs : List Vs} (h : VArg W (.slice a n cap) xs) (hx : 0 < xs.length) : ∃ b off, a = some ⟨b, off, none⟩ := by
  obtain ⟨a', cap', e, h1, h2, h3⟩ := h
  cases e
  rcases h3 with rfl | ⟨b, off, e, _⟩
  · simp at hx
  · exact ⟨b, off, e⟩

theorem vsA_one (x : Vs) : (vsA x).all (·.oneCell') = true := one_vt _ _ _ _ _ _ _
theorem alloc_setRow (w : World) (c0 c1 : Array Value) (t : TypeId) : (w.alloc (.cells c0 t)).setRow w.heap.size c1 = w.alloc (.cells c1 t) := World.setRow_alloc_new w c0 c1 t
theorem up_kept {w wb wr : World} {cb : Nat} (h : Up w wb) (k : KeptBut (fun k => k = cb) wb wr) (hc : w.heap.size ≤ cb) : Up w wr :=
  up_at h ⟨k.os, k.tape, k.output, k.size, fun i hi hn => k.block i hi (fun e => hn (by rw [e]))⟩ hc
end
end

/-
  slices.IndexFunc, slices.ContainsFunc of statements, by whatever tells.
-/
section
set_option maxRecDepth 100000
section
set_option linter.unusedVariables false
open Go.RowKit Go.Sort Go.Lib

end
end

/-
  cert: what tells of a statement: it makes memory and draws, and nothing else turns.
-/
section
set_option maxRecDepth 100000
section
set_option linter.unusedVariables false
open Go.RowKit Go.Sort Go.Lib

/-- memory has been made, and it was drawn: nothing else -/
def Gr (w w' : World) : Prop := ∃ q os, w' = grow (w.drewN q) os
theorem Gr.refl (w : World) : Gr w w := ⟨0, #[], by rw [grow_empty]; rfl⟩
theorem Gr.trans {a b c : World} (h : Gr a b) (k : Gr b c) : Gr a c := by
  obtain ⟨q, os, rfl⟩ := h
  obtain ⟨q', os', rfl⟩ := k
  refine ⟨q + q', os ++ os', ?_⟩
  show grow (grow ((a.drewN q).drewN q') os) os' = _
  rw [grow_grow, World.drewN_drewN]
theorem Gr.drew1 (w : World) : Gr w w.drew := ⟨1, #[], by rw [grow_empty]; rfl⟩
theorem Gr.alloc (w : World) (o : Obj) : Gr w (w.alloc o) := ⟨0, #[o], by rw [alloc_eq_grow]; rfl⟩
theorem Gr.up {w w' : World} (h : Gr w w') : Up w w' := by
  obtain ⟨q, os, rfl⟩ := h
  exact ⟨rfl, rfl, rfl, by rw [size_grow]; exact Nat.le_add_right _ _, fun k hk => heap_grow_old (w.drewN q) os hk⟩
theorem Gr.setRow {w w' : World} (h : Gr w w') {g : Nat} (hg : w.heap.size ≤ g) (cs : Array Value) : Gr w (w'.setRow g cs) := by
  obtain ⟨q, os, rfl⟩ := h
  refine ⟨q, os.modify (g - w.heap.size) (fun | .cells _ elem frozen => .cells cs elem frozen | o => o), ?_⟩
  unfold World.setRow grow
  simp only
  congr 1
  exact modify_append_right _ _ _ _ hg
theorem Gr.sw {w0 W W' : World} {blk off : Nat} {dk : Array Vs} (h : Gr W W') (hS : SW w0 blk off dk W) : SW w0 blk off dk W' := by
  obtain ⟨q, os, rfl⟩ := h
  exact SWK.grown hS q os
theorem Gr.block {w w' : World} (h : Gr w w') {b : Nat} {o : Obj} (hb : w.heap[b]? = some o) : w'.heap[b]? = some o := (h.up.block _ (lt_of_block hb)).trans hb

/-- is a statement a vote about that? -/
def vsOf (mV mH : Int) (mB : ByteArray) (x : Vs) : Bool := decide (x.1.K = 1) && decide (x.1.V = mV ∧ x.1.H = mH ∧ strOfNums x.1.B = mB)
theorem mk_eql (V1 H1 : Int) (B1 : ByteArray) (V2 H2 : Int) (B2 : ByteArray) (x y : Operand) (w : World) : (do eqGuard .eql 23 x y (.agg #[.int .i64 V1, .int .i64 H1, .string B1]) (.agg #[.int .i64 V2, .int .i64 H2, .string B2]); binOp .eql 23 (.agg #[.int .i64 V1, .int .i64 H1, .string B1]) (.agg #[.int .i64 V2, .int .i64 H2, .string B2]) : Sem Value).run Try.prog w = .ok (.bool (decide (V1 = V2 ∧ H1 = H2 ∧ B1 = B2))) w := by
  simp [eqGuard, go_sem, toList_dec, Bool.decide_and]
  repeat' split
  all_goals simp [*]

end
end
end Go.Proofs.Ytmjcjbiengcigaa
