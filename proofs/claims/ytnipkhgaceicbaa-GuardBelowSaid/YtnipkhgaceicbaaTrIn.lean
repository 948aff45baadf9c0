import Derived.Test.YtnipkhgaceicbaaTrStore
import Derived.Test.YtnipkhgaceicbaaOct
/-
  In a fence: operations by their runs, a call of yield along a plan; look-ups as runs.
-/
namespace Go.Proofs.Ytnipkhgaceicbaa
set_option maxRecDepth 100000
section
set_option linter.unusedVariables false
open Go.RowKit Go.Sort Go.Lib

section
variable {ro : Option Nat} {n : Nat} {P : Program} {ops : Array Oper} {rest : List Oper} {Q : Exit → Act → World → Prop} {o : Oper} {a : Act} {w : World}
theorem wpListIn_exs (hgd : o.guard = none) (hd : ∀ c, o.op ≠ .defer c) (w' : World) (hr : (execOp a.eval o).run P w = .ok .skip w') (h : wpListIn (wideAt ro) n P ops Q rest (a.put o.dst undef) w') : wpListIn (wideAt ro) n P ops Q (o :: rest) a w :=
  wpListIn_plain hgd fun K hK => by rw [oper_in hd, hr]; exact hK _ _ h
theorem wpListIn_ex (hgd : o.guard = none) (hd : ∀ c, o.op ≠ .defer c) (v : Value) (w' : World) (hr : (execOp a.eval o).run P w = .ok (.value v) w') (h : wpListIn (wideAt ro) n P ops Q rest (a.put o.dst v) w') : wpListIn (wideAt ro) n P ops Q (o :: rest) a w :=
  wpListIn_plain hgd fun K hK => by rw [oper_in hd, hr]; exact hK _ _ h
theorem wpListIn_exsW (hgd : o.guard = none) (hd : ∀ c, o.op ≠ .defer c) (w' : World) (hr : (execOp a.eval o).run P w = .ok .skip w') (h : wpListIn Fence.wide n P ops Q rest (a.put o.dst undef) w') : wpListIn Fence.wide n P ops Q (o :: rest) a w :=
  wpListIn_exs (ro := none) hgd hd w' hr h
theorem wpListIn_exW (hgd : o.guard = none) (hd : ∀ c, o.op ≠ .defer c) (v : Value) (w' : World) (hr : (execOp a.eval o).run P w = .ok (.value v) w') (h : wpListIn Fence.wide n P ops Q rest (a.put o.dst v) w') : wpListIn Fence.wide n P ops Q (o :: rest) a w :=
  wpListIn_ex (ro := none) hgd hd v w' hr h
theorem wpListIn_exsR {l : Nat} (hgd : o.guard = none) (hd : ∀ c, o.op ≠ .defer c) (w' : World) (hr : (execOp a.eval o).run P w = .ok .skip w') (h : wpListIn (Fence.wide.inRound l) n P ops Q rest (a.put o.dst undef) w') : wpListIn (Fence.wide.inRound l) n P ops Q (o :: rest) a w :=
  wpListIn_exs (ro := some l) hgd hd w' hr h
theorem wpListIn_exR {l : Nat} (hgd : o.guard = none) (hd : ∀ c, o.op ≠ .defer c) (v : Value) (w' : World) (hr : (execOp a.eval o).run P w = .ok (.value v) w') (h : wpListIn (Fence.wide.inRound l) n P ops Q rest (a.put o.dst v) w') : wpListIn (Fence.wide.inRound l) n P ops Q (o :: rest) a w :=
  wpListIn_ex (ro := some l) hgd hd v w' hr h
theorem ex_ldG {ty : TypeId} {x : Operand} {ρ : Operand → Value} {ad : Addr} {v : Value} {W : World} (hop : o.op = .load ty x) (hx : ρ x = .pointer (some ad)) (hl : (loadVar ty ad).run P W = .ok v W) : (execOp ρ o).run P W = .ok (.value v) W := by
  unfold execOp; rw [hop]; simp only [hx]
  simp [Instr.loadAt, Instr.sureAddr, hl, Result.andThen]
/-- a struct is laid into a new block -/
theorem ex_fillG {t : TypeId} {x y : Operand} {ρ : Operand → Value} {W : World} {c0 c1 : Array Value} (hop : o.op = .store t x y) (hx : ρ x = .pointer (some ⟨W.heap.size, 0, none⟩)) (hy : ρ y = .agg c1) (hi : (P.info? t).map (·.size) = some c1.size) (h0 : c0.size = c1.size) (h1 : c1.all (·.oneCell') = true) :
    (execOp ρ o).run P (W.alloc (.cells c0 t)) = .ok .skip (W.alloc (.cells c1 t)) := by
  have h2 := ex_storerow (P := P) (g := W.heap.size) (c0 := c0) (c1 := c1) hop hx hy (W.alloc (.cells c0 t)) t (heap_alloc_new W _) hi h0 h1
  rwa [World.setRow_alloc_new] at h2
variable {S : World → Prop} {r : Plan} {i : Nat}
/-- a call of yield -/
theorem opF_yield {f : Operand} {l : Nat} {args : List Operand} {ts : Array TypeId} {vs : List Value} (ho : ops[i]? = some o) (hop : o.op = .call { callee := .value f, args := args.toArray, argTypes := ts }) (hf : a.eval f = .func (.yield l) #[] #[]) (hvs : args.map a.eval = vs) (hw : Region.wanted o (yielded ops a.tmps) = true)
    (hc : YieldAt (wideAt ro) (n - 1) P l vs.toArray w fun e w' => ∃ v, e = .returned v ∧ S w' ∧ AlongF ro n P ops Q S r (a.put o.dst v) w') : wpOpIn (wideAt ro) n P ops Q i (fun a' w' => S w' ∧ AlongF ro n P ops Q S r a' w') a w := by
  obtain ⟨fn, tmps, assign, body, hy, hR⟩ := hc
  have hrun : (execOp a.eval o).run P w = .ok (.round l fn tmps assign body) w := by
    unfold execOp; rw [hop]; simp only [resolve, hf, List.map_toArray, hvs]; simp [invoke, hy, go_sem]
  unfold wpOpIn
  simp only [ho]
  rw [if_pos hw, oper_in (by rw [hop]; intro c e; cases e), hrun, Oper.uponIn_round]
  refine ⟨fun h => (by cases h), hR.mono fun e w' ⟨v, he, hu, h⟩ => ?_⟩
  subst he
  exact ⟨hu, h⟩
end
/-- look-ups in a tree, as runs -/
theorem TextMap.look {P : Program} {k : TypeId} {W : World} {b n : Nat} {M : ByteArray → Option Value} (h : TextMap P k W b n M) {t e : TypeId} (hk : P.underlying k = some .string) (ht : P.underlying t = some (.map k e)) {z : Value} (hz : (zeroValue e).run P W = .ok z W) {s : ByteArray} (hs : s.size ≤ maxLen) :
    (Instr.lookup t (.map (some b)) (.string s) true).run P W = .ok (.tuple #[(M s).getD z, .bool (M s).isSome]) W := by
  obtain ⟨D, h1, h2, h3, h4⟩ := h
  obtain ⟨v, ps, hrun, hv⟩ := h1.look_ok (Maps.string_keyed hk) ht hz (zd := .held z) (zp := []) rfl (text_key hk hs)
  obtain ⟨g1, g2⟩ := h4 s hs
  rw [hrun]
  cases hM : M s with
  | none =>
    have hf := g1 hM
    rw [Maps.atKey_of_not_has hf] at hv
    simp only [heldR, Option.some.injEq, Prod.mk.injEq, DataW.held.injEq] at hv
    rw [hf, hv.1]; rfl
  | some u =>
    obtain ⟨hf, ha⟩ := g2 u hM
    rw [ha] at hv
    simp only [heldR, Option.some.injEq, Prod.mk.injEq, DataW.held.injEq] at hv
    rw [hf, hv.1]; rfl
/-- of a tree: all but its blocks' lists -/
structure TreeC (W : World) (g mb n : Nat) (T : ByteArray → Option Tb) : Prop where
  root : W.heap[g]? = some (.cells #[.map (some mb)] 62 (0, 0))
  map : TextMap Try.prog 9 W mb n (fun s => (T s).map fun x => .agg (tbA x))
  names : ∀ s x, T s = some x → x.P.size ≤ maxLen
theorem TreeAt.core {W : World} {g mb n : Nat} {T : ByteArray → Option Tb} (h : TreeAt W g mb n T) : TreeC W g mb n T := ⟨h.root, h.map, h.names⟩
theorem TreeC.look {W : World} {g mb n : Nat} {T : ByteArray → Option Tb} (h : TreeC W g mb n T) {s : ByteArray} (hs : s.size ≤ maxLen) :
    (Instr.lookup 60 (.map (some mb)) (.string s) true).run Try.prog W = .ok (.tuple #[.agg (tbA (atT T s)), .bool (T s).isSome]) W := by
  have := h.map.look Try.underlying9 Try.underlying60 (zero_tb W) hs
  rwa [atT_val, atT_ok] at this
/-- what a round of a walk over a tree may write: the blocks of S; all else stays -/
structure KeptR (B0 : Nat) (S : Nat → Prop) (W W' : World) : Prop where
  os : W'.os = W.os
  tape : W'.tape = W.tape
  output : W'.output = W.output
  size : W.heap.size ≤ W'.heap.size
  low : ∀ k, k < B0 → k < W.heap.size → ¬ S k → W'.heap[k]? = W.heap[k]?
  cells : ∀ k o, W.heap[k]? = some o → o.isCells = true → ¬ S k → W'.heap[k]? = some o
variable {B0 : Nat} {S : Nat → Prop} {W W' W2 : World}
theorem KeptR.trans (h : KeptR B0 S W W') (k : KeptR B0 S W' W2) : KeptR B0 S W W2 :=
  ⟨k.os.trans h.os, k.tape.trans h.tape, k.output.trans h.output, Nat.le_trans h.size k.size, fun i h1 h2 h3 => (k.low i h1 (Nat.lt_of_lt_of_le h2 h.size) h3).trans (h.low i h1 h2 h3), fun i o h1 h2 h3 => k.cells i o (h.cells i o h1 h2 h3) h2 h3⟩
theorem KeptR.of_but {S' : Nat → Prop} (h : KeptBut S' W W') (hS : ∀ k, k < W.heap.size → S' k → S k) : KeptR B0 S W W' :=
  ⟨h.os, h.tape, h.output, h.size, fun k _ h2 h3 => h.block k h2 (fun e => h3 (hS k h2 e)), fun k o h1 _ h3 => (h.block k (lt_of_block h1) (fun e => h3 (hS k (lt_of_block h1) e))).trans h1⟩
theorem KeptR.of_up (h : Up W W') : KeptR B0 S W W' := KeptR.of_but (KeptBut.of_up (S := fun _ => False) h) (fun _ _ e => e.elim)
theorem KeptR.putObj {l : Nat} {o o' : Obj} (hB : B0 ≤ l) (h : W.heap[l]? = some o) (hc : o.isCells = false) : KeptR B0 S W (W.putObj l o') :=
  ⟨rfl, rfl, rfl, by simp [World.putObj], fun k h1 _ _ => World.putObj_heap_other (by omega), fun k u h1 h2 _ => by
    by_cases e : k = l
    · subst e; rw [h] at h1; cases h1; rw [hc] at h2; cases h2
    · exact (World.putObj_heap_other e).trans h1⟩
theorem KeptR.row {cs : Array Value} {t : TypeId} {B : Nat} (h : KeptR B0 S W W') (hb : W.heap[B]? = some (.cells cs t (0, 0))) (hS : ¬ S B) : W'.heap[B]? = some (.cells cs t (0, 0)) := h.cells B _ hb rfl hS
theorem TreeC.keptR {g mb n : Nat} {T : ByteArray → Option Tb} (h : TreeC W g mb n T) (k : KeptR B0 S W W') (hg : ¬ S g) (hm : ¬ S mb) (hmB : mb < B0) : TreeC W' g mb n T := by
  refine ⟨k.row h.root hg, ?_, h.names⟩
  obtain ⟨D, ⟨es, clock, hb, rest⟩, h2⟩ := h.map
  exact ⟨D, ⟨es, clock, (k.low mb hmB (lt_of_block hb) hm).trans hb, rest⟩, h2⟩
theorem TreeC.up {g mb n : Nat} {T : ByteArray → Option Tb} (h : TreeC W g mb n T) (u : Up W W') : TreeC W' g mb n T :=
  ⟨(u.block g (lt_of_block h.root)).trans h.root, h.map.up u, h.names⟩
end
end Go.Proofs.Ytnipkhgaceicbaa
