import Derived.Maps.AppendAt
import Derived.Test.YtnipkhgaceicbaaBkCheck
/-
  block: the parts of a block's text, as closures.
-/
namespace Go.Proofs.Ytnipkhgaceicbaa
set_option maxRecDepth 100000
section
set_option linter.unusedVariables false
open Go.RowKit Go.Sort Go.Lib

theorem ex_app1 {P : Program} {ρ : Operand → Value} {o : Oper} {s x : Operand} {v u v' : Value} {t : TypeId} {w w' : World} (hop : o.op = .call { callee := .builtin .append, args := #[s, x], argTypes := #[t, t] }) (hty : o.type = t) (hs : ρ s = v) (hx : ρ x = u)
    (hr : (Builtin.append_ #[t, t] t #[v, u]).run P w = .ok v' w') : (execOp ρ o).run P w = .ok (.value v') w' := by
  unfold execOp
  simp only [hop, resolve, invoke, builtin, Sem.run_bind, Sem.run_pure, Result.andThen_ok, List.map_toArray, List.map_cons, List.map_nil, hs, hx, hty, hr]
theorem info_parts1 {P : Program} {t : TypeId} {z : Value} {s b : Nat} (h : (P.info? t).map (fun i => (i.zero, i.size, i.bytes)) = some (some z, s, b)) : ∃ i, P.info? t = some i ∧ i.zero = some z ∧ i.size = s ∧ i.bytes = b := by
  cases hq : P.info? t with
  | none => rw [hq] at h; cases h
  | some i =>
    rw [hq] at h
    simp only [Option.map_some, Option.some.injEq, Prod.mk.injEq] at h
    exact ⟨i, rfl, h.1, h.2.1, h.2.2⟩
/-- one value more in a row of one's own -/
theorem app1 {st et : TypeId} {z : Value} {by_ : Nat} (hu : Try.prog.underlying st = some (.slice et)) (hi : (Try.prog.info? et).map (fun i => (i.zero, i.size, i.bytes)) = some (some z, 1, by_)) (hz : z.cells.size = 1) (wb w : World) (va : Option Addr) (vc n : Nat) (xs : List Value) (u : Value)
    (ho : w.ownsRow wb.heap.size et 1 (.slice va n vc) n xs) (h1 : u.oneCell' = true) (hub : Up wb w) (hb : (n + 1) * by_ ≤ 140737488355328) (hn : n + 1 ≤ maxLen) :
    ∃ (va' : Option Addr) (vc' : Nat) (w' : World), (Builtin.append_ #[st, st] st #[.slice va n vc, .slice (some ⟨w.heap.size, 0, none⟩) 1 1]).run Try.prog (w.alloc (.cells #[u] et)) = .ok (.slice va' (n + 1) vc') w' ∧
      w'.ownsRow wb.heap.size et 1 (.slice va' (n + 1) vc') (n + 1) (xs ++ [u]) ∧ Up wb w' ∧ KeptBut (fun k => (Value.slice va n vc).ownBlock = some k) w w' := by
  obtain ⟨i0, hi0, hz0, hz1, hz2⟩ := info_parts1 hi
  have hnb := heap_alloc_new w (.cells #[u] et)
  have hu1 := Up.alloc (Up.refl w) (.cells #[u] et)
  obtain ⟨v', w', k1, k2, k3, _, _⟩ := run_append_own_at (P := Try.prog) (w.alloc (.cells #[u] et)) wb.heap.size st st et i0 z 1 by_ hu hi0 hz0 hz1 hz2 hz (by decide) (.slice va n vc) n xs (ownsRow_up ho hu1) ⟨w.heap.size, 0, none⟩ 1 1 [u] rfl
    (fun j y hy => by
      have hadd : (⟨w.heap.size, 0, none⟩ : Addr).add j = ⟨w.heap.size, j, none⟩ := by unfold Addr.add; split <;> simp_all
      rw [hadd, cell_of_row _ _ j _ _ _ hnb]
      simpa using hy) (fun y hy => by rw [List.mem_singleton.1 hy]; exact h1) hn hb (Nat.le_trans hub.size hu1.size)
  obtain ⟨va', vc', rfl⟩ := row_shape k2
  have hgb : ∀ g, (Value.slice va n vc).ownBlock = some g → wb.heap.size ≤ g := fun g e => (ho.lt g e).1
  have hub2 := Up.trans hub hu1
  refine ⟨va', vc', w', k1, k2, ?_, (KeptBut.of_up hu1).trans (KeptBut.of_grown (S := fun k => (Value.slice va n vc).ownBlock = some k) k3 (fun k e => e)) (fun _ _ e => e)⟩
  rcases hob : (Value.slice va n vc).ownBlock with _ | g
  · rw [hob] at k3
    exact Up.trans hub2 (up_grown k3)
  · rw [hob] at k3
    exact up_at hub2 k3 (hgb g hob)

theorem row_one1 (w : World) (base : Nat) (hb : base ≤ w.heap.size) (u : Value) (et : TypeId) : (w.alloc (.cells #[u] et)).ownsRow base et 1 (.slice (some ⟨w.heap.size, 0, none⟩) 1 1) 1 [u] :=
  ⟨rfl, .inr ⟨w.heap.size, 1, #[u], rfl, hb, heap_alloc_new w _, Nat.le_refl _, by decide, rfl, rfl⟩⟩
theorem info_fn : (Try.prog.info? 110).map (fun i => (i.zero, i.size, i.bytes)) = some (some .nilFunc, 1, 8) := by kernel_rfl
/-- the closure that writes a block's numbers; the one that writes a transaction -/
def fnB (M : Nat) : Value := .func (.func 66) #[] #[.pointer (some ⟨M, 0, none⟩)]
def fnT (k : Nat) : Value := .func (.func 69) #[] #[.pointer (some ⟨k, 0, none⟩)]
/-- a new box is filled -/
theorem ex_fillt {o : Oper} {x y : Operand} {ρ : Operand → Value} {W : World} {c0 : Array Value} {u : Ts} (hop : o.op = .store 90 x y) (hx : ρ x = .pointer (some ⟨W.heap.size, 0, none⟩)) (hy : ρ y = .agg (tsA u)) (h0 : c0.size = 5) :
    (execOp ρ o).run Try.prog (W.alloc (.cells c0 90)) = .ok .skip (W.alloc (.cells (tsA u) 90)) := by
  have h1 := ex_storerow (P := Try.prog) (g := W.heap.size) (c0 := c0) (c1 := tsA u) hop hx hy (W.alloc (.cells c0 90)) 90 (heap_alloc_new W _) info_tx h0 (tsA_one u)
  rwa [World.setRow_alloc_new] at h1
/-- where the transactions lie -/
def Boxes (W : World) (bs : List Nat) (xs : List Ts) : Prop := ∀ (i k : Nat), bs[i]? = some k → ∃ x, xs[i]? = some x ∧ W.heap[k]? = some (.cells (tsA x) 90 (0, 0))
theorem Boxes.kept {S : Nat → Prop} {W W' : World} {bs : List Nat} {xs : List Ts} (h : Boxes W bs xs) (k : KeptBut S W W') (hS : ∀ b cs, W.heap[b]? = some (.cells cs 90 (0, 0)) → ¬ S b) : Boxes W' bs xs := fun i b hb => by
  obtain ⟨x, hx, hh⟩ := h i b hb
  exact ⟨x, hx, (k.block b (lt_of_block hh) (hS b _ hh)).trans hh⟩
theorem Boxes.up {W W' : World} {bs : List Nat} {xs : List Ts} (h : Boxes W bs xs) (u : Up W W') : Boxes W' bs xs := fun i b hb => by
  obtain ⟨x, hx, hh⟩ := h i b hb
  exact ⟨x, hx, (u.block b (lt_of_block hh)).trans hh⟩
theorem Boxes.more {W : World} {bs : List Nat} {xs : List Ts} (h : Boxes W bs xs) {x : Ts} (hx : xs[bs.length]? = some x) {k : Nat} (hk : W.heap[k]? = some (.cells (tsA x) 90 (0, 0))) : Boxes W (bs ++ [k]) xs := fun i b hb => by
  by_cases hi : i < bs.length
  · rw [List.getElem?_append_left hi] at hb
    exact h i b hb
  · have hi2 : i = bs.length := by
      have := (List.getElem?_eq_some_iff.1 hb).1
      simp at this; omega
    subst hi2
    simp at hb
    subst hb
    exact ⟨x, hx, hk⟩

/-- what textParts answers -/
structure PartsP (w : World) (C : Array Value) (xs : List Ts) (n : Nat) (e : Ending) (w' : World) : Prop where
  ex : ∃ (a : Option Addr) (c M : Nat) (bs : List Nat), e = .returned (.slice a (n + 1) c) ∧ w'.ownsRow w.heap.size 110 1 (.slice a (n + 1) c) (n + 1) (fnB M :: bs.map fnT) ∧ w'.heap[M]? = some (.cells C 41 (0, 0)) ∧ bs.length = n ∧ Boxes w' bs xs
  up : Up w w'

set_option maxHeartbeats 4000000 in
theorem textParts_any (V H : Int) (P : ByteArray) (JV JH : Int) (JB : ByteArray) (ja : Option Addr) (jn jc : Nat) (ta : Option Addr) (n tc : Nat) (S : ByteArray) (xs : List Ts) (w : World) (h4 : n ≤ 4) (ht : TArg w (.slice ta n tc) xs) :
    Calls Try.prog 54 #[.agg (bkC V H P JV JH JB ja jn jc ta n tc S)] w (PartsP w (bkC V H P JV JH JB ja jn jc ta n tc S) xs n) := by
  have hn := ht.len
  have HT := Lib.hid ht
  have HN := Lib.hid hn
  have HU0 := Lib.hid (Up.alloc (Up.refl w) (.cells (bkC V H P JV JH JB ja jn jc ta n tc S) 41))
  have HB0 := Lib.hid (heap_alloc_new w (.cells (bkC V H P JV JH JB ja jn jc ta n tc S) 41))
  generalize hQ : PartsP w (bkC V H P JV JH JB ja jn jc ta n tc S) xs n = Q
  have HQ : Hid (∀ e w', PartsP w #[.int .i64 V, .int .i64 H, .string P, .int .i64 JV, .int .i64 JH, .string JB, .slice ja jn jc, .slice ta n tc, .string S] xs n e w' → Q e w') := fun e w' h => by rw [← hQ]; exact h
  unfold bkC at HU0 HB0 ⊢
  clear ht hn hQ
  have HF0 : Hid ((w.alloc (.cells #[.int .i64 V, .int .i64 H, .string P, .int .i64 JV, .int .i64 JH, .string JB, .slice ja jn jc, .slice ta n tc, .string S] 41)).heap.size = w.heap.size + 1) := by (have h : (w.alloc (.cells #[.int .i64 V, .int .i64 H, .string P, .int .i64 JV, .int .i64 JH, .string JB, .slice ja jn jc, .slice ta n tc, .string S] 41)).heap.size = w.heap.size + 1 := by simp); exact h
  have hu1 := Up.alloc (Up.refl (w.alloc (.cells #[.int .i64 V, .int .i64 H, .string P, .int .i64 JV, .int .i64 JH, .string JB, .slice ja jn jc, .slice ta n tc, .string S] 41))) (.cells #[fnB w.heap.size] 110)
  have HO0 : Hid (((w.alloc (.cells #[.int .i64 V, .int .i64 H, .string P, .int .i64 JV, .int .i64 JH, .string JB, .slice ja jn jc, .slice ta n tc, .string S] 41)).alloc (.cells #[fnB w.heap.size] 110)).ownsRow w.heap.size 110 1 (.slice (some ⟨w.heap.size + 1, 0, none⟩) 1 1) 1 [fnB w.heap.size]) := by
    have h := row_one1 (w.alloc (.cells #[.int .i64 V, .int .i64 H, .string P, .int .i64 JV, .int .i64 JH, .string JB, .slice ja jn jc, .slice ta n tc, .string S] 41)) w.heap.size (by simp) (fnB w.heap.size) 110
    rw [show (w.alloc (.cells #[.int .i64 V, .int .i64 H, .string P, .int .i64 JV, .int .i64 JH, .string JB, .slice ja jn jc, .slice ta n tc, .string S] 41)).heap.size = w.heap.size + 1 by simp] at h
    exact h
  have HB1 := Lib.hid ((hu1.block _ (lt_of_block HB0.out)).trans HB0.out)
  have HU1 := Lib.hid (Up.trans HU0.out hu1)
  clear hu1
  unfold fnB at HO0 HB1 HU1
  go_enter Try.func54, Try.ntmps54
  go_wp2
  generalize (w.alloc (.cells #[.int .i64 V, .int .i64 H, .string P, .int .i64 JV, .int .i64 JH, .string JB, .slice ja jn jc, .slice ta n tc, .string S] 41)).alloc (.cells #[.func (.func 66) #[] #[.pointer (some ⟨w.heap.size, 0, none⟩)]] 110) = w2 at HO0 HB1 HU1 ⊢
  clear HU0 HB0 HF0
  obtain ⟨M, hM⟩ : ∃ M, w.heap.size = M := ⟨_, rfl⟩
  have HO1 : Hid (w2.ownsRow w.heap.size 110 1 (.slice (some ⟨w.heap.size + 1, 0, none⟩) 1 1) 1 [fnB M]) := by rw [← hM]; exact HO0.out
  have HBM : Hid (w2.heap[M]? = some (.cells #[.int .i64 V, .int .i64 H, .string P, .int .i64 JV, .int .i64 JH, .string JB, .slice ja jn jc, .slice ta n tc, .string S] 41 (0, 0))) := by rw [← hM]; exact HB1.out
  clear HO0 HB1
  generalize w.heap.size + 1 = g0 at HO1 ⊢
  rw [hM]
  clear hM
  go_loopw [3, 11] (fun v3 vi wr => ∃ (i m : Nat) (va : Option Addr) (vc : Nat) (bs : List Nat), v3 = .slice va m vc ∧ vi = .int .i64 (i : Nat) ∧ i ≤ n ∧ bs.length = i ∧ Hid (m = i + 1) ∧ Hid (wr.ownsRow w.heap.size 110 1 (.slice va m vc) m (fnB M :: bs.map fnT)) ∧ Hid (wr.heap[M]? = some (.cells #[.int .i64 V, .int .i64 H, .string P, .int .i64 JV, .int .i64 JH, .string JB, .slice ja jn jc, .slice ta n tc, .string S] 41 (0, 0))) ∧ Hid (Boxes wr bs xs) ∧ Hid (Up w wr))
    (fun _ vi _ => n - (RowKit.intOf vi).toNat)
  case atStart => exact ⟨0, 1, some ⟨g0, 0, none⟩, 1, [], rfl, rfl, Nat.zero_le _, rfl, Lib.hid rfl, HO1, HBM, Lib.hid (fun i k h => by simp at h), HU1⟩
  case round =>
    obtain ⟨i, m, va, vc, bs, rfl, rfl, hi, hbl, HM, HO, HBk, HBX, HU⟩ := hrel
    by_cases hlt : i < n
    · have hz : (i : Int) < (n : Int) := by omega
      obtain ⟨x, hx⟩ : ∃ x, xs[i]? = some x := ⟨xs[i]'(by have := HN.out; omega), List.getElem?_eq_getElem _⟩
      obtain ⟨b, off, hb1⟩ := (HT.out).ptr (by have := HN.out; omega)
      subst hb1
      have Hl := Lib.hid ((HT.out.up HU.out).load hx)
      -- the box, the closure, the append
      have hux := Up.alloc (Up.refl wr) (.cells (tsA x) 90)
      have hbx := heap_alloc_new wr (.cells (tsA x) 90)
      have hov := ownsRow_up HO.out hux
      obtain ⟨va', vc', w8, hap, ho8, hu8, hk8⟩ := app1 (st := 108) (et := 110) Try.underlying108 info_fn rfl w (wr.alloc (.cells (tsA x) 90)) va vc m _ (fnT wr.heap.size) hov rfl (Up.trans HU.out hux) (by have := HM.out; omega) (by have := HM.out; unfold maxLen; omega)
      have hbx8 := (hk8.block _ (lt_of_block hbx) (fun e => block_off hbx (by decide) hov e.symm)).trans hbx
      have hbk1 := (hux.block _ (lt_of_block HBk.out)).trans HBk.out
      have HBk8 := Lib.hid ((hk8.block _ (lt_of_block hbk1) (fun e => block_off hbk1 (by decide) hov e.symm)).trans hbk1)
      have hbo8 := (HBX.out.up hux).kept hk8 (fun b cs hb e => block_off hb (by decide) hov e.symm)
      have HBX8 := Lib.hid (hbo8.more (by rw [hbl]; exact hx) hbx8)
      have HU8 := Lib.hid hu8
      have HO8 : Hid (w8.ownsRow w.heap.size 110 1 (.slice va' (m + 1) vc') (m + 1) (fnB M :: (bs ++ [wr.heap.size]).map fnT)) := by rw [List.map_append]; exact ho8
      have HAP := Lib.hid hap
      have HBX0 := Lib.hid hbx
      clear hx hux hbx hov hap ho8 hu8 hk8 hbx8 hbk1 hbo8
      have HM8 : Hid (m + 1 = i + 1 + 1) := by (have h : m + 1 = i + 1 + 1 := by have := HM.out; omega); exact h
      generalize m + 1 = m' at HO8 HAP HM8
      unfold fnT at HAP
      go_wp2_with (first | (refine wpList_ex rfl (.agg (tsA x)) wr (ex_ldt (x := .tmp 13) rfl rfl Hl.out) ?_) | (refine wpList_exs rfl _ (ex_fillt (x := .tmp 5) (y := .tmp 14) (W := wr) rfl rfl rfl rfl) ?_; generalize wr.alloc (.cells (tsA x) 90) = wv at HAP HBX0 ⊢; generalize wr.heap.size = bx at HAP HBX0 HO8 HBX8 ⊢) | (refine wpList_ex rfl (.slice va' m' vc') w8 (ex_app1 (s := .tmp 15) (x := .tmp 17) rfl rfl rfl rfl HAP.out) ?_))
      go_roundw
      case rel => exact ⟨i + 1, m', va', vc', bs ++ [bx], rfl, by go_num, hlt, by simp [hbl], HM8, HO8, HBk8, HBX8, HU8⟩
      case measure => simp [RowKit.intOf]; omega
    · have hie : i = n := by omega
      have hz : ¬ (i : Int) < (n : Int) := by omega
      have HMN : Hid (m = n + 1) := by (have h : m = n + 1 := by have := HM.out; omega); exact h
      have HBN : Hid (bs.length = n) := hbl.trans hie
      clear hie
      go_wp2
      refine HQ.out _ _ ⟨⟨va, vc, M, bs, ?_, ?_, HBk.out, HBN.out, HBX.out⟩, HU.out⟩
      · rw [← HMN.out]
      · rw [← HMN.out]; exact HO.out
end
end Go.Proofs.Ytnipkhgaceicbaa
