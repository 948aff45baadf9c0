import Derived.Deep.WholeRow
import Derived.Test.YtnnjoeppcbbblaaCtGr
import Derived.Test.YtnnjoeppcbbblaaVtRead
/-
  slices.DeleteFunc of statements, in a row of one's own.
-/
namespace Go.Proofs.Ytnnjoeppcbbblaa
set_option maxRecDepth 100000
section
set_option linter.unusedVariables false
open Go.RowKit Go.Sort Go.Lib

theorem sw_loadVar {w0 W : World} {blk off : Nat} {dk d0 : Array Vs} (h : SW w0 blk off dk W) (R : RowK vsC 7 w0 blk off d0) (hs : dk.size = d0.size) {i : Nat} (hi : i < dk.size) {u : Vs} (hu : dk[i]! = u) :
    (loadVar 38 ⟨blk, off + i * 7, none⟩).run Try.prog W = .ok (.agg (vsA u)) W := by
  have h1 := SWK.load h R hs Try.prog i hi
  rw [hu] at h1
  simp [loadVar, loadCells, Try.isAgg38, Try.sizeOf38, h1, Result.andThen, vsA]

theorem vsA_one (x : Vs) : (vsA x).all (·.oneCell') = true := one_vt _ _ _ _ _ _ _
theorem alloc_setRow (w : World) (c0 c1 : Array Value) (t : TypeId) : (w.alloc (.cells c0 t)).setRow w.heap.size c1 = w.alloc (.cells c1 t) := World.setRow_alloc_new w c0 c1 t
/-- a new box is filled -/
theorem ex_fill {o : Oper} {x y : Operand} {ρ : Operand → Value} {W : World} {c0 : Array Value} {u : Vs} (hop : o.op = .store 38 x y) (hx : ρ x = .pointer (some ⟨W.heap.size, 0, none⟩)) (hy : ρ y = .agg (vsA u)) (h0 : c0.size = 7) :
    (execOp ρ o).run Try.prog (W.alloc (.cells c0 38)) = .ok .skip (W.alloc (.cells (vsA u) 38)) := by
  have h1 := ex_storerow (P := Try.prog) (g := W.heap.size) (c0 := c0) (c1 := vsA u) hop hx hy (W.alloc (.cells c0 38)) 38 (heap_alloc_new W _) info_vt h0 (vsA_one u)
  rwa [alloc_setRow] at h1
theorem dflt_vs : vsC (default : Vs) = [.int .i64 0, .int .i64 0, .int .i64 0, .string ⟨#[]⟩, .int .i64 0, .int .i64 0, .string ⟨#[]⟩] := rfl
theorem zero_vt (w : World) : (zeroValue 38).run Try.prog w = .ok (.agg (vsA default)) w := by
  have := Try.zeroValue38 w
  rw [this]; rfl
theorem setCells_two (b : Nat) : ∀ (u v : List Value) (o : Nat) (w : World), w.setCells b o (u ++ v) = (w.setCells b o u).setCells b (o + u.length) v
  | [], v, o, w => rfl
  | x :: u, v, o, w => by
    show (w.setCell ⟨b, o, none⟩ x).setCells b (o + 1) (u ++ v) = ((w.setCell ⟨b, o, none⟩ x).setCells b (o + 1) u).setCells b (o + (u.length + 1)) v
    rw [setCells_two b u v (o + 1), show o + 1 + u.length = o + (u.length + 1) by omega]
theorem zeros_vs (m : Nat) : (Builtin.zeroCells (vsA default) m).toList = vsF (List.replicate m default) := by
  apply List.ext_getElem?
  intro t
  have hs : (vsA default).size = 7 := rfl
  by_cases ht : t < m * 7
  · have h1 := vsF_get (List.replicate m default) t (by rw [List.length_replicate]; exact ht)
    rw [h1, get_flatK _ _ _ _ (by simpa using ht)]
    have e : (List.replicate m (default : Vs)).toArray[t / 7]! = default := by
      have : t / 7 < m := by omega
      simp [this]
    rw [e, Array.getElem?_toList]
    unfold Builtin.zeroCells
    rw [hs, Array.getElem?_map, Array.getElem?_range]
    simp only [ht, if_true, Option.map_some]
    congr 1
    show ((vsC default).toArray)[t % 7]! = _
    simp
  · rw [List.getElem?_eq_none (by rw [Array.length_toList, size_zeroCells, hs]; omega), List.getElem?_eq_none (by rw [vsF_length, List.length_replicate]; omega)]
theorem sw_puts {w0 : World} {blk off : Nat} {d0 : Array Vs} (R : RowK vsC 7 w0 blk off d0) : ∀ (xs : List Vs) (i : Nat) (dk : Array Vs) (W : World), SW w0 blk off dk W → i + xs.length ≤ dk.size →
    ∃ d' : Array Vs, d'.size = dk.size ∧ d'.toList.take i = dk.toList.take i ∧ SW w0 blk off d' (W.setCells blk (off + i * 7) (vsF xs))
  | [], i, dk, W, h, hi => ⟨dk, rfl, rfl, h⟩
  | x :: t, i, dk, W, h, hi => by
    simp only [List.length_cons] at hi
    have h1 := SWK.put h R i (by omega) x
    obtain ⟨d', e1, e2, e3⟩ := sw_puts R t (i + 1) (dk.setIfInBounds i x) _ h1 (by rw [Array.size_setIfInBounds]; omega)
    refine ⟨d', by rw [e1, Array.size_setIfInBounds], ?_, ?_⟩
    · have := congrArg (List.take i) e2
      rw [List.take_take, List.take_take, show min i (i + 1) = i by omega] at this
      rw [this, Array.toList_setIfInBounds, List.take_set_of_le (Nat.le_refl _)]
    · have : vsF (x :: t) = vsC x ++ vsF t := by unfold vsF; rw [List.flatMap_cons]
      rw [this, setCells_two, vsC_len, show off + i * 7 + 7 = off + (i + 1) * 7 by omega]
      exact e3
/-- a stretch of a row made naught -/
theorem sw_zero {w0 W : World} {blk off : Nat} {dk d0 : Array Vs} (h : SW w0 blk off dk W) (R : RowK vsC 7 w0 blk off d0) (hs : dk.size = d0.size) (i m : Nat) (hi : i + m ≤ dk.size) :
    ∃ d' : Array Vs, d'.size = dk.size ∧ d'.toList.take i = dk.toList.take i ∧ Sem.run Try.prog (storeCells ⟨blk, off + i * 7, none⟩ (Builtin.zeroCells (vsA default) m).toList 0) W = .ok () (W.setCells blk (off + i * 7) (Builtin.zeroCells (vsA default) m).toList) ∧ SW w0 blk off d' (W.setCells blk (off + i * 7) (Builtin.zeroCells (vsA default) m).toList) := by
  rw [zeros_vs]
  obtain ⟨d', e1, e2, e3⟩ := sw_puts R (List.replicate m default) i dk W h (by rw [List.length_replicate]; exact hi)
  exact ⟨d', e1, e2, stores_of_holds Try.prog (h.holds R.hblk R.hH hs) (i * 7) _ (by rw [vsF_length, List.length_replicate, size_flatK]; omega) (vsF_one _), e3⟩
theorem ex_clear {o : Oper} {x : Operand} {ρ : Operand → Value} {W W' : World} {ad : Addr} {m c : Nat} (hop : o.op = .call { callee := .builtin .clear, args := #[x], argTypes := #[22] }) (hx : ρ x = .slice (some ad) m c) (hm : m ≠ 0)
    (hr : Sem.run Try.prog (storeCells ad (Builtin.zeroCells (vsA default) m).toList 0) W = .ok () W') : (execOp ρ o).run Try.prog W = .ok (.value (.tuple #[])) W' := by
  have hl : (Builtin.clear_ #[22] o.type #[Value.slice (some ad) m c]).run Try.prog W = .ok (.tuple #[]) W' := by
    obtain ⟨k, rfl⟩ : ∃ k, m = k + 1 := ⟨m - 1, by omega⟩
    have hv : vsA default = #[.int .i64 0, .int .i64 0, .int .i64 0, .string ⟨#[]⟩, .int .i64 0, .int .i64 0, .string ⟨#[]⟩] := rfl
    rw [hv] at hr
    simp [Builtin.clear_, run_underlying Try.underlying22, Value.cells, hr, Result.andThen]
  unfold execOp; rw [hop]; simp only [resolve, List.map_toArray, List.map_cons, List.map_nil, hx]; simp [invoke, go_sem, builtin, hl, Result.andThen]

theorem tk_succ (d : Array Vs) (j : Nat) (hj : j < d.size) : d.toList.take (j + 1) = d.toList.take j ++ [d[j]!] := by
  have hl : j < d.toList.length := by simpa using hj
  rw [List.take_succ_eq_append_getElem hl, bang_of (List.getElem?_eq_getElem hl)]
theorem keep_all (p : Vs → Bool) (d : Array Vs) (k : Nat) (hk : k ≤ d.size) (h : ∀ j, j < k → p d[j]! = false) : (d.toList.take k).filter (fun x => !p x) = d.toList.take k := by
  induction k with
  | zero => rfl
  | succ k ih => rw [tk_succ d k (by omega), List.filter_append, ih (by omega) (fun j hj => h j (by omega))]; simp [h k (by omega)]
theorem drop_get {d dk : Array Vs} {j : Nat} (h : dk.toList.drop j = d.toList.drop j) : dk[j]! = d[j]! := by
  have := congrArg (fun l => l[0]?) h
  simp only [List.getElem?_drop, Nat.add_zero, Array.getElem?_toList] at this
  simp [Array.getElem!_eq_getD, Array.getD_eq_getD_getElem?, this]
theorem drop_next {d dk : Array Vs} {j : Nat} (h : dk.toList.drop j = d.toList.drop j) : dk.toList.drop (j + 1) = d.toList.drop (j + 1) := by
  rw [← List.drop_drop, h, List.drop_drop]
theorem take_set {dk : Array Vs} {i : Nat} (hi : i < dk.size) (x : Vs) : (dk.setIfInBounds i x).toList.take (i + 1) = dk.toList.take i ++ [x] := by
  rw [tk_succ _ i (by rw [Array.size_setIfInBounds]; exact hi), Array.toList_setIfInBounds, List.take_set_of_le (Nat.le_refl _)]
  congr 2
  simp [hi]
theorem drop_set {dk : Array Vs} {i j : Nat} (hij : i < j) (x : Vs) : (dk.setIfInBounds i x).toList.drop j = dk.toList.drop j := by
  rw [Array.toList_setIfInBounds, List.drop_set_of_lt hij]

set_option maxHeartbeats 400000 in
theorem delFunc_any {w0 : World} {blk off : Nat} {d : Array Vs} (R : RowK vsC 7 w0 blk off d) (g : FuncId) (cb : Array Value) (eg : ∀ args w, (callFunc g args).run Try.prog w = .ok (.enter g args) w) (p : Vs → Bool) (n cap : Nat) (hn : d.size = n) (hcap : n ≤ cap) (hc63 : cap ≤ 9223372036854775807) (hsz : n < 4611686018427387904)
    (hc : ∀ (dk : Array Vs) (W : World) (x : Vs), dk.size = d.size → SW w0 blk off dk W → Calls Try.prog g (#[.agg (vsA x)] ++ cb) W fun e w' => e = .returned (.bool (p x)) ∧ Gr W w') (w : World) (hS : SW w0 blk off d w) :
    Calls Try.prog 17 #[.slice (some ⟨blk, off, none⟩) n cap, .func (.func g) #[] cb] w fun e w' => ∃ k d', e = .returned (.slice (some ⟨blk, off, none⟩) k cap) ∧ k ≤ n ∧ SW w0 blk off d' w' ∧ d'.size = n ∧ d'.toList.take k = d.toList.filter (fun x => !p x) := by
  have Hidx := Lib.hid (index_any g cb eg (fun _ W => SW w0 blk off d W) (fun i => d[i]!) (fun i => p d[i]!) blk off n cap hsz (fun i W hi hS => sw_loadVar hS R rfl (by omega) rfl)
    (fun i W hi hS => (hc d W _ rfl hS).mono fun e w' ⟨h1, h2⟩ => ⟨h1, h2.sw hS⟩) w hS)
  have HC := Lib.hid hc
  have HN := Lib.hid hn
  clear hc hS hn
  go_enter Try.func17, Try.ntmps17
  go_wp2_with fail
  with_reducible refine Calls.mono Hidx.out ?_
  rintro e w1 ⟨k0, h1, h2, h3, rfl, h5⟩
  have HS1 := Lib.hid (show SW w0 blk off d w1 from h5)
  have H2 := Lib.hid (And.intro h2 h3)
  clear h2 h3 h5 Hidx
  by_cases hk : k0 < n
  · rw [if_pos hk]
    have hz : ((k0 : Int) == -1) = false := by rw [beq_eq_false_iff_ne]; omega
    go_wp2
    go_loopw [5, 6] (fun vi vj wr => ∃ i j : Nat, ∃ dk : Array Vs, vi = .int .i64 (i : Nat) ∧ vj = .int .i64 (j : Nat) ∧ i < j ∧ j ≤ n ∧ dk.size = n ∧ Hid (SW w0 blk off dk wr) ∧ Hid (dk.toList.take i = (d.toList.take j).filter (fun x => !p x) ∧ dk.toList.drop j = d.toList.drop j))
      (fun _ vj _ => n - (intOf vj).toNat)
    case atStart =>
      refine ⟨k0, k0 + 1, d, rfl, by go_num, by omega, by omega, HN.out, HS1, Lib.hid ⟨?_, rfl⟩⟩
      have hd := HN.out
      rw [tk_succ d k0 (by omega), List.filter_append, keep_all p d k0 (by omega) H2.out.1]
      simp [H2.out.2 hk]
    case round =>
      obtain ⟨i, j, dk, rfl, rfl, hij, hj, hdk, HS, HL⟩ := hrel
      by_cases hlt : j < n
      · have hz2 : (j : Int) < (n : Int) := by omega
        obtain ⟨x, hx⟩ : ∃ x, dk[j]! = x := ⟨_, rfl⟩
        have hx2 : d[j]! = x := by rw [← hx]; exact (drop_get HL.out.2).symm
        have Hx := Lib.hid hx
        have Hl := Lib.hid (sw_loadVar HS.out R (by rw [HN.out]; exact hdk) (by omega) hx)
        have hb0 := heap_alloc_new wr (.cells (vsA x) 38)
        have HB0 := Lib.hid hb0
        have HB1 := HB0
        have HSA := Lib.hid (SWK.alloc HS.out (.cells (vsA x) 38))
        have Hc := Lib.hid (HC.out dk _ x (by rw [HN.out]; exact hdk) HSA.out)
        clear hb0 hx
        generalize hpx : p x = b at Hc
        have HPX := Lib.hid hpx
        clear hpx
        go_wp2_with (first | (refine wpList_ex rfl (.agg (vsA x)) wr (ex_ldv (x := .tmp 24) rfl rfl Hl.out) ?_) | (refine wpList_exs rfl _ (ex_fill (x := .tmp 7) (y := .tmp 25) (W := wr) rfl rfl rfl rfl) ?_) | (refine wpList_ex rfl (.agg (vsA x)) _ (ex_loadrow (x := .tmp 7) rfl rfl _ 38 HB0.out Try.underlying38 rfl info_vt) ?_))
        with_reducible refine Calls.mono Hc.out ?_
        rintro e w2 ⟨rfl, hG2⟩
        have HS2 := Lib.hid (hG2.sw HSA.out)
        have HB2 := Lib.hid (hG2.block HB0.out)
        clear hG2 Hc Hl HB0 HB1 HSA
        cases b with
        | true =>
          go_wp2
          go_roundw
          case rel => exact ⟨i, j + 1, dk, rfl, by go_num, by omega, hlt, hdk, HS2, Lib.hid ⟨by have hd := HN.out; rw [tk_succ d j (by omega), List.filter_append, HL.out.1, hx2]; simp [HPX.out], drop_next HL.out.2⟩⟩
          case measure => simp [intOf]; omega
        | false =>
          have hi63 : i < n := by omega
          have HP := Lib.hid (SWK.put HS2.out R i (by omega) x)
          have HQ := Lib.hid (fun (o : Oper) (ρ : Operand → Value) (x' y' : Operand) (h1 : o.op = .store 38 x' y') (h2 : ρ x' = .pointer (some ⟨blk, off + i * 7, none⟩)) (h3 : ρ y' = .agg (vsA x)) => ex_put h1 h2 x h3 HS2.out R (by rw [HN.out]; exact hdk) (show i < dk.size by omega))
          have HQ7 := Lib.hid (fun (o : Oper) (ρ : Operand → Value) (x' : Operand) (h1 : o.op = .load 38 x') (h2 : ρ x' = .pointer (some ⟨wr.heap.size, 0, none⟩)) => ex_loadrow h1 h2 w2 38 HB2.out Try.underlying38 rfl info_vt)
          go_wp2_with (first | (refine wpList_exs rfl _ (HQ.out _ _ (.tmp 33) (.tmp 32) rfl rfl rfl) ?_; generalize w2.setCells blk (off + i * 7) (vsC x) = w3 at HP ⊢; clear HQ HQ7) | (refine wpList_ex rfl (.agg (vsA x)) _ (HQ7.out _ _ (.tmp 7) rfl rfl) ?_))
          go_roundw
          case rel => exact ⟨i + 1, j + 1, dk.setIfInBounds i x, by go_num, by go_num, by omega, hlt, by rw [Array.size_setIfInBounds]; exact hdk, HP, Lib.hid ⟨by have hd := HN.out; rw [tk_succ d j (by omega), List.filter_append, take_set (by omega), HL.out.1, hx2]; simp [HPX.out], by rw [drop_set (by omega)]; exact drop_next HL.out.2⟩⟩
          case measure => simp [intOf]; omega
      · obtain rfl : j = n := by omega
        have hi : i < j := hij
        obtain ⟨d', e1, e2, e3, e4⟩ := sw_zero HS.out R (by rw [HN.out]; exact hdk) i (j - i) (by omega)
        have HZ := Lib.hid (And.intro e1 (And.intro e2 e4))
        have HQ := Lib.hid (fun (o : Oper) (ρ : Operand → Value) (x' : Operand) (c : Nat) (h1 : o.op = .call { callee := .builtin .clear, args := #[x'], argTypes := #[22] }) (h2 : ρ x' = .slice (some ⟨blk, off + i * 7, none⟩) (j - i) c) => ex_clear h1 h2 (show j - i ≠ 0 by omega) e3)
        clear e1 e2 e3 e4
        have q1 : (j : Int) - i = ((j - i : Nat) : Int) := by omega
        have q2 : (i : Int) ≤ (j : Int) := by omega
        have q3 : (i : Int) ≤ (cap : Int) := by omega
        have q4 : (i : Int) < (cap : Int) := by omega
        go_wp2_with (refine wpList_ex rfl (.tuple #[]) _ (HQ.out _ _ (.tmp 38) _ rfl rfl) ?_; generalize wr.setCells blk (off + i * 7) (Builtin.zeroCells (vsA default) (j - i)).toList = w3 at HZ ⊢; clear HQ)
        go_ret
        refine ⟨i, d', rfl, by omega, HZ.out.2.2, HZ.out.1.trans hdk, ?_⟩
        rw [HZ.out.2.1, HL.out.1, List.take_of_length_le (by have := HN.out; simp; omega)]
  · obtain rfl : k0 = n := by omega
    rw [if_neg (by omega)]
    go_wp2
    go_ret
    refine ⟨k0, d, rfl, by omega, HS1.out, HN.out, ?_⟩
    have hd := HN.out
    rw [← keep_all p d k0 (by omega) H2.out.1, List.take_of_length_le (by simp; omega)]
end
end Go.Proofs.Ytnnjoeppcbbblaa
