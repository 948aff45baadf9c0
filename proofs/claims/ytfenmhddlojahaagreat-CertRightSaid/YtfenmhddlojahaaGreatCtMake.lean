import Derived.Deep.WholeRow
import Derived.Test.YtfenmhddlojahaaGreatCtKit
import Derived.Test.YtfenmhddlojahaaGreatVtRead
import Derived.Test.YtfenmhddlojahaaGreatStable
namespace Go.Proofs.YtfenmhddlojahaaGreat
/-
  slices.DeleteFunc of statements, in a row of one's own.
-/
section
set_option maxRecDepth 100000
section
set_option linter.unusedVariables false
open Go.RowKit Go.Sort Go.Lib

theorem sw_loadVar {w0 W : World} {blk off : Nat} {dk d0 : Array Vs} (h : SW w0 blk off dk W) (R : RowK vsC 7 w0 blk off d0) (hs : dk.size = d0.size) {i : Nat} (hi : i < dk.size) {u : Vs} (hu : dk[i]! = u) :
    (loadVar 49 ⟨blk, off + i * 7, none⟩).run Tryz.prog W = .ok (.agg (vsA u)) W := by
  have h1 := SWK.load h R hs Tryz.prog i hi
  rw [hu] at h1
  simp [loadVar, loadCells, Tryz.isAgg49, Tryz.sizeOf49, h1, Result.andThen, vsA]

theorem dflt_vs : vsC (default : Vs) = [.int .i64 0, .int .i64 0, .int .i64 0, .string ⟨#[]⟩, .int .i64 0, .int .i64 0, .string ⟨#[]⟩] := rfl
theorem zero_vt (w : World) : (zeroValue 49).run Tryz.prog w = .ok (.agg (vsA default)) w := by
  have := Tryz.zeroValue49 w
  rw [this]; rfl
theorem setCells_two (b : Nat) : ∀ (u v : List Value) (o : Nat) (w : World), w.setCells b o (u ++ v) = (w.setCells b o u).setCells b (o + u.length) v
  | [], v, o, w => rfl
  | x :: u, v, o, w => by
    show (w.setCell ⟨b, o, none⟩ x).setCells b (o + 1) (u ++ v) = ((w.setCell ⟨b, o, none⟩ x).setCells b (o + 1) u).setCells b (o + (u.length + 1)) v
    rw [setCells_two b u v (o + 1), show o + 1 + u.length = o + (u.length + 1) by omega]
theorem zeros_vs (m : Nat) : (Builtin.zeroCells (vsA default) m).toList = vsF (List.replicate m default) := by
  apply List.ext_getElem?
  intro t
  have hs : (vsA default).size = 7 := rfl
  by_cases ht : t < m * 7
  · have h1 := vsF_get (List.replicate m default) t (by rw [List.length_replicate]; exact ht)
    rw [h1, get_flatK _ _ _ _ (by simpa using ht)]
    have e : (List.replicate m (default : Vs)).toArray[t / 7]! = default := by
      have : t / 7 < m := by omega
      simp [this]
    rw [e, Array.getElem?_toList]
    unfold Builtin.zeroCells
    rw [hs, Array.getElem?_map, Array.getElem?_range]
    simp only [ht, if_true, Option.map_some]
    congr 1
    show ((vsC default).toArray)[t % 7]! = _
    simp
  · rw [List.getElem?_eq_none (by rw [Array.length_toList, size_zeroCells, hs]; omega), List.getElem?_eq_none (by rw [vsF_length, List.length_replicate]; omega)]
theorem sw_puts {w0 : World} {blk off : Nat} {d0 : Array Vs} (R : RowK vsC 7 w0 blk off d0) : ∀ (xs : List Vs) (i : Nat) (dk : Array Vs) (W : World), SW w0 blk off dk W → i + xs.length ≤ dk.size →
    ∃ d' : Array Vs, d'.size = dk.size ∧ d'.toList.take i = dk.toList.take i ∧ SW w0 blk off d' (W.setCells blk (off + i * 7) (vsF xs))
  | [], i, dk, W, h, hi => ⟨dk, rfl, rfl, h⟩
  | x :: t, i, dk, W, h, hi => by
    simp only [List.length_cons] at hi
    have h1 := SWK.put h R i (by omega) x
    obtain ⟨d', e1, e2, e3⟩ := sw_puts R t (i + 1) (dk.setIfInBounds i x) _ h1 (by rw [Array.size_setIfInBounds]; omega)
    refine ⟨d', by rw [e1, Array.size_setIfInBounds], ?_, ?_⟩
    · have := congrArg (List.take i) e2
      rw [List.take_take, List.take_take, show min i (i + 1) = i by omega] at this
      rw [this, Array.toList_setIfInBounds, List.take_set_of_le (Nat.le_refl _)]
    · have : vsF (x :: t) = vsC x ++ vsF t := by unfold vsF; rw [List.flatMap_cons]
      rw [this, setCells_two, vsC_len, show off + i * 7 + 7 = off + (i + 1) * 7 by omega]
      exact e3
/-- a stretch of a row made naught -/
theorem sw_zero {w0 W : World} {blk off : Nat} {dk d0 : Array Vs} (h : SW w0 blk off dk W) (R : RowK vsC 7 w0 blk off d0) (hs : dk.size = d0.size) (i m : Nat) (hi : i + m ≤ dk.size) :
    ∃ d' : Array Vs, d'.size = dk.size ∧ d'.toList.take i = dk.toList.take i ∧ Sem.run Tryz.prog (storeCells ⟨blk, off + i * 7, none⟩ (Builtin.zeroCells (vsA default) m).toList 0) W = .ok () (W.setCells blk (off + i * 7) (Builtin.zeroCells (vsA default) m).toList) ∧ SW w0 blk off d' (W.setCells blk (off + i * 7) (Builtin.zeroCells (vsA default) m).toList) := by
  rw [zeros_vs]
  obtain ⟨d', e1, e2, e3⟩ := sw_puts R (List.replicate m default) i dk W h (by rw [List.length_replicate]; exact hi)
  exact ⟨d', e1, e2, stores_of_holds Tryz.prog (h.holds R.hblk R.hH hs) (i * 7) _ (by rw [vsF_length, List.length_replicate, size_flatK]; omega) (vsF_one _), e3⟩
theorem ex_clear {o : Oper} {x : Operand} {ρ : Operand → Value} {W W' : World} {ad : Addr} {m c : Nat} (hop : o.op = .call { callee := .builtin .clear, args := #[x], argTypes := #[22] }) (hx : ρ x = .slice (some ad) m c) (hm : m ≠ 0)
    (hr : Sem.run Tryz.prog (storeCells ad (Builtin.zeroCells (vsA default) m).toList 0) W = .ok () W') : (execOp ρ o).run Tryz.prog W = .ok (.value (.tuple #[])) W' := by
  have hl : (Builtin.clear_ #[22] o.type #[Value.slice (some ad) m c]).run Tryz.prog W = .ok (.tuple #[]) W' := by
    obtain ⟨k, rfl⟩ : ∃ k, m = k + 1 := ⟨m - 1, by omega⟩
    have hv : vsA default = #[.int .i64 0, .int .i64 0, .int .i64 0, .string ⟨#[]⟩, .int .i64 0, .int .i64 0, .string ⟨#[]⟩] := rfl
    rw [hv] at hr
    simp [Builtin.clear_, run_underlying Tryz.underlying22, Value.cells, hr, Result.andThen]
  unfold execOp; rw [hop]; simp only [resolve, List.map_toArray, List.map_cons, List.map_nil, hx]; simp [invoke, go_sem, builtin, hl, Result.andThen]

theorem tk_succ (d : Array Vs) (j : Nat) (hj : j < d.size) : d.toList.take (j + 1) = d.toList.take j ++ [d[j]!] := by
  have hl : j < d.toList.length := by simpa using hj
  rw [List.take_succ_eq_append_getElem hl, bang_of (List.getElem?_eq_getElem hl)]
theorem keep_all (p : Vs → Bool) (d : Array Vs) (k : Nat) (hk : k ≤ d.size) (h : ∀ j, j < k → p d[j]! = false) : (d.toList.take k).filter (fun x => !p x) = d.toList.take k := by
  induction k with
  | zero => rfl
  | succ k ih => rw [tk_succ d k (by omega), List.filter_append, ih (by omega) (fun j hj => h j (by omega))]; simp [h k (by omega)]
theorem drop_get {d dk : Array Vs} {j : Nat} (h : dk.toList.drop j = d.toList.drop j) : dk[j]! = d[j]! := by
  have := congrArg (fun l => l[0]?) h
  simp only [List.getElem?_drop, Nat.add_zero, Array.getElem?_toList] at this
  simp [Array.getElem!_eq_getD, Array.getD_eq_getD_getElem?, this]
theorem drop_next {d dk : Array Vs} {j : Nat} (h : dk.toList.drop j = d.toList.drop j) : dk.toList.drop (j + 1) = d.toList.drop (j + 1) := by
  rw [← List.drop_drop, h, List.drop_drop]
theorem take_set {dk : Array Vs} {i : Nat} (hi : i < dk.size) (x : Vs) : (dk.setIfInBounds i x).toList.take (i + 1) = dk.toList.take i ++ [x] := by
  rw [tk_succ _ i (by rw [Array.size_setIfInBounds]; exact hi), Array.toList_setIfInBounds, List.take_set_of_le (Nat.le_refl _)]
  congr 2
  simp [hi]
theorem drop_set {dk : Array Vs} {i j : Nat} (hij : i < j) (x : Vs) : (dk.setIfInBounds i x).toList.drop j = dk.toList.drop j := by
  rw [Array.toList_setIfInBounds, List.drop_set_of_lt hij]

set_option maxHeartbeats 400000 in
theorem delFunc_any {w0 : World} {blk off : Nat} {d : Array Vs} (R : RowK vsC 7 w0 blk off d) (g : FuncId) (cb : Array Value) (eg : ∀ args w, (callFunc g args).run Tryz.prog w = .ok (.enter g args) w) (p : Vs → Bool) (n cap : Nat) (hn : d.size = n) (hcap : n ≤ cap) (hc63 : cap ≤ 9223372036854775807) (hsz : n < 4611686018427387904)
    (hc : ∀ (dk : Array Vs) (W : World) (x : Vs), dk.size = d.size → SW w0 blk off dk W → Calls Tryz.prog g (#[.agg (vsA x)] ++ cb) W fun e w' => e = .returned (.bool (p x)) ∧ Gr W w') (w : World) (hS : SW w0 blk off d w) :
    Calls Tryz.prog 66 #[.slice (some ⟨blk, off, none⟩) n cap, .func (.func g) #[] cb] w fun e w' => ∃ k d', e = .returned (.slice (some ⟨blk, off, none⟩) k cap) ∧ k ≤ n ∧ SW w0 blk off d' w' ∧ d'.size = n ∧ d'.toList.take k = d.toList.filter (fun x => !p x) := by
  have Hidx := Lib.hid (index_any g cb eg (fun _ W => SW w0 blk off d W) (fun i => d[i]!) (fun i => p d[i]!) blk off n cap hsz (fun i W hi hS => sw_loadVar hS R rfl (by omega) rfl)
    (fun i W hi hS => (hc d W _ rfl hS).mono fun e w' ⟨h1, h2⟩ => ⟨h1, h2.sw hS⟩) w hS)
  have HC := Lib.hid hc
  have HN := Lib.hid hn
  clear hc hS hn
  go_enter Tryz.func66, Tryz.ntmps66
  go_wp2_with fail
  with_reducible refine Calls.mono Hidx.out ?_
  rintro e w1 ⟨k0, h1, h2, h3, rfl, h5⟩
  have HS1 := Lib.hid (show SW w0 blk off d w1 from h5)
  have H2 := Lib.hid (And.intro h2 h3)
  clear h2 h3 h5 Hidx
  by_cases hk : k0 < n
  · rw [if_pos hk]
    have hz : ((k0 : Int) == -1) = false := by rw [beq_eq_false_iff_ne]; omega
    go_wp2
    go_loopw [5, 6] (fun vi vj wr => ∃ i j : Nat, ∃ dk : Array Vs, vi = .int .i64 (i : Nat) ∧ vj = .int .i64 (j : Nat) ∧ i < j ∧ j ≤ n ∧ dk.size = n ∧ Hid (SW w0 blk off dk wr) ∧ Hid (dk.toList.take i = (d.toList.take j).filter (fun x => !p x) ∧ dk.toList.drop j = d.toList.drop j))
      (fun _ vj _ => n - (intOf vj).toNat)
    case atStart =>
      refine ⟨k0, k0 + 1, d, rfl, by go_num, by omega, by omega, HN.out, HS1, Lib.hid ⟨?_, rfl⟩⟩
      have hd := HN.out
      rw [tk_succ d k0 (by omega), List.filter_append, keep_all p d k0 (by omega) H2.out.1]
      simp [H2.out.2 hk]
    case round =>
      obtain ⟨i, j, dk, rfl, rfl, hij, hj, hdk, HS, HL⟩ := hrel
      by_cases hlt : j < n
      · have hz2 : (j : Int) < (n : Int) := by omega
        obtain ⟨x, hx⟩ : ∃ x, dk[j]! = x := ⟨_, rfl⟩
        have hx2 : d[j]! = x := by rw [← hx]; exact (drop_get HL.out.2).symm
        have Hx := Lib.hid hx
        have Hl := Lib.hid (sw_loadVar HS.out R (by rw [HN.out]; exact hdk) (by omega) hx)
        have hb0 := heap_alloc_new wr (.cells (vsA x) 49)
        have HB0 := Lib.hid hb0
        have HB1 := HB0
        have HSA := Lib.hid (SWK.alloc HS.out (.cells (vsA x) 49))
        have Hc := Lib.hid (HC.out dk _ x (by rw [HN.out]; exact hdk) HSA.out)
        clear hb0 hx
        generalize hpx : p x = b at Hc
        have HPX := Lib.hid hpx
        clear hpx
        go_wp2_with (first | (refine wpList_ex rfl (.agg (vsA x)) wr (ex_ldv (x := .tmp 24) rfl rfl Hl.out) ?_) | (refine wpList_exs rfl _ (ex_fill (x := .tmp 7) (y := .tmp 25) (W := wr) rfl rfl rfl rfl) ?_) | (refine wpList_ex rfl (.agg (vsA x)) _ (ex_loadrow (x := .tmp 7) rfl rfl _ 49 HB0.out Tryz.underlying49 rfl info_vt) ?_))
        with_reducible refine Calls.mono Hc.out ?_
        rintro e w2 ⟨rfl, hG2⟩
        have HS2 := Lib.hid (hG2.sw HSA.out)
        have HB2 := Lib.hid (hG2.block HB0.out)
        clear hG2 Hc Hl HB0 HB1 HSA
        cases b with
        | true =>
          go_wp2
          go_roundw
          case rel => exact ⟨i, j + 1, dk, rfl, by go_num, by omega, hlt, hdk, HS2, Lib.hid ⟨by have hd := HN.out; rw [tk_succ d j (by omega), List.filter_append, HL.out.1, hx2]; simp [HPX.out], drop_next HL.out.2⟩⟩
          case measure => simp [intOf]; omega
        | false =>
          have hi63 : i < n := by omega
          have HP := Lib.hid (SWK.put HS2.out R i (by omega) x)
          have HQ := Lib.hid (fun (o : Oper) (ρ : Operand → Value) (x' y' : Operand) (h1 : o.op = .store 49 x' y') (h2 : ρ x' = .pointer (some ⟨blk, off + i * 7, none⟩)) (h3 : ρ y' = .agg (vsA x)) => ex_put h1 h2 x h3 HS2.out R (by rw [HN.out]; exact hdk) (show i < dk.size by omega))
          have HQ7 := Lib.hid (fun (o : Oper) (ρ : Operand → Value) (x' : Operand) (h1 : o.op = .load 49 x') (h2 : ρ x' = .pointer (some ⟨wr.heap.size, 0, none⟩)) => ex_loadrow h1 h2 w2 49 HB2.out Tryz.underlying49 rfl info_vt)
          go_wp2_with (first | (refine wpList_exs rfl _ (HQ.out _ _ (.tmp 33) (.tmp 32) rfl rfl rfl) ?_; generalize w2.setCells blk (off + i * 7) (vsC x) = w3 at HP ⊢; clear HQ HQ7) | (refine wpList_ex rfl (.agg (vsA x)) _ (HQ7.out _ _ (.tmp 7) rfl rfl) ?_))
          go_roundw
          case rel => exact ⟨i + 1, j + 1, dk.setIfInBounds i x, by go_num, by go_num, by omega, hlt, by rw [Array.size_setIfInBounds]; exact hdk, HP, Lib.hid ⟨by have hd := HN.out; rw [tk_succ d j (by omega), List.filter_append, take_set (by omega), HL.out.1, hx2]; simp [HPX.out], by rw [drop_set (by omega)]; exact drop_next HL.out.2⟩⟩
          case measure => simp [intOf]; omega
      · obtain rfl : j = n := by omega
        have hi : i < j := hij
        obtain ⟨d', e1, e2, e3, e4⟩ := sw_zero HS.out R (by rw [HN.out]; exact hdk) i (j - i) (by omega)
        have HZ := Lib.hid (And.intro e1 (And.intro e2 e4))
        have HQ := Lib.hid (fun (o : Oper) (ρ : Operand → Value) (x' : Operand) (c : Nat) (h1 : o.op = .call { callee := .builtin .clear, args := #[x'], argTypes := #[22] }) (h2 : ρ x' = .slice (some ⟨blk, off + i * 7, none⟩) (j - i) c) => ex_clear h1 h2 (show j - i ≠ 0 by omega) e3)
        clear e1 e2 e3 e4
        have q1 : (j : Int) - i = ((j - i : Nat) : Int) := by omega
        have q2 : (i : Int) ≤ (j : Int) := by omega
        have q3 : (i : Int) ≤ (cap : Int) := by omega
        have q4 : (i : Int) < (cap : Int) := by omega
        go_wp2_with (refine wpList_ex rfl (.tuple #[]) _ (HQ.out _ _ (.tmp 38) _ rfl rfl) ?_; generalize wr.setCells blk (off + i * 7) (Builtin.zeroCells (vsA default) (j - i)).toList = w3 at HZ ⊢; clear HQ)
        go_ret
        refine ⟨i, d', rfl, by omega, HZ.out.2.2, HZ.out.1.trans hdk, ?_⟩
        rw [HZ.out.2.1, HL.out.1, List.take_of_length_le (by have := HN.out; simp; omega)]
  · obtain rfl : k0 = n := by omega
    rw [if_neg (by omega)]
    go_wp2
    go_ret
    refine ⟨k0, d, rfl, by omega, HS1.out, HN.out, ?_⟩
    have hd := HN.out
    rw [← keep_all p d k0 (by omega) H2.out.1, List.take_of_length_le (by simp; omega)]
end
end

/-
  slices.CompactFunc of statements by their signers, in a row of one's own.
-/
section
set_option maxRecDepth 100000
section
set_option linter.unusedVariables false
open Go.RowKit Go.Sort Go.Lib

set_option maxHeartbeats 400000 in
theorem same_gr (x y : Vs) (W : World) :
    Calls Tryz.prog 72 (#[.agg (vsA x), .agg (vsA y)] ++ #[]) W fun e w' => e = .returned (.bool (vsK x == vsK y)) ∧ Gr W w' := by
  obtain ⟨⟨K1, V1, H1, B1, T1, G1⟩, S1⟩ := x
  obtain ⟨⟨K2, V2, H2, B2, T2, G2⟩, S2⟩ := y
  show Calls Tryz.prog 72 #[.agg #[.int .i64 K1, .int .i64 V1, .int .i64 H1, .string (strOfNums B1), .int .i64 T1, .int .i64 G1, .string S1], .agg #[.int .i64 K2, .int .i64 V2, .int .i64 H2, .string (strOfNums B2), .int .i64 T2, .int .i64 G2, .string S2]] W fun e w' => e = .returned (.bool (G1 == G2)) ∧ Gr W w'
  generalize strOfNums B1 = B1'
  generalize strOfNums B2 = B2'
  have h0 := heap_alloc_new W (.cells #[.int .i64 K1, .int .i64 V1, .int .i64 H1, .string B1', .int .i64 T1, .int .i64 G1, .string S1] 49)
  have h1 := ((Up.alloc (Up.refl (W.alloc (.cells #[.int .i64 K1, .int .i64 V1, .int .i64 H1, .string B1', .int .i64 T1, .int .i64 G1, .string S1] 49))) (.cells #[.int .i64 K2, .int .i64 V2, .int .i64 H2, .string B2', .int .i64 T2, .int .i64 G2, .string S2] 49)).block _ (lt_of_block h0)).trans h0
  have h2 := heap_alloc_new (W.alloc (.cells #[.int .i64 K1, .int .i64 V1, .int .i64 H1, .string B1', .int .i64 T1, .int .i64 G1, .string S1] 49)) (.cells #[.int .i64 K2, .int .i64 V2, .int .i64 H2, .string B2', .int .i64 T2, .int .i64 G2, .string S2] 49)
  rw [show (W.alloc (.cells #[.int .i64 K1, .int .i64 V1, .int .i64 H1, .string B1', .int .i64 T1, .int .i64 G1, .string S1] 49)).heap.size = W.heap.size + 1 by simp] at h2
  have c1 := (vt_cells h1).2.2.2.2.2.1
  have c2 := (vt_cells h2).2.2.2.2.2.1
  clear h0 h1 h2
  go_enter Tryz.func72, Tryz.ntmps72
  go_wp2
  go_ret
  exact ⟨rfl, (Gr.alloc _ _).trans (Gr.alloc _ _)⟩

theorem bin_dec2 (x y : Operand) (k K : Nat) (h1 : k < K) (h2 : K ≤ k + 1) (h : K ≤ 9223372036854775807) (w : World) : (do eqGuard .sub 3 x y (.int .i64 (K : Nat)) (.int .i64 1); binOp .sub 3 (.int .i64 (K : Nat)) (.int .i64 1) : Sem Value).run Tryz.prog w = .ok (.int .i64 (k : Nat)) w := by
  obtain rfl : K = k + 1 := by omega
  exact bin_dec x y k h w
theorem ex_index2 {o : Oper} {x y : Operand} {ρ : Operand → Value} {blk off k j m c : Nat} (hop : o.op = .indexAddr 22 x y) (hx : ρ x = .slice (some ⟨blk, off + k * 7, none⟩) m c) (hy : ρ y = .int .i64 ((j : Nat) : Int)) (hj : j < m) (h0 : True ∨ 0 = 0 := by omega) (w : World) :
    (execOp ρ o).run Tryz.prog w = .ok (.value (.pointer (some ⟨blk, off + (k + j) * 7, none⟩))) w := by
  have := ex_index (P := Tryz.prog) Tryz.underlying22 Tryz.sizeOf49 hop hx hy hj w
  rwa [show off + k * 7 + j * 7 = off + (k + j) * 7 by omega] at this

theorem cptF_snoc (y : Vs) : ∀ (l : List Vs) (p : Int), cptF vsK p (l ++ [y]) = cptF vsK p l ++ (if vsK y = (l.getLast?.map vsK).getD p then [] else [y])
  | [], p => by
    show (if vsK y = p then ([] : List Vs) else [y]) = _
    rfl
  | x :: t, p => by
    have e : ((x :: t).getLast?.map vsK).getD p = (t.getLast?.map vsK).getD (vsK x) := by
      cases t with
      | nil => rfl
      | cons z u => simp [List.getLast?_cons]
    rw [List.cons_append, cptF, cptF, cptF_snoc y t (vsK x), e]
    by_cases h : vsK x = p
    · rw [if_pos h, if_pos h]
    · rw [if_neg h, if_neg h, List.cons_append]
theorem cpt_next (d : Array Vs) (q : Nat) (h1 : 1 ≤ q) (h2 : q < d.size) : cpt vsK (d.toList.take (q + 1)) = if vsK d[q]! = vsK d[q - 1]! then cpt vsK (d.toList.take q) else cpt vsK (d.toList.take q) ++ [d[q]!] := by
  rw [tk_succ d q h2]
  obtain ⟨r, rfl⟩ : ∃ r, q = r + 1 := ⟨q - 1, by omega⟩
  have hl : (d.toList.take (r + 1)).getLast? = some d[r]! := by rw [tk_succ d r (by omega)]; simp
  cases hc : d.toList.take (r + 1) with
  | nil => rw [hc] at hl; cases hl
  | cons x t =>
    rw [hc] at hl
    have e : (t.getLast?.map vsK).getD (vsK x) = vsK d[r]! := by
      cases t with
      | nil => simp at hl; simp [hl]
      | cons z u => rw [List.getLast?_cons_cons] at hl; rw [hl]; rfl
    show x :: cptF vsK (vsK x) (t ++ [d[r + 1]!]) = if vsK d[r + 1]! = vsK d[r + 1 - 1]! then x :: cptF vsK (vsK x) t else (x :: cptF vsK (vsK x) t) ++ [d[r + 1]!]
    rw [cptF_snoc, e, Nat.add_sub_cancel]
    by_cases h : vsK d[r + 1]! = vsK d[r]!
    · rw [if_pos h, if_pos h, List.append_nil]
    · rw [if_neg h, if_neg h]; rfl
theorem cpt_all (d : Array Vs) (k : Nat) (hk : k ≤ d.size) (h : ∀ i, 1 ≤ i → i < k → vsK d[i]! ≠ vsK d[i - 1]!) : cpt vsK (d.toList.take k) = d.toList.take k := by
  induction k with
  | zero => rfl
  | succ k ih =>
    cases k with
    | zero =>
      rw [tk_succ d 0 (by omega)]; rfl
    | succ k =>
      rw [cpt_next d (k + 1) (by omega) (by omega), if_neg (h (k + 1) (by omega) (by omega)), ih (by omega) (fun i h1 h2 => h i h1 (by omega)), ← tk_succ d (k + 1) (by omega)]

/-- what CompactFunc leaves -/
structure Comp (w0 : World) (blk off n cap : Nat) (d : Array Vs) (e : Ending) (w' : World) : Prop where
  ex : ∃ (k : Nat) (d' : Array Vs), e = .returned (.slice (some ⟨blk, off, none⟩) k cap) ∧ k ≤ n ∧ SW w0 blk off d' w' ∧ d'.size = n ∧ d'.toList.take k = cpt vsK d.toList

set_option maxHeartbeats 1000000 in
theorem compact_any {w0 : World} {blk off : Nat} {d : Array Vs} (R : RowK vsC 7 w0 blk off d) (n cap : Nat) (hn : d.size = n) (hcap : n ≤ cap) (hc63 : cap ≤ 9223372036854775807) (hsz : n < 4611686018427387904) (w : World) (hS : SW w0 blk off d w) :
    Calls Tryz.prog 71 #[.slice (some ⟨blk, off, none⟩) n cap, .func (.func 72) #[] #[]] w (Comp w0 blk off n cap d) := by
  have HS0 := Lib.hid hS
  have HN := Lib.hid hn
  have HALL : Hid (d.toList.take n = d.toList) := Lib.hid (List.take_of_length_le (by simp; omega))
  clear hS hn
  by_cases h2 : n < 2
  · have hz : (n : Int) < 2 := by omega
    go_enter Tryz.func71, Tryz.ntmps71
    go_wp2
    go_ret
    refine ⟨n, d, rfl, Nat.le_refl _, HS0.out, HN.out, ?_⟩
    have := cpt_all d n (by rw [HN.out]; exact Nat.le_refl _) (fun i h1 h3 => by omega)
    rw [HALL.out] at this
    rw [HALL.out, this]
  · have hz : ¬ (n : Int) < 2 := by omega
    go_enter Tryz.func71, Tryz.ntmps71
    go_wp2
    go_loopw [5] (fun vk wr => ∃ K : Nat, vk = .int .i64 (K : Nat) ∧ 1 ≤ K ∧ K ≤ n ∧ Hid (SW w0 blk off d wr) ∧ Hid (∀ i, 1 ≤ i → i < K → vsK d[i]! ≠ vsK d[i - 1]!))
      (fun vk _ => n - (intOf vk).toNat)
    case atStart => exact ⟨1, rfl, by omega, by omega, HS0, Lib.hid (fun i h1 h2 => by omega)⟩
    case round =>
      obtain ⟨K, rfl, hk0, hk, HS, HP⟩ := hrel
      obtain ⟨k, hK1, hK2⟩ : ∃ k, k < K ∧ K ≤ k + 1 := ⟨K - 1, by omega, by omega⟩
      by_cases hlt : K < n
      · have hz2 : (K : Int) < (n : Int) := by omega
        have hds := HN.out
        go_wp2_with fail
        obtain ⟨xv, hxv⟩ : ∃ u, d[K]! = u := ⟨_, rfl⟩
        obtain ⟨yv, hyv⟩ : ∃ u, d[k]! = u := ⟨_, rfl⟩
        have Hx := Lib.hid hxv
        have Hy := Lib.hid hyv
        have HI := Lib.hid (And.intro (show K < d.size by omega) (show k < d.size by omega))
        have HC : Hid (∀ (W : World), SW w0 blk off d W → Calls Tryz.prog 72 (#[.agg (vsA xv), .agg (vsA yv)] ++ #[]) W fun e w' => e = .returned (.bool (vsK xv == vsK yv)) ∧ SW w0 blk off d w') := fun W h => (same_gr xv yv W).mono fun e w' ⟨h1, h2⟩ => ⟨h1, h2.sw h⟩
        clear hxv hyv hds
        generalize wr = wz at HS ⊢
        by_cases hB : vsK xv = vsK yv
        · rw [show (vsK xv == vsK yv) = true by simpa using hB] at HC
          have HK := Lib.hid hB
          clear hB
          refine region_alongK (fun x => SW w0 blk off d x) (.read 0 (.read 1 (.read 2 (.read 3 (.read 4 (.read 5 (.read 6 (.read 7 (.read 8 (.read 9 (.step 10 (.nil)))))))))))) (by kernel_rfl) rfl (by kernel_rfl) (by kernel_rfl) (fun c a d v w h => by cases d <;> exact h) (HS.out.drew) ?_
          refine alongK_read (.func (.func 72) #[] #[]) rfl rfl (fun wx hS => ex_move (by rfl) (by rfl) wx) ?_
          change AlongK _ _ _ _ _ { tmps := #[.slice (some ⟨blk, off, none⟩) n cap, .func (.func 72) #[] #[], _, _, _, .int .i64 ((K : Nat) : Int), _, _, _, _, _, _, _, _, _, _, _, _, .func (.func 72) #[] #[], _, _, _, _, _, _, _, _, _, _, _, _, _, _, _, _, _, _, _, _, _, _, _, _, _, _, _, _, _, _, _, _, _, _, _, _, _, _, _, _, _, _, _, _, _, _, _], defers := _ } _
          refine alongK_read (.slice (some ⟨blk, off, none⟩) n cap) rfl rfl (fun wx hS => ex_move (by rfl) (by rfl) wx) ?_
          change AlongK _ _ _ _ _ { tmps := #[.slice (some ⟨blk, off, none⟩) n cap, .func (.func 72) #[] #[], _, _, _, .int .i64 ((K : Nat) : Int), _, _, _, _, _, _, _, _, _, _, _, _, .func (.func 72) #[] #[], .slice (some ⟨blk, off, none⟩) n cap, _, _, _, _, _, _, _, _, _, _, _, _, _, _, _, _, _, _, _, _, _, _, _, _, _, _, _, _, _, _, _, _, _, _, _, _, _, _, _, _, _, _, _, _, _, _], defers := _ } _
          refine alongK_read (.int .i64 ((K : Nat) : Int)) rfl rfl (fun wx hS => ex_move (by rfl) (by rfl) wx) ?_
          change AlongK _ _ _ _ _ { tmps := #[.slice (some ⟨blk, off, none⟩) n cap, .func (.func 72) #[] #[], _, _, _, .int .i64 ((K : Nat) : Int), _, _, _, _, _, _, _, _, _, _, _, _, .func (.func 72) #[] #[], .slice (some ⟨blk, off, none⟩) n cap, .int .i64 ((K : Nat) : Int), _, _, _, _, _, _, _, _, _, _, _, _, _, _, _, _, _, _, _, _, _, _, _, _, _, _, _, _, _, _, _, _, _, _, _, _, _, _, _, _, _, _, _, _, _], defers := _ } _
          refine alongK_read (.pointer (some ⟨blk, off + (K) * 7, none⟩)) rfl rfl (fun wx hS => ex_index Tryz.underlying22 Tryz.sizeOf49 rfl rfl rfl (by omega) wx) ?_
          change AlongK _ _ _ _ _ { tmps := #[.slice (some ⟨blk, off, none⟩) n cap, .func (.func 72) #[] #[], _, _, _, .int .i64 ((K : Nat) : Int), _, _, _, _, _, _, _, _, _, _, _, _, .func (.func 72) #[] #[], .slice (some ⟨blk, off, none⟩) n cap, .int .i64 ((K : Nat) : Int), .pointer (some ⟨blk, off + (K) * 7, none⟩), _, _, _, _, _, _, _, _, _, _, _, _, _, _, _, _, _, _, _, _, _, _, _, _, _, _, _, _, _, _, _, _, _, _, _, _, _, _, _, _, _, _, _, _], defers := _ } _
          refine alongK_read (.agg (vsA xv)) rfl rfl (fun wx hS => ex_elem rfl rfl hS R rfl HI.out.1 Hx.out) ?_
          change AlongK _ _ _ _ _ { tmps := #[.slice (some ⟨blk, off, none⟩) n cap, .func (.func 72) #[] #[], _, _, _, .int .i64 ((K : Nat) : Int), _, _, _, _, _, _, _, _, _, _, _, _, .func (.func 72) #[] #[], .slice (some ⟨blk, off, none⟩) n cap, .int .i64 ((K : Nat) : Int), .pointer (some ⟨blk, off + (K) * 7, none⟩), .agg (vsA xv), _, _, _, _, _, _, _, _, _, _, _, _, _, _, _, _, _, _, _, _, _, _, _, _, _, _, _, _, _, _, _, _, _, _, _, _, _, _, _, _, _, _, _], defers := _ } _
          refine alongK_read (.slice (some ⟨blk, off, none⟩) n cap) rfl rfl (fun wx hS => ex_move (by rfl) (by rfl) wx) ?_
          change AlongK _ _ _ _ _ { tmps := #[.slice (some ⟨blk, off, none⟩) n cap, .func (.func 72) #[] #[], _, _, _, .int .i64 ((K : Nat) : Int), _, _, _, _, _, _, _, _, _, _, _, _, .func (.func 72) #[] #[], .slice (some ⟨blk, off, none⟩) n cap, .int .i64 ((K : Nat) : Int), .pointer (some ⟨blk, off + (K) * 7, none⟩), .agg (vsA xv), .slice (some ⟨blk, off, none⟩) n cap, _, _, _, _, _, _, _, _, _, _, _, _, _, _, _, _, _, _, _, _, _, _, _, _, _, _, _, _, _, _, _, _, _, _, _, _, _, _, _, _, _, _], defers := _ } _
          refine alongK_read (.int .i64 ((K : Nat) : Int)) rfl rfl (fun wx hS => ex_move (by rfl) (by rfl) wx) ?_
          change AlongK _ _ _ _ _ { tmps := #[.slice (some ⟨blk, off, none⟩) n cap, .func (.func 72) #[] #[], _, _, _, .int .i64 ((K : Nat) : Int), _, _, _, _, _, _, _, _, _, _, _, _, .func (.func 72) #[] #[], .slice (some ⟨blk, off, none⟩) n cap, .int .i64 ((K : Nat) : Int), .pointer (some ⟨blk, off + (K) * 7, none⟩), .agg (vsA xv), .slice (some ⟨blk, off, none⟩) n cap, .int .i64 ((K : Nat) : Int), _, _, _, _, _, _, _, _, _, _, _, _, _, _, _, _, _, _, _, _, _, _, _, _, _, _, _, _, _, _, _, _, _, _, _, _, _, _, _, _, _], defers := _ } _
          refine alongK_read (.int .i64 ((k : Nat) : Int)) rfl rfl (fun wx hS => ex_bin rfl rfl rfl wx (bin_dec2 _ _ k K hK1 hK2 (by omega) wx)) ?_
          change AlongK _ _ _ _ _ { tmps := #[.slice (some ⟨blk, off, none⟩) n cap, .func (.func 72) #[] #[], _, _, _, .int .i64 ((K : Nat) : Int), _, _, _, _, _, _, _, _, _, _, _, _, .func (.func 72) #[] #[], .slice (some ⟨blk, off, none⟩) n cap, .int .i64 ((K : Nat) : Int), .pointer (some ⟨blk, off + (K) * 7, none⟩), .agg (vsA xv), .slice (some ⟨blk, off, none⟩) n cap, .int .i64 ((K : Nat) : Int), .int .i64 ((k : Nat) : Int), _, _, _, _, _, _, _, _, _, _, _, _, _, _, _, _, _, _, _, _, _, _, _, _, _, _, _, _, _, _, _, _, _, _, _, _, _, _, _, _], defers := _ } _
          refine alongK_read (.pointer (some ⟨blk, off + (k) * 7, none⟩)) rfl rfl (fun wx hS => ex_index Tryz.underlying22 Tryz.sizeOf49 rfl rfl rfl (by omega) wx) ?_
          change AlongK _ _ _ _ _ { tmps := #[.slice (some ⟨blk, off, none⟩) n cap, .func (.func 72) #[] #[], _, _, _, .int .i64 ((K : Nat) : Int), _, _, _, _, _, _, _, _, _, _, _, _, .func (.func 72) #[] #[], .slice (some ⟨blk, off, none⟩) n cap, .int .i64 ((K : Nat) : Int), .pointer (some ⟨blk, off + (K) * 7, none⟩), .agg (vsA xv), .slice (some ⟨blk, off, none⟩) n cap, .int .i64 ((K : Nat) : Int), .int .i64 ((k : Nat) : Int), .pointer (some ⟨blk, off + (k) * 7, none⟩), _, _, _, _, _, _, _, _, _, _, _, _, _, _, _, _, _, _, _, _, _, _, _, _, _, _, _, _, _, _, _, _, _, _, _, _, _, _, _], defers := _ } _
          refine alongK_read (.agg (vsA yv)) rfl rfl (fun wx hS => ex_elem rfl rfl hS R rfl HI.out.2 Hy.out) ?_
          change AlongK _ _ _ _ _ { tmps := #[.slice (some ⟨blk, off, none⟩) n cap, .func (.func 72) #[] #[], _, _, _, .int .i64 ((K : Nat) : Int), _, _, _, _, _, _, _, _, _, _, _, _, .func (.func 72) #[] #[], .slice (some ⟨blk, off, none⟩) n cap, .int .i64 ((K : Nat) : Int), .pointer (some ⟨blk, off + (K) * 7, none⟩), .agg (vsA xv), .slice (some ⟨blk, off, none⟩) n cap, .int .i64 ((K : Nat) : Int), .int .i64 ((k : Nat) : Int), .pointer (some ⟨blk, off + (k) * 7, none⟩), .agg (vsA yv), _, _, _, _, _, _, _, _, _, _, _, _, _, _, _, _, _, _, _, _, _, _, _, _, _, _, _, _, _, _, _, _, _, _, _, _, _, _], defers := _ } _
          refine alongK_step ?_
          refine opK_callv (vs := [.agg (vsA xv), .agg (vsA yv)]) (cb := #[]) rfl rfl rfl rfl (enters_of Tryz.func72 (by kernel_rfl) rfl) rfl ?_
          with_reducible refine Calls.mono (HC.out _ HS.out.drew) ?_
          rintro e w5 ⟨rfl, hS5⟩
          refine ⟨_, rfl, (fun x => SW w0 blk off d x), (fun _ h => h), hS5, ?_⟩
          change AlongK _ _ _ _ _ { tmps := #[.slice (some ⟨blk, off, none⟩) n cap, .func (.func 72) #[] #[], _, _, _, .int .i64 ((K : Nat) : Int), _, _, _, _, _, _, _, _, _, _, _, _, .func (.func 72) #[] #[], .slice (some ⟨blk, off, none⟩) n cap, .int .i64 ((K : Nat) : Int), .pointer (some ⟨blk, off + (K) * 7, none⟩), .agg (vsA xv), .slice (some ⟨blk, off, none⟩) n cap, .int .i64 ((K : Nat) : Int), .int .i64 ((k : Nat) : Int), .pointer (some ⟨blk, off + (k) * 7, none⟩), .agg (vsA yv), .bool true, _, _, _, _, _, _, _, _, _, _, _, _, _, _, _, _, _, _, _, _, _, _, _, _, _, _, _, _, _, _, _, _, _, _, _, _, _], defers := _ } _
          refine alongK_done ?_
          focus
            have HS5 := Lib.hid hS5
            clear hS5
            have HK1 : Hid (cpt vsK (d.toList.take (K + 1)) = d.toList.take (K)) := Lib.hid (by rw [cpt_next d K (by omega) (by have := HN.out; omega), if_pos (by rw [Hx.out, show K - 1 = k by omega, Hy.out]; exact HK.out)]; exact cpt_all d K (by have := HN.out; omega) HP.out)
            have q1 : (n : Int) - (K : Int) = ((n - (K) : Nat) : Int) := by omega
            have q2 : (K : Int) ≤ (n : Int) := by omega
            have q3 : (K : Int) ≤ (cap : Int) := by omega
            have q4 : (K : Int) < (cap : Int) := by omega
            go_wp2
            go_loopw [5, 7] (fun vk vj wr => ∃ kk J : Nat, ∃ dk : Array Vs, vk = .int .i64 (kk : Nat) ∧ vj = .int .i64 (J : Int) ∧ kk < K + J ∧ 1 ≤ J ∧ K + J ≤ n ∧ dk.size = n ∧ 1 ≤ kk ∧ Hid (SW w0 blk off dk wr) ∧ Hid (dk.toList.take kk = cpt vsK (d.toList.take (K + J)) ∧ dk.toList.drop (K + J - 1) = d.toList.drop (K + J - 1)))
              (fun _ vj _ => n - (intOf vj).toNat)
            case atStart => exact ⟨K, 1, d, by go_num, rfl, by omega, by omega, by omega, HN.out, by omega, HS5, Lib.hid ⟨HK1.out.symm, rfl⟩⟩
            case round =>
              obtain ⟨kk, J, dk, rfl, rfl, hkj, hJ1, hjn, hdk, hkk, HS, HL⟩ := hrel
              obtain ⟨j, hj1, hj2⟩ : ∃ j, j < J ∧ J ≤ j + 1 := ⟨J - 1, by omega, by omega⟩
              have HDR : Hid (dk.toList.drop (K + j) = d.toList.drop (K + j)) := Lib.hid (by have := HL.out.2; rwa [show K + J - 1 = K + j by omega] at this)
              have HDR2 : Hid (dk.toList.drop (K + J) = d.toList.drop (K + J)) := Lib.hid (by have := drop_next HDR.out; rwa [show K + j + 1 = K + J by omega] at this)
              have HDN : Hid (dk.size = d.size) := Lib.hid (by rw [HN.out]; exact hdk)
              by_cases hlt2 : J < n - (K)
              · have hz3 : (J : Int) < ((n - (K) : Nat) : Int) := by omega
                have HX2 : Hid (d[K + J]! = dk[K + J]! ∧ d[K + j]! = dk[K + j]!) := ⟨(drop_get HDR2.out).symm, (drop_get HDR.out).symm⟩
                have hnx := cpt_next d (K + J) (by omega) (by have := HN.out; omega)
                rw [show K + J - 1 = K + j by omega] at hnx
                have HNX : Hid ((vsK d[K + J]! = vsK d[K + j]! → cpt vsK (d.toList.take (K + J + 1)) = cpt vsK (d.toList.take (K + J))) ∧ (vsK d[K + J]! ≠ vsK d[K + j]! → cpt vsK (d.toList.take (K + J + 1)) = cpt vsK (d.toList.take (K + J)) ++ [d[K + J]!])) := ⟨fun h => by rw [hnx, if_pos h], fun h => by rw [hnx, if_neg h]⟩
                clear hnx
                have hds := hdk
                go_wp2_with fail
                obtain ⟨xv, hxv⟩ : ∃ u, dk[K + J]! = u := ⟨_, rfl⟩
                obtain ⟨yv, hyv⟩ : ∃ u, dk[K + j]! = u := ⟨_, rfl⟩
                have Hx := Lib.hid hxv
                have Hy := Lib.hid hyv
                have HI := Lib.hid (And.intro (show K + J < dk.size by omega) (show K + j < dk.size by omega))
                have HC : Hid (∀ (W : World), SW w0 blk off dk W → Calls Tryz.prog 72 (#[.agg (vsA xv), .agg (vsA yv)] ++ #[]) W fun e w' => e = .returned (.bool (vsK xv == vsK yv)) ∧ SW w0 blk off dk w') := fun W h => (same_gr xv yv W).mono fun e w' ⟨h1, h2⟩ => ⟨h1, h2.sw h⟩
                clear hxv hyv hds
                generalize wr = wz at HS ⊢
                by_cases hB : vsK xv = vsK yv
                · rw [show (vsK xv == vsK yv) = true by simpa using hB] at HC
                  have HK := Lib.hid hB
                  clear hB
                  refine region_alongK (fun x => SW w0 blk off dk x) (.read 0 (.read 1 (.read 2 (.read 3 (.read 4 (.read 5 (.read 6 (.read 7 (.read 8 (.read 9 (.step 10 (.read 11 (.nil))))))))))))) (by kernel_rfl) rfl (by kernel_rfl) (by kernel_rfl) (fun c a d v w h => by cases d <;> exact h) (HS.out.drew) ?_
                  refine alongK_read (.func (.func 72) #[] #[]) rfl rfl (fun wx hS => ex_move (by rfl) (by rfl) wx) ?_
                  change AlongK _ _ _ _ _ { tmps := #[_, .func (.func 72) #[] #[], _, _, _, .int .i64 ((kk : Nat) : Int), .slice (some ⟨blk, off + (K) * 7, none⟩) (n - (K)) (cap - (K)), .int .i64 ((J : Nat) : Int), _, _, _, _, _, _, _, _, _, _, _, _, _, _, _, _, _, _, _, _, _, _, _, _, _, _, _, _, _, _, .func (.func 72) #[] #[], _, _, _, _, _, _, _, _, _, _, _, _, _, _, _, _, _, _, _, _, _, _, _, _, _, _, _], defers := _ } _
                  refine alongK_read (.slice (some ⟨blk, off + (K) * 7, none⟩) (n - (K)) (cap - (K))) rfl rfl (fun wx hS => ex_move (by rfl) (by rfl) wx) ?_
                  change AlongK _ _ _ _ _ { tmps := #[_, .func (.func 72) #[] #[], _, _, _, .int .i64 ((kk : Nat) : Int), .slice (some ⟨blk, off + (K) * 7, none⟩) (n - (K)) (cap - (K)), .int .i64 ((J : Nat) : Int), _, _, _, _, _, _, _, _, _, _, _, _, _, _, _, _, _, _, _, _, _, _, _, _, _, _, _, _, _, _, .func (.func 72) #[] #[], .slice (some ⟨blk, off + (K) * 7, none⟩) (n - (K)) (cap - (K)), _, _, _, _, _, _, _, _, _, _, _, _, _, _, _, _, _, _, _, _, _, _, _, _, _, _], defers := _ } _
                  refine alongK_read (.int .i64 ((J : Nat) : Int)) rfl rfl (fun wx hS => ex_move (by rfl) (by rfl) wx) ?_
                  change AlongK _ _ _ _ _ { tmps := #[_, .func (.func 72) #[] #[], _, _, _, .int .i64 ((kk : Nat) : Int), .slice (some ⟨blk, off + (K) * 7, none⟩) (n - (K)) (cap - (K)), .int .i64 ((J : Nat) : Int), _, _, _, _, _, _, _, _, _, _, _, _, _, _, _, _, _, _, _, _, _, _, _, _, _, _, _, _, _, _, .func (.func 72) #[] #[], .slice (some ⟨blk, off + (K) * 7, none⟩) (n - (K)) (cap - (K)), .int .i64 ((J : Nat) : Int), _, _, _, _, _, _, _, _, _, _, _, _, _, _, _, _, _, _, _, _, _, _, _, _, _], defers := _ } _
                  refine alongK_read (.pointer (some ⟨blk, off + (K + (J)) * 7, none⟩)) rfl rfl (fun wx hS => ex_index2 (k := K) (j := J) rfl rfl rfl (by omega) (by omega) wx) ?_
                  change AlongK _ _ _ _ _ { tmps := #[_, .func (.func 72) #[] #[], _, _, _, .int .i64 ((kk : Nat) : Int), .slice (some ⟨blk, off + (K) * 7, none⟩) (n - (K)) (cap - (K)), .int .i64 ((J : Nat) : Int), _, _, _, _, _, _, _, _, _, _, _, _, _, _, _, _, _, _, _, _, _, _, _, _, _, _, _, _, _, _, .func (.func 72) #[] #[], .slice (some ⟨blk, off + (K) * 7, none⟩) (n - (K)) (cap - (K)), .int .i64 ((J : Nat) : Int), .pointer (some ⟨blk, off + (K + (J)) * 7, none⟩), _, _, _, _, _, _, _, _, _, _, _, _, _, _, _, _, _, _, _, _, _, _, _, _], defers := _ } _
                  refine alongK_read (.agg (vsA xv)) rfl rfl (fun wx hS => ex_elem rfl rfl hS R HDN.out HI.out.1 Hx.out) ?_
                  change AlongK _ _ _ _ _ { tmps := #[_, .func (.func 72) #[] #[], _, _, _, .int .i64 ((kk : Nat) : Int), .slice (some ⟨blk, off + (K) * 7, none⟩) (n - (K)) (cap - (K)), .int .i64 ((J : Nat) : Int), _, _, _, _, _, _, _, _, _, _, _, _, _, _, _, _, _, _, _, _, _, _, _, _, _, _, _, _, _, _, .func (.func 72) #[] #[], .slice (some ⟨blk, off + (K) * 7, none⟩) (n - (K)) (cap - (K)), .int .i64 ((J : Nat) : Int), .pointer (some ⟨blk, off + (K + (J)) * 7, none⟩), .agg (vsA xv), _, _, _, _, _, _, _, _, _, _, _, _, _, _, _, _, _, _, _, _, _, _, _], defers := _ } _
                  refine alongK_read (.slice (some ⟨blk, off + (K) * 7, none⟩) (n - (K)) (cap - (K))) rfl rfl (fun wx hS => ex_move (by rfl) (by rfl) wx) ?_
                  change AlongK _ _ _ _ _ { tmps := #[_, .func (.func 72) #[] #[], _, _, _, .int .i64 ((kk : Nat) : Int), .slice (some ⟨blk, off + (K) * 7, none⟩) (n - (K)) (cap - (K)), .int .i64 ((J : Nat) : Int), _, _, _, _, _, _, _, _, _, _, _, _, _, _, _, _, _, _, _, _, _, _, _, _, _, _, _, _, _, _, .func (.func 72) #[] #[], .slice (some ⟨blk, off + (K) * 7, none⟩) (n - (K)) (cap - (K)), .int .i64 ((J : Nat) : Int), .pointer (some ⟨blk, off + (K + (J)) * 7, none⟩), .agg (vsA xv), .slice (some ⟨blk, off + (K) * 7, none⟩) (n - (K)) (cap - (K)), _, _, _, _, _, _, _, _, _, _, _, _, _, _, _, _, _, _, _, _, _, _], defers := _ } _
                  refine alongK_read (.int .i64 ((J : Nat) : Int)) rfl rfl (fun wx hS => ex_move (by rfl) (by rfl) wx) ?_
                  change AlongK _ _ _ _ _ { tmps := #[_, .func (.func 72) #[] #[], _, _, _, .int .i64 ((kk : Nat) : Int), .slice (some ⟨blk, off + (K) * 7, none⟩) (n - (K)) (cap - (K)), .int .i64 ((J : Nat) : Int), _, _, _, _, _, _, _, _, _, _, _, _, _, _, _, _, _, _, _, _, _, _, _, _, _, _, _, _, _, _, .func (.func 72) #[] #[], .slice (some ⟨blk, off + (K) * 7, none⟩) (n - (K)) (cap - (K)), .int .i64 ((J : Nat) : Int), .pointer (some ⟨blk, off + (K + (J)) * 7, none⟩), .agg (vsA xv), .slice (some ⟨blk, off + (K) * 7, none⟩) (n - (K)) (cap - (K)), .int .i64 ((J : Nat) : Int), _, _, _, _, _, _, _, _, _, _, _, _, _, _, _, _, _, _, _, _, _], defers := _ } _
                  refine alongK_read (.int .i64 ((j : Nat) : Int)) rfl rfl (fun wx hS => ex_bin rfl rfl rfl wx (bin_dec2 _ _ j J hj1 hj2 (by omega) wx)) ?_
                  change AlongK _ _ _ _ _ { tmps := #[_, .func (.func 72) #[] #[], _, _, _, .int .i64 ((kk : Nat) : Int), .slice (some ⟨blk, off + (K) * 7, none⟩) (n - (K)) (cap - (K)), .int .i64 ((J : Nat) : Int), _, _, _, _, _, _, _, _, _, _, _, _, _, _, _, _, _, _, _, _, _, _, _, _, _, _, _, _, _, _, .func (.func 72) #[] #[], .slice (some ⟨blk, off + (K) * 7, none⟩) (n - (K)) (cap - (K)), .int .i64 ((J : Nat) : Int), .pointer (some ⟨blk, off + (K + (J)) * 7, none⟩), .agg (vsA xv), .slice (some ⟨blk, off + (K) * 7, none⟩) (n - (K)) (cap - (K)), .int .i64 ((J : Nat) : Int), .int .i64 ((j : Nat) : Int), _, _, _, _, _, _, _, _, _, _, _, _, _, _, _, _, _, _, _, _], defers := _ } _
                  refine alongK_read (.pointer (some ⟨blk, off + (K + (j)) * 7, none⟩)) rfl rfl (fun wx hS => ex_index2 (k := K) (j := j) rfl rfl rfl (by omega) (by omega) wx) ?_
                  change AlongK _ _ _ _ _ { tmps := #[_, .func (.func 72) #[] #[], _, _, _, .int .i64 ((kk : Nat) : Int), .slice (some ⟨blk, off + (K) * 7, none⟩) (n - (K)) (cap - (K)), .int .i64 ((J : Nat) : Int), _, _, _, _, _, _, _, _, _, _, _, _, _, _, _, _, _, _, _, _, _, _, _, _, _, _, _, _, _, _, .func (.func 72) #[] #[], .slice (some ⟨blk, off + (K) * 7, none⟩) (n - (K)) (cap - (K)), .int .i64 ((J : Nat) : Int), .pointer (some ⟨blk, off + (K + (J)) * 7, none⟩), .agg (vsA xv), .slice (some ⟨blk, off + (K) * 7, none⟩) (n - (K)) (cap - (K)), .int .i64 ((J : Nat) : Int), .int .i64 ((j : Nat) : Int), .pointer (some ⟨blk, off + (K + (j)) * 7, none⟩), _, _, _, _, _, _, _, _, _, _, _, _, _, _, _, _, _, _, _], defers := _ } _
                  refine alongK_read (.agg (vsA yv)) rfl rfl (fun wx hS => ex_elem rfl rfl hS R HDN.out HI.out.2 Hy.out) ?_
                  change AlongK _ _ _ _ _ { tmps := #[_, .func (.func 72) #[] #[], _, _, _, .int .i64 ((kk : Nat) : Int), .slice (some ⟨blk, off + (K) * 7, none⟩) (n - (K)) (cap - (K)), .int .i64 ((J : Nat) : Int), _, _, _, _, _, _, _, _, _, _, _, _, _, _, _, _, _, _, _, _, _, _, _, _, _, _, _, _, _, _, .func (.func 72) #[] #[], .slice (some ⟨blk, off + (K) * 7, none⟩) (n - (K)) (cap - (K)), .int .i64 ((J : Nat) : Int), .pointer (some ⟨blk, off + (K + (J)) * 7, none⟩), .agg (vsA xv), .slice (some ⟨blk, off + (K) * 7, none⟩) (n - (K)) (cap - (K)), .int .i64 ((J : Nat) : Int), .int .i64 ((j : Nat) : Int), .pointer (some ⟨blk, off + (K + (j)) * 7, none⟩), .agg (vsA yv), _, _, _, _, _, _, _, _, _, _, _, _, _, _, _, _, _, _], defers := _ } _
                  refine alongK_step ?_
                  refine opK_callv (vs := [.agg (vsA xv), .agg (vsA yv)]) (cb := #[]) rfl rfl rfl rfl (enters_of Tryz.func72 (by kernel_rfl) rfl) rfl ?_
                  with_reducible refine Calls.mono (HC.out _ HS.out.drew) ?_
                  rintro e w5 ⟨rfl, hS5⟩
                  refine ⟨_, rfl, (fun x => SW w0 blk off dk x), (fun _ h => h), hS5, ?_⟩
                  change AlongK _ _ _ _ _ { tmps := #[_, .func (.func 72) #[] #[], _, _, _, .int .i64 ((kk : Nat) : Int), .slice (some ⟨blk, off + (K) * 7, none⟩) (n - (K)) (cap - (K)), .int .i64 ((J : Nat) : Int), _, _, _, _, _, _, _, _, _, _, _, _, _, _, _, _, _, _, _, _, _, _, _, _, _, _, _, _, _, _, .func (.func 72) #[] #[], .slice (some ⟨blk, off + (K) * 7, none⟩) (n - (K)) (cap - (K)), .int .i64 ((J : Nat) : Int), .pointer (some ⟨blk, off + (K + (J)) * 7, none⟩), .agg (vsA xv), .slice (some ⟨blk, off + (K) * 7, none⟩) (n - (K)) (cap - (K)), .int .i64 ((J : Nat) : Int), .int .i64 ((j : Nat) : Int), .pointer (some ⟨blk, off + (K + (j)) * 7, none⟩), .agg (vsA yv), .bool true, _, _, _, _, _, _, _, _, _, _, _, _, _, _, _, _, _], defers := _ } _
                  refine alongK_read (.bool (!true)) rfl rfl (fun wx hS => ex_not rfl rfl wx) ?_
                  change AlongK _ _ _ _ _ { tmps := #[_, .func (.func 72) #[] #[], _, _, _, .int .i64 ((kk : Nat) : Int), .slice (some ⟨blk, off + (K) * 7, none⟩) (n - (K)) (cap - (K)), .int .i64 ((J : Nat) : Int), _, _, _, _, _, _, _, _, _, _, _, _, _, _, _, _, _, _, _, _, _, _, _, _, _, _, _, _, _, _, .func (.func 72) #[] #[], .slice (some ⟨blk, off + (K) * 7, none⟩) (n - (K)) (cap - (K)), .int .i64 ((J : Nat) : Int), .pointer (some ⟨blk, off + (K + (J)) * 7, none⟩), .agg (vsA xv), .slice (some ⟨blk, off + (K) * 7, none⟩) (n - (K)) (cap - (K)), .int .i64 ((J : Nat) : Int), .int .i64 ((j : Nat) : Int), .pointer (some ⟨blk, off + (K + (j)) * 7, none⟩), .agg (vsA yv), .bool true, .bool (!true), _, _, _, _, _, _, _, _, _, _, _, _, _, _, _, _], defers := _ } _
                  refine alongK_done ?_
                  focus
                    have HS5 := Lib.hid hS5
                    clear hS5
                    go_wp2
                    go_roundw
                    case rel => exact ⟨kk, J + 1, dk, rfl, by go_num, by omega, by omega, by omega, hdk, hkk, HS5, Lib.hid ⟨by rw [HL.out.1]; exact (HNX.out.1 (by rw [HX2.out.1, HX2.out.2, Hx.out, Hy.out]; exact HK.out)).symm, HDR2.out⟩⟩
                    case measure => simp [intOf]; omega
                · rw [show (vsK xv == vsK yv) = false by simpa using hB] at HC
                  have HK := Lib.hid hB
                  clear hB
                  refine region_alongK (fun x => SW w0 blk off dk x) (.read 0 (.read 1 (.read 2 (.read 3 (.read 4 (.read 5 (.read 6 (.read 7 (.read 8 (.read 9 (.step 10 (.read 11 (.nil))))))))))))) (by kernel_rfl) rfl (by kernel_rfl) (by kernel_rfl) (fun c a d v w h => by cases d <;> exact h) (HS.out.drew) ?_
                  refine alongK_read (.func (.func 72) #[] #[]) rfl rfl (fun wx hS => ex_move (by rfl) (by rfl) wx) ?_
                  change AlongK _ _ _ _ _ { tmps := #[_, .func (.func 72) #[] #[], _, _, _, .int .i64 ((kk : Nat) : Int), .slice (some ⟨blk, off + (K) * 7, none⟩) (n - (K)) (cap - (K)), .int .i64 ((J : Nat) : Int), _, _, _, _, _, _, _, _, _, _, _, _, _, _, _, _, _, _, _, _, _, _, _, _, _, _, _, _, _, _, .func (.func 72) #[] #[], _, _, _, _, _, _, _, _, _, _, _, _, _, _, _, _, _, _, _, _, _, _, _, _, _, _, _], defers := _ } _
                  refine alongK_read (.slice (some ⟨blk, off + (K) * 7, none⟩) (n - (K)) (cap - (K))) rfl rfl (fun wx hS => ex_move (by rfl) (by rfl) wx) ?_
                  change AlongK _ _ _ _ _ { tmps := #[_, .func (.func 72) #[] #[], _, _, _, .int .i64 ((kk : Nat) : Int), .slice (some ⟨blk, off + (K) * 7, none⟩) (n - (K)) (cap - (K)), .int .i64 ((J : Nat) : Int), _, _, _, _, _, _, _, _, _, _, _, _, _, _, _, _, _, _, _, _, _, _, _, _, _, _, _, _, _, _, .func (.func 72) #[] #[], .slice (some ⟨blk, off + (K) * 7, none⟩) (n - (K)) (cap - (K)), _, _, _, _, _, _, _, _, _, _, _, _, _, _, _, _, _, _, _, _, _, _, _, _, _, _], defers := _ } _
                  refine alongK_read (.int .i64 ((J : Nat) : Int)) rfl rfl (fun wx hS => ex_move (by rfl) (by rfl) wx) ?_
                  change AlongK _ _ _ _ _ { tmps := #[_, .func (.func 72) #[] #[], _, _, _, .int .i64 ((kk : Nat) : Int), .slice (some ⟨blk, off + (K) * 7, none⟩) (n - (K)) (cap - (K)), .int .i64 ((J : Nat) : Int), _, _, _, _, _, _, _, _, _, _, _, _, _, _, _, _, _, _, _, _, _, _, _, _, _, _, _, _, _, _, .func (.func 72) #[] #[], .slice (some ⟨blk, off + (K) * 7, none⟩) (n - (K)) (cap - (K)), .int .i64 ((J : Nat) : Int), _, _, _, _, _, _, _, _, _, _, _, _, _, _, _, _, _, _, _, _, _, _, _, _, _], defers := _ } _
                  refine alongK_read (.pointer (some ⟨blk, off + (K + (J)) * 7, none⟩)) rfl rfl (fun wx hS => ex_index2 (k := K) (j := J) rfl rfl rfl (by omega) (by omega) wx) ?_
                  change AlongK _ _ _ _ _ { tmps := #[_, .func (.func 72) #[] #[], _, _, _, .int .i64 ((kk : Nat) : Int), .slice (some ⟨blk, off + (K) * 7, none⟩) (n - (K)) (cap - (K)), .int .i64 ((J : Nat) : Int), _, _, _, _, _, _, _, _, _, _, _, _, _, _, _, _, _, _, _, _, _, _, _, _, _, _, _, _, _, _, .func (.func 72) #[] #[], .slice (some ⟨blk, off + (K) * 7, none⟩) (n - (K)) (cap - (K)), .int .i64 ((J : Nat) : Int), .pointer (some ⟨blk, off + (K + (J)) * 7, none⟩), _, _, _, _, _, _, _, _, _, _, _, _, _, _, _, _, _, _, _, _, _, _, _, _], defers := _ } _
                  refine alongK_read (.agg (vsA xv)) rfl rfl (fun wx hS => ex_elem rfl rfl hS R HDN.out HI.out.1 Hx.out) ?_
                  change AlongK _ _ _ _ _ { tmps := #[_, .func (.func 72) #[] #[], _, _, _, .int .i64 ((kk : Nat) : Int), .slice (some ⟨blk, off + (K) * 7, none⟩) (n - (K)) (cap - (K)), .int .i64 ((J : Nat) : Int), _, _, _, _, _, _, _, _, _, _, _, _, _, _, _, _, _, _, _, _, _, _, _, _, _, _, _, _, _, _, .func (.func 72) #[] #[], .slice (some ⟨blk, off + (K) * 7, none⟩) (n - (K)) (cap - (K)), .int .i64 ((J : Nat) : Int), .pointer (some ⟨blk, off + (K + (J)) * 7, none⟩), .agg (vsA xv), _, _, _, _, _, _, _, _, _, _, _, _, _, _, _, _, _, _, _, _, _, _, _], defers := _ } _
                  refine alongK_read (.slice (some ⟨blk, off + (K) * 7, none⟩) (n - (K)) (cap - (K))) rfl rfl (fun wx hS => ex_move (by rfl) (by rfl) wx) ?_
                  change AlongK _ _ _ _ _ { tmps := #[_, .func (.func 72) #[] #[], _, _, _, .int .i64 ((kk : Nat) : Int), .slice (some ⟨blk, off + (K) * 7, none⟩) (n - (K)) (cap - (K)), .int .i64 ((J : Nat) : Int), _, _, _, _, _, _, _, _, _, _, _, _, _, _, _, _, _, _, _, _, _, _, _, _, _, _, _, _, _, _, .func (.func 72) #[] #[], .slice (some ⟨blk, off + (K) * 7, none⟩) (n - (K)) (cap - (K)), .int .i64 ((J : Nat) : Int), .pointer (some ⟨blk, off + (K + (J)) * 7, none⟩), .agg (vsA xv), .slice (some ⟨blk, off + (K) * 7, none⟩) (n - (K)) (cap - (K)), _, _, _, _, _, _, _, _, _, _, _, _, _, _, _, _, _, _, _, _, _, _], defers := _ } _
                  refine alongK_read (.int .i64 ((J : Nat) : Int)) rfl rfl (fun wx hS => ex_move (by rfl) (by rfl) wx) ?_
                  change AlongK _ _ _ _ _ { tmps := #[_, .func (.func 72) #[] #[], _, _, _, .int .i64 ((kk : Nat) : Int), .slice (some ⟨blk, off + (K) * 7, none⟩) (n - (K)) (cap - (K)), .int .i64 ((J : Nat) : Int), _, _, _, _, _, _, _, _, _, _, _, _, _, _, _, _, _, _, _, _, _, _, _, _, _, _, _, _, _, _, .func (.func 72) #[] #[], .slice (some ⟨blk, off + (K) * 7, none⟩) (n - (K)) (cap - (K)), .int .i64 ((J : Nat) : Int), .pointer (some ⟨blk, off + (K + (J)) * 7, none⟩), .agg (vsA xv), .slice (some ⟨blk, off + (K) * 7, none⟩) (n - (K)) (cap - (K)), .int .i64 ((J : Nat) : Int), _, _, _, _, _, _, _, _, _, _, _, _, _, _, _, _, _, _, _, _, _], defers := _ } _
                  refine alongK_read (.int .i64 ((j : Nat) : Int)) rfl rfl (fun wx hS => ex_bin rfl rfl rfl wx (bin_dec2 _ _ j J hj1 hj2 (by omega) wx)) ?_
                  change AlongK _ _ _ _ _ { tmps := #[_, .func (.func 72) #[] #[], _, _, _, .int .i64 ((kk : Nat) : Int), .slice (some ⟨blk, off + (K) * 7, none⟩) (n - (K)) (cap - (K)), .int .i64 ((J : Nat) : Int), _, _, _, _, _, _, _, _, _, _, _, _, _, _, _, _, _, _, _, _, _, _, _, _, _, _, _, _, _, _, .func (.func 72) #[] #[], .slice (some ⟨blk, off + (K) * 7, none⟩) (n - (K)) (cap - (K)), .int .i64 ((J : Nat) : Int), .pointer (some ⟨blk, off + (K + (J)) * 7, none⟩), .agg (vsA xv), .slice (some ⟨blk, off + (K) * 7, none⟩) (n - (K)) (cap - (K)), .int .i64 ((J : Nat) : Int), .int .i64 ((j : Nat) : Int), _, _, _, _, _, _, _, _, _, _, _, _, _, _, _, _, _, _, _, _], defers := _ } _
                  refine alongK_read (.pointer (some ⟨blk, off + (K + (j)) * 7, none⟩)) rfl rfl (fun wx hS => ex_index2 (k := K) (j := j) rfl rfl rfl (by omega) (by omega) wx) ?_
                  change AlongK _ _ _ _ _ { tmps := #[_, .func (.func 72) #[] #[], _, _, _, .int .i64 ((kk : Nat) : Int), .slice (some ⟨blk, off + (K) * 7, none⟩) (n - (K)) (cap - (K)), .int .i64 ((J : Nat) : Int), _, _, _, _, _, _, _, _, _, _, _, _, _, _, _, _, _, _, _, _, _, _, _, _, _, _, _, _, _, _, .func (.func 72) #[] #[], .slice (some ⟨blk, off + (K) * 7, none⟩) (n - (K)) (cap - (K)), .int .i64 ((J : Nat) : Int), .pointer (some ⟨blk, off + (K + (J)) * 7, none⟩), .agg (vsA xv), .slice (some ⟨blk, off + (K) * 7, none⟩) (n - (K)) (cap - (K)), .int .i64 ((J : Nat) : Int), .int .i64 ((j : Nat) : Int), .pointer (some ⟨blk, off + (K + (j)) * 7, none⟩), _, _, _, _, _, _, _, _, _, _, _, _, _, _, _, _, _, _, _], defers := _ } _
                  refine alongK_read (.agg (vsA yv)) rfl rfl (fun wx hS => ex_elem rfl rfl hS R HDN.out HI.out.2 Hy.out) ?_
                  change AlongK _ _ _ _ _ { tmps := #[_, .func (.func 72) #[] #[], _, _, _, .int .i64 ((kk : Nat) : Int), .slice (some ⟨blk, off + (K) * 7, none⟩) (n - (K)) (cap - (K)), .int .i64 ((J : Nat) : Int), _, _, _, _, _, _, _, _, _, _, _, _, _, _, _, _, _, _, _, _, _, _, _, _, _, _, _, _, _, _, .func (.func 72) #[] #[], .slice (some ⟨blk, off + (K) * 7, none⟩) (n - (K)) (cap - (K)), .int .i64 ((J : Nat) : Int), .pointer (some ⟨blk, off + (K + (J)) * 7, none⟩), .agg (vsA xv), .slice (some ⟨blk, off + (K) * 7, none⟩) (n - (K)) (cap - (K)), .int .i64 ((J : Nat) : Int), .int .i64 ((j : Nat) : Int), .pointer (some ⟨blk, off + (K + (j)) * 7, none⟩), .agg (vsA yv), _, _, _, _, _, _, _, _, _, _, _, _, _, _, _, _, _, _], defers := _ } _
                  refine alongK_step ?_
                  refine opK_callv (vs := [.agg (vsA xv), .agg (vsA yv)]) (cb := #[]) rfl rfl rfl rfl (enters_of Tryz.func72 (by kernel_rfl) rfl) rfl ?_
                  with_reducible refine Calls.mono (HC.out _ HS.out.drew) ?_
                  rintro e w5 ⟨rfl, hS5⟩
                  refine ⟨_, rfl, (fun x => SW w0 blk off dk x), (fun _ h => h), hS5, ?_⟩
                  change AlongK _ _ _ _ _ { tmps := #[_, .func (.func 72) #[] #[], _, _, _, .int .i64 ((kk : Nat) : Int), .slice (some ⟨blk, off + (K) * 7, none⟩) (n - (K)) (cap - (K)), .int .i64 ((J : Nat) : Int), _, _, _, _, _, _, _, _, _, _, _, _, _, _, _, _, _, _, _, _, _, _, _, _, _, _, _, _, _, _, .func (.func 72) #[] #[], .slice (some ⟨blk, off + (K) * 7, none⟩) (n - (K)) (cap - (K)), .int .i64 ((J : Nat) : Int), .pointer (some ⟨blk, off + (K + (J)) * 7, none⟩), .agg (vsA xv), .slice (some ⟨blk, off + (K) * 7, none⟩) (n - (K)) (cap - (K)), .int .i64 ((J : Nat) : Int), .int .i64 ((j : Nat) : Int), .pointer (some ⟨blk, off + (K + (j)) * 7, none⟩), .agg (vsA yv), .bool false, _, _, _, _, _, _, _, _, _, _, _, _, _, _, _, _, _], defers := _ } _
                  refine alongK_read (.bool (!false)) rfl rfl (fun wx hS => ex_not rfl rfl wx) ?_
                  change AlongK _ _ _ _ _ { tmps := #[_, .func (.func 72) #[] #[], _, _, _, .int .i64 ((kk : Nat) : Int), .slice (some ⟨blk, off + (K) * 7, none⟩) (n - (K)) (cap - (K)), .int .i64 ((J : Nat) : Int), _, _, _, _, _, _, _, _, _, _, _, _, _, _, _, _, _, _, _, _, _, _, _, _, _, _, _, _, _, _, .func (.func 72) #[] #[], .slice (some ⟨blk, off + (K) * 7, none⟩) (n - (K)) (cap - (K)), .int .i64 ((J : Nat) : Int), .pointer (some ⟨blk, off + (K + (J)) * 7, none⟩), .agg (vsA xv), .slice (some ⟨blk, off + (K) * 7, none⟩) (n - (K)) (cap - (K)), .int .i64 ((J : Nat) : Int), .int .i64 ((j : Nat) : Int), .pointer (some ⟨blk, off + (K + (j)) * 7, none⟩), .agg (vsA yv), .bool false, .bool (!false), _, _, _, _, _, _, _, _, _, _, _, _, _, _, _, _], defers := _ } _
                  refine alongK_done ?_
                  focus
                    have HS5 := Lib.hid hS5
                    clear hS5
                    have hkn : kk < n := by omega
                    have HP5 := Lib.hid (SWK.put HS5.out R kk (by omega) xv)
                    have HQ7 : Hid (∀ (o : Oper) (ρ : Operand → Value) (x' : Operand), o.op = .load 49 x' → ρ x' = .pointer (some ⟨blk, off + (K) * 7 + (J) * 7, none⟩) → (execOp ρ o).run Tryz.prog w5 = .ok (.value (.agg (vsA xv))) w5) := fun o ρ x' h1 h2 => ex_elem h1 (i := K + J) (by rw [h2, show off + (K) * 7 + (J) * 7 = off + (K + J) * 7 by omega]) HS5.out R HDN.out HI.out.1 Hx.out
                    have HQ := Lib.hid (fun (o : Oper) (ρ : Operand → Value) (x' y' : Operand) (h1 : o.op = .store 49 x' y') (h2 : ρ x' = .pointer (some ⟨blk, off + kk * 7, none⟩)) (h3 : ρ y' = .agg (vsA xv)) => ex_put h1 h2 xv h3 HS5.out R HDN.out (show kk < dk.size by omega))
                    go_wp2_with (first | (refine wpList_exs rfl _ (HQ.out _ _ (.tmp 56) (.tmp 55) rfl rfl rfl) ?_; generalize w5.setCells blk (off + kk * 7) (vsC xv) = w6 at HP5 ⊢; clear HQ HQ7) | (refine wpList_ex rfl (.agg (vsA xv)) _ (HQ7.out _ _ (.tmp 54) rfl rfl) ?_))
                    go_roundw
                    case rel => exact ⟨kk + 1, J + 1, dk.setIfInBounds kk xv, by go_num, by go_num, by omega, by omega, by omega, by rw [Array.size_setIfInBounds]; exact hdk, by omega, HP5, Lib.hid ⟨by rw [take_set (by omega), HL.out.1]; exact ((HNX.out.2 (by rw [HX2.out.1, HX2.out.2, Hx.out, Hy.out]; exact HK.out)).trans (by rw [HX2.out.1, Hx.out])).symm, by rw [show K + (J + 1) - 1 = K + J by omega, drop_set (by omega)]; exact HDR2.out⟩⟩
                    case measure => simp [intOf]; omega
              · have hjq : K + J = n := by omega
                obtain ⟨d', e1, e2, e3, e4⟩ := sw_zero HS.out R HDN.out kk (n - kk) (by omega)
                have HZ := Lib.hid (And.intro e1 (And.intro e2 e4))
                have HQ := Lib.hid (fun (o : Oper) (ρ : Operand → Value) (x' : Operand) (c : Nat) (h1 : o.op = .call { callee := .builtin .clear, args := #[x'], argTypes := #[22] }) (h2 : ρ x' = .slice (some ⟨blk, off + kk * 7, none⟩) (n - kk) c) => ex_clear h1 h2 (show n - kk ≠ 0 by omega) e3)
                clear e1 e2 e3 e4
                have hz4 : ¬ (J : Int) < ((n - (K) : Nat) : Int) := by omega
                have r1 : (n : Int) - kk = ((n - kk : Nat) : Int) := by omega
                have r2 : (kk : Int) ≤ (n : Int) := by omega
                have r3 : (kk : Int) ≤ (cap : Int) := by omega
                have r4 : (kk : Int) < (cap : Int) := by omega
                go_wp2_with (refine wpList_ex rfl (.tuple #[]) _ (HQ.out _ _ (.tmp 61) _ rfl rfl) ?_; generalize wr.setCells blk (off + kk * 7) (Builtin.zeroCells (vsA default) (n - kk)).toList = w3 at HZ ⊢; clear HQ)
                go_ret
                refine ⟨kk, d', rfl, by omega, HZ.out.2.2, HZ.out.1.trans hdk, ?_⟩
                rw [HZ.out.2.1, HL.out.1, hjq, HALL.out]
        · rw [show (vsK xv == vsK yv) = false by simpa using hB] at HC
          have HK := Lib.hid hB
          clear hB
          refine region_alongK (fun x => SW w0 blk off d x) (.read 0 (.read 1 (.read 2 (.read 3 (.read 4 (.read 5 (.read 6 (.read 7 (.read 8 (.read 9 (.step 10 (.nil)))))))))))) (by kernel_rfl) rfl (by kernel_rfl) (by kernel_rfl) (fun c a d v w h => by cases d <;> exact h) (HS.out.drew) ?_
          refine alongK_read (.func (.func 72) #[] #[]) rfl rfl (fun wx hS => ex_move (by rfl) (by rfl) wx) ?_
          change AlongK _ _ _ _ _ { tmps := #[.slice (some ⟨blk, off, none⟩) n cap, .func (.func 72) #[] #[], _, _, _, .int .i64 ((K : Nat) : Int), _, _, _, _, _, _, _, _, _, _, _, _, .func (.func 72) #[] #[], _, _, _, _, _, _, _, _, _, _, _, _, _, _, _, _, _, _, _, _, _, _, _, _, _, _, _, _, _, _, _, _, _, _, _, _, _, _, _, _, _, _, _, _, _, _, _], defers := _ } _
          refine alongK_read (.slice (some ⟨blk, off, none⟩) n cap) rfl rfl (fun wx hS => ex_move (by rfl) (by rfl) wx) ?_
          change AlongK _ _ _ _ _ { tmps := #[.slice (some ⟨blk, off, none⟩) n cap, .func (.func 72) #[] #[], _, _, _, .int .i64 ((K : Nat) : Int), _, _, _, _, _, _, _, _, _, _, _, _, .func (.func 72) #[] #[], .slice (some ⟨blk, off, none⟩) n cap, _, _, _, _, _, _, _, _, _, _, _, _, _, _, _, _, _, _, _, _, _, _, _, _, _, _, _, _, _, _, _, _, _, _, _, _, _, _, _, _, _, _, _, _, _, _], defers := _ } _
          refine alongK_read (.int .i64 ((K : Nat) : Int)) rfl rfl (fun wx hS => ex_move (by rfl) (by rfl) wx) ?_
          change AlongK _ _ _ _ _ { tmps := #[.slice (some ⟨blk, off, none⟩) n cap, .func (.func 72) #[] #[], _, _, _, .int .i64 ((K : Nat) : Int), _, _, _, _, _, _, _, _, _, _, _, _, .func (.func 72) #[] #[], .slice (some ⟨blk, off, none⟩) n cap, .int .i64 ((K : Nat) : Int), _, _, _, _, _, _, _, _, _, _, _, _, _, _, _, _, _, _, _, _, _, _, _, _, _, _, _, _, _, _, _, _, _, _, _, _, _, _, _, _, _, _, _, _, _], defers := _ } _
          refine alongK_read (.pointer (some ⟨blk, off + (K) * 7, none⟩)) rfl rfl (fun wx hS => ex_index Tryz.underlying22 Tryz.sizeOf49 rfl rfl rfl (by omega) wx) ?_
          change AlongK _ _ _ _ _ { tmps := #[.slice (some ⟨blk, off, none⟩) n cap, .func (.func 72) #[] #[], _, _, _, .int .i64 ((K : Nat) : Int), _, _, _, _, _, _, _, _, _, _, _, _, .func (.func 72) #[] #[], .slice (some ⟨blk, off, none⟩) n cap, .int .i64 ((K : Nat) : Int), .pointer (some ⟨blk, off + (K) * 7, none⟩), _, _, _, _, _, _, _, _, _, _, _, _, _, _, _, _, _, _, _, _, _, _, _, _, _, _, _, _, _, _, _, _, _, _, _, _, _, _, _, _, _, _, _, _], defers := _ } _
          refine alongK_read (.agg (vsA xv)) rfl rfl (fun wx hS => ex_elem rfl rfl hS R rfl HI.out.1 Hx.out) ?_
          change AlongK _ _ _ _ _ { tmps := #[.slice (some ⟨blk, off, none⟩) n cap, .func (.func 72) #[] #[], _, _, _, .int .i64 ((K : Nat) : Int), _, _, _, _, _, _, _, _, _, _, _, _, .func (.func 72) #[] #[], .slice (some ⟨blk, off, none⟩) n cap, .int .i64 ((K : Nat) : Int), .pointer (some ⟨blk, off + (K) * 7, none⟩), .agg (vsA xv), _, _, _, _, _, _, _, _, _, _, _, _, _, _, _, _, _, _, _, _, _, _, _, _, _, _, _, _, _, _, _, _, _, _, _, _, _, _, _, _, _, _, _], defers := _ } _
          refine alongK_read (.slice (some ⟨blk, off, none⟩) n cap) rfl rfl (fun wx hS => ex_move (by rfl) (by rfl) wx) ?_
          change AlongK _ _ _ _ _ { tmps := #[.slice (some ⟨blk, off, none⟩) n cap, .func (.func 72) #[] #[], _, _, _, .int .i64 ((K : Nat) : Int), _, _, _, _, _, _, _, _, _, _, _, _, .func (.func 72) #[] #[], .slice (some ⟨blk, off, none⟩) n cap, .int .i64 ((K : Nat) : Int), .pointer (some ⟨blk, off + (K) * 7, none⟩), .agg (vsA xv), .slice (some ⟨blk, off, none⟩) n cap, _, _, _, _, _, _, _, _, _, _, _, _, _, _, _, _, _, _, _, _, _, _, _, _, _, _, _, _, _, _, _, _, _, _, _, _, _, _, _, _, _, _], defers := _ } _
          refine alongK_read (.int .i64 ((K : Nat) : Int)) rfl rfl (fun wx hS => ex_move (by rfl) (by rfl) wx) ?_
          change AlongK _ _ _ _ _ { tmps := #[.slice (some ⟨blk, off, none⟩) n cap, .func (.func 72) #[] #[], _, _, _, .int .i64 ((K : Nat) : Int), _, _, _, _, _, _, _, _, _, _, _, _, .func (.func 72) #[] #[], .slice (some ⟨blk, off, none⟩) n cap, .int .i64 ((K : Nat) : Int), .pointer (some ⟨blk, off + (K) * 7, none⟩), .agg (vsA xv), .slice (some ⟨blk, off, none⟩) n cap, .int .i64 ((K : Nat) : Int), _, _, _, _, _, _, _, _, _, _, _, _, _, _, _, _, _, _, _, _, _, _, _, _, _, _, _, _, _, _, _, _, _, _, _, _, _, _, _, _, _], defers := _ } _
          refine alongK_read (.int .i64 ((k : Nat) : Int)) rfl rfl (fun wx hS => ex_bin rfl rfl rfl wx (bin_dec2 _ _ k K hK1 hK2 (by omega) wx)) ?_
          change AlongK _ _ _ _ _ { tmps := #[.slice (some ⟨blk, off, none⟩) n cap, .func (.func 72) #[] #[], _, _, _, .int .i64 ((K : Nat) : Int), _, _, _, _, _, _, _, _, _, _, _, _, .func (.func 72) #[] #[], .slice (some ⟨blk, off, none⟩) n cap, .int .i64 ((K : Nat) : Int), .pointer (some ⟨blk, off + (K) * 7, none⟩), .agg (vsA xv), .slice (some ⟨blk, off, none⟩) n cap, .int .i64 ((K : Nat) : Int), .int .i64 ((k : Nat) : Int), _, _, _, _, _, _, _, _, _, _, _, _, _, _, _, _, _, _, _, _, _, _, _, _, _, _, _, _, _, _, _, _, _, _, _, _, _, _, _, _], defers := _ } _
          refine alongK_read (.pointer (some ⟨blk, off + (k) * 7, none⟩)) rfl rfl (fun wx hS => ex_index Tryz.underlying22 Tryz.sizeOf49 rfl rfl rfl (by omega) wx) ?_
          change AlongK _ _ _ _ _ { tmps := #[.slice (some ⟨blk, off, none⟩) n cap, .func (.func 72) #[] #[], _, _, _, .int .i64 ((K : Nat) : Int), _, _, _, _, _, _, _, _, _, _, _, _, .func (.func 72) #[] #[], .slice (some ⟨blk, off, none⟩) n cap, .int .i64 ((K : Nat) : Int), .pointer (some ⟨blk, off + (K) * 7, none⟩), .agg (vsA xv), .slice (some ⟨blk, off, none⟩) n cap, .int .i64 ((K : Nat) : Int), .int .i64 ((k : Nat) : Int), .pointer (some ⟨blk, off + (k) * 7, none⟩), _, _, _, _, _, _, _, _, _, _, _, _, _, _, _, _, _, _, _, _, _, _, _, _, _, _, _, _, _, _, _, _, _, _, _, _, _, _, _], defers := _ } _
          refine alongK_read (.agg (vsA yv)) rfl rfl (fun wx hS => ex_elem rfl rfl hS R rfl HI.out.2 Hy.out) ?_
          change AlongK _ _ _ _ _ { tmps := #[.slice (some ⟨blk, off, none⟩) n cap, .func (.func 72) #[] #[], _, _, _, .int .i64 ((K : Nat) : Int), _, _, _, _, _, _, _, _, _, _, _, _, .func (.func 72) #[] #[], .slice (some ⟨blk, off, none⟩) n cap, .int .i64 ((K : Nat) : Int), .pointer (some ⟨blk, off + (K) * 7, none⟩), .agg (vsA xv), .slice (some ⟨blk, off, none⟩) n cap, .int .i64 ((K : Nat) : Int), .int .i64 ((k : Nat) : Int), .pointer (some ⟨blk, off + (k) * 7, none⟩), .agg (vsA yv), _, _, _, _, _, _, _, _, _, _, _, _, _, _, _, _, _, _, _, _, _, _, _, _, _, _, _, _, _, _, _, _, _, _, _, _, _, _], defers := _ } _
          refine alongK_step ?_
          refine opK_callv (vs := [.agg (vsA xv), .agg (vsA yv)]) (cb := #[]) rfl rfl rfl rfl (enters_of Tryz.func72 (by kernel_rfl) rfl) rfl ?_
          with_reducible refine Calls.mono (HC.out _ HS.out.drew) ?_
          rintro e w5 ⟨rfl, hS5⟩
          refine ⟨_, rfl, (fun x => SW w0 blk off d x), (fun _ h => h), hS5, ?_⟩
          change AlongK _ _ _ _ _ { tmps := #[.slice (some ⟨blk, off, none⟩) n cap, .func (.func 72) #[] #[], _, _, _, .int .i64 ((K : Nat) : Int), _, _, _, _, _, _, _, _, _, _, _, _, .func (.func 72) #[] #[], .slice (some ⟨blk, off, none⟩) n cap, .int .i64 ((K : Nat) : Int), .pointer (some ⟨blk, off + (K) * 7, none⟩), .agg (vsA xv), .slice (some ⟨blk, off, none⟩) n cap, .int .i64 ((K : Nat) : Int), .int .i64 ((k : Nat) : Int), .pointer (some ⟨blk, off + (k) * 7, none⟩), .agg (vsA yv), .bool false, _, _, _, _, _, _, _, _, _, _, _, _, _, _, _, _, _, _, _, _, _, _, _, _, _, _, _, _, _, _, _, _, _, _, _, _, _], defers := _ } _
          refine alongK_done ?_
          focus
            have HS5 := Lib.hid hS5
            clear hS5
            go_wp2
            go_roundw
            case rel => exact ⟨K + 1, by go_num, by omega, by omega, HS5, Lib.hid (fun i h1 h3 => (Nat.lt_succ_iff_lt_or_eq.1 h3).elim (HP.out i h1) (fun e => by subst e; rw [Hx.out, show i - 1 = k by omega, Hy.out]; exact HK.out))⟩
            case measure => simp [intOf]; omega
      · obtain rfl : K = n := by omega
        go_wp2
        go_ret
        refine ⟨K, d, rfl, Nat.le_refl _, HS.out, HN.out, ?_⟩
        have := cpt_all d K (by rw [HN.out]; exact Nat.le_refl _) HP.out
        rw [HALL.out] at this
        rw [HALL.out, this]
end
end

/-
  cert.bySigner: of each signer the first that counts, by signers.
-/
section
set_option maxRecDepth 100000
section
set_option linter.unusedVariables false
open Go.RowKit Go.Sort Go.Lib

theorem info_vts : (Tryz.prog.info? 49).map (fun i => (i.zero, i.size, i.bytes)) = some (some (.agg (vsA default)), 7, 72) := by kernel_rfl
theorem info_parts_any {P : Program} {t : TypeId} {z : Value} {s b : Nat} (h : (P.info? t).map (fun i => (i.zero, i.size, i.bytes)) = some (some z, s, b)) : ∃ i, P.info? t = some i ∧ i.zero = some z ∧ i.size = s ∧ i.bytes = b := by
  cases hq : P.info? t with
  | none => rw [hq] at h; cases h
  | some i =>
    rw [hq] at h
    simp only [Option.map_some, Option.some.injEq, Prod.mk.injEq] at h
    exact ⟨i, rfl, h.1, h.2.1, h.2.2⟩
theorem vsF_none (w : World) : (w.alloc (.cells #[] 49)).ownsRow w.heap.size 49 7 (.slice (some ⟨w.heap.size, 0, none⟩) 0 0) 0 [] :=
  World.ownsRow_made w #[] 0 (Nat.le_refl _) (by decide) rfl

set_option maxHeartbeats 1000000 in
theorem clone_some (ad : Addr) (n c : Nat) (xs : List Vs) (w : World) (hn : xs.length = n) (hnc : n ≤ c) (hx : ∀ j u, (vsF xs)[j]? = some u → w.cell? (ad.add j) = some u) (hb : n * 72 ≤ 140737488355328) :
    Calls Tryz.prog 67 #[.slice (some ad) n c] w fun e w' => ∃ g cap, e = .returned (.slice (some ⟨g, 0, none⟩) n cap) ∧ w.heap.size ≤ g ∧ n ≤ cap ∧ cap ≤ maxLen ∧ RowK vsC 7 w' g 0 xs.toArray ∧ Up w w' := by
  obtain ⟨i0, hi, hz0, hz1, hz2⟩ := info_parts_any info_vts
  have hnn := Lib.run_eql_slice_nil (P := Tryz.prog) w 22 49 (some ad) n c 0 0 Tryz.underlying22
  have Hnews : Hid (∀ a', some ad = some a' → ∀ j u, (vsF xs)[j]? = some u → (w.alloc (.cells #[] 49)).cell? (a'.add j) = some u) := by
    intro a' had j u hj
    cases had
    exact later_cellF (hx j u hj) (Up.alloc (Up.refl w) _)
  have Hone := Lib.hid (vsF_one xs)
  have Hlen : Hid ((vsF xs).length = n * 7) := Lib.hid (by rw [vsF_length, hn])
  have r0 := vsF_none w
  have HN := Lib.hid hn
  have hmax : 0 + n ≤ maxLen := by unfold maxLen; omega
  clear hx hn
  generalize hF : vsF xs = F at Hnews Hone Hlen
  have HF := Lib.hid hF
  clear hF
  go_enter Tryz.func67, Tryz.ntmps67
  go_wp2_with (at_builtin; refine wpList_append_own_src_at _ rfl (.tmp 5) (.tmp 6) 22 rfl w.heap.size 49 i0 (.agg (vsA default)) 7 72 Tryz.underlying22 hi hz0 hz1 hz2 rfl (by decide) _ 0 _ rfl r0 (some ad) n c F rfl (fun e => by cases e) Hlen.out Hnews.out Hone.out hmax (by omega) (by simp) ?_; intro v' w' hown' hgrow hwhere)
  rw [Nat.zero_add, List.nil_append] at hown'
  go_ret
  rw [← HF.out, ← HN.out] at hown'
  have hv' : v' ≠ .slice none 0 0 := fun e => by
    rcases hwhere with h | h <;> (rw [e] at h; cases h)
  obtain ⟨g, cap, rfl, e2, e3, e4, e5, e6⟩ := row_of_owns hown' hv'
  rw [HN.out] at e4 ⊢
  exact ⟨g, cap, rfl, e2, e4, e5, e6, Below.grown (Up.alloc (Up.refl w) _) hgrow (by simp) (fun q e => (r0.lt q e).1)⟩

set_option maxHeartbeats 400000 in
theorem not_gr (mV mH : Int) (mB : ByteArray) (CB M : Nat) (x : Vs) (w : World) (hT : Told w CB M mV mH mB) :
    Calls Tryz.prog 68 (#[.agg (vsA x)] ++ #[.pointer (some ⟨CB, 0, none⟩)]) w fun e w' => e = .returned (.bool (!vsOf mV mH mB x)) ∧ Gr w w' := by
  have hb0 := heap_alloc_new w (.cells (vsA x) 49)
  have g1 := Gr.alloc w (.cells (vsA x) 49)
  have hc := cell_of_row _ _ 0 _ _ _ (g1.block hT.1)
  have hC : (w.alloc (.cells (vsA x) 49)).cell? ⟨CB, 0, none⟩ = some (.func (.func 73) #[] #[.pointer (some ⟨M, 0, none⟩)]) := hc
  have Hcall := Lib.hid (counts_gr mV mH mB M x _ (g1.block hT.2))
  have HB := Lib.hid hb0
  have HG := Lib.hid g1
  clear hb0 g1 hc hT
  show Calls Tryz.prog 68 #[.agg (vsA x), .pointer (some ⟨CB, 0, none⟩)] w fun e w' => e = .returned (.bool (!vsOf mV mH mB x)) ∧ Gr w w'
  generalize vsOf mV mH mB x = D at Hcall ⊢
  go_enter Tryz.func68, Tryz.ntmps68
  go_wp2_with (refine wpList_ex rfl (.agg (vsA x)) _ (ex_loadrow (x := .tmp 2) rfl rfl _ 49 HB.out Tryz.underlying49 rfl info_vt) ?_)
  with_reducible refine Calls.mono Hcall.out ?_
  rintro e w2 ⟨rfl, hG2⟩
  have HG2 := Lib.hid (HG.out.trans hG2)
  clear hG2
  go_wp2
  go_ret
  exact ⟨rfl, HG2.out⟩

theorem vsF_eq_flat (d : Array Vs) (k : Nat) (hk : k ≤ d.size) (t : Nat) (ht : t < k * 7) : (vsF (d.toList.take k))[t]? = some ((flatK vsC 7 d)[t]!) := by
  have hl : (d.toList.take k).length = k := by rw [List.length_take, Array.length_toList]; omega
  rw [vsF_get _ t (by rw [hl]; exact ht), get_flatK _ _ _ _ (by simp [hl]; exact ht), get_flatK _ _ _ _ (by omega)]
  have e : (d.toList.take k).toArray[t / 7]! = d[t / 7]! := by
    have h7 : t / 7 < k := by omega
    have : (d.toList.take k)[t / 7]? = d.toList[t / 7]? := List.getElem?_take_of_lt h7
    rw [Array.getElem?_toList] at this
    simp [Array.getElem!_eq_getD, Array.getD_eq_getD_getElem?, this]
  rw [e]
/-- so many of a row -/
theorem varg_of_sw {w0 W : World} {blk : Nat} {d d0 : Array Vs} (h : SW w0 blk 0 d W) (R : RowK vsC 7 w0 blk 0 d0) (hs : d.size = d0.size) (k cap : Nat) (hk : k ≤ d.size) (hc : k ≤ cap) : VArg W (.slice (some ⟨blk, 0, none⟩) k cap) (d.toList.take k) := by
  have hl : (d.toList.take k).length = k := by rw [List.length_take, Array.length_toList]; omega
  refine ⟨some ⟨blk, 0, none⟩, cap, by rw [hl], by rw [hl]; exact hc, (fun e => by cases e), .inr ⟨blk, 0, rfl, fun j hj => ?_⟩⟩
  rw [hl] at hj
  have := (h.holds R.hblk R.hH hs) j (by rw [size_flatK]; omega)
  rw [this.1, vsF_eq_flat d k hk j hj]
  rfl

/-- what bySigner answers -/
structure ByS (w : World) (xs R : List Vs) (e : Ending) (w' : World) : Prop where
  ex : ∃ (a : Option Addr) (cap : Nat), e = .returned (.slice a R.length cap) ∧ VArg w' (.slice a R.length cap) R ∧ (∀ ad, a = some ad → w.heap.size ≤ ad.block)
  first : Firsts vsK xs R
  up : Up w w'

set_option maxHeartbeats 1000000 in
theorem bySigner_some (ad : Addr) (n c M : Nat) (mV mH : Int) (mB : ByteArray) (xs : List Vs) (w : World) (hn : xs.length = n) (hnc : n ≤ c) (hx : ∀ j u, (vsF xs)[j]? = some u → w.cell? (ad.add j) = some u) (hb : n * 72 ≤ 140737488355328)
    (hM : w.heap[M]? = some (.cells #[.int .i64 mV, .int .i64 mH, .string mB] 27 (0, 0))) :
    Calls Tryz.prog 39 #[.slice (some ad) n c, forV M] w fun e w' => ∃ R, ByS w (xs.filter (vsOf mV mH mB)) R e w' := by
  unfold forV
  have g1 := Gr.alloc w (.cells #[forV M] 80)
  have HT : Hid (Told (w.alloc (.cells #[.func (.func 73) #[] #[.pointer (some ⟨M, 0, none⟩)]] 80)) w.heap.size M mV mH mB) := ⟨heap_alloc_new w _, g1.block hM⟩
  have Hcl := Lib.hid (clone_some ad n c xs (w.alloc (.cells #[.func (.func 73) #[] #[.pointer (some ⟨M, 0, none⟩)]] 80)) hn hnc (fun j u hj => later_cellF (hx j u hj) g1.up) hb)
  have HG1 : Hid (Up w (w.alloc (.cells #[.func (.func 73) #[] #[.pointer (some ⟨M, 0, none⟩)]] 80))) := Lib.hid (g1.up)
  have HN := Lib.hid hn
  have hn2 : n < 4611686018427387904 / 2 := by omega
  have hs1 : (w.alloc (.cells #[.func (.func 73) #[] #[.pointer (some ⟨M, 0, none⟩)]] 80)).heap.size = w.heap.size + 1 := by simp
  have HS1 := Lib.hid hs1
  clear hx hn hM g1 hs1
  go_enter Tryz.func39, Tryz.ntmps39
  go_wp2_with fail
  generalize w.alloc (.cells #[.func (.func 73) #[] #[.pointer (some ⟨M, 0, none⟩)]] 80) = wz at HT Hcl HG1 HS1 ⊢
  with_reducible refine Calls.mono Hcl.out ?_
  rintro e w1 ⟨g, cap, rfl, hg, hcap, hcm, hR, hU1⟩
  have HR1 := Lib.hid hR
  have HU1 := Lib.hid (Up.trans HG1.out hU1)
  have hgw : w.heap.size < g := by rw [HS1.out] at hg; exact hg
  have HT1 : Hid (∀ (dk : Array Vs) (W : World), SW w1 g 0 dk W → Told W w.heap.size M mV mH mB) := fun dk W hS => by
    have l1 := lt_of_block HT.out.1
    have l2 := lt_of_block HT.out.2
    have := hU1.size
    exact ⟨(sw_other hS (by omega) (by omega)).trans ((hU1.block _ l1).trans HT.out.1), (sw_other hS (by omega) (by omega)).trans ((hU1.block _ l2).trans HT.out.2)⟩
  have Hdel := Lib.hid (delFunc_any hR 68 #[.pointer (some ⟨w.heap.size, 0, none⟩)] (enters_of Tryz.func68 (by kernel_rfl) rfl) (fun x => !vsOf mV mH mB x) n cap (by simpa using HN.out) hcap (by unfold maxLen at hcm; omega) (by omega) (fun dk W x _ hS => not_gr mV mH mB w.heap.size M x W (HT1.out dk W hS)) w1 (SWK.start hR.hH))
  clear hR hU1 hg Hcl
  go_wp2_with fail
  with_reducible refine Calls.mono Hdel.out ?_
  rintro e w2 ⟨k, d2, rfl, hk, hS2, hd2, hl2⟩
  have HU2 := Lib.hid (sw_up HU1.out hS2 (by omega))
  have hk2 : k ≤ d2.size := by omega
  have hR2 : RowK vsC 7 w2 g 0 (d2.extract 0 k) := ⟨fun x => vsC_len x, vsC_one, holds_pre (hS2.holds HR1.out.hblk HR1.out.hH (by rw [hd2]; simpa using HN.out.symm)) hk2, hS2.lt HR1.out.hblk⟩
  have e2 : (d2.extract 0 k).toList = xs.filter (vsOf mV mH mB) := by
    rw [Array.toList_extract]
    simp only [List.extract_eq_take_drop, List.drop_zero, Nat.sub_zero]
    rw [hl2]
    simp
  have hsz : (d2.extract 0 k).size = k := by simp; omega
  generalize d2.extract 0 k = d3 at hR2 e2 hsz
  have Hso := Lib.hid (sortStable_any hR2 cap (by rw [hsz]; omega))
  rw [hsz] at Hso
  have HE2 := Lib.hid e2
  have HZ := Lib.hid hsz
  have HR2 := Lib.hid hR2
  clear hS2 hd2 hl2 hR2 e2 hsz Hdel
  go_wp2_with fail
  with_reducible refine Calls.mono Hso.out ?_
  rintro e w3 ⟨rfl, d4, hS4, hs4, ha4⟩
  have hz4 : d4.size = k := by have := ha4.1; simp at this; rw [this, HZ.out]
  have HU3 := Lib.hid (sw_up HU2.out hS4 (by omega))
  have hR4 : RowK vsC 7 w3 g 0 d4 := ⟨fun x => vsC_len x, vsC_one, hS4.holds HR2.out.hblk HR2.out.hH (by rw [hz4, HZ.out]), hS4.lt HR2.out.hblk⟩
  have Hco := Lib.hid (compact_any hR4 k cap hz4 (by omega) (by unfold maxLen at hcm; omega) (by omega) w3 (SWK.start hR4.hH))
  have HR4 := Lib.hid hR4
  have HF : Hid (Firsts vsK (xs.filter (vsOf mV mH mB)) (cpt vsK d4.toList)) := by
    have h1 := cpt_firsts vsK hs4
    exact ⟨h1.up, fun z => (h1.fst z).trans (by rw [fk_alike vsK ha4 z, HE2.out])⟩
  have HZ4 := Lib.hid hz4
  clear hS4 hs4 ha4 hz4 hR4 Hso
  go_wp2_with fail
  with_reducible refine Calls.mono Hco.out ?_
  rintro e w4 ⟨k5, d5, rfl, hk5, hS5, hd5, hl5⟩
  have HV := Lib.hid (varg_of_sw hS5 HR4.out (by rw [hd5, HZ4.out]) k5 cap (by omega) (by omega))
  have HU4 := Lib.hid (sw_up HU3.out hS5 (by omega))
  have HL5 : Hid (d5.toList.take k5 = cpt vsK d4.toList ∧ (cpt vsK d4.toList).length = k5) := ⟨hl5, by rw [← hl5, List.length_take, Array.length_toList]; omega⟩
  clear hS5 hd5 hl5
  go_wp2
  go_ret
  refine ⟨cpt vsK d4.toList, ⟨some ⟨g, 0, none⟩, cap, by rw [HL5.out.2]; rfl, by have := HV.out; rw [HL5.out.1] at this; rw [HL5.out.2]; exact this, fun ad e => by cases e; exact Nat.le_of_lt hgw⟩, HF.out, HU4.out⟩
end
end

/-
  cert.Make of whatever statements.
-/
section
set_option maxRecDepth 100000
section
set_option linter.unusedVariables false
open Go.RowKit Go.Sort Go.Lib

theorem clone_nil (n c : Nat) (w : World) : Calls Tryz.prog 67 #[.slice none n c] w fun e w' => e = .returned (.slice none 0 0) ∧ w' = w := by
  have hnn := Lib.run_eql_slice_nil (P := Tryz.prog) w 22 49 none n c 0 0 Tryz.underlying22
  go_enter Tryz.func67, Tryz.ntmps67
  go_wp2
  go_ret
  exact ⟨rfl, rfl⟩
theorem del_nil (fv : Value) (w : World) : Calls Tryz.prog 66 #[.slice none 0 0, fv] w fun e w' => e = .returned (.slice none 0 0) ∧ w' = w := by
  have H := Lib.hid (index_zero none 0 fv w)
  go_enter Tryz.func66, Tryz.ntmps66
  go_wp2_with fail
  with_reducible refine Calls.mono H.out ?_
  rintro e w1 ⟨rfl, rfl⟩
  go_wp2
  go_ret
  exact ⟨rfl, rfl⟩
theorem insertion_nil (fv : Value) (w : World) : Calls Tryz.prog 129 #[.slice none 0 0, .int .i64 0, .int .i64 0, fv] w fun e w' => e = .returned (.tuple #[]) ∧ w' = w := by
  go_enter Tryz.func129, Tryz.ntmps129
  go_wp2
  go_loop [8] (fun vi => vi = .int .i64 1) (fun vi => 0)
  case atStart => rfl
  case round =>
    obtain rfl := hrel
    go_wp2
    go_end0
    exact ⟨rfl, rfl⟩
theorem stable_nil (fv : Value) (w : World) : Calls Tryz.prog 100 #[.slice none 0 0, .int .i64 0, fv] w fun e w' => e = .returned (.tuple #[]) ∧ w' = w := by
  have H := Lib.hid (insertion_nil fv w)
  go_enter Tryz.func100, Tryz.ntmps100
  go_wp2
  go_loop [7, 8] (fun va vb => va = .int .i64 0 ∧ vb = .int .i64 20) (fun _ _ => 0)
  case atStart => exact ⟨rfl, rfl⟩
  case round =>
    obtain ⟨rfl, rfl⟩ := hrel
    go_wp2_with fail
    with_reducible refine Calls.mono H.out ?_
    rintro e w1 ⟨rfl, rfl⟩
    go_wp2
    go_loop [6] (fun va => va = .int .i64 20) (fun _ => 0)
    case atStart => rfl
    case round =>
      obtain rfl := hrel
      go_wp2
      go_end0
      exact ⟨rfl, rfl⟩
theorem sort_nil (fv : Value) (w : World) : Calls Tryz.prog 69 #[.slice none 0 0, fv] w fun e w' => e = .returned (.tuple #[]) ∧ w' = w := by
  have H := Lib.hid (stable_nil fv w)
  go_enter Tryz.func69, Tryz.ntmps69
  go_wp2_with fail
  with_reducible refine Calls.mono H.out ?_
  rintro e w1 ⟨rfl, rfl⟩
  go_wp2
  go_end0
  exact ⟨rfl, rfl⟩
theorem compact_nil (fv : Value) (w : World) : Calls Tryz.prog 71 #[.slice none 0 0, fv] w fun e w' => e = .returned (.slice none 0 0) ∧ w' = w := by
  go_enter Tryz.func71, Tryz.ntmps71
  go_wp2
  go_ret
  exact ⟨rfl, rfl⟩
set_option maxHeartbeats 400000 in
theorem bySigner_nil (M : Nat) (w : World) : Calls Tryz.prog 39 #[.slice none 0 0, forV M] w fun e w' => ∃ R, ByS w [] R e w' := by
  unfold forV
  have H1 := Lib.hid (fun w => clone_nil 0 0 w)
  have H2 := Lib.hid del_nil
  have H3 := Lib.hid sort_nil
  have H4 := Lib.hid compact_nil
  go_enter Tryz.func39, Tryz.ntmps39
  go_wp2_with fail
  with_reducible refine Calls.mono (H1.out _) ?_
  rintro e w1 ⟨rfl, rfl⟩
  go_wp2_with fail
  with_reducible refine Calls.mono (H2.out _ _) ?_
  rintro e w1 ⟨rfl, rfl⟩
  go_wp2_with fail
  with_reducible refine Calls.mono (H3.out _ _) ?_
  rintro e w1 ⟨rfl, rfl⟩
  go_wp2_with fail
  with_reducible refine Calls.mono (H4.out _ _) ?_
  rintro e w1 ⟨rfl, rfl⟩
  go_wp2
  go_ret
  exact ⟨[], ⟨none, 0, rfl, ⟨none, 0, rfl, Nat.le_refl _, fun _ => rfl, .inl rfl⟩, fun ad e => by cases e⟩, ⟨List.Pairwise.nil, fun _ => rfl⟩, Up.alloc (Up.refl _) _⟩

/-- bySigner of whatever slice -/
theorem bySigner_any (lv : Value) (xs : List Vs) (M : Nat) (mV mH : Int) (mB : ByteArray) (w : World) (hl : VArg w lv xs) (hb : xs.length * 72 ≤ 140737488355328)
    (hM : w.heap[M]? = some (.cells #[.int .i64 mV, .int .i64 mH, .string mB] 27 (0, 0))) :
    Calls Tryz.prog 39 #[lv, forV M] w fun e w' => ∃ R, ByS w (xs.filter (vsOf mV mH mB)) R e w' := by
  obtain ⟨a, cap, rfl, h1, h2, h3⟩ := hl
  cases a with
  | none =>
    obtain rfl := h2 rfl
    have : xs = [] := List.eq_nil_of_length_eq_zero (by omega)
    subst this
    exact bySigner_nil _ w
  | some ad =>
    refine bySigner_some ad xs.length cap M mV mH mB xs w rfl h1 (fun j u hj => ?_) hb hM
    have hl : j < xs.length * 7 := by have := (List.getElem?_eq_some_iff.1 hj).1; rwa [vsF_length] at this
    rcases h3 with rfl | ⟨b, off, e, h4⟩
    · simp at hl
    · cases e
      have h2 : ((⟨b, off, none⟩ : Addr).add j) = ⟨b, off + j, none⟩ := by unfold Addr.add; split <;> simp_all
      rw [h2, h4 j hl, hj]

theorem results_made {fn : Func} {p q : Tmp} (h : fn.results = #[.cell p 24, .tmp q]) (tmps : Array Value) (w : World) (A : Nat) (cs : Array Value) (u : Value) (hp : tmps.getD p undef = .pointer (some ⟨A, 0, none⟩)) (ht : tmps.getD q undef = u)
    (hA : w.heap[A]? = some (.cells cs 24 (0, 0))) (hcs : cs.size = 4) :
    (results fn tmps).run Tryz.prog w = .ok (.tuple #[.agg cs, u]) w := by
  have hp' : tmps[p]?.getD undef = .pointer (some ⟨A, 0, none⟩) := by simpa using hp
  have ht' : tmps[q]?.getD undef = u := by simpa using ht
  have hl := run_loadVar_row (P := Tryz.prog) w A 24 24 cs (0, 0) _ hA Tryz.underlying24 rfl (by rw [info_ct, hcs])
  simp [results, h, hp', ht', asAddr, hl]
theorem ex_slc {o : Oper} {x y : Operand} {ρ : Operand → Value} {g go n cap q : Nat} (hop : o.op = .slice 22 x none (some y) none) (hx : ρ x = .slice (some ⟨g, go, none⟩) n cap) (hy : ρ y = .int .i64 (q : Int)) (hq : 0 < q ∧ q ≤ cap) (w : World) : (execOp ρ o).run Tryz.prog w = .ok (.value (.slice (some ⟨g, go, none⟩) q cap)) w := by
  have h1 : (q : Int) ≤ (cap : Int) := by omega
  have h4 : (cap : Nat) ≠ 0 := by omega
  unfold execOp; rw [hop]; simp only [hx, hy, Option.map_some, Option.map_none]
  simp [Instr.sliceAt, go_sem, h1, h4, Result.andThen]
theorem ex_build4 {P : Program} {o : Oper} {ρ : Operand → Value} {v : Value} {a b c d : Operand} {t : TypeId} {v0 v1 v2 v3 : Value} (w w' : World) (hr : (Instr.build t #[(0, v0), (1, v1), (2, v2), (3, v3)]).run P w = .ok v w') (hop : o.op = .build t #[(0, a), (1, b), (2, c), (3, d)]) (ha : ρ a = v0) (hb : ρ b = v1) (hc : ρ c = v2) (hd : ρ d = v3) : (execOp ρ o).run P w = .ok (.value v) w' :=
  ex_build hop (by simp only [List.map_toArray, List.map_cons, List.map_nil, ha, hb, hc, hd]) w w' hr

/-- none -/
def noCt : Array Value := #[.int .i64 0, .int .i64 0, .string ⟨#[]⟩, .slice none 0 0]
set_option maxHeartbeats 1000000 in
theorem make_low (lv : Value) (V H : Int) (B : ByteArray) (q : Int) (w : World) (hq : q < 1) :
    Calls Tryz.prog 18 #[lv, .agg #[.int .i64 V, .int .i64 H, .string B], .int .i64 q] w fun e w' => e = .returned (.tuple #[.agg noCt, .bool false]) ∧ Up w w' := by
  have hm := heap_alloc_new (w.alloc (.cells #[.int .i64 V, .int .i64 H, .string B] 27)) (.cells #[.int .i64 0, .int .i64 0, .string ⟨#[]⟩, .slice none 0 0] 24)
  rw [show (w.alloc (.cells #[.int .i64 V, .int .i64 H, .string B] 27)).heap.size = w.heap.size + 1 by simp] at hm
  have HM := Lib.hid hm
  clear hm
  go_enter Tryz.func18, Tryz.ntmps18
  go_wp2
  exact bodyPost_ret (results_made rfl _ _ _ _ _ rfl rfl HM.out rfl) rfl ⟨rfl, Up.alloc (Up.alloc (Up.refl w) _) _⟩

/-- what Make answers where a quorum is asked -/
structure MadeP (w : World) (xs : List Vs) (V H : Int) (B : ByteArray) (q : Nat) (e : Ending) (w' : World) : Prop where
  ex : ∃ R, Firsts vsK (xs.filter (vsOf V H B)) R ∧ (R.length < q → e = .returned (.tuple #[.agg noCt, .bool false])) ∧
    (q ≤ R.length → ∃ (a : Option Addr) (cap : Nat), e = .returned (.tuple #[.agg #[.int .i64 V, .int .i64 H, .string B, .slice a q cap], .bool true]) ∧ VArg w' (.slice a q cap) (R.take q))
  up : Up w w'

theorem VArg.take {W : World} {a : Option Addr} {cap : Nat} {xs : List Vs} (h : VArg W (.slice a xs.length cap) xs) (q : Nat) (hq : q ≤ xs.length) : VArg W (.slice a q cap) (xs.take q) := by
  obtain ⟨a', cap', e, h1, h2, h3⟩ := h
  cases e
  have hl : (xs.take q).length = q := by rw [List.length_take]; omega
  refine ⟨a, cap, by rw [hl], by rw [hl]; omega, h2, ?_⟩
  rcases h3 with rfl | ⟨b, off, e, h4⟩
  · exact .inl (by simp)
  · refine .inr ⟨b, off, e, fun j hj => ?_⟩
    rw [hl] at hj
    rw [h4 j (by omega)]
    have := vsF_append (xs.take q) (xs.drop q)
    rw [List.take_append_drop] at this
    rw [this, List.getElem?_append_left (by rw [vsF_length, hl]; exact hj)]
theorem varg_row {W : World} {g go q cap : Nat} {xs : List Vs} (h : VArg W (.slice (some ⟨g, go, none⟩) q cap) xs) {C : Nat} (hC : C ≠ g) (cs : Array Value) : VArg (W.setRow C cs) (.slice (some ⟨g, go, none⟩) q cap) xs := by
  obtain ⟨a', cap', e, h1, h2, h3⟩ := h
  cases e
  refine ⟨_, _, rfl, h1, h2, h3.imp id ?_⟩
  rintro ⟨b, off, e, h4⟩
  cases e
  exact ⟨g, go, rfl, fun j hj => by rw [← h4 j hj]; exact World.cell?_of_block (setRow_other W C g cs (fun e => hC e.symm))⟩
set_option maxHeartbeats 4000000 in
theorem make_high (lv : Value) (xs : List Vs) (V H : Int) (B : ByteArray) (qn : Nat) (w : World) (hl : VArg w lv xs) (hb : xs.length * 72 ≤ 140737488355328) (hq : 1 ≤ qn) (hq2 : qn ≤ 9223372036854775807) :
    Calls Tryz.prog 18 #[lv, .agg #[.int .i64 V, .int .i64 H, .string B], .int .i64 (qn : Int)] w (MadeP w xs V H B qn) := by
  have HFor := Lib.hid (fun wx => votesFor_any V H B wx)
  have HBy : Hid (∀ (wx : World) (M : Nat), VArg wx lv xs → wx.heap[M]? = some (.cells #[.int .i64 V, .int .i64 H, .string B] 27 (0, 0)) → Calls Tryz.prog 39 #[lv, forV M] wx fun e w' => ∃ R, ByS wx (xs.filter (vsOf V H B)) R e w') := fun wx M h1 h2 => bySigner_any lv xs M V H B wx h1 hb h2
  have hma := heap_alloc_new w (.cells #[.int .i64 V, .int .i64 H, .string B] 27)
  have u2 := Up.alloc (Up.refl (w.alloc (.cells #[.int .i64 V, .int .i64 H, .string B] 27))) (.cells #[.int .i64 0, .int .i64 0, .string ⟨#[]⟩, .slice none 0 0] 24)
  have hmb := (u2.block _ (lt_of_block hma)).trans hma
  have hcb := heap_alloc_new (w.alloc (.cells #[.int .i64 V, .int .i64 H, .string B] 27)) (.cells #[.int .i64 0, .int .i64 0, .string ⟨#[]⟩, .slice none 0 0] 24)
  rw [show (w.alloc (.cells #[.int .i64 V, .int .i64 H, .string B] 27)).heap.size = w.heap.size + 1 by simp] at hcb
  have HMB0 := Lib.hid hmb
  have HCB0 := Lib.hid hcb
  have HU0 := Lib.hid (Up.trans (Up.alloc (Up.refl w) (.cells #[.int .i64 V, .int .i64 H, .string B] 27)) u2)
  have HL0 := Lib.hid (hl.up HU0.out)
  have hz : ¬ (qn : Int) < 1 := by omega
  obtain ⟨c0, c1, c2⟩ := mk_cells hmb
  clear hma u2 hmb hcb hl
  go_enter Tryz.func18, Tryz.ntmps18
  go_wp2_with fail
  have hne : w.heap.size ≠ w.heap.size + 1 := by omega
  have HCBW : Hid (w.heap.size ≤ w.heap.size + 1) := Lib.hid (by omega)
  generalize w.heap.size + 1 = CB at HCB0 hne HCBW ⊢
  have HCBW2 := HCBW
  generalize w.heap.size = MB at HMB0 hne HCBW c0 c1 c2 ⊢
  generalize (w.alloc (.cells #[.int .i64 V, .int .i64 H, .string B] 27)).alloc (.cells #[.int .i64 0, .int .i64 0, .string ⟨#[]⟩, .slice none 0 0] 24) = w1 at HMB0 HCB0 HU0 HL0 c0 c1 c2 ⊢
  with_reducible refine Calls.mono (HFor.out _) ?_
  rintro e w2 ⟨rfl, hw2⟩
  have u2 := Up.alloc (Up.refl w1) (.cells #[.int .i64 V, .int .i64 H, .string B] 27)
  rw [← hw2] at u2
  have hm2 : w2.heap[w1.heap.size]? = some (.cells #[.int .i64 V, .int .i64 H, .string B] 27 (0, 0)) := by rw [hw2]; exact heap_alloc_new _ _
  have Hb := Lib.hid (HBy.out w2 _ (HL0.out.up u2) hm2)
  have HU2 := Lib.hid (Up.trans HU0.out u2)
  have HMB2 := Lib.hid ((u2.block _ (lt_of_block HMB0.out)).trans HMB0.out)
  have HCB2 := Lib.hid ((u2.block _ (lt_of_block HCB0.out)).trans HCB0.out)
  clear hw2 hm2 u2 c0 c1 c2
  go_wp2_with fail
  with_reducible refine Calls.mono Hb.out ?_
  rintro e w3 ⟨R, ⟨a, cap, rfl, hv, ha⟩, hf, hU3⟩
  have HU3 := Lib.hid (Up.trans HU2.out hU3)
  have HMB3 := Lib.hid ((hU3.block _ (lt_of_block HMB2.out)).trans HMB2.out)
  have HAB : Hid (∀ ad, a = some ad → CB < ad.block) := fun ad e => Nat.lt_of_lt_of_le (lt_of_block HCB2.out) (ha ad e)
  have HCB3 := Lib.hid ((hU3.block _ (lt_of_block HCB2.out)).trans HCB2.out)
  have HV := Lib.hid hv
  have HF := Lib.hid hf
  have hcap : R.length ≤ cap := by obtain ⟨_, _, e, h, _⟩ := hv; cases e; exact h
  clear hv ha hf hU3 Hb
  generalize hrn : R.length = rn at HV hcap
  have HRN := Lib.hid hrn
  clear hrn
  by_cases hlt : rn < qn
  · have hz2 : (rn : Int) < (qn : Int) := by omega
    go_wp2_with (refine wpList_store_agg rfl 24 (.tmp 6) (.tmp 20) rfl CB _ #[.int .i64 0, .int .i64 0, .string ⟨#[]⟩, .slice none 0 0] rfl rfl 24 HCB3.out info_ct rfl (one_ct _ _ _ _ _ _) ?_; intro w12 hg12 hgr12)
    refine bodyPost_ret (results_made rfl _ _ _ _ _ rfl rfl hg12 rfl) rfl ⟨⟨R, HF.out, fun _ => rfl, fun h => absurd h (by rw [HRN.out]; omega)⟩, up_at HU3.out hgr12 HCBW2.out⟩
  · have hz2 : ¬ (rn : Int) < (qn : Int) := by omega
    have hqc : 0 < qn ∧ qn ≤ cap := ⟨by omega, by omega⟩
    obtain ⟨g, go, hag⟩ := HV.out.ptr (by have := HRN.out; omega)
    have hgo : CB ≠ g := by have := HAB.out _ hag; simp at this; omega
    clear HAB
    subst hag
    have HV2 : Hid (VArg w3 (.slice (some ⟨g, go, none⟩) qn cap) (R.take qn)) := Lib.hid (VArg.take (by have := HV.out; rwa [← HRN.out] at this) qn (by rw [HRN.out]; omega))
    go_wp2_with fail
    have HMB := Lib.hid (show w3.drew.heap[MB]? = _ from HMB3.out)
    have HCB := Lib.hid (show w3.drew.heap[CB]? = _ from HCB3.out)
    have HMB2' : Hid ((w3.drew.setRow CB #[.int .i64 V, .int .i64 H, .string B, .slice (some ⟨g, go, none⟩) qn cap]).heap[MB]? = some (.cells #[.int .i64 V, .int .i64 H, .string B] 27 (0, 0))) := Lib.hid (by rw [setRow_other _ _ _ _ hne]; exact HMB.out)
    have HUD := Lib.hid (Up.trans HU3.out (Up.drew1 w3))
    have HV3 := Lib.hid (HV2.out.up (Up.drew1 w3))
    clear HMB2
    have HMB2 := HMB2'
    generalize w3 = wz at HMB HCB HMB2 HUD HV3 ⊢
    refine region_alongK (fun x => x.heap[MB]? = some (.cells #[.int .i64 V, .int .i64 H, .string B] 27 (0, 0))) (.read 0 (.read 1 (.read 2 (.read 3 (.read 4 (.read 5 (.read 6 (.read 7 (.read 8 (.read 9 (.step 10 (.read 11 (.nil))))))))))))) (by kernel_rfl) rfl (by kernel_rfl) (by kernel_rfl) (fun c a d v w h => by cases d <;> exact h) (HMB.out) ?_
    refine alongK_read (.pointer (some ⟨MB, 0, none⟩)) rfl rfl (fun wx hS => ex_field rfl rfl wx (by simp [go_sem])) ?_
    change AlongK _ _ _ _ _ { tmps := #[_, _, .int .i64 (qn : Int), _, .pointer (some ⟨MB, 0, none⟩), _, .pointer (some ⟨CB, 0, none⟩), .bool false, .slice (some ⟨g, go, none⟩) rn cap, _, _, _, _, _, _, _, _, _, _, _, _, .pointer (some ⟨MB, 0, none⟩), _, _, _, _, _, _, _, _, _], defers := _ } _
    refine alongK_read (.int .i64 V) rfl rfl (fun wx hS => ex_load Tryz.isAgg3 rfl rfl wx ((mk_cells hS).1)) ?_
    change AlongK _ _ _ _ _ { tmps := #[_, _, .int .i64 (qn : Int), _, .pointer (some ⟨MB, 0, none⟩), _, .pointer (some ⟨CB, 0, none⟩), .bool false, .slice (some ⟨g, go, none⟩) rn cap, _, _, _, _, _, _, _, _, _, _, _, _, .pointer (some ⟨MB, 0, none⟩), .int .i64 V, _, _, _, _, _, _, _, _], defers := _ } _
    refine alongK_read (.pointer (some ⟨MB, 1, none⟩)) rfl rfl (fun wx hS => ex_field rfl rfl wx (by simp [go_sem])) ?_
    change AlongK _ _ _ _ _ { tmps := #[_, _, .int .i64 (qn : Int), _, .pointer (some ⟨MB, 0, none⟩), _, .pointer (some ⟨CB, 0, none⟩), .bool false, .slice (some ⟨g, go, none⟩) rn cap, _, _, _, _, _, _, _, _, _, _, _, _, .pointer (some ⟨MB, 0, none⟩), .int .i64 V, .pointer (some ⟨MB, 1, none⟩), _, _, _, _, _, _, _], defers := _ } _
    refine alongK_read (.int .i64 H) rfl rfl (fun wx hS => ex_load Tryz.isAgg3 rfl rfl wx ((mk_cells hS).2.1)) ?_
    change AlongK _ _ _ _ _ { tmps := #[_, _, .int .i64 (qn : Int), _, .pointer (some ⟨MB, 0, none⟩), _, .pointer (some ⟨CB, 0, none⟩), .bool false, .slice (some ⟨g, go, none⟩) rn cap, _, _, _, _, _, _, _, _, _, _, _, _, .pointer (some ⟨MB, 0, none⟩), .int .i64 V, .pointer (some ⟨MB, 1, none⟩), .int .i64 H, _, _, _, _, _, _], defers := _ } _
    refine alongK_read (.pointer (some ⟨MB, 2, none⟩)) rfl rfl (fun wx hS => ex_field rfl rfl wx (by simp [go_sem])) ?_
    change AlongK _ _ _ _ _ { tmps := #[_, _, .int .i64 (qn : Int), _, .pointer (some ⟨MB, 0, none⟩), _, .pointer (some ⟨CB, 0, none⟩), .bool false, .slice (some ⟨g, go, none⟩) rn cap, _, _, _, _, _, _, _, _, _, _, _, _, .pointer (some ⟨MB, 0, none⟩), .int .i64 V, .pointer (some ⟨MB, 1, none⟩), .int .i64 H, .pointer (some ⟨MB, 2, none⟩), _, _, _, _, _], defers := _ } _
    refine alongK_read (.string B) rfl rfl (fun wx hS => ex_load Tryz.isAgg9 rfl rfl wx ((mk_cells hS).2.2)) ?_
    change AlongK _ _ _ _ _ { tmps := #[_, _, .int .i64 (qn : Int), _, .pointer (some ⟨MB, 0, none⟩), _, .pointer (some ⟨CB, 0, none⟩), .bool false, .slice (some ⟨g, go, none⟩) rn cap, _, _, _, _, _, _, _, _, _, _, _, _, .pointer (some ⟨MB, 0, none⟩), .int .i64 V, .pointer (some ⟨MB, 1, none⟩), .int .i64 H, .pointer (some ⟨MB, 2, none⟩), .string B, _, _, _, _], defers := _ } _
    refine alongK_read (.slice (some ⟨g, go, none⟩) rn cap) rfl rfl (fun wx hS => ex_move (by rfl) (by rfl) wx) ?_
    change AlongK _ _ _ _ _ { tmps := #[_, _, .int .i64 (qn : Int), _, .pointer (some ⟨MB, 0, none⟩), _, .pointer (some ⟨CB, 0, none⟩), .bool false, .slice (some ⟨g, go, none⟩) rn cap, _, _, _, _, _, _, _, _, _, _, _, _, .pointer (some ⟨MB, 0, none⟩), .int .i64 V, .pointer (some ⟨MB, 1, none⟩), .int .i64 H, .pointer (some ⟨MB, 2, none⟩), .string B, .slice (some ⟨g, go, none⟩) rn cap, _, _, _], defers := _ } _
    refine alongK_read (.int .i64 (qn : Int)) rfl rfl (fun wx hS => ex_move (by rfl) (by rfl) wx) ?_
    change AlongK _ _ _ _ _ { tmps := #[_, _, .int .i64 (qn : Int), _, .pointer (some ⟨MB, 0, none⟩), _, .pointer (some ⟨CB, 0, none⟩), .bool false, .slice (some ⟨g, go, none⟩) rn cap, _, _, _, _, _, _, _, _, _, _, _, _, .pointer (some ⟨MB, 0, none⟩), .int .i64 V, .pointer (some ⟨MB, 1, none⟩), .int .i64 H, .pointer (some ⟨MB, 2, none⟩), .string B, .slice (some ⟨g, go, none⟩) rn cap, .int .i64 (qn : Int), _, _], defers := _ } _
    refine alongK_read (.slice (some ⟨g, go, none⟩) qn cap) rfl rfl (fun wx hS => ex_slc rfl rfl rfl hqc wx) ?_
    change AlongK _ _ _ _ _ { tmps := #[_, _, .int .i64 (qn : Int), _, .pointer (some ⟨MB, 0, none⟩), _, .pointer (some ⟨CB, 0, none⟩), .bool false, .slice (some ⟨g, go, none⟩) rn cap, _, _, _, _, _, _, _, _, _, _, _, _, .pointer (some ⟨MB, 0, none⟩), .int .i64 V, .pointer (some ⟨MB, 1, none⟩), .int .i64 H, .pointer (some ⟨MB, 2, none⟩), .string B, .slice (some ⟨g, go, none⟩) rn cap, .int .i64 (qn : Int), .slice (some ⟨g, go, none⟩) qn cap, _], defers := _ } _
    refine alongK_read (.agg #[.int .i64 V, .int .i64 H, .string B, .slice (some ⟨g, go, none⟩) qn cap]) rfl rfl (fun wx hS => ex_build4 wx wx (by simp [go_sem]) rfl rfl rfl rfl rfl) ?_
    change AlongK _ _ _ _ _ { tmps := #[_, _, .int .i64 (qn : Int), _, .pointer (some ⟨MB, 0, none⟩), _, .pointer (some ⟨CB, 0, none⟩), .bool false, .slice (some ⟨g, go, none⟩) rn cap, _, _, _, _, _, _, _, _, _, _, _, _, .pointer (some ⟨MB, 0, none⟩), .int .i64 V, .pointer (some ⟨MB, 1, none⟩), .int .i64 H, .pointer (some ⟨MB, 2, none⟩), .string B, .slice (some ⟨g, go, none⟩) rn cap, .int .i64 (qn : Int), .slice (some ⟨g, go, none⟩) qn cap, .agg #[.int .i64 V, .int .i64 H, .string B, .slice (some ⟨g, go, none⟩) qn cap]], defers := _ } _
    refine alongK_step ?_
    refine opK_store (wz.drew.setRow CB #[.int .i64 V, .int .i64 H, .string B, .slice (some ⟨g, go, none⟩) qn cap]) rfl rfl (ex_storerow rfl rfl rfl wz.drew 24 HCB.out info_ct rfl (one_ct _ _ _ _ _ _)) (fun x => x.heap[MB]? = some (.cells #[.int .i64 V, .int .i64 H, .string B] 27 (0, 0))) (fun _ h => h) HMB2.out ?_
    change AlongK _ _ _ _ _ { tmps := #[_, _, .int .i64 (qn : Int), _, .pointer (some ⟨MB, 0, none⟩), _, .pointer (some ⟨CB, 0, none⟩), .bool false, .slice (some ⟨g, go, none⟩) rn cap, _, _, _, _, _, _, _, _, _, _, _, _, .pointer (some ⟨MB, 0, none⟩), .int .i64 V, .pointer (some ⟨MB, 1, none⟩), .int .i64 H, .pointer (some ⟨MB, 2, none⟩), .string B, .slice (some ⟨g, go, none⟩) rn cap, .int .i64 (qn : Int), .slice (some ⟨g, go, none⟩) qn cap, .agg #[.int .i64 V, .int .i64 H, .string B, .slice (some ⟨g, go, none⟩) qn cap]], defers := _ } _
    refine alongK_read (.bool true) rfl rfl (fun wx hS => ex_assign (by rfl) (by rfl) wx) ?_
    change AlongK _ _ _ _ _ { tmps := #[_, _, .int .i64 (qn : Int), _, .pointer (some ⟨MB, 0, none⟩), _, .pointer (some ⟨CB, 0, none⟩), .bool true, .slice (some ⟨g, go, none⟩) rn cap, _, _, _, _, _, _, _, _, _, _, _, _, .pointer (some ⟨MB, 0, none⟩), .int .i64 V, .pointer (some ⟨MB, 1, none⟩), .int .i64 H, .pointer (some ⟨MB, 2, none⟩), .string B, .slice (some ⟨g, go, none⟩) rn cap, .int .i64 (qn : Int), .slice (some ⟨g, go, none⟩) qn cap, .agg #[.int .i64 V, .int .i64 H, .string B, .slice (some ⟨g, go, none⟩) qn cap]], defers := _ } _
    refine alongK_done ?_
    have HEND := Lib.hid (setRow_heap wz.drew CB _ #[.int .i64 V, .int .i64 H, .string B, .slice (some ⟨g, go, none⟩) qn cap] 24 (0, 0) HCB.out)
    have HUE := Lib.hid (up_at HUD.out (grownBy_setRow wz.drew CB #[.int .i64 V, .int .i64 H, .string B, .slice (some ⟨g, go, none⟩) qn cap]) HCBW2.out)
    have HV4 : Hid (VArg (wz.drew.setRow CB #[.int .i64 V, .int .i64 H, .string B, .slice (some ⟨g, go, none⟩) qn cap]) (.slice (some ⟨g, go, none⟩) qn cap) (R.take qn)) := Lib.hid (varg_row HV3.out hgo _)
    generalize (wz.drew.setRow CB #[.int .i64 V, .int .i64 H, .string B, .slice (some ⟨g, go, none⟩) qn cap]) = w4 at HEND HUE HV4 ⊢
    go_wp2
    refine bodyPost_ret (results_made rfl _ _ _ _ _ rfl rfl HEND.out rfl) rfl ⟨⟨R, HF.out, fun h => absurd h (by rw [HRN.out]; omega), fun _ => ⟨_, _, rfl, ?_⟩⟩, HUE.out⟩
    exact HV4.out
end
end

/-
  The reference's SameVotes, SameCert of what is the same.
-/
section
set_option maxRecDepth 100000
section
set_option linter.unusedVariables false
open Go.RowKit Go.Sort Go.Lib

theorem vs_neq (x : Vs) (p q : Operand) (w : World) : (do eqGuard .neq 49 p q (.agg (vsA x)) (.agg (vsA x)); binOp .neq 49 (.agg (vsA x)) (.agg (vsA x)) : Sem Value).run Tryz.prog w = .ok (.bool false) w := by
  obtain ⟨⟨K, V, H, B, T, G⟩, S⟩ := x
  show (do eqGuard .neq 49 p q (.agg #[.int .i64 K, .int .i64 V, .int .i64 H, .string (strOfNums B), .int .i64 T, .int .i64 G, .string S]) (.agg #[.int .i64 K, .int .i64 V, .int .i64 H, .string (strOfNums B), .int .i64 T, .int .i64 G, .string S]); binOp .neq 49 (.agg #[.int .i64 K, .int .i64 V, .int .i64 H, .string (strOfNums B), .int .i64 T, .int .i64 G, .string S]) (.agg #[.int .i64 K, .int .i64 V, .int .i64 H, .string (strOfNums B), .int .i64 T, .int .i64 G, .string S]) : Sem Value).run Tryz.prog w = .ok (.bool false) w
  simp [eqGuard, go_sem]
end
end
end Go.Proofs.YtfenmhddlojahaaGreat
