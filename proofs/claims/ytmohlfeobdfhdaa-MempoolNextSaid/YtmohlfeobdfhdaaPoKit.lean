import Derived.Deep.WholeRow
import Derived.Test.YtmohlfeobdfhdaaTsRow
import Derived.Test.YtmohlfeobdfhdaaStKit
namespace Go.Proofs.Ytmohlfeobdfhdaa
/-
  Rows of transactions of one's own; slices.DeleteFunc in them.
-/
section
set_option maxRecDepth 100000
section
set_option linter.unusedVariables false
open Go.RowKit Go.Sort Go.Lib

section
variable {o : Oper} {x y z : Operand} {ρ : Operand → Value} {v : Value} {w0 W : World} {blk off : Nat} {dk d0 : Array Ts}
abbrev SX (w0 : World) (blk off : Nat) (dk : Array Ts) (W : World) : Prop := SWK tsC 5 w0 blk off dk W
/-- an element, whole -/
theorem ex_elemT (hop : o.op = .load 29 x) {i : Nat} (hx : ρ x = .pointer (some ⟨blk, off + i * 5, none⟩)) (h : SX w0 blk off dk W) (R : RowK tsC 5 w0 blk off d0) (hs : dk.size = d0.size) (hi : i < dk.size) {u : Ts} (hu : dk[i]! = u) :
    (execOp ρ o).run Try.prog W = .ok (.value (.agg (tsA u))) W := by
  have h1 := SWK.load h R hs Try.prog i hi
  rw [hu] at h1
  unfold execOp; rw [hop]; simp only [hx]
  simp [Instr.loadAt, Instr.sureAddr, loadVar, loadCells, Try.isAgg29, Try.sizeOf29, h1, Result.andThen, tsA_eq]
theorem ex_putT (hop : o.op = .store 29 x y) {i : Nat} (hx : ρ x = .pointer (some ⟨blk, off + i * 5, none⟩)) (u : Ts) (hy : ρ y = .agg (tsA u)) (h : SX w0 blk off dk W) (R : RowK tsC 5 w0 blk off d0) (hs : dk.size = d0.size) (hi : i < dk.size) :
    (execOp ρ o).run Try.prog W = .ok .skip (W.setCells blk (off + i * 5) (tsC u)) := by
  have h1 := SWK.stores h R hs Try.prog i hi u
  unfold execOp; rw [hop]; simp only [hx, hy]
  simp [Instr.storeAt, Instr.sureAddr, storeVar, Value.cells, tsA_eq, tsC_len, h1, Result.andThen]
end
theorem tsF_getK : ∀ (xs : List Ts) (t : Nat), t < xs.length * 5 → (tsF xs)[t]? = some ((flatK tsC 5 xs.toArray)[t]!)
  | xs, t, h => by
    have hd : t / 5 < xs.length := by omega
    rw [get_flatK _ _ _ _ (by simpa using h)]
    have key : ∀ (xs : List Ts) (q r : Nat), q < xs.length → r < 5 → (tsF xs)[q * 5 + r]? = (tsC (xs[q]?.getD default))[r]? := by
      intro xs
      induction xs with
      | nil => intro q r hq; cases hq
      | cons x t ih =>
        intro q r hq hr
        have e : tsF (x :: t) = tsC x ++ tsF t := by unfold tsF; rw [List.flatMap_cons]
        rw [e]
        cases q with
        | zero => rw [List.getElem?_append_left (by rw [tsC_len]; omega)]; simp
        | succ q =>
          rw [List.getElem?_append_right (by rw [tsC_len]; omega), tsC_len, show (q + 1) * 5 + r - 5 = q * 5 + r by omega, ih q r (by simpa using hq) hr]
          simp
    have := key xs (t / 5) (t % 5) hd (Nat.mod_lt _ (by omega))
    rw [show t / 5 * 5 + t % 5 = t by omega] at this
    rw [this]
    have hl : t % 5 < (tsC (xs[t / 5]?.getD default)).length := by rw [tsC_len]; exact Nat.mod_lt _ (by omega)
    rw [List.getElem?_eq_getElem hl]
    congr 1
    have : xs.toArray[t / 5]! = xs[t / 5]?.getD default := by
      simp [Array.getElem!_eq_getD, Array.getD_eq_getD_getElem?]
    rw [this, getElem!_pos (tsC (xs[t / 5]?.getD default)) (t % 5) hl]

section
variable {w w0 W : World} {blk off : Nat} {dk d0 : Array Ts}
theorem sw_otherT (h : SX w0 blk off dk W) {b : Nat} (hb : b ≠ blk) (hl : b < w0.heap.size) : W.heap[b]? = w0.heap[b]? := by
  obtain ⟨n, os, rfl⟩ := h
  unfold sortWorldK grow putRowK putRow mapBlock Sort.ahead
  simp only
  rw [Array.getElem?_append_left (by simpa using hl), Array.getElem?_modify, if_neg (fun e => hb e.symm)]
theorem sw_upT (hU : Up w w0) (h : SX w0 blk off dk W) (hb : w.heap.size ≤ blk) : Up w W := by
  have hsz := hU.size
  have hle := SWK.le h
  have ho : ∀ k, k < w.heap.size → W.heap[k]? = w0.heap[k]? := fun k hk => sw_otherT h (by omega) (by omega)
  obtain ⟨n, os, rfl⟩ := h
  exact Below.trans hU ⟨rfl, rfl, rfl, hle, ho⟩
theorem holds_preT (h : HoldsK tsC 5 W blk off dk) {k : Nat} (hk : k ≤ dk.size) : HoldsK tsC 5 W blk off (dk.extract 0 k) := by
  intro t ht
  have hs : (dk.extract 0 k).size = k := by simp; omega
  have ht5 : t < k * 5 := by rw [size_flatK, hs] at ht; exact ht
  have := h t (by rw [size_flatK]; omega)
  rw [get_flatK _ _ _ _ (by omega)] at this
  rw [get_flatK _ _ _ _ (by rw [hs]; exact ht5)]
  have e : (dk.extract 0 k)[t / 5]! = dk[t / 5]! := by
    have a1 : t / 5 < k := by omega
    have e : (dk.extract 0 k)[t / 5]? = dk[t / 5]? := by rw [Array.getElem?_extract]; simp; omega
    simp [Array.getElem!_eq_getD, Array.getD_eq_getD_getElem?, e]
  rw [e]
  exact this
theorem row_of_ownsT {base : Nat} {v : Value} {xs : List Ts} (h : W.ownsRow base 29 5 v xs.length (tsF xs)) (hv : v ≠ .slice none 0 0) :
    ∃ g cap, v = .slice (some ⟨g, 0, none⟩) xs.length cap ∧ base ≤ g ∧ g < W.heap.size ∧ xs.length ≤ cap ∧ cap ≤ maxLen ∧ RowK tsC 5 W g 0 xs.toArray := by
  obtain ⟨h1, h2 | ⟨g, cap, cur, e1, e2, e3, e4, e5, e6, e7⟩⟩ := h
  · exact absurd h2.1 hv
  · refine ⟨g, cap, e1, e2, lt_of_block e3, e4, e5, fun x => tsC_len x, tsC_one, ?_, lt_of_block e3⟩
    intro t ht
    have ht5 : t < xs.length * 5 := by rw [size_flatK] at ht; simpa using ht
    have hc : cur[t]? = some ((flatK tsC 5 xs.toArray)[t]!) := by
      rw [← tsF_getK xs t ht5, ← e7, List.getElem?_take_of_lt ht5, Array.getElem?_toList]
    refine ⟨?_, ?_⟩
    · rw [Nat.zero_add, cell_of_row W g t cur _ _ e3, hc]; rfl
    · rw [Nat.zero_add]; exact frozen_of_row W g t cur _ e3
end
theorem ex_fillT {o : Oper} {x y : Operand} {ρ : Operand → Value} {W : World} {c0 : Array Value} {u : Ts} (hop : o.op = .store 29 x y) (hx : ρ x = .pointer (some ⟨W.heap.size, 0, none⟩)) (hy : ρ y = .agg (tsA u)) (h0 : c0.size = 5) :
    (execOp ρ o).run Try.prog (W.alloc (.cells c0 29)) = .ok .skip (W.alloc (.cells (tsA u) 29)) := by
  have h1 := ex_storerow (P := Try.prog) (g := W.heap.size) (c0 := c0) (c1 := tsA u) hop hx hy (W.alloc (.cells c0 29)) 29 (heap_alloc_new W _) info_tx h0 (tsA_one u)
  rwa [alloc_setRow] at h1
theorem Gr.sx {w0 W W' : World} {blk off : Nat} {dk : Array Ts} (h : Gr W W') (hS : SX w0 blk off dk W) : SX w0 blk off dk W' := by
  obtain ⟨q, os, rfl⟩ := h
  exact SWK.grown hS q os

theorem sw_loadVarT {w0 W : World} {blk off : Nat} {dk d0 : Array Ts} (h : SX w0 blk off dk W) (R : RowK tsC 5 w0 blk off d0) (hs : dk.size = d0.size) {i : Nat} (hi : i < dk.size) {u : Ts} (hu : dk[i]! = u) :
    (loadVar 29 ⟨blk, off + i * 5, none⟩).run Try.prog W = .ok (.agg (tsA u)) W := by
  have h1 := SWK.load h R hs Try.prog i hi
  rw [hu] at h1
  simp [loadVar, loadCells, Try.isAgg29, Try.sizeOf29, h1, Result.andThen, tsA_eq]

theorem dflt_ts : tsC (default : Ts) = [.int .i64 0, .int .i64 0, .int .i64 0, .int .i64 0, .string ⟨#[]⟩] := rfl
theorem zero_txm (w : World) : (zeroValue 29).run Try.prog w = .ok (.agg (tsA default)) w := by
  have := Try.zeroValue29 w
  rw [this]; rfl
theorem setCells_twoT (b : Nat) : ∀ (u v : List Value) (o : Nat) (w : World), w.setCells b o (u ++ v) = (w.setCells b o u).setCells b (o + u.length) v
  | [], v, o, w => rfl
  | x :: u, v, o, w => by
    show (w.setCell ⟨b, o, none⟩ x).setCells b (o + 1) (u ++ v) = ((w.setCell ⟨b, o, none⟩ x).setCells b (o + 1) u).setCells b (o + (u.length + 1)) v
    rw [setCells_twoT b u v (o + 1), show o + 1 + u.length = o + (u.length + 1) by omega]
theorem zeros_vsT (m : Nat) : (Builtin.zeroCells (tsA default) m).toList = tsF (List.replicate m default) := by
  apply List.ext_getElem?
  intro t
  have hs : (tsA default).size = 5 := rfl
  by_cases ht : t < m * 5
  · have h1 := tsF_getK (List.replicate m default) t (by rw [List.length_replicate]; exact ht)
    rw [h1, get_flatK _ _ _ _ (by simpa using ht)]
    have e : (List.replicate m (default : Ts)).toArray[t / 5]! = default := by
      have : t / 5 < m := by omega
      simp [this]
    rw [e, Array.getElem?_toList]
    unfold Builtin.zeroCells
    rw [hs, Array.getElem?_map, Array.getElem?_range]
    simp only [ht, if_true, Option.map_some]
    congr 1
    show ((tsC default).toArray)[t % 5]! = _
    simp
  · rw [List.getElem?_eq_none (by rw [Array.length_toList, size_zeroCells, hs]; omega), List.getElem?_eq_none (by rw [tsF_length, List.length_replicate]; omega)]
theorem sw_putsT {w0 : World} {blk off : Nat} {d0 : Array Ts} (R : RowK tsC 5 w0 blk off d0) : ∀ (xs : List Ts) (i : Nat) (dk : Array Ts) (W : World), SX w0 blk off dk W → i + xs.length ≤ dk.size →
    ∃ d' : Array Ts, d'.size = dk.size ∧ d'.toList.take i = dk.toList.take i ∧ SX w0 blk off d' (W.setCells blk (off + i * 5) (tsF xs))
  | [], i, dk, W, h, hi => ⟨dk, rfl, rfl, h⟩
  | x :: t, i, dk, W, h, hi => by
    simp only [List.length_cons] at hi
    have h1 := SWK.put h R i (by omega) x
    obtain ⟨d', e1, e2, e3⟩ := sw_putsT R t (i + 1) (dk.setIfInBounds i x) _ h1 (by rw [Array.size_setIfInBounds]; omega)
    refine ⟨d', by rw [e1, Array.size_setIfInBounds], ?_, ?_⟩
    · have := congrArg (List.take i) e2
      rw [List.take_take, List.take_take, show min i (i + 1) = i by omega] at this
      rw [this, Array.toList_setIfInBounds, List.take_set_of_le (Nat.le_refl _)]
    · have : tsF (x :: t) = tsC x ++ tsF t := by unfold tsF; rw [List.flatMap_cons]
      rw [this, setCells_twoT, tsC_len, show off + i * 5 + 5 = off + (i + 1) * 5 by omega]
      exact e3
/-- a stretch of a row made naught -/
theorem sw_zeroT {w0 W : World} {blk off : Nat} {dk d0 : Array Ts} (h : SX w0 blk off dk W) (R : RowK tsC 5 w0 blk off d0) (hs : dk.size = d0.size) (i m : Nat) (hi : i + m ≤ dk.size) :
    ∃ d' : Array Ts, d'.size = dk.size ∧ d'.toList.take i = dk.toList.take i ∧ Sem.run Try.prog (storeCells ⟨blk, off + i * 5, none⟩ (Builtin.zeroCells (tsA default) m).toList 0) W = .ok () (W.setCells blk (off + i * 5) (Builtin.zeroCells (tsA default) m).toList) ∧ SX w0 blk off d' (W.setCells blk (off + i * 5) (Builtin.zeroCells (tsA default) m).toList) := by
  rw [zeros_vsT]
  obtain ⟨d', e1, e2, e3⟩ := sw_putsT R (List.replicate m default) i dk W h (by rw [List.length_replicate]; exact hi)
  exact ⟨d', e1, e2, stores_of_holds Try.prog (h.holds R.hblk R.hH hs) (i * 5) _ (by rw [tsF_length, List.length_replicate, size_flatK]; omega) (tsF_one _), e3⟩
theorem ex_clearT {o : Oper} {x : Operand} {ρ : Operand → Value} {W W' : World} {ad : Addr} {m c : Nat} (hop : o.op = .call { callee := .builtin .clear, args := #[x], argTypes := #[22] }) (hx : ρ x = .slice (some ad) m c) (hm : m ≠ 0)
    (hr : Sem.run Try.prog (storeCells ad (Builtin.zeroCells (tsA default) m).toList 0) W = .ok () W') : (execOp ρ o).run Try.prog W = .ok (.value (.tuple #[])) W' := by
  have hl : (Builtin.clear_ #[22] o.type #[Value.slice (some ad) m c]).run Try.prog W = .ok (.tuple #[]) W' := by
    obtain ⟨k, rfl⟩ : ∃ k, m = k + 1 := ⟨m - 1, by omega⟩
    have hv : tsA default = #[.int .i64 0, .int .i64 0, .int .i64 0, .int .i64 0, .string ⟨#[]⟩] := rfl
    rw [hv] at hr
    simp [Builtin.clear_, run_underlying Try.underlying22, Value.cells, hr, Result.andThen]
  unfold execOp; rw [hop]; simp only [resolve, List.map_toArray, List.map_cons, List.map_nil, hx]; simp [invoke, go_sem, builtin, hl, Result.andThen]

theorem tk_succT (d : Array Ts) (j : Nat) (hj : j < d.size) : d.toList.take (j + 1) = d.toList.take j ++ [d[j]!] := by
  have hl : j < d.toList.length := by simpa using hj
  rw [List.take_succ_eq_append_getElem hl, bang_of (List.getElem?_eq_getElem hl)]
theorem keep_allT (p : Ts → Bool) (d : Array Ts) (k : Nat) (hk : k ≤ d.size) (h : ∀ j, j < k → p d[j]! = false) : (d.toList.take k).filter (fun x => !p x) = d.toList.take k := by
  induction k with
  | zero => rfl
  | succ k ih => rw [tk_succT d k (by omega), List.filter_append, ih (by omega) (fun j hj => h j (by omega))]; simp [h k (by omega)]
theorem drop_getT {d dk : Array Ts} {j : Nat} (h : dk.toList.drop j = d.toList.drop j) : dk[j]! = d[j]! := by
  have := congrArg (fun l => l[0]?) h
  simp only [List.getElem?_drop, Nat.add_zero, Array.getElem?_toList] at this
  simp [Array.getElem!_eq_getD, Array.getD_eq_getD_getElem?, this]
theorem drop_nextT {d dk : Array Ts} {j : Nat} (h : dk.toList.drop j = d.toList.drop j) : dk.toList.drop (j + 1) = d.toList.drop (j + 1) := by
  rw [← List.drop_drop, h, List.drop_drop]
theorem take_setT {dk : Array Ts} {i : Nat} (hi : i < dk.size) (x : Ts) : (dk.setIfInBounds i x).toList.take (i + 1) = dk.toList.take i ++ [x] := by
  rw [tk_succT _ i (by rw [Array.size_setIfInBounds]; exact hi), Array.toList_setIfInBounds, List.take_set_of_le (Nat.le_refl _)]
  congr 2
  simp [hi]
theorem drop_setT {dk : Array Ts} {i j : Nat} (hij : i < j) (x : Ts) : (dk.setIfInBounds i x).toList.drop j = dk.toList.drop j := by
  rw [Array.toList_setIfInBounds, List.drop_set_of_lt hij]

set_option maxHeartbeats 400000 in
theorem delFunc_anyT {w0 : World} {blk off : Nat} {d : Array Ts} (R : RowK tsC 5 w0 blk off d) (g : FuncId) (cb : Array Value) (eg : ∀ args w, (callFunc g args).run Try.prog w = .ok (.enter g args) w) (p : Ts → Bool) (n cap : Nat) (hn : d.size = n) (hcap : n ≤ cap) (hc63 : cap ≤ 9223372036854775807) (hsz : n < 4611686018427387904)
    (hc : ∀ (dk : Array Ts) (W : World) (x : Ts), dk.size = d.size → SX w0 blk off dk W → Calls Try.prog g (#[.agg (tsA x)] ++ cb) W fun e w' => e = .returned (.bool (p x)) ∧ Gr W w') (w : World) (hS : SX w0 blk off d w) :
    Calls Try.prog 18 #[.slice (some ⟨blk, off, none⟩) n cap, .func (.func g) #[] cb] w fun e w' => ∃ k d', e = .returned (.slice (some ⟨blk, off, none⟩) k cap) ∧ k ≤ n ∧ SX w0 blk off d' w' ∧ d'.size = n ∧ d'.toList.take k = d.toList.filter (fun x => !p x) := by
  have Hidx := Lib.hid (tsIndex_any g cb eg (fun _ W => SX w0 blk off d W) (fun i => d[i]!) (fun i => p d[i]!) blk off n cap hsz (fun i W hi hS => sw_loadVarT hS R rfl (by omega) rfl)
    (fun i W hi hS => (hc d W _ rfl hS).mono fun e w' ⟨h1, h2⟩ => ⟨h1, h2.sx hS⟩) w hS)
  have HC := Lib.hid hc
  have HN := Lib.hid hn
  clear hc hS hn
  go_enter Try.func18, Try.ntmps18
  go_wp2_with fail
  with_reducible refine Calls.mono Hidx.out ?_
  rintro e w1 ⟨k0, h1, h2, h3, rfl, h5⟩
  have HS1 := Lib.hid (show SX w0 blk off d w1 from h5)
  have H2 := Lib.hid (And.intro h2 h3)
  clear h2 h3 h5 Hidx
  by_cases hk : k0 < n
  · rw [if_pos hk]
    have hz : ((k0 : Int) == -1) = false := by rw [beq_eq_false_iff_ne]; omega
    go_wp2
    go_loopw [5, 6] (fun vi vj wr => ∃ i j : Nat, ∃ dk : Array Ts, vi = .int .i64 (i : Nat) ∧ vj = .int .i64 (j : Nat) ∧ i < j ∧ j ≤ n ∧ dk.size = n ∧ Hid (SX w0 blk off dk wr) ∧ Hid (dk.toList.take i = (d.toList.take j).filter (fun x => !p x) ∧ dk.toList.drop j = d.toList.drop j))
      (fun _ vj _ => n - (intOf vj).toNat)
    case atStart =>
      refine ⟨k0, k0 + 1, d, rfl, by go_num, by omega, by omega, HN.out, HS1, Lib.hid ⟨?_, rfl⟩⟩
      have hd := HN.out
      rw [tk_succT d k0 (by omega), List.filter_append, keep_allT p d k0 (by omega) H2.out.1]
      simp [H2.out.2 hk]
    case round =>
      obtain ⟨i, j, dk, rfl, rfl, hij, hj, hdk, HS, HL⟩ := hrel
      by_cases hlt : j < n
      · have hz2 : (j : Int) < (n : Int) := by omega
        obtain ⟨x, hx⟩ : ∃ x, dk[j]! = x := ⟨_, rfl⟩
        have hx2 : d[j]! = x := by rw [← hx]; exact (drop_getT HL.out.2).symm
        have Hx := Lib.hid hx
        have Hl := Lib.hid (sw_loadVarT HS.out R (by rw [HN.out]; exact hdk) (by omega) hx)
        have hb0 := heap_alloc_new wr (.cells (tsA x) 29)
        have HB0 := Lib.hid hb0
        have HB1 := HB0
        have HSA := Lib.hid (SWK.alloc HS.out (.cells (tsA x) 29))
        have Hc := Lib.hid (HC.out dk _ x (by rw [HN.out]; exact hdk) HSA.out)
        clear hb0 hx
        generalize hpx : p x = b at Hc
        have HPX := Lib.hid hpx
        clear hpx
        go_wp2_with (first | (refine wpList_ex rfl (.agg (tsA x)) wr (ex_ldt (x := .tmp 24) rfl rfl Hl.out) ?_) | (refine wpList_exs rfl _ (ex_fillT (x := .tmp 7) (y := .tmp 25) (W := wr) rfl rfl rfl rfl) ?_) | (refine wpList_ex rfl (.agg (tsA x)) _ (ex_loadrow (x := .tmp 7) rfl rfl _ 29 HB0.out Try.underlying29 rfl info_tx) ?_))
        with_reducible refine Calls.mono Hc.out ?_
        rintro e w2 ⟨rfl, hG2⟩
        have HS2 := Lib.hid (hG2.sx HSA.out)
        have HB2 := Lib.hid (hG2.block HB0.out)
        clear hG2 Hc Hl HB0 HB1 HSA
        cases b with
        | true =>
          go_wp2
          go_roundw
          case rel => exact ⟨i, j + 1, dk, rfl, by go_num, by omega, hlt, hdk, HS2, Lib.hid ⟨by have hd := HN.out; rw [tk_succT d j (by omega), List.filter_append, HL.out.1, hx2]; simp [HPX.out], drop_nextT HL.out.2⟩⟩
          case measure => simp [intOf]; omega
        | false =>
          have hi63 : i < n := by omega
          have HP := Lib.hid (SWK.put HS2.out R i (by omega) x)
          have HQ := Lib.hid (fun (o : Oper) (ρ : Operand → Value) (x' y' : Operand) (h1 : o.op = .store 29 x' y') (h2 : ρ x' = .pointer (some ⟨blk, off + i * 5, none⟩)) (h3 : ρ y' = .agg (tsA x)) => ex_putT h1 h2 x h3 HS2.out R (by rw [HN.out]; exact hdk) (show i < dk.size by omega))
          have HQ7 := Lib.hid (fun (o : Oper) (ρ : Operand → Value) (x' : Operand) (h1 : o.op = .load 29 x') (h2 : ρ x' = .pointer (some ⟨wr.heap.size, 0, none⟩)) => ex_loadrow h1 h2 w2 29 HB2.out Try.underlying29 rfl info_tx)
          go_wp2_with (first | (refine wpList_exs rfl _ (HQ.out _ _ (.tmp 33) (.tmp 32) rfl rfl rfl) ?_; generalize w2.setCells blk (off + i * 5) (tsC x) = w3 at HP ⊢; clear HQ HQ7) | (refine wpList_ex rfl (.agg (tsA x)) _ (HQ7.out _ _ (.tmp 7) rfl rfl) ?_))
          go_roundw
          case rel => exact ⟨i + 1, j + 1, dk.setIfInBounds i x, by go_num, by go_num, by omega, hlt, by rw [Array.size_setIfInBounds]; exact hdk, HP, Lib.hid ⟨by have hd := HN.out; rw [tk_succT d j (by omega), List.filter_append, take_setT (by omega), HL.out.1, hx2]; simp [HPX.out], by rw [drop_setT (by omega)]; exact drop_nextT HL.out.2⟩⟩
          case measure => simp [intOf]; omega
      · obtain rfl : j = n := by omega
        have hi : i < j := hij
        obtain ⟨d', e1, e2, e3, e4⟩ := sw_zeroT HS.out R (by rw [HN.out]; exact hdk) i (j - i) (by omega)
        have HZ := Lib.hid (And.intro e1 (And.intro e2 e4))
        have HQ := Lib.hid (fun (o : Oper) (ρ : Operand → Value) (x' : Operand) (c : Nat) (h1 : o.op = .call { callee := .builtin .clear, args := #[x'], argTypes := #[22] }) (h2 : ρ x' = .slice (some ⟨blk, off + i * 5, none⟩) (j - i) c) => ex_clearT h1 h2 (show j - i ≠ 0 by omega) e3)
        clear e1 e2 e3 e4
        have q1 : (j : Int) - i = ((j - i : Nat) : Int) := by omega
        have q2 : (i : Int) ≤ (j : Int) := by omega
        have q3 : (i : Int) ≤ (cap : Int) := by omega
        have q4 : (i : Int) < (cap : Int) := by omega
        go_wp2_with (refine wpList_ex rfl (.tuple #[]) _ (HQ.out _ _ (.tmp 38) _ rfl rfl) ?_; generalize wr.setCells blk (off + i * 5) (Builtin.zeroCells (tsA default) (j - i)).toList = w3 at HZ ⊢; clear HQ)
        go_ret
        refine ⟨i, d', rfl, by omega, HZ.out.2.2, HZ.out.1.trans hdk, ?_⟩
        rw [HZ.out.2.1, HL.out.1, List.take_of_length_le (by have := HN.out; simp; omega)]
  · obtain rfl : k0 = n := by omega
    rw [if_neg (by omega)]
    go_wp2
    go_ret
    refine ⟨k0, d, rfl, by omega, HS1.out, HN.out, ?_⟩
    have hd := HN.out
    rw [← keep_allT p d k0 (by omega) H2.out.1, List.take_of_length_le (by simp; omega)]
end
end
