import Derived.Test.YtacamknljicjmaaMsData
/-
  block.Put, of whatever writer.
-/
namespace Go.Proofs.Ytacamknljicjmaa
set_option maxRecDepth 100000
section
set_option linter.unusedVariables false
open Go.RowKit Go.Sort Go.Lib

/-- a box that is no writer's is kept -/
theorem wr_keep {base g : Nat} {o o' : Value} {w w' : World} {E : Int} {bs : List Int} (hs : WrStep g o o' w w') (hw : Wr w base g o E bs) {B : Nat} {cs : Array Value} {ty : TypeId} (hB : w.heap[B]? = some (.cells cs ty (0, 0))) (h1 : ty ≠ 61) (h2 : ty ≠ 5) : w'.heap[B]? = some (.cells cs ty (0, 0)) :=
  hs.keep hB (fun e => by
    subst e
    have h3 := hB.symm.trans hw.1
    simp only [Option.some.injEq, Obj.cells.injEq] at h3
    exact h1 h3.2.1) (fun e => block_off hB h2 hw.2.2 e.symm)
theorem wr_keep_row {base g b0 n sz : Nat} {o o' v : Value} {w w' : World} {E : Int} {bs : List Int} {xs : List Value} {ty : TypeId} (hs : WrStep g o o' w w') (hw : Wr w base g o E bs) (hr : w.ownsRow b0 ty sz v n xs) (h1 : ty ≠ 61) (h2 : ty ≠ 5) : w'.ownsRow b0 ty sz v n xs := by
  refine ⟨hr.1, ?_⟩
  rcases hr.2 with hn | ⟨g', cap, cur, rfl, hb, hgg, rest⟩
  · exact .inl hn
  · exact .inr ⟨g', cap, cur, rfl, hb, wr_keep hs hw hgg h1 h2, rest⟩
theorem wr_keep_boxes {base g : Nat} {o o' : Value} {w w' : World} {E : Int} {bs : List Int} {ks : List Nat} {xs : List Ts} (hs : WrStep g o o' w w') (hw : Wr w base g o E bs) (h : Boxes w ks xs) : Boxes w' ks xs := fun i b hb => by
  obtain ⟨x, hx, hh⟩ := h i b hb
  exact ⟨x, hx, wr_keep hs hw hh (by decide) (by decide)⟩

/-- the writer behind a block's numbers, behind a transaction -/
def bkHS (V H : Int) (P : ByteArray) (JV : Int) (n : Nat) (p : Int × List Int) : Int × List Int := numS (numS (textS (numS (numS (textS p [98, 108, 111, 99, 107]) V) H) (octsOf P)) JV) (n : Int)
def tsS (x : Ts) (p : Int × List Int) : Int × List Int := textS (txS p x.1.F x.1.T x.1.A x.1.N 4) (octsOf x.2)
theorem bkHS_len (V H : Int) (P : ByteArray) (JV : Int) (n : Nat) (p : Int × List Int) (h : p.2.length ≤ 20482) : (bkHS V H P JV n p).2.length ≤ 20482 := numS_le _ _ (numS_le _ _ (textS_le _ _ (numS_le _ _ (numS_le _ _ (textS_le _ _ h)))))
theorem tsS_len (x : Ts) (p : Int × List Int) (h : p.2.length ≤ 20482) : (tsS x p).2.length ≤ 20482 := textS_le _ _ (txS_le _ _ _ _ _ h 4)
theorem bkWd_u8s : U8s [98, 108, 111, 99, 107] := by intro j hj; match j, hj with | 0, _ => decide | 1, _ => decide | 2, _ => decide | 3, _ => decide | 4, _ => decide

set_option maxHeartbeats 2000000 in
theorem putBw_any (base g M : Nat) (o : Value) (E : Int) (bs : List Int) (V H : Int) (P : ByteArray) (JV JH : Int) (JB : ByteArray) (ja : Option Addr) (jn jc : Nat) (ta : Option Addr) (n tc : Nat) (S : ByteArray) (w : World) (h : Wr w base g o E bs) (hb : bs.length ≤ 20482) (hbase : base ≤ w.heap.size) (hM : w.heap[M]? = some (.cells (bkC V H P JV JH JB ja jn jc ta n tc S) 27 (0, 0)))
    (hV : I64 V) (hH : I64 H) (hJ : I64 JV) (hP : P.size ≤ maxLen) (hn : n ≤ 4) :
    Calls Try.prog 72 (#[.pointer (some ⟨g, 0, none⟩)] ++ #[.pointer (some ⟨M, 0, none⟩)]) w fun e w' => e = .returned (.tuple #[]) ∧ ∃ o', Wr w' base g o' (bkHS V H P JV n (E, bs)).1 (bkHS V H P JV n (E, bs)).2 ∧ WrStep g o o' w w' := by
  unfold bkC at hM
  have HG := Lib.hid h.lt
  have HW := Lib.hid h
  have HM0 := Lib.hid hM
  have T0 := Lib.hid (WrStep.refl g o w)
  have HBS := Lib.hid hbase
  unfold bkHS
  have l1 := textS_le (E, bs) [98, 108, 111, 99, 107] hb
  have l2 := numS_le _ V l1
  have l3 := numS_le _ H l2
  have l4 := textS_le _ (octsOf P) l3
  have l5 := numS_le _ JV l4
  have C1 : Hid (∀ wx o', Wr wx base g o' E bs → base ≤ wx.heap.size → Calls Try.prog 30 #[.pointer (some ⟨g, 0, none⟩), .string ⟨#[98, 108, 111, 99, 107]⟩] wx fun e w' => e = .returned (.tuple #[]) ∧ ∃ o2, Wr w' base g o2 (textS (E, bs) [98, 108, 111, 99, 107]).1 (textS (E, bs) [98, 108, 111, 99, 107]).2 ∧ WrStep g o' o2 wx w') := fun wx o' k s => wtext_any base g o' E bs [98, 108, 111, 99, 107] wx k bkWd_u8s (by decide) (by omega) s
  have C4 : Hid (∀ wx o' (q : Int × List Int), q.2.length ≤ 20482 → Wr wx base g o' q.1 q.2 → base ≤ wx.heap.size → Calls Try.prog 30 #[.pointer (some ⟨g, 0, none⟩), .string P] wx fun e w' => e = .returned (.tuple #[]) ∧ ∃ o2, Wr w' base g o2 (textS q (octsOf P)).1 (textS q (octsOf P)).2 ∧ WrStep g o' o2 wx w') := fun wx o' q hq k s => by
    have c := wtext_any base g o' q.1 q.2 (octsOf P) wx k (octsOf_u8s P) (by rw [octsOf_length]; exact Nat.le_trans hP (by decide)) (by omega) s
    rw [strOf_octs] at c
    exact c
  have CN : Hid (∀ (z : Int), I64 z → ∀ wx o' (q : Int × List Int), q.2.length ≤ 20482 → Wr wx base g o' q.1 q.2 → base ≤ wx.heap.size → Calls Try.prog 12 #[.pointer (some ⟨g, 0, none⟩), .int .i64 z] wx fun e w' => e = .returned (.tuple #[]) ∧ ∃ o2, Wr w' base g o2 (numS q z).1 (numS q z).2 ∧ WrStep g o' o2 wx w') := fun z hz wx o' q hq k s => wnum_any base g o' q.1 q.2 z wx k hz (by omega) s
  have C2 := Lib.hid (fun wx o' => CN.out V hV wx o' _ l1)
  have C3 := Lib.hid (fun wx o' => CN.out H hH wx o' _ l2)
  have C5 := Lib.hid (fun wx o' => CN.out JV hJ wx o' _ l4)
  have C6 := Lib.hid (fun wx o' => CN.out (n : Int) ⟨by omega, by omega⟩ wx o' _ l5)
  have C4' := Lib.hid (fun wx o' => C4.out wx o' _ l3)
  clear C4 CN
  generalize numS (numS (textS (numS (numS (textS (E, bs) [98, 108, 111, 99, 107]) V) H) (octsOf P)) JV) (n : Int) = q6 at *
  generalize numS (textS (numS (numS (textS (E, bs) [98, 108, 111, 99, 107]) V) H) (octsOf P)) JV = q5 at *
  generalize textS (numS (numS (textS (E, bs) [98, 108, 111, 99, 107]) V) H) (octsOf P) = q4 at *
  generalize numS (numS (textS (E, bs) [98, 108, 111, 99, 107]) V) H = q3 at *
  generalize numS (textS (E, bs) [98, 108, 111, 99, 107]) V = q2 at *
  generalize textS (E, bs) [98, 108, 111, 99, 107] = q1 at *
  clear h hbase hb hM hV hH hP hJ hn l1 l2 l3 l4 l5
  go_enter Try.func72, Try.ntmps72
  go_wp2_with fail
  with_reducible refine Calls.mono (C1.out _ _ HW.out HBS.out) ?_
  rintro e w1 ⟨rfl, o1, h1, h2⟩
  have W1 := Lib.hid h1
  have M1 := Lib.hid (wr_keep h2 HW.out HM0.out (by decide) (by decide))
  have T1 := Lib.hid (T0.out.trans HG.out h2)
  clear h1 h2
  obtain ⟨c0, c1, c2, c3, c4, c5, c6, c7, c8⟩ := bk_cells M1.out
  clear c1 c2 c3 c4 c5 c6 c7 c8
  go_wp2_with fail
  with_reducible refine Calls.mono (C2.out _ _ W1.out (Nat.le_trans HBS.out (WrStep.size T1.out))) ?_
  rintro e w2 ⟨rfl, o2, h1, h2⟩
  have W2 := Lib.hid h1
  have M2 := Lib.hid (wr_keep h2 W1.out M1.out (by decide) (by decide))
  have T2 := Lib.hid (T1.out.trans HG.out h2)
  clear h1 h2 c0
  obtain ⟨c0, c1, c2, c3, c4, c5, c6, c7, c8⟩ := bk_cells M2.out
  clear c0 c2 c3 c4 c5 c6 c7 c8
  go_wp2_with fail
  with_reducible refine Calls.mono (C3.out _ _ W2.out (Nat.le_trans HBS.out (WrStep.size T2.out))) ?_
  rintro e w3 ⟨rfl, o3, h1, h2⟩
  have W3 := Lib.hid h1
  have M3 := Lib.hid (wr_keep h2 W2.out M2.out (by decide) (by decide))
  have T3 := Lib.hid (T2.out.trans HG.out h2)
  clear h1 h2 c1
  obtain ⟨c0, c1, c2, c3, c4, c5, c6, c7, c8⟩ := bk_cells M3.out
  clear c0 c1 c3 c4 c5 c6 c7 c8
  go_wp2_with fail
  with_reducible refine Calls.mono (C4'.out _ _ W3.out (Nat.le_trans HBS.out (WrStep.size T3.out))) ?_
  rintro e w4 ⟨rfl, o4, h1, h2⟩
  have W4 := Lib.hid h1
  have M4 := Lib.hid (wr_keep h2 W3.out M3.out (by decide) (by decide))
  have T4 := Lib.hid (T3.out.trans HG.out h2)
  clear h1 h2 c2
  obtain ⟨c0, c1, c2, c3, c4, c5, c6, c7, c8⟩ := bk_cells M4.out
  clear c0 c1 c2 c4 c5 c6 c7 c8
  go_wp2_with fail
  with_reducible refine Calls.mono (C5.out _ _ W4.out (Nat.le_trans HBS.out (WrStep.size T4.out))) ?_
  rintro e w5 ⟨rfl, o5, h1, h2⟩
  have W5 := Lib.hid h1
  have M5 := Lib.hid (wr_keep h2 W4.out M4.out (by decide) (by decide))
  have T5 := Lib.hid (T4.out.trans HG.out h2)
  clear h1 h2 c3
  obtain ⟨c0, c1, c2, c3, c4, c5, c6, c7, c8⟩ := bk_cells M5.out
  clear c0 c1 c2 c3 c4 c5 c6 c8
  go_wp2_with fail
  with_reducible refine Calls.mono (C6.out _ _ W5.out (Nat.le_trans HBS.out (WrStep.size T5.out))) ?_
  rintro e w6 ⟨rfl, o6, h1, h2⟩
  have W6 := Lib.hid h1
  have T6 := Lib.hid (T5.out.trans HG.out h2)
  clear h1 h2
  go_wp2
  go_end0
  exact ⟨rfl, o6, W6.out, T6.out⟩
theorem put_ts (base g : Nat) (o : Value) (E : Int) (bs : List Int) (x : Ts) (w : World) (h : Wr w base g o E bs) (hx : TsOk x) (hb : bs.length ≤ 20482) (hbase : base ≤ w.heap.size) :
    Calls Try.prog 31 #[.pointer (some ⟨g, 0, none⟩), .agg (tsA x)] w fun e w' => e = .returned (.tuple #[]) ∧ ∃ o', Wr w' base g o' (tsS x (E, bs)).1 (tsS x (E, bs)).2 ∧ WrStep g o o' w w' := by
  obtain ⟨h1, h2, h3, h4, h5⟩ := hx
  have k := txPut_any base g o E bs x.1.F x.1.T x.1.A x.1.N (octsOf x.2) w h (i64_of_wf h1) (i64_of_wf h2) (i64_of_wf h3) (i64_of_wf h4) (octsOf_u8s _) (by rw [octsOf_length]; exact Nat.le_trans h5 (by decide)) hb hbase
  rw [strOf_octs] at k
  exact k
theorem putTw_any (base g k : Nat) (o : Value) (E : Int) (bs : List Int) (x : Ts) (w : World) (h : Wr w base g o E bs) (hx : TsOk x) (hb : bs.length ≤ 20482) (hbase : base ≤ w.heap.size) (hk : w.heap[k]? = some (.cells (tsA x) 31 (0, 0))) :
    Calls Try.prog 73 (#[.pointer (some ⟨g, 0, none⟩)] ++ #[.pointer (some ⟨k, 0, none⟩)]) w fun e w' => e = .returned (.tuple #[]) ∧ ∃ o', Wr w' base g o' (tsS x (E, bs)).1 (tsS x (E, bs)).2 ∧ WrStep g o o' w w' := by
  have HP := Lib.hid (put_ts base g o E bs x w h hx hb hbase)
  have HK := Lib.hid hk
  generalize tsS x (E, bs) = Z at HP ⊢
  clear h hbase hk hx hb
  go_enter Try.func73, Try.ntmps73
  go_wp2_with (refine wpList_ex rfl (.agg (tsA x)) _ (ex_loadrow (x := .tmp 1) rfl rfl _ 31 HK.out Try.underlying31 rfl info_tx) ?_)
  with_reducible refine Calls.mono HP.out ?_
  rintro e w1 ⟨rfl, o1, h1, h2⟩
  have H1 := Lib.hid h1
  have H2 := Lib.hid h2
  clear h1 h2
  go_wp2
  go_end0
  exact ⟨rfl, o1, H1.out, H2.out⟩

/-- the writer behind so many parts -/
def runS (l : List (Int × List Int → Int × List Int)) (p : Int × List Int) : Int × List Int := l.foldl (fun q f => f q) p
theorem runS_next (l : List (Int × List Int → Int × List Int)) (p : Int × List Int) {i : Nat} {f : Int × List Int → Int × List Int} (hx : l[i]? = some f) : runS (l.take (i + 1)) p = f (runS (l.take i) p) := by
  obtain ⟨hi, e⟩ := List.getElem?_eq_some_iff.1 hx
  rw [List.take_succ_eq_append_getElem hi, e]
  unfold runS
  rw [List.foldl_append]; rfl
def bkSs (V H : Int) (P : ByteArray) (JV : Int) (xs : List Ts) : List (Int × List Int → Int × List Int) := bkHS V H P JV xs.length :: xs.map tsS
theorem runS_len (l : List (Int × List Int → Int × List Int)) (hl : ∀ f ∈ l, ∀ p : Int × List Int, p.2.length ≤ 20482 → (f p).2.length ≤ 20482) : ∀ p : Int × List Int, p.2.length ≤ 20482 → (runS l p).2.length ≤ 20482 := by
  induction l with
  | nil => exact fun p h => h
  | cons f t ih => exact fun p h => ih (fun g hg => hl g (List.mem_cons_of_mem _ hg)) (f p) (hl f (List.mem_cons_self ..) p h)
theorem bkSs_len (V H : Int) (P : ByteArray) (JV : Int) (xs : List Ts) : ∀ f ∈ bkSs V H P JV xs, ∀ p : Int × List Int, p.2.length ≤ 20482 → (f p).2.length ≤ 20482 := by
  intro f hf p h
  rcases List.mem_cons.1 hf with rfl | hf
  · exact bkHS_len _ _ _ _ _ _ h
  · obtain ⟨x, _, rfl⟩ := List.mem_map.1 hf
    exact tsS_len x p h
/-- what the closures need -/
structure PartsD (W : World) (C : Array Value) (xs : List Ts) (b0 n : Nat) (fa : Option Addr) (fc M : Nat) (ks : List Nat) : Prop where
  row : W.ownsRow b0 92 1 (.slice fa (n + 1) fc) (n + 1) (fnB M :: ks.map fnT)
  m : W.heap[M]? = some (.cells C 27 (0, 0))
  len : ks.length = n
  box : Boxes W ks xs
theorem PartsD.keep {base g b0 n fc M : Nat} {fa : Option Addr} {C : Array Value} {xs : List Ts} {ks : List Nat} {o o' : Value} {w w' : World} {E : Int} {bs : List Int} (h : PartsD w C xs b0 n fa fc M ks) (hs : WrStep g o o' w w') (hw : Wr w base g o E bs) : PartsD w' C xs b0 n fa fc M ks :=
  ⟨wr_keep_row hs hw h.row (by decide) (by decide), wr_keep hs hw h.m (by decide) (by decide), h.len, wr_keep_boxes hs hw h.box⟩
/-- each part's call -/
theorem part_w {base g b0 n fc M : Nat} {fa : Option Addr} {xs : List Ts} {ks : List Nat} {o : Value} {w : World} {E : Int} {bs : List Int} {V H : Int} {P : ByteArray} {JV JH : Int} {JB : ByteArray} {ja : Option Addr} {jn jc : Nat} {ta : Option Addr} {tc : Nat} {S : ByteArray}
    (h : PartsD w (bkC V H P JV JH JB ja jn jc ta n tc S) xs b0 n fa fc M ks) (hV : I64 V) (hH : I64 H) (hJ : I64 JV) (hP : P.size ≤ maxLen) (hn : n ≤ 4) (hxn : xs.length = n) (hx : ∀ x ∈ xs, TsOk x) (hw : Wr w base g o E bs) (hb : bs.length ≤ 20482) (hbase : base ≤ w.heap.size) (i : Nat) (hi : i < n + 1) :
    ∃ (F : FuncId) (cb : Array Value) (T : Int × List Int → Int × List Int), (fnB M :: ks.map fnT)[i]? = some (.func (.func F) #[] cb) ∧ (bkSs V H P JV xs)[i]? = some T ∧ (∀ args w, (callFunc F args).run Try.prog w = .ok (.enter F args) w) ∧
      Calls Try.prog F (#[.pointer (some ⟨g, 0, none⟩)] ++ cb) w fun e w' => e = .returned (.tuple #[]) ∧ ∃ o', Wr w' base g o' (T (E, bs)).1 (T (E, bs)).2 ∧ WrStep g o o' w w' := by
  match i, hi with
  | 0, _ => exact ⟨_, _, _, rfl, rfl, enters_of Try.func72 (by kernel_rfl) rfl, by rw [hxn]; exact putBw_any base g M o E bs V H P JV JH JB ja jn jc ta n tc S w hw hb hbase h.m hV hH hJ hP hn⟩
  | k + 1, hi =>
    obtain ⟨b, hbk⟩ : ∃ b, ks[k]? = some b := ⟨ks[k]'(by have := h.len; omega), List.getElem?_eq_getElem _⟩
    obtain ⟨x, hxk, hh⟩ := h.box k b hbk
    refine ⟨_, _, tsS x, ?_, ?_, enters_of Try.func73 (by kernel_rfl) rfl, putTw_any base g b o E bs x w hw (hx x (List.mem_of_getElem? hxk)) hb hbase hh⟩
    · rw [List.getElem?_cons_succ, List.getElem?_map, hbk]; rfl
    · unfold bkSs; rw [List.getElem?_cons_succ, List.getElem?_map, hxk]; rfl

theorem row_cell {W : World} {b0 fg m c i : Nat} {e : TypeId} {xs : List Value} {f : Value} (h : W.ownsRow b0 e 1 (.slice (some ⟨fg, 0, none⟩) m c) m xs) (hi : i < m) (hx : xs[i]? = some f) : W.cell? ⟨fg, i, none⟩ = some f := by
  rcases h.2 with ⟨he, h0⟩ | ⟨g, cap, cur, he, _, hg, hc, _, hs, ht⟩
  · cases he
  · cases he
    rw [cell_of_row _ _ i _ _ _ hg, ← hx, ← ht, List.getElem?_take_of_lt (by omega), Array.getElem?_toList]
theorem row_ptr {W : World} {b0 m c : Nat} {fa : Option Addr} {e : TypeId} {xs : List Value} (h : W.ownsRow b0 e 1 (.slice fa m c) m xs) (hm : 0 < m) : ∃ fg, fa = some ⟨fg, 0, none⟩ := by
  rcases h.2 with ⟨he, h0⟩ | ⟨g, cap, cur, he, _, hg, hc, _, hs, ht⟩
  · omega
  · cases he; exact ⟨g, rfl⟩
/-- the writer behind a block -/
def bkPS (V H : Int) (P : ByteArray) (JV JH : Int) (JB : ByteArray) (js : List Vs) (xs : List Ts) (S : ByteArray) (p : Int × List Int) : Int × List Int := textS (ctWS (chS (runS (bkSs V H P JV xs) p) JV JH (octsOf JB) js.length) js) (octsOf S)

set_option maxHeartbeats 4000000 in
theorem blkPut_any (base g : Nat) (o : Value) (E : Int) (bs : List Int) (V H : Int) (P : ByteArray) (JV JH : Int) (JB : ByteArray) (ja : Option Addr) (jn jc : Nat) (ta : Option Addr) (n tc : Nat) (S : ByteArray) (js : List Vs) (xs : List Ts) (w : World) (h : Wr w base g o E bs) (hb : bs.length ≤ 20482) (hbase : base ≤ w.heap.size) (hV : I64 V) (hH : I64 H) (hJ : I64 JV) (hJH : I64 JH) (hP : P.size ≤ maxLen) (hJB : JB.size ≤ maxLen) (hS : S.size ≤ maxLen) (hn : n ≤ 4) (hjn : jn < 4611686018427387904)
    (ht : TArg w (.slice ta n tc) xs) (hv : VArg w (.slice ja jn jc) js) (hvg : js ≠ [] → ∀ b off, ja = some ⟨b, off, none⟩ → b < base) (hxo : ∀ x ∈ xs, TsOk x) (hjo : ∀ x ∈ js, VsOk x) :
    Calls Try.prog 27 #[.pointer (some ⟨g, 0, none⟩), .agg (bkC V H P JV JH JB ja jn jc ta n tc S)] w fun e w' => e = .returned (.tuple #[]) ∧ ∃ o', Wr w' base g o' (bkPS V H P JV JH JB js xs S (E, bs)).1 (bkPS V H P JV JH JB js xs S (E, bs)).2 ∧ WrStep g o o' w w' := by
  have hxn := ht.len
  have hjl := hv.len
  have HV0 : Hid (∀ wx, Below base w wx → VArg wx (.slice ja jn jc) js) := fun wx u => varg_below hv u hvg
  have HW0 := Lib.hid h
  have HBS := Lib.hid hbase
  have HG := Lib.hid h.lt
  have HTP : Hid (∀ wx, Up w wx → Calls Try.prog 50 #[.agg (bkC V H P JV JH JB ja jn jc ta n tc S)] wx (PartsP wx (bkC V H P JV JH JB ja jn jc ta n tc S) xs n)) := fun wx u => textParts_any V H P JV JH JB ja jn jc ta n tc S xs wx hn (ht.up u)
  have HPW : Hid (∀ (wr : World) (oi : Value) (q : Int × List Int) (b0 fc M : Nat) (fa : Option Addr) (ks : List Nat), PartsD wr (bkC V H P JV JH JB ja jn jc ta n tc S) xs b0 n fa fc M ks → Wr wr base g oi q.1 q.2 → q.2.length ≤ 20482 → base ≤ wr.heap.size → ∀ i, i < n + 1 →
      ∃ (F : FuncId) (cb : Array Value) (T : Int × List Int → Int × List Int), (fnB M :: ks.map fnT)[i]? = some (.func (.func F) #[] cb) ∧ (bkSs V H P JV xs)[i]? = some T ∧ (∀ args w, (callFunc F args).run Try.prog w = .ok (.enter F args) w) ∧
        Calls Try.prog F (#[.pointer (some ⟨g, 0, none⟩)] ++ cb) wr fun e w' => e = .returned (.tuple #[]) ∧ ∃ o', Wr w' base g o' (T q).1 (T q).2 ∧ WrStep g oi o' wr w') := fun wr oi q b0 fc M fa ks hd hw hq hbz i hi => part_w hd hV hH hJ hP hn hxn hxo hw hq hbz i hi
  have HCT : Hid (∀ (wr : World) (oi : Value) (q : Int × List Int), Wr wr base g oi q.1 q.2 → q.2.length ≤ 20482 → base ≤ wr.heap.size → Below base w wr → Calls Try.prog 29 #[.pointer (some ⟨g, 0, none⟩), .agg #[.int .i64 JV, .int .i64 JH, .string JB, .slice ja jn jc]] wr fun e w' => e = .returned (.tuple #[]) ∧ ∃ o', Wr w' base g o' (ctWS (chS q JV JH (octsOf JB) js.length) js).1 (ctWS (chS q JV JH (octsOf JB) js.length) js).2 ∧ WrStep g oi o' wr w') := fun wr oi q hw hq hbz u => by
    have c := ctPut_any base g oi q.1 q.2 JV JH (octsOf JB) ja jn jc js wr hw hq hbz hJ hJH (octsOf_u8s _) (by rw [octsOf_length]; exact Nat.le_trans hJB (by decide)) (HV0.out wr u) hvg hjl hjn (fun j x hx => hjo x (List.mem_of_getElem? hx))
    rw [strOf_octs] at c
    rw [hjl]
    exact c
  have HTX : Hid (∀ (wr : World) (oi : Value) (q : Int × List Int), Wr wr base g oi q.1 q.2 → q.2.length ≤ 20482 → base ≤ wr.heap.size → Calls Try.prog 30 #[.pointer (some ⟨g, 0, none⟩), .string S] wr fun e w' => e = .returned (.tuple #[]) ∧ ∃ o', Wr w' base g o' (textS q (octsOf S)).1 (textS q (octsOf S)).2 ∧ WrStep g oi o' wr w') := fun wr oi q hw hq hbz => by
    have c := wtext_any base g oi q.1 q.2 (octsOf S) wr hw (octsOf_u8s S) (by rw [octsOf_length]; exact Nat.le_trans hS (by decide)) (by omega) hbz
    rw [strOf_octs] at c
    exact c
  have HSL : Hid ((bkSs V H P JV xs).length = n + 1) := by (have e : (bkSs V H P JV xs).length = n + 1 := by unfold bkSs; simp [hxn]); exact e
  have HLN : Hid (∀ i, (runS ((bkSs V H P JV xs).take i) (E, bs)).2.length ≤ 20482) := fun i => runS_len _ (fun f hf => bkSs_len V H P JV xs f (List.mem_of_mem_take hf)) _ hb
  have HCL : Hid (∀ q : Int × List Int, q.2.length ≤ 20482 → (ctWS (chS q JV JH (octsOf JB) js.length) js).2.length ≤ 20482) := fun q hq => ctWS_len _ _ (numS_le _ _ (textS_le _ _ (numS_le _ _ (numS_le _ _ hq))))
  have HNX : Hid (∀ (i : Nat) (T : Int × List Int → Int × List Int), (bkSs V H P JV xs)[i]? = some T → runS ((bkSs V H P JV xs).take (i + 1)) (E, bs) = T (runS ((bkSs V H P JV xs).take i) (E, bs))) := fun i T hT => runS_next _ _ hT
  unfold bkPS
  have HB0 := Lib.hid (heap_alloc_new w (.cells (bkC V H P JV JH JB ja jn jc ta n tc S) 27))
  have HU0 := Lib.hid (Up.alloc (Up.refl w) (.cells (bkC V H P JV JH JB ja jn jc ta n tc S) 27))
  generalize bkSs V H P JV xs = ss at *
  unfold bkC at HB0 HU0 HTP HPW ⊢
  clear h hb hbase hV hH hJ hJH hP hJB hS ht hv hvg hxo hjo hxn hjl
  go_enter Try.func27, Try.ntmps27
  go_wp2_with (refine wpList_ex rfl (.agg #[.int .i64 V, .int .i64 H, .string P, .int .i64 JV, .int .i64 JH, .string JB, .slice ja jn jc, .slice ta n tc, .string S]) _ (ex_loadrow (x := .tmp 3) rfl rfl _ 27 HB0.out Try.underlying27 rfl info_bk) ?_)
  generalize w.alloc (.cells #[.int .i64 V, .int .i64 H, .string P, .int .i64 JV, .int .i64 JH, .string JB, .slice ja jn jc, .slice ta n tc, .string S] 27) = w1 at HU0 HB0 ⊢
  generalize w.heap.size = B at HB0 ⊢
  with_reducible refine Calls.mono (HTP.out _ HU0.out) ?_
  rintro e wp ⟨⟨fa, fc, M, ks, rfl, ho, hM, hbl, hbx⟩, up⟩
  have HD0 : Hid (PartsD wp #[.int .i64 V, .int .i64 H, .string P, .int .i64 JV, .int .i64 JH, .string JB, .slice ja jn jc, .slice ta n tc, .string S] xs w1.heap.size n fa fc M ks) := ⟨ho, hM, hbl, hbx⟩
  have HUP := Lib.hid (Up.trans HU0.out up)
  have HBP := Lib.hid ((up.block _ (lt_of_block HB0.out)).trans HB0.out)
  obtain ⟨fg, hfg⟩ := row_ptr ho (by omega)
  subst hfg
  have HWP := Lib.hid (HW0.out.up HUP.out)
  have HTS := Lib.hid (WrStep.up (g := g) (o := o) HUP.out)
  generalize w1.heap.size = b0 at HD0 ⊢
  clear ho hM hbl hbx up HTP HB0 HU0
  obtain ⟨m, hm1⟩ : ∃ m, n + 1 = m := ⟨_, rfl⟩
  have HM1 := Lib.hid hm1
  have hm5 : m ≤ 5 := by omega
  rw [hm1]
  clear hm1
  go_wp2
  go_loopw [9] (fun vi wr => ∃ (i : Nat) (oi : Value), vi = .int .i64 (i : Nat) ∧ i ≤ m ∧ Hid (PartsD wr #[.int .i64 V, .int .i64 H, .string P, .int .i64 JV, .int .i64 JH, .string JB, .slice ja jn jc, .slice ta n tc, .string S] xs b0 n (some ⟨fg, 0, none⟩) fc M ks) ∧ Hid (Wr wr base g oi (runS (ss.take i) (E, bs)).1 (runS (ss.take i) (E, bs)).2) ∧ Hid (WrStep g o oi w wr) ∧ Hid (wr.heap[B]? = some (.cells #[.int .i64 V, .int .i64 H, .string P, .int .i64 JV, .int .i64 JH, .string JB, .slice ja jn jc, .slice ta n tc, .string S] 27 (0, 0))))
    (fun vi _ => m - (RowKit.intOf vi).toNat)
  case atStart => exact ⟨0, o, rfl, Nat.zero_le _, HD0, HWP, HTS, HBP⟩
  case round =>
    obtain ⟨i, oi, rfl, hi, HD, HW, HT, HBk⟩ := hrel
    have HBZ := Lib.hid (Nat.le_trans HBS.out (WrStep.size HT.out))
    by_cases hlt : i < m
    · have hz : (i : Int) < (m : Int) := by omega
      obtain ⟨F, cb, T, hf, hT, heg, hcall⟩ := HPW.out wr oi (runS (ss.take i) (E, bs)) b0 fc M _ ks HD.out HW.out (HLN.out i) HBZ.out i (by have := HM1.out; omega)
      have hcell := row_cell HD.out.row (by have := HM1.out; omega) hf
      have HCA := Lib.hid hcall
      have HEG := Lib.hid heg
      have HN := Lib.hid (HNX.out i T hT)
      clear hf hT heg hcall
      go_wp2_with (refine wpList_callv (f := F) (cb := cb) (vs := [.pointer (some ⟨g, 0, none⟩)]) rfl rfl rfl rfl HEG.out ?_)
      with_reducible refine Calls.mono HCA.out ?_
      rintro e w5 ⟨rfl, o5, k1, k2⟩
      refine ⟨_, rfl, ?_⟩
      have HW5 := Lib.hid k1
      have HD5 := Lib.hid (HD.out.keep k2 HW.out)
      have HB5 := Lib.hid (wr_keep k2 HW.out HBk.out (by decide) (by decide))
      have HT5 := Lib.hid (HT.out.trans HG.out k2)
      clear k1 k2 hcell
      go_wp2
      go_roundw
      case rel => exact ⟨i + 1, o5, by go_num, hlt, HD5, by rw [HN.out]; exact HW5, HT5, HB5⟩
      case measure => simp [RowKit.intOf]; omega
    · have hie : i = m := by omega
      have hz : ¬ (i : Int) < (m : Int) := by omega
      have htk : ss.take i = ss := List.take_of_length_le (by have := HSL.out; have := HM1.out; omega)
      have HQL := Lib.hid (HLN.out i)
      rw [htk] at HW HQL
      clear htk hie
      obtain ⟨q, hq⟩ : ∃ q, runS ss (E, bs) = q := ⟨_, rfl⟩
      rw [hq] at HW HQL
      have HE1 := Lib.hid hq
      clear hq
      have HC := Lib.hid (HCT.out wr oi q HW.out HQL.out HBZ.out (HW0.out.below HT.out HBS.out))
      have HQ2 := Lib.hid (HCL.out q HQL.out)
      obtain ⟨q2, hq⟩ : ∃ q2, ctWS (chS q JV JH (octsOf JB) js.length) js = q2 := ⟨_, rfl⟩
      rw [hq] at HC HQ2
      have HE2 := Lib.hid hq
      clear hq
      obtain ⟨c0, c1, c2, c3, c4, c5, c6, c7, c8⟩ := bk_cells HBk.out
      clear c0 c1 c2 c7 c8
      go_wp2_with fail
      clear c3 c4 c5 c6
      with_reducible refine Calls.mono HC.out ?_
      rintro e w6 ⟨rfl, o6, k1, k2⟩
      have HW6 := Lib.hid k1
      have HB6 := Lib.hid (wr_keep k2 HW.out HBk.out (by decide) (by decide))
      have HT6 := Lib.hid (HT.out.trans HG.out k2)
      clear k1 k2
      obtain ⟨c0, c1, c2, c3, c4, c5, c6, c7, c8⟩ := bk_cells HB6.out
      clear c0 c1 c2 c3 c4 c5 c6 c7
      go_wp2_with fail
      with_reducible refine Calls.mono (HTX.out w6 o6 q2 HW6.out HQ2.out (Nat.le_trans HBS.out (WrStep.size HT6.out))) ?_
      rintro e w7 ⟨rfl, o7, k1, k2⟩
      have HW7 := Lib.hid k1
      have HT7 := Lib.hid (HT6.out.trans HG.out k2)
      clear k1 k2
      go_wp2
      go_end0
      exact ⟨rfl, o7, by rw [HE1.out, HE2.out]; exact HW7.out, HT7.out⟩
end
end Go.Proofs.Ytacamknljicjmaa
