import Derived.Test.YtacamknljicjmaaCtArgs
/-
  cert.Put, of whatever writer and cert.
-/
namespace Go.Proofs.Ytacamknljicjmaa
set_option maxRecDepth 100000
section
set_option linter.unusedVariables false
open Go.RowKit Go.Sort Go.Lib

theorem VsOk.fit {x : Vs} (h : VsOk x) : VtFit x.1 := by
  obtain ⟨h1, h2, h3, h4, h5, h6, h7, h8⟩ := h
  exact ⟨i64_of_wf h2, i64_of_wf h3, i64_of_wf h4, h1, Nat.le_trans h5 (by decide), i64_of_wf h6, i64_of_wf h7⟩
/-- the block of the cert is not the writer's -/
theorem ownNew {g base : Nat} {o o' : Value} {w w' : World} {E : Int} {bs : List Int} {cs : Array Value} {B : Nat} {ty : TypeId} (hs : WrStep g o o' w w') (hn : o.ownBlock ≠ some w.heap.size) (hw : Wr w' base g o' E bs) (hB : w'.heap[B]? = some (.cells cs ty (0, 0))) (ht : ty = 24) : o'.ownBlock ≠ some B := by
  subst ht
  exact fun e => block_off hB (by decide) hw.2.2 e.symm
/-- the writer behind a statement -/
def pvS (p : Int × List Int) (x : Vs) : Int × List Int := textS (vtS6 p x.1) (octsOf x.2)
theorem pvS_len {p : Int × List Int} (x : Vs) (h : p.2.length ≤ 20482) : (pvS p x).2.length ≤ 20482 := textS_le _ _ (vtS_le p x.1 h).2.2.2.2.2.2
theorem put_vs (base g : Nat) (o : Value) (E : Int) (bs : List Int) (x : Vs) (w : World) (h : Wr w base g o E bs) (hx : VsOk x) (hb : bs.length ≤ 20482) (hbase : base ≤ w.heap.size) :
    Calls Try.prog 28 #[.pointer (some ⟨g, 0, none⟩), .agg (vsA x)] w fun e w' => e = .returned (.tuple #[]) ∧ ∃ o', Wr w' base g o' (pvS (E, bs) x).1 (pvS (E, bs) x).2 ∧ WrStep g o o' w w' := by
  have hf := hx.fit
  obtain ⟨h1, h2, h3, h4, h5, h6, h7, h8⟩ := hx
  have k := vtPut_any base g o E bs x.1 (octsOf x.2) w h hf (octsOf_u8s _) (by rw [octsOf_length]; exact Nat.le_trans h8 (by decide)) hb hbase
  rw [strOf_octs] at k
  rw [vsA_eq]
  exact k
/-- the writer behind whole statements -/
def ctWS (p : Int × List Int) (xs : List Vs) : Int × List Int := xs.foldl pvS p
theorem ctWS_len (xs : List Vs) : ∀ p : Int × List Int, p.2.length ≤ 20482 → (ctWS p xs).2.length ≤ 20482 := by
  induction xs with
  | nil => exact fun p h => h
  | cons x t ih => exact fun p h => ih (pvS p x) (pvS_len x h)
theorem ctWS_next (p : Int × List Int) {xs : List Vs} {i : Nat} {x : Vs} (hx : xs[i]? = some x) : ctWS p (xs.take (i + 1)) = pvS (ctWS p (xs.take i)) x := by
  obtain ⟨hi, e⟩ := List.getElem?_eq_some_iff.1 hx
  rw [List.take_succ_eq_append_getElem hi, e]
  unfold ctWS
  rw [List.foldl_append]; rfl
def chS (p : Int × List Int) (V H : Int) (BL : List Int) (n : Nat) : Int × List Int := numS (textS (numS (numS p V) H) BL) (n : Int)

theorem varg_below {base : Nat} {W W' : World} {a : Option Addr} {n cap : Nat} {xs : List Vs} (h : VArg W (.slice a n cap) xs) (hu : Below base W W') (hb : xs ≠ [] → ∀ b off, a = some ⟨b, off, none⟩ → b < base) : VArg W' (.slice a n cap) xs := by
  obtain ⟨a', cap', e, h2, h3, h4⟩ := h
  cases e
  by_cases hx : xs = []
  · exact ⟨a, cap, rfl, h2, h3, .inl hx⟩
  refine ⟨a, cap, rfl, h2, h3, h4.imp id ?_⟩
  rintro ⟨b, off, h5, h6⟩
  refine ⟨b, off, h5, fun j hj => ?_⟩
  rw [← h6 j hj]
  exact World.cell?_of_block (a := ⟨b, off + j, none⟩) (hu.block b (hb hx b off h5))
theorem varg_lt {W : World} {a : Option Addr} {n cap : Nat} {xs : List Vs} (h : VArg W (.slice a n cap) xs) (hx : xs ≠ []) (b off : Nat) (ha : a = some ⟨b, off, none⟩) : b < W.heap.size := by
  obtain ⟨a', cap', e, h2, h3, h4⟩ := h
  cases e
  subst ha
  rcases h4 with h4 | ⟨b', off', e, h4⟩
  · exact absurd h4 hx
  · cases e
    have hl : 0 < xs.length := List.length_pos_iff.2 hx
    have h0 := h4 0 (by omega)
    rw [List.getElem?_eq_getElem (by rw [vsF_length]; omega)] at h0
    exact World.block_lt_of_cell? W _ h0

set_option maxHeartbeats 2000000 in
theorem ctPut_any (base g : Nat) (o : Value) (E : Int) (bs : List Int) (V H : Int) (BL : List Int) (a : Option Addr) (n cap : Nat) (xs : List Vs) (w : World) (h : Wr w base g o E bs) (hb : bs.length ≤ 20482) (hbase : base ≤ w.heap.size) (hV : I64 V) (hH : I64 H) (hu : U8s BL) (hbn : BL.length ≤ 9223372036854775807) (hv : VArg w (.slice a n cap) xs) (hvg : xs ≠ [] → ∀ b off, a = some ⟨b, off, none⟩ → b < base) (hn : xs.length = n) (hsz : n < 4611686018427387904) (hok : ∀ (j : Nat) (x : Vs), xs[j]? = some x → VsOk x) :
    Calls Try.prog 29 #[.pointer (some ⟨g, 0, none⟩), .agg #[.int .i64 V, .int .i64 H, .string (strOfNums BL), .slice a n cap]] w fun e w' => e = .returned (.tuple #[]) ∧ ∃ o', Wr w' base g o' (ctWS (chS (E, bs) V H BL n) xs).1 (ctWS (chS (E, bs) V H BL n) xs).2 ∧ WrStep g o o' w w' := by
  have HV0 : Hid (∀ wx, Below base w wx → VArg wx (.slice a n cap) xs) := fun wx u => varg_below hv u hvg
  have HN := Lib.hid hn
  have HOK := Lib.hid hok
  have HBS := Lib.hid hbase
  have HG := Lib.hid h.lt
  have HON : Hid (o.ownBlock ≠ some w.heap.size) := fun e => by have := (h.2.2.lt _ e).2; omega
  have HW0 := Lib.hid h
  have l1 := numS_le (E, bs) V hb
  have l2 := numS_le (numS (E, bs) V) H l1
  have l3 := textS_le (numS (numS (E, bs) V) H) BL l2
  have l4 := numS_le (textS (numS (numS (E, bs) V) H) BL) (n : Int) l3
  have H1 : Hid (∀ wx o', Wr wx base g o' E bs → base ≤ wx.heap.size → Calls Try.prog 12 #[.pointer (some ⟨g, 0, none⟩), .int .i64 V] wx fun e w' => e = .returned (.tuple #[]) ∧ ∃ o2, Wr w' base g o2 (numS (E, bs) V).1 (numS (E, bs) V).2 ∧ WrStep g o' o2 wx w') := fun wx o' k kb => wnum_any base g o' E bs V wx k hV (by omega) kb
  have H2 : Hid (∀ wx o', Wr wx base g o' (numS (E, bs) V).1 (numS (E, bs) V).2 → base ≤ wx.heap.size → Calls Try.prog 12 #[.pointer (some ⟨g, 0, none⟩), .int .i64 H] wx fun e w' => e = .returned (.tuple #[]) ∧ ∃ o2, Wr w' base g o2 (numS (numS (E, bs) V) H).1 (numS (numS (E, bs) V) H).2 ∧ WrStep g o' o2 wx w') := fun wx o' k kb => wnum_any base g o' _ _ H wx k hH (by omega) kb
  have H3 : Hid (∀ wx o', Wr wx base g o' (numS (numS (E, bs) V) H).1 (numS (numS (E, bs) V) H).2 → base ≤ wx.heap.size → Calls Try.prog 30 #[.pointer (some ⟨g, 0, none⟩), .string (strOfNums BL)] wx fun e w' => e = .returned (.tuple #[]) ∧ ∃ o2, Wr w' base g o2 (textS (numS (numS (E, bs) V) H) BL).1 (textS (numS (numS (E, bs) V) H) BL).2 ∧ WrStep g o' o2 wx w') := fun wx o' k kb => wtext_any base g o' _ _ BL wx k hu hbn (by omega) kb
  have H4 : Hid (∀ wx o', Wr wx base g o' (textS (numS (numS (E, bs) V) H) BL).1 (textS (numS (numS (E, bs) V) H) BL).2 → base ≤ wx.heap.size → Calls Try.prog 12 #[.pointer (some ⟨g, 0, none⟩), .int .i64 (n : Int)] wx fun e w' => e = .returned (.tuple #[]) ∧ ∃ o2, Wr w' base g o2 (chS (E, bs) V H BL n).1 (chS (E, bs) V H BL n).2 ∧ WrStep g o' o2 wx w') := fun wx o' k kb => wnum_any base g o' _ _ (n : Int) wx k (by omega) (by omega) kb
  have HL : Hid ((chS (E, bs) V H BL n).2.length ≤ 20482) := l4
  generalize chS (E, bs) V H BL n = p0 at H4 HL ⊢
  generalize textS (numS (numS (E, bs) V) H) BL = p3 at H3 H4
  generalize numS (numS (E, bs) V) H = p2 at H2 H3
  generalize numS (E, bs) V = p1 at H1 H2
  have hbx := heap_alloc_new w (.cells #[.int .i64 V, .int .i64 H, .string (strOfNums BL), .slice a n cap] 24)
  have hux := Up.alloc (Up.refl w) (.cells #[.int .i64 V, .int .i64 H, .string (strOfNums BL), .slice a n cap] 24)
  have HS0 := Lib.hid (WrStep.up (g := g) (o := o) hux)
  have HWx := Lib.hid (h.up hux)
  have HLT := Lib.hid hux.size
  have HMG : Hid (w.heap.size ≠ g) := fun e => by have := h.lt; omega
  generalize strOfNums BL = BS at H3 hbx hux HS0 HWx HLT ⊢
  clear h hb hbase hV hH hu hbn hv hvg hn hok l1 l2 l3 l4 hux
  have HB0 := Lib.hid hbx
  obtain ⟨c0, c1, c2, c3⟩ := ct_cells hbx
  clear hbx
  go_enter Try.func29, Try.ntmps29
  go_wp2_with fail
  generalize w.alloc (.cells #[.int .i64 V, .int .i64 H, .string BS, .slice a n cap] 24) = w1 at HS0 HWx HLT HB0 c0 c1 c2 c3 ⊢
  with_reducible refine Calls.mono (H1.out _ _ HWx.out (Nat.le_trans HBS.out HLT.out)) ?_
  rintro e w2 ⟨rfl, o2, k1, k2⟩
  have HB2 := Lib.hid (k2.keep HB0.out HMG.out HON.out)
  have HT2 := Lib.hid (HS0.out.trans HG.out k2)
  have HW2 := Lib.hid k1
  clear k1 k2 c0 c1 c2 c3
  obtain ⟨c0, c1, c2, c3⟩ := ct_cells HB2.out
  go_wp2_with fail
  with_reducible refine Calls.mono (H2.out _ _ HW2.out (Nat.le_trans HBS.out (WrStep.size HT2.out))) ?_
  rintro e w3 ⟨rfl, o3, k1, k2⟩
  have HON3 : Hid (o2.ownBlock ≠ some w.heap.size) := fun e => (ownNew HT2.out HON.out HW2.out HB2.out rfl e)
  have HB3 := Lib.hid (k2.keep HB2.out HMG.out HON3.out)
  have HT3 := Lib.hid (HT2.out.trans HG.out k2)
  have HW3 := Lib.hid k1
  clear k1 k2 c0 c1 c2 c3
  obtain ⟨c0, c1, c2, c3⟩ := ct_cells HB3.out
  go_wp2_with fail
  with_reducible refine Calls.mono (H3.out _ _ HW3.out (Nat.le_trans HBS.out (WrStep.size HT3.out))) ?_
  rintro e w4 ⟨rfl, o4, k1, k2⟩
  have HON4 : Hid (o3.ownBlock ≠ some w.heap.size) := fun e => (ownNew HT3.out HON.out HW3.out HB3.out rfl e)
  have HB4 := Lib.hid (k2.keep HB3.out HMG.out HON4.out)
  have HT4 := Lib.hid (HT3.out.trans HG.out k2)
  have HW4 := Lib.hid k1
  clear k1 k2 c0 c1 c2 c3
  obtain ⟨c0, c1, c2, c3⟩ := ct_cells HB4.out
  go_wp2_with fail
  with_reducible refine Calls.mono (H4.out _ _ HW4.out (Nat.le_trans HBS.out (WrStep.size HT4.out))) ?_
  rintro e w5 ⟨rfl, o5, k1, k2⟩
  have HON5 : Hid (o4.ownBlock ≠ some w.heap.size) := fun e => (ownNew HT4.out HON.out HW4.out HB4.out rfl e)
  have HB5 := Lib.hid (k2.keep HB4.out HMG.out HON5.out)
  have HT5 := Lib.hid (HT4.out.trans HG.out k2)
  have HW5 := Lib.hid k1
  clear k1 k2 c0 c1 c2 c3
  obtain ⟨c0, c1, c2, c3⟩ := ct_cells HB5.out
  clear H1 H2 H3 H4 HB2 HB3 HB4 HT2 HT3 HT4 HW2 HW3 HW4 HON3 HON4 HON5
  go_wp2
  clear c0 c1 c2 c3
  go_loopw [26] (fun vi wr => ∃ (i : Nat) (oi : Value), vi = .int .i64 (i : Nat) ∧ i ≤ n ∧ Hid (Wr wr base g oi (ctWS p0 (xs.take i)).1 (ctWS p0 (xs.take i)).2) ∧ Hid (WrStep g o oi w wr))
    (fun vi _ => n - (intOf vi).toNat)
  case atStart => exact ⟨0, o5, rfl, Nat.zero_le _, HW5, HT5⟩
  case round =>
    obtain ⟨i, oi, rfl, hi, HWR, HTR⟩ := hrel
    by_cases hlt : i < n
    · have hz : (i : Int) < (n : Int) := by omega
      obtain ⟨x, hx⟩ : ∃ x, xs[i]? = some x := ⟨xs[i]'(by have := HN.out; omega), List.getElem?_eq_getElem _⟩
      have hva := HV0.out wr (HW0.out.below HTR.out HBS.out)
      obtain ⟨b, off, hb1⟩ := hva.ptr (by have := HN.out; omega)
      subst hb1
      have Hl := Lib.hid (hva.load hx)
      have HNX := Lib.hid (ctWS_next p0 hx)
      have HLN := Lib.hid (ctWS_len (xs.take i) p0 HL.out)
      have HXO := Lib.hid (HOK.out i x hx)
      clear hx hva
      generalize ctWS p0 (xs.take i) = pq at HWR HNX HLN
      obtain ⟨Ei, Bi⟩ := pq
      simp only at HWR HLN
      have HBX := Lib.hid (heap_alloc_new wr (.cells (vsA x) 29))
      have hux := Up.alloc (Up.refl wr) (.cells (vsA x) 29)
      have HWV := Lib.hid (HWR.out.up hux)
      have HTV := Lib.hid (HTR.out.trans HG.out (WrStep.up hux))
      clear hux
      go_wp2_with (first | (refine wpList_ex rfl (.agg (vsA x)) wr (ex_ldv (x := .tmp 28) rfl rfl Hl.out) ?_) | (refine wpList_exs rfl _ (ex_fill (x := .tmp 5) (y := .tmp 29) (W := wr) rfl rfl rfl rfl) ?_; generalize wr.alloc (.cells (vsA x) 29) = wv at HBX HWV HTV ⊢; generalize wr.heap.size = bx at HBX ⊢) | (refine wpList_ex rfl (.agg (vsA x)) _ (ex_loadrow (x := .tmp 5) rfl rfl _ 29 HBX.out Try.underlying29 rfl info_vt) ?_))
      with_reducible refine Calls.mono (put_vs base g oi Ei Bi x _ HWV.out HXO.out HLN.out (Nat.le_trans HBS.out (WrStep.size HTV.out))) ?_
      rintro e w6 ⟨rfl, o6, k1, k2⟩
      have HW6 := Lib.hid k1
      have HT6 := Lib.hid (HTV.out.trans HG.out k2)
      clear k1 k2
      go_wp2
      go_roundw
      case rel => exact ⟨i + 1, o6, by go_num, hlt, Lib.hid (by rw [HNX.out]; exact HW6.out), HT6⟩
      case measure => simp [intOf]; omega
    · have hie : i = n := by omega
      have hz : ¬ (i : Int) < (n : Int) := by omega
      have ht : xs.take i = xs := List.take_of_length_le (by have := HN.out; omega)
      rw [ht] at HWR
      go_wp2
      go_end0
      exact ⟨rfl, oi, HWR.out, HTR.out⟩
end
end Go.Proofs.Ytacamknljicjmaa
