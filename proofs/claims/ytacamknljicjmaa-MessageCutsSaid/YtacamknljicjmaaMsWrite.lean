import Derived.Test.YtacamknljicjmaaMsBkPut
import Derived.Test.YtacamknljicjmaaMsCheck
/-
  message: write.
-/
namespace Go.Proofs.Ytacamknljicjmaa
set_option maxRecDepth 100000
section
set_option linter.unusedVariables false
open Go.RowKit Go.Sort Go.Lib

/-- the writer behind what a message bears -/
def wrS (m : Mm) (p : Int × List Int) : Int × List Int :=
  if m.K = 1 then bkPS m.b.V m.b.H m.b.P m.b.J.V m.b.J.H m.b.J.B m.b.J.vs m.b.tx m.b.S p else if m.K = 2 then pvS p m.v else if m.K = 3 then ctWS (chS p m.c.V m.c.H (octsOf m.c.B) m.c.vs.length) m.c.vs else
  if m.K = 4 then ctWS (numS p m.bl.length) m.bl else if m.K = 5 then textS p (octsOf m.a) else if m.K = 6 then tsS m.t p else p
/-- the slices lie below -/
structure MLt (base : Nat) (m : Mm) (p : Ps) : Prop where
  j : m.b.J.vs ≠ [] → ∀ b off, p.j.1 = some ⟨b, off, none⟩ → b < base
  x : m.b.tx ≠ [] → ∀ b off, p.x.1 = some ⟨b, off, none⟩ → b < base
  c : m.c.vs ≠ [] → ∀ b off, p.c.1 = some ⟨b, off, none⟩ → b < base
  l : m.bl ≠ [] → ∀ b off, p.l.1 = some ⟨b, off, none⟩ → b < base
theorem MIn.lt {W : World} {m : Mm} {p : Ps} (h : MIn W m p) : MLt W.heap.size m p := ⟨fun k b off e => varg_lt h.j k b off e, fun k b off e => targ_lt h.x k b off e, fun k b off e => varg_lt h.c k b off e, fun k b off e => varg_lt h.l k b off e⟩
theorem MIn.below {base : Nat} {W W' : World} {m : Mm} {p : Ps} (h : MIn W m p) (l : MLt base m p) (u : Below base W W') : MIn W' m p := ⟨varg_below h.j u l.j, targ_below h.x u l.x, varg_below h.c u l.c, varg_below h.l u l.l⟩

set_option maxHeartbeats 4000000 in
theorem write_any (base g : Nat) (o : Value) (E : Int) (bs : List Int) (m : Mm) (p : Ps) (w : World) (h : Wr w base g o E bs) (hb : bs.length ≤ 20000) (hbase : base ≤ w.heap.size) (hi : MIn w m p) (hl : MLt base m p) (ho : MOk m) (hbr : Bears m) :
    Calls Try.prog 13 #[.pointer (some ⟨g, 0, none⟩), .agg (msA m p)] w fun e w' => e = .returned (.tuple #[]) ∧ ∃ o', Wr w' base g o' (wrS m (E, bs)).1 (wrS m (E, bs)).2 ∧ WrStep g o o' w w' := by
  have hu := Up.alloc (Up.refl w) (.cells (msA m p) 33)
  have HB := Lib.hid (heap_alloc_new w (.cells (msA m p) 33))
  have HW1 := Lib.hid (h.up hu)
  have HT1 := Lib.hid (WrStep.up (g := g) (o := o) hu)
  have HG := Lib.hid h.lt
  have HBS := Lib.hid (Nat.le_trans hbase hu.size)
  have M := Lib.hid (mbox m p)
  have HI := Lib.hid (hi.up hu)
  have HL := Lib.hid hl
  have HO := Lib.hid ho
  have HQ : Hid (bs.length ≤ 20482) := (Nat.le_trans hb (by decide) : bs.length ≤ 20482)
  clear h hb hbase hu hi hl ho
  rcases hbr with ⟨g1, hm, hj⟩ | ⟨g1, hv⟩ | ⟨g1, hc⟩ | ⟨g1, hl⟩ | ⟨g1, ha⟩ | ⟨g1, ht⟩
  · have HR : Hid (wrS m (E, bs) = bkPS m.b.V m.b.H m.b.P m.b.J.V m.b.J.H m.b.J.B m.b.J.vs m.b.tx m.b.S (E, bs)) := by (have e : wrS m (E, bs) = bkPS m.b.V m.b.H m.b.P m.b.J.V m.b.J.H m.b.J.B m.b.J.vs m.b.tx m.b.S (E, bs) := by unfold wrS; rw [if_pos g1]); exact e
    have C := Lib.hid (blkPut_any base g o E bs m.b.V m.b.H m.b.P m.b.J.V m.b.J.H m.b.J.B p.j.1 _ p.j.2 p.x.1 _ p.x.2 m.b.S m.b.J.vs m.b.tx _ HW1.out HQ.out HBS.out HO.out.bv HO.out.bh HO.out.jv HO.out.jh HO.out.bp HO.out.jb HO.out.bs hm.n (Nat.lt_of_le_of_lt hj.2.2.2.1 (by decide)) HI.out.x HI.out.j HL.out.j HO.out.xs HO.out.js)
    generalize bkPS m.b.V m.b.H m.b.P m.b.J.V m.b.J.H m.b.J.B m.b.J.vs m.b.tx m.b.S (E, bs) = q at *
    generalize wrS m (E, bs) = q0 at *
    obtain rfl := HR.out
    change Hid (Calls Try.prog 27 #[.pointer (some ⟨g, 0, none⟩), .agg (bkLs m.b p.j p.x).toArray] _ _) at C
    clear HI HL HO hm hj HR HQ
    generalize msA m p = cs at *
    generalize bkLs m.b p.j p.x = lb at *
    generalize m.K = K at *
    subst g1
    go_enter Try.func13, Try.ntmps13
    go_wp2_with (first | (refine wpList_ex rfl (.int .i64 1) _ (ex_loadcell (cs := cs) Try.isAgg3 rfl rfl _ HB.out M.out.k) ?_) | (refine wpList_ex rfl (.agg lb.toArray) _ (ex_loadpart (cs := cs) 9 Try.isAgg27 Try.sizeOf27 rfl rfl _ HB.out M.out.b M.out.bn) ?_))
    with_reducible refine Calls.mono C.out ?_
    rintro e w2 ⟨rfl, o2, k1, k2⟩
    have HW2 := Lib.hid k1
    have HT2 := Lib.hid (HT1.out.trans HG.out k2)
    clear k1 k2
    go_wp2
    go_end0
    exact ⟨rfl, o2, HW2.out, HT2.out⟩
  · have HR : Hid (wrS m (E, bs) = pvS (E, bs) m.v) := by (have e : wrS m (E, bs) = pvS (E, bs) m.v := by unfold wrS; rw [if_neg (by omega), if_pos g1]); exact e
    have C := Lib.hid (put_vs base g o E bs m.v _ HW1.out HO.out.v HQ.out HBS.out)
    generalize pvS (E, bs) m.v = q at *
    generalize wrS m (E, bs) = q0 at *
    obtain rfl := HR.out
    change Hid (Calls Try.prog 28 #[.pointer (some ⟨g, 0, none⟩), .agg (vsC m.v).toArray] _ _) at C
    clear HI HL HO hv HR HQ
    generalize msA m p = cs at *
    generalize vsC m.v = lb at *
    generalize m.K = K at *
    subst g1
    go_enter Try.func13, Try.ntmps13
    go_wp2_with (first | (refine wpList_ex rfl (.int .i64 2) _ (ex_loadcell (cs := cs) Try.isAgg3 rfl rfl _ HB.out M.out.k) ?_) | (refine wpList_ex rfl (.agg lb.toArray) _ (ex_loadpart (cs := cs) 7 Try.isAgg29 Try.sizeOf29 rfl rfl _ HB.out M.out.v M.out.vn) ?_))
    with_reducible refine Calls.mono C.out ?_
    rintro e w2 ⟨rfl, o2, k1, k2⟩
    have HW2 := Lib.hid k1
    have HT2 := Lib.hid (HT1.out.trans HG.out k2)
    clear k1 k2
    go_wp2
    go_end0
    exact ⟨rfl, o2, HW2.out, HT2.out⟩
  · have HR : Hid (wrS m (E, bs) = ctWS (chS (E, bs) m.c.V m.c.H (octsOf m.c.B) m.c.vs.length) m.c.vs) := by (have e : wrS m (E, bs) = ctWS (chS (E, bs) m.c.V m.c.H (octsOf m.c.B) m.c.vs.length) m.c.vs := by unfold wrS; rw [if_neg (by omega), if_neg (by omega), if_pos g1]); exact e
    have c0 := ctPut_any base g o E bs m.c.V m.c.H (octsOf m.c.B) p.c.1 _ p.c.2 m.c.vs _ HW1.out HQ.out HBS.out HO.out.cv HO.out.ch (octsOf_u8s _) (by rw [octsOf_length]; exact Nat.le_trans HO.out.cb (by decide)) HI.out.c HL.out.c rfl (Nat.lt_of_le_of_lt hc.2.2.2.1 (by decide)) (fun j x hx => HO.out.cs x (List.mem_of_getElem? hx))
    rw [strOf_octs] at c0
    have C := Lib.hid c0
    clear c0
    generalize ctWS (chS (E, bs) m.c.V m.c.H (octsOf m.c.B) m.c.vs.length) m.c.vs = q at *
    generalize wrS m (E, bs) = q0 at *
    obtain rfl := HR.out
    change Hid (Calls Try.prog 29 #[.pointer (some ⟨g, 0, none⟩), .agg (ctLs m.c p.c).toArray] _ _) at C
    clear HI HL HO hc HR HQ
    generalize msA m p = cs at *
    generalize ctLs m.c p.c = lb at *
    generalize m.K = K at *
    subst g1
    go_enter Try.func13, Try.ntmps13
    go_wp2_with (first | (refine wpList_ex rfl (.int .i64 3) _ (ex_loadcell (cs := cs) Try.isAgg3 rfl rfl _ HB.out M.out.k) ?_) | (refine wpList_ex rfl (.agg lb.toArray) _ (ex_loadpart (cs := cs) 4 Try.isAgg24 Try.sizeOf24 rfl rfl _ HB.out M.out.c M.out.cn) ?_))
    with_reducible refine Calls.mono C.out ?_
    rintro e w2 ⟨rfl, o2, k1, k2⟩
    have HW2 := Lib.hid k1
    have HT2 := Lib.hid (HT1.out.trans HG.out k2)
    clear k1 k2
    go_wp2
    go_end0
    exact ⟨rfl, o2, HW2.out, HT2.out⟩
  · have HR : Hid (wrS m (E, bs) = ctWS (numS (E, bs) m.bl.length) m.bl) := by (have e : wrS m (E, bs) = ctWS (numS (E, bs) m.bl.length) m.bl := by unfold wrS; rw [if_neg (by omega), if_neg (by omega), if_neg (by omega), if_pos g1]); exact e
    have hn7 := hl.1
    have C := Lib.hid (wnum_any base g o E bs (m.bl.length : Int) _ HW1.out ⟨by omega, by omega⟩ (by have := HQ.out; omega) HBS.out)
    have HLn : Hid ((numS (E, bs) m.bl.length).2.length ≤ 20482) := numS_le _ _ HQ.out
    have HV0 : Hid (∀ wx, Below base (w.alloc (.cells (msA m p) 33)) wx → VArg wx (.slice p.l.1 m.bl.length p.l.2) m.bl) := fun wx u => varg_below HI.out.l u HL.out.l
    have HOK : Hid (∀ x ∈ m.bl, VsOk x) := HO.out.ls
    change Hid (Calls Try.prog 12 #[.pointer (some ⟨g, 0, none⟩), .int .i64 (m.bl.length : Int)] _ fun e w' => e = .returned (.tuple #[]) ∧ ∃ o', Wr w' base g o' (numS (E, bs) m.bl.length).1 (numS (E, bs) m.bl.length).2 ∧ WrStep g o o' _ w') at C
    generalize wrS m (E, bs) = q0 at *
    generalize numS (E, bs) m.bl.length = p0 at *
    obtain ⟨n, hn⟩ : ∃ n, m.bl.length = n := ⟨_, rfl⟩
    have HN := Lib.hid hn
    rw [hn] at C HV0 M hn7
    generalize m.bl = xs at *
    clear HI HL HO HQ hl hn
    generalize msA m p = cs at *
    generalize m.K = K at *
    generalize p.l.1 = a1 at *
    generalize p.l.2 = c1 at *
    subst g1
    go_enter Try.func13, Try.ntmps13
    go_wp2_with (first | (refine wpList_ex rfl (.int .i64 4) _ (ex_loadcell (cs := cs) Try.isAgg3 rfl rfl _ HB.out M.out.k) ?_) | (refine wpList_ex rfl (.slice a1 n c1) _ (ex_loadcell (cs := cs) Try.isAgg22 rfl rfl _ HB.out M.out.l) ?_))
    generalize w.alloc (.cells cs 33) = w1 at *
    generalize w.heap.size = B at HB ⊢
    with_reducible refine Calls.mono C.out ?_
    rintro e w2 ⟨rfl, o2, k1, k2⟩
    have HB2 := Lib.hid (wr_keep k2 HW1.out HB.out (by decide) (by decide))
    have HW2 := Lib.hid k1
    have HT2 := Lib.hid (HT1.out.trans HG.out k2)
    have HTT := Lib.hid k2
    have HG1 := Lib.hid HW1.out.lt
    clear k1 k2 C
    go_wp2_with (refine wpList_ex rfl (.slice a1 n c1) _ (ex_loadcell (cs := cs) Try.isAgg22 rfl rfl _ HB2.out M.out.l) ?_)
    go_loopw [36] (fun vi wr => ∃ (i : Nat) (oi : Value), vi = .int .i64 (i : Nat) ∧ i ≤ n ∧ Hid (Wr wr base g oi (ctWS p0 (xs.take i)).1 (ctWS p0 (xs.take i)).2) ∧ Hid (WrStep g o oi w wr) ∧ Hid (WrStep g o oi w1 wr))
      (fun vi _ => n - (RowKit.intOf vi).toNat)
    case atStart => exact ⟨0, o2, rfl, Nat.zero_le _, HW2, HT2, HTT⟩
    case round =>
      obtain ⟨i, oi, rfl, hi, HWR, HTR, HTQ⟩ := hrel
      by_cases hlt : i < n
      · have hz : (i : Int) < (n : Int) := by omega
        obtain ⟨x, hx⟩ : ∃ x, xs[i]? = some x := ⟨xs[i]'(by have := HN.out; omega), List.getElem?_eq_getElem _⟩
        have hva := HV0.out wr (HW1.out.below HTQ.out HBS.out)
        obtain ⟨b, off, hb1⟩ := hva.ptr (by have := HN.out; omega)
        subst hb1
        have Hl := Lib.hid (hva.load hx)
        have HNX := Lib.hid (ctWS_next p0 hx)
        have HLN := Lib.hid (ctWS_len (xs.take i) p0 HLn.out)
        have HXO := Lib.hid (HOK.out x (List.mem_of_getElem? hx))
        clear hx hva
        generalize ctWS p0 (xs.take i) = pq at HWR HNX HLN
        obtain ⟨Ei, Bi⟩ := pq
        simp only at HWR HLN
        have HBX := Lib.hid (heap_alloc_new wr (.cells (vsA x) 29))
        have hux := Up.alloc (Up.refl wr) (.cells (vsA x) 29)
        have HWV := Lib.hid (HWR.out.up hux)
        have HTV := Lib.hid (HTR.out.trans HG.out (WrStep.up hux))
        have HTU := Lib.hid (HTQ.out.trans HG1.out (WrStep.up hux))
        clear hux
        go_wp2_with (first | (refine wpList_ex rfl (.agg (vsA x)) wr (ex_ldv (x := .tmp 38) rfl rfl Hl.out) ?_) | (refine wpList_exs rfl _ (ex_fill (x := .tmp 5) (y := .tmp 39) (W := wr) rfl rfl rfl rfl) ?_; generalize wr.alloc (.cells (vsA x) 29) = wv at HBX HWV HTV HTU ⊢; generalize wr.heap.size = bx at HBX ⊢) | (refine wpList_ex rfl (.agg (vsA x)) _ (ex_loadrow (x := .tmp 5) rfl rfl _ 29 HBX.out Try.underlying29 rfl info_vt) ?_))
        with_reducible refine Calls.mono (put_vs base g oi Ei Bi x _ HWV.out HXO.out HLN.out (Nat.le_trans HBS.out (WrStep.size HTU.out))) ?_
        rintro e w6 ⟨rfl, o6, k1, k2⟩
        have HW6 := Lib.hid k1
        have HT6 := Lib.hid (HTV.out.trans HG.out k2)
        have HU6 := Lib.hid (HTU.out.trans HG1.out k2)
        clear k1 k2
        go_wp2
        go_roundw
        case rel => exact ⟨i + 1, o6, by go_num, hlt, Lib.hid (by rw [HNX.out]; exact HW6.out), HT6, HU6⟩
        case measure => simp [RowKit.intOf]; omega
      · have hie : i = n := by omega
        have hz : ¬ (i : Int) < (n : Int) := by omega
        have ht : xs.take i = xs := List.take_of_length_le (by have := HN.out; omega)
        rw [ht] at HWR
        clear ht hie
        go_wp2
        go_end0
        exact ⟨rfl, oi, by rw [HR.out]; exact HWR.out, HTR.out⟩
  · have HR : Hid (wrS m (E, bs) = textS (E, bs) (octsOf m.a)) := by (have e : wrS m (E, bs) = textS (E, bs) (octsOf m.a) := by unfold wrS; rw [if_neg (by omega), if_neg (by omega), if_neg (by omega), if_neg (by omega), if_pos g1]); exact e
    have c0 := wtext_any base g o E bs (octsOf m.a) _ HW1.out (octsOf_u8s _) (by rw [octsOf_length]; exact Nat.le_trans HO.out.a (by decide)) (by have := HQ.out; omega) HBS.out
    rw [strOf_octs] at c0
    have C := Lib.hid c0
    clear c0
    change Hid (Calls Try.prog 30 #[.pointer (some ⟨g, 0, none⟩), .string m.a] _ fun e w' => e = .returned (.tuple #[]) ∧ ∃ o', Wr w' base g o' (textS (E, bs) (octsOf m.a)).1 (textS (E, bs) (octsOf m.a)).2 ∧ WrStep g o o' _ w') at C
    generalize textS (E, bs) (octsOf m.a) = q at *
    generalize wrS m (E, bs) = q0 at *
    obtain rfl := HR.out
    clear HI HL HO ha HR HQ
    generalize msA m p = cs at *
    generalize m.a = A at *
    generalize m.K = K at *
    subst g1
    go_enter Try.func13, Try.ntmps13
    go_wp2_with (first | (refine wpList_ex rfl (.int .i64 5) _ (ex_loadcell (cs := cs) Try.isAgg3 rfl rfl _ HB.out M.out.k) ?_) | (refine wpList_ex rfl (.string A) _ (ex_loadcell (cs := cs) Try.isAgg9 rfl rfl _ HB.out M.out.a) ?_))
    with_reducible refine Calls.mono C.out ?_
    rintro e w2 ⟨rfl, o2, k1, k2⟩
    have HW2 := Lib.hid k1
    have HT2 := Lib.hid (HT1.out.trans HG.out k2)
    clear k1 k2
    go_wp2
    go_end0
    exact ⟨rfl, o2, HW2.out, HT2.out⟩
  · have HR : Hid (wrS m (E, bs) = tsS m.t (E, bs)) := by (have e : wrS m (E, bs) = tsS m.t (E, bs) := by unfold wrS; rw [if_neg (by omega), if_neg (by omega), if_neg (by omega), if_neg (by omega), if_neg (by omega), if_pos g1]); exact e
    have C := Lib.hid (put_ts base g o E bs m.t _ HW1.out HO.out.t HQ.out HBS.out)
    generalize tsS m.t (E, bs) = q at *
    generalize wrS m (E, bs) = q0 at *
    obtain rfl := HR.out
    change Hid (Calls Try.prog 31 #[.pointer (some ⟨g, 0, none⟩), .agg (tsC m.t).toArray] _ _) at C
    clear HI HL HO ht HR HQ
    generalize msA m p = cs at *
    generalize tsC m.t = lb at *
    generalize m.K = K at *
    subst g1
    go_enter Try.func13, Try.ntmps13
    go_wp2_with (first | (refine wpList_ex rfl (.int .i64 6) _ (ex_loadcell (cs := cs) Try.isAgg3 rfl rfl _ HB.out M.out.k) ?_) | (refine wpList_ex rfl (.agg lb.toArray) _ (ex_loadpart (cs := cs) 5 Try.isAgg31 Try.sizeOf31 rfl rfl _ HB.out M.out.t M.out.tn) ?_))
    with_reducible refine Calls.mono C.out ?_
    rintro e w2 ⟨rfl, o2, k1, k2⟩
    have HW2 := Lib.hid k1
    have HT2 := Lib.hid (HT1.out.trans HG.out k2)
    clear k1 k2
    go_wp2
    go_end0
    exact ⟨rfl, o2, HW2.out, HT2.out⟩
end
end Go.Proofs.Ytacamknljicjmaa
