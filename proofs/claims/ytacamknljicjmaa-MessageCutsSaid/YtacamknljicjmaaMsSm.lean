import Derived.Test.YtacamknljicjmaaMsData
/-
  Messages held against each other.
-/
namespace Go.Proofs.Ytacamknljicjmaa
set_option maxRecDepth 100000
section
set_option linter.unusedVariables false
open Go.RowKit Go.Sort Go.Lib

/-- what lies in a message's box, of which the cells are whatever -/
structure MBox (cs : Array Value) (K : Int) (lb lv lc lt : List Value) (vl : Value) (A : ByteArray) : Prop where
  k : cs[0]? = some (.int .i64 K)
  b : At cs 1 lb
  v : At cs 10 lv
  c : At cs 17 lc
  l : cs[21]? = some vl
  a : cs[22]? = some (.string A)
  t : At cs 23 lt
  bn : lb.length = 9
  vn : lv.length = 7
  cn : lc.length = 4
  tn : lt.length = 5
theorem mbox (m : Mm) (p : Ps) : MBox (msA m p) m.K (bkLs m.b p.j p.x) (vsC m.v) (ctLs m.c p.c) (tsC m.t) (.slice p.l.1 m.bl.length p.l.2) m.a := ⟨msA_k m p, msA_b m p, msA_v m p, msA_c m p, msA_l m p, msA_a m p, msA_t m p, rfl, rfl, rfl, rfl⟩

set_option maxHeartbeats 4000000 in
theorem sameMs_any (m m2 : Mm) (p p2 : Ps) (w : World) (h1 : MIn w m p) (h2 : MIn w m2 p2) (o1 : MOk m) (o2 : MOk m2) :
    Calls Try.prog 22 #[.agg (msA m p), .agg (msA m2 p2)] w fun e w' => e = .returned (.bool (bD (m = m2))) ∧ Up w w' := by
  have hu := Up.alloc (Up.alloc (Up.refl w) (.cells (msA m p) 33)) (.cells (msA m2 p2) 33)
  have hb1 := (Up.alloc (Up.refl (w.alloc (.cells (msA m p) 33))) (.cells (msA m2 p2) 33)).block _ (lt_of_block (heap_alloc_new w (.cells (msA m p) 33)))
  have hb2 := heap_alloc_new (w.alloc (.cells (msA m p) 33)) (.cells (msA m2 p2) 33)
  rw [heap_alloc_new w (.cells (msA m p) 33)] at hb1
  rw [show (w.alloc (.cells (msA m p) 33)).heap.size = w.heap.size + 1 by simp] at hb2
  have HU := Lib.hid hu
  have HB1 : Hid (∀ wx, Up ((w.alloc (.cells (msA m p) 33)).alloc (.cells (msA m2 p2) 33)) wx → wx.heap[w.heap.size]? = some (.cells (msA m p) 33 (0, 0))) := fun wx u => (u.block _ (lt_of_block hb1)).trans hb1
  have HB2 : Hid (∀ wx, Up ((w.alloc (.cells (msA m p) 33)).alloc (.cells (msA m2 p2) 33)) wx → wx.heap[w.heap.size + 1]? = some (.cells (msA m2 p2) 33 (0, 0))) := fun wx u => (u.block _ (lt_of_block hb2)).trans hb2
  have CB : Hid (∀ wx, Up ((w.alloc (.cells (msA m p) 33)).alloc (.cells (msA m2 p2) 33)) wx → Calls Try.prog 46 #[.agg (bkLs m.b p.j p.x).toArray, .agg (bkLs m2.b p2.j p2.x).toArray] wx fun e w' => e = .returned (.bool (bD (m.b = m2.b))) ∧ Up wx w') := fun wx u => by
    rw [← bD_congr bm_ext]
    exact sameBlock_any m.b.V m.b.H m.b.P m.b.J.V m.b.J.H m.b.J.B p.j.1 _ p.j.2 p.x.1 _ p.x.2 m.b.S m.b.J.vs m.b.tx m2.b.V m2.b.H m2.b.P m2.b.J.V m2.b.J.H m2.b.J.B p2.j.1 _ p2.j.2 p2.x.1 _ p2.x.2 m2.b.S m2.b.J.vs m2.b.tx wx (h1.j.up (Up.trans hu u)) (h2.j.up (Up.trans hu u)) (h1.x.up (Up.trans hu u)) (h2.x.up (Up.trans hu u)) (fun x hx => (o1.js x hx).1) (fun x hx => (o2.js x hx).1) (len62 o1.jn) (len62 o1.xn)
  have CC : Hid (∀ wx, Up ((w.alloc (.cells (msA m p) 33)).alloc (.cells (msA m2 p2) 33)) wx → Calls Try.prog 47 #[.agg (ctLs m.c p.c).toArray, .agg (ctLs m2.c p2.c).toArray] wx fun e w' => e = .returned (.bool (bD (m.c = m2.c))) ∧ Up wx w') := fun wx u => by
    rw [← bD_congr cm_ext]
    exact sameCert_any m.c.V m.c.H m.c.B p.c.1 _ p.c.2 m.c.vs m2.c.V m2.c.H m2.c.B p2.c.1 _ p2.c.2 m2.c.vs wx (h1.c.up (Up.trans hu u)) (h2.c.up (Up.trans hu u)) (fun x hx => (o1.cs x hx).1) (fun x hx => (o2.cs x hx).1) (len62 o1.cn)
  have CL : Hid (∀ wx, Up ((w.alloc (.cells (msA m p) 33)).alloc (.cells (msA m2 p2) 33)) wx → Calls Try.prog 48 #[.slice p.l.1 m.bl.length p.l.2, .slice p2.l.1 m2.bl.length p2.l.2] wx fun e w' => e = .returned (.bool (bD (m.bl = m2.bl))) ∧ Up wx w') := fun wx u =>
    eqVs_any p.l.1 p2.l.1 _ _ p.l.2 p2.l.2 m.bl m2.bl wx (h1.l.up (Up.trans hu u)) (h2.l.up (Up.trans hu u)) (fun x hx => (o1.ls x hx).1) (fun x hx => (o2.ls x hx).1) (len62 o1.ln)
  have QV : Hid (∀ wx : World, (do eqGuard .neq 29 (.tmp 12) (.tmp 14) (.agg (vsC m.v).toArray) (.agg (vsC m2.v).toArray); binOp .neq 29 (.agg (vsC m.v).toArray) (.agg (vsC m2.v).toArray) : Sem Value).run Try.prog wx = .ok (.bool (!decide (vsEq m.v m2.v))) wx) := fun wx => vs_neq m.v m2.v _ _ wx
  have QT : Hid (∀ wx : World, (do eqGuard .neq 31 (.tmp 26) (.tmp 28) (.agg (tsC m.t).toArray) (.agg (tsC m2.t).toArray); binOp .neq 31 (.agg (tsC m.t).toArray) (.agg (tsC m2.t).toArray) : Sem Value).run Try.prog wx = .ok (.bool (!decide (tsEq m.t m2.t))) wx) := fun wx => ts_neq m.t m2.t _ _ wx
  have IV : vsEq m.v m2.v ↔ m.v = m2.v := vsEq_iff o1.v.1 o2.v.1
  have IT : tsEq m.t m2.t ↔ m.t = m2.t := tsEq_iff
  have F1 : Hid (m.K ≠ m2.K → bD (m = m2) = false) := fun g => bD_false (fun h => g (by rw [h]))
  have F2 : Hid ((!decide (vsEq m.v m2.v)) = true → bD (m = m2) = false) := fun g => bD_false (fun h => by subst h; simp [vsEq] at g)
  have F3 : Hid (m.a ≠ m2.a → bD (m = m2) = false) := fun g => bD_false (fun h => g (by rw [h]))
  have F4 : Hid ((!decide (tsEq m.t m2.t)) = true → bD (m = m2) = false) := fun g => bD_false (fun h => by subst h; simp [tsEq] at g)
  have FF : Hid (m.K = m2.K → (!decide (vsEq m.v m2.v)) = false → m.a = m2.a → (!decide (tsEq m.t m2.t)) = false → bD (m = m2) = ((bD (m.b = m2.b) && bD (m.c = m2.c)) && bD (m.bl = m2.bl))) := fun g1 g2 g3 g4 => by
    have k2 : m.v = m2.v := IV.1 (by simpa using g2)
    have k4 : m.t = m2.t := IT.1 (by simpa using g4)
    rw [Bool.eq_iff_iff, Bool.and_eq_true, Bool.and_eq_true, bD_iff, bD_iff, bD_iff, bD_iff, mm_ext]
    exact ⟨fun h => ⟨⟨h.2.1, h.2.2.2.1⟩, h.2.2.2.2.1⟩, fun h => ⟨g1, h.1.1, k2, h.1.2, h.2, g3, k4⟩⟩
  have M1 := Lib.hid (mbox m p)
  have M2 := Lib.hid (mbox m2 p2)
  clear IV IT hb1 hb2 hu h1 h2 o1 o2
  generalize bD (m = m2) = RES at F1 F2 F3 F4 FF ⊢
  generalize bD (m.b = m2.b) = EB at CB FF
  generalize bD (m.c = m2.c) = EC at CC FF
  generalize bD (m.bl = m2.bl) = EL at CL FF
  generalize (!decide (vsEq m.v m2.v)) = DV at QV F2 FF
  generalize (!decide (tsEq m.t m2.t)) = DT at QT F4 FF
  generalize msA m p = cs1 at *
  generalize msA m2 p2 = cs2 at *
  generalize bkLs m.b p.j p.x = lb1 at *
  generalize bkLs m2.b p2.j p2.x = lb2 at *
  generalize vsC m.v = lv1 at *
  generalize vsC m2.v = lv2 at *
  generalize ctLs m.c p.c = lc1 at *
  generalize ctLs m2.c p2.c = lc2 at *
  generalize tsC m.t = lt1 at *
  generalize tsC m2.t = lt2 at *
  generalize m.bl.length = n1 at *
  generalize m2.bl.length = n2 at *
  generalize p.l.1 = a1 at *
  generalize p2.l.1 = a2 at *
  generalize p.l.2 = k1 at *
  generalize p2.l.2 = k2 at *
  generalize m.K = K1 at *
  generalize m2.K = K2 at *
  generalize m.a = A1 at *
  generalize m2.a = A2 at *
  by_cases g1 : K1 = K2
  · have e1 : (K1 != K2) = false := by rw [bne_eq_false_iff_eq]; exact g1
    cases DV with
    | true =>
      obtain rfl := F2.out rfl
      clear F1 F2 F3 F4 FF g1
      go_enter Try.func22, Try.ntmps22
      go_wp2_with (first
    | (refine wpList_exw rfl (.int .i64 K1) _ (ex_loadcell (cs := cs1) Try.isAgg3 rfl rfl _ (HB1.out _ (Up.refl _)) M1.out.k) ?_)
    | (refine wpList_exw rfl (.int .i64 K2) _ (ex_loadcell (cs := cs2) Try.isAgg3 rfl rfl _ (HB2.out _ (Up.refl _)) M2.out.k) ?_)
    | (refine wpList_exw rfl (.agg lv1.toArray) _ (ex_loadpart (cs := cs1) 7 Try.isAgg29 Try.sizeOf29 rfl rfl _ (HB1.out _ (Up.refl _)) M1.out.v M1.out.vn) ?_)
    | (refine wpList_exw rfl (.agg lv2.toArray) _ (ex_loadpart (cs := cs2) 7 Try.isAgg29 Try.sizeOf29 rfl rfl _ (HB2.out _ (Up.refl _)) M2.out.v M2.out.vn) ?_)
    | (refine wpList_exw rfl (.bool _) _ (ex_bin rfl rfl rfl _ (QV.out _)) ?_))
      go_ret
      exact ⟨rfl, HU.out⟩
    | false =>
      by_cases g3 : A1 = A2
      · have e3 : (A1.toList == A2.toList) = true := by rw [beq_iff_eq]; rw [g3]
        cases DT with
        | true =>
          obtain rfl := F4.out rfl
          clear F1 F2 F3 F4 FF g1 g3
          go_enter Try.func22, Try.ntmps22
          go_wp2_with (first
    | (refine wpList_exw rfl (.int .i64 K1) _ (ex_loadcell (cs := cs1) Try.isAgg3 rfl rfl _ (HB1.out _ (Up.refl _)) M1.out.k) ?_)
    | (refine wpList_exw rfl (.int .i64 K2) _ (ex_loadcell (cs := cs2) Try.isAgg3 rfl rfl _ (HB2.out _ (Up.refl _)) M2.out.k) ?_)
    | (refine wpList_exw rfl (.agg lv1.toArray) _ (ex_loadpart (cs := cs1) 7 Try.isAgg29 Try.sizeOf29 rfl rfl _ (HB1.out _ (Up.refl _)) M1.out.v M1.out.vn) ?_)
    | (refine wpList_exw rfl (.agg lv2.toArray) _ (ex_loadpart (cs := cs2) 7 Try.isAgg29 Try.sizeOf29 rfl rfl _ (HB2.out _ (Up.refl _)) M2.out.v M2.out.vn) ?_)
    | (refine wpList_exw rfl (.bool _) _ (ex_bin rfl rfl rfl _ (QV.out _)) ?_)
    | (refine wpList_exw rfl (.string A1) _ (ex_loadcell (cs := cs1) Try.isAgg9 rfl rfl _ (HB1.out _ (Up.refl _)) M1.out.a) ?_)
    | (refine wpList_exw rfl (.string A2) _ (ex_loadcell (cs := cs2) Try.isAgg9 rfl rfl _ (HB2.out _ (Up.refl _)) M2.out.a) ?_)
    | (refine wpList_exw rfl (.agg lt1.toArray) _ (ex_loadpart (cs := cs1) 5 Try.isAgg31 Try.sizeOf31 rfl rfl _ (HB1.out _ (Up.refl _)) M1.out.t M1.out.tn) ?_)
    | (refine wpList_exw rfl (.agg lt2.toArray) _ (ex_loadpart (cs := cs2) 5 Try.isAgg31 Try.sizeOf31 rfl rfl _ (HB2.out _ (Up.refl _)) M2.out.t M2.out.tn) ?_)
    | (refine wpList_exw rfl (.bool _) _ (ex_bin rfl rfl rfl _ (QT.out _)) ?_))
          go_ret
          exact ⟨rfl, HU.out⟩
        | false =>
          have hr := FF.out g1 rfl g3 rfl
          clear F1 F2 F3 F4 FF g1 g3
          subst hr
          go_enter Try.func22, Try.ntmps22
          go_wp2_with (first
    | (refine wpList_exw rfl (.int .i64 K1) _ (ex_loadcell (cs := cs1) Try.isAgg3 rfl rfl _ (HB1.out _ (Up.refl _)) M1.out.k) ?_)
    | (refine wpList_exw rfl (.int .i64 K2) _ (ex_loadcell (cs := cs2) Try.isAgg3 rfl rfl _ (HB2.out _ (Up.refl _)) M2.out.k) ?_)
    | (refine wpList_exw rfl (.agg lv1.toArray) _ (ex_loadpart (cs := cs1) 7 Try.isAgg29 Try.sizeOf29 rfl rfl _ (HB1.out _ (Up.refl _)) M1.out.v M1.out.vn) ?_)
    | (refine wpList_exw rfl (.agg lv2.toArray) _ (ex_loadpart (cs := cs2) 7 Try.isAgg29 Try.sizeOf29 rfl rfl _ (HB2.out _ (Up.refl _)) M2.out.v M2.out.vn) ?_)
    | (refine wpList_exw rfl (.bool _) _ (ex_bin rfl rfl rfl _ (QV.out _)) ?_)
    | (refine wpList_exw rfl (.string A1) _ (ex_loadcell (cs := cs1) Try.isAgg9 rfl rfl _ (HB1.out _ (Up.refl _)) M1.out.a) ?_)
    | (refine wpList_exw rfl (.string A2) _ (ex_loadcell (cs := cs2) Try.isAgg9 rfl rfl _ (HB2.out _ (Up.refl _)) M2.out.a) ?_)
    | (refine wpList_exw rfl (.agg lt1.toArray) _ (ex_loadpart (cs := cs1) 5 Try.isAgg31 Try.sizeOf31 rfl rfl _ (HB1.out _ (Up.refl _)) M1.out.t M1.out.tn) ?_)
    | (refine wpList_exw rfl (.agg lt2.toArray) _ (ex_loadpart (cs := cs2) 5 Try.isAgg31 Try.sizeOf31 rfl rfl _ (HB2.out _ (Up.refl _)) M2.out.t M2.out.tn) ?_)
    | (refine wpList_exw rfl (.bool _) _ (ex_bin rfl rfl rfl _ (QT.out _)) ?_)
    | (refine wpList_exw rfl (.agg lb1.toArray) _ (ex_loadpart (cs := cs1) 9 Try.isAgg27 Try.sizeOf27 rfl rfl _ (HB1.out _ (Up.refl _)) M1.out.b M1.out.bn) ?_)
    | (refine wpList_exw rfl (.agg lb2.toArray) _ (ex_loadpart (cs := cs2) 9 Try.isAgg27 Try.sizeOf27 rfl rfl _ (HB2.out _ (Up.refl _)) M2.out.b M2.out.bn) ?_))
          generalize ((w.alloc (.cells cs1 33)).alloc (.cells cs2 33)) = wz at HU HB1 HB2 CB CC CL ⊢
          generalize w.heap.size + 1 = b2 at HB2 ⊢
          generalize w.heap.size = b1 at HB1 ⊢
          with_reducible refine Calls.mono (CB.out _ (Up.refl wz)) ?_
          rintro e w1 ⟨rfl, u1⟩
          cases EB with
          | false =>
            go_wp2
            go_ret
            exact ⟨rfl, Up.trans HU.out u1⟩
          | true =>
            go_wp2_with (first
    | (refine wpList_exw rfl (.agg lc1.toArray) _ (ex_loadpart (cs := cs1) 4 Try.isAgg24 Try.sizeOf24 rfl rfl _ (HB1.out _ (u1)) M1.out.c M1.out.cn) ?_)
    | (refine wpList_exw rfl (.agg lc2.toArray) _ (ex_loadpart (cs := cs2) 4 Try.isAgg24 Try.sizeOf24 rfl rfl _ (HB2.out _ (u1)) M2.out.c M2.out.cn) ?_))
            with_reducible refine Calls.mono (CC.out _ u1) ?_
            rintro e w2 ⟨rfl, u12⟩
            have u2 := Up.trans u1 u12
            cases EC with
            | false =>
              go_wp2
              go_ret
              exact ⟨rfl, Up.trans HU.out u2⟩
            | true =>
              go_wp2_with (first
    | (refine wpList_exw rfl (.slice a1 n1 k1) _ (ex_loadcell (cs := cs1) Try.isAgg22 rfl rfl _ (HB1.out _ (u2)) M1.out.l) ?_)
    | (refine wpList_exw rfl (.slice a2 n2 k2) _ (ex_loadcell (cs := cs2) Try.isAgg22 rfl rfl _ (HB2.out _ (u2)) M2.out.l) ?_))
              with_reducible refine Calls.mono (CL.out _ u2) ?_
              rintro e w3 ⟨rfl, u3⟩
              go_wp2
              go_ret
              exact ⟨rfl, Up.trans HU.out (Up.trans u2 u3)⟩
      · have e3 : (A1.toList == A2.toList) = false := by rw [beq_eq_false_iff_ne]; exact fun h => g3 (toList_inj h)
        obtain rfl := F3.out g3
        clear F1 F2 F3 F4 FF g1 g3
        go_enter Try.func22, Try.ntmps22
        go_wp2_with (first
    | (refine wpList_exw rfl (.int .i64 K1) _ (ex_loadcell (cs := cs1) Try.isAgg3 rfl rfl _ (HB1.out _ (Up.refl _)) M1.out.k) ?_)
    | (refine wpList_exw rfl (.int .i64 K2) _ (ex_loadcell (cs := cs2) Try.isAgg3 rfl rfl _ (HB2.out _ (Up.refl _)) M2.out.k) ?_)
    | (refine wpList_exw rfl (.agg lv1.toArray) _ (ex_loadpart (cs := cs1) 7 Try.isAgg29 Try.sizeOf29 rfl rfl _ (HB1.out _ (Up.refl _)) M1.out.v M1.out.vn) ?_)
    | (refine wpList_exw rfl (.agg lv2.toArray) _ (ex_loadpart (cs := cs2) 7 Try.isAgg29 Try.sizeOf29 rfl rfl _ (HB2.out _ (Up.refl _)) M2.out.v M2.out.vn) ?_)
    | (refine wpList_exw rfl (.bool _) _ (ex_bin rfl rfl rfl _ (QV.out _)) ?_)
    | (refine wpList_exw rfl (.string A1) _ (ex_loadcell (cs := cs1) Try.isAgg9 rfl rfl _ (HB1.out _ (Up.refl _)) M1.out.a) ?_)
    | (refine wpList_exw rfl (.string A2) _ (ex_loadcell (cs := cs2) Try.isAgg9 rfl rfl _ (HB2.out _ (Up.refl _)) M2.out.a) ?_))
        go_ret
        exact ⟨rfl, HU.out⟩
  · have e1 : (K1 != K2) = true := by rw [bne_iff_ne]; exact g1
    obtain rfl := F1.out g1
    clear F1 F2 F3 F4 FF g1
    go_enter Try.func22, Try.ntmps22
    go_wp2_with (first
    | (refine wpList_exw rfl (.int .i64 K1) _ (ex_loadcell (cs := cs1) Try.isAgg3 rfl rfl _ (HB1.out _ (Up.refl _)) M1.out.k) ?_)
    | (refine wpList_exw rfl (.int .i64 K2) _ (ex_loadcell (cs := cs2) Try.isAgg3 rfl rfl _ (HB2.out _ (Up.refl _)) M2.out.k) ?_))
    go_ret
    exact ⟨rfl, HU.out⟩
end
end Go.Proofs.Ytacamknljicjmaa
