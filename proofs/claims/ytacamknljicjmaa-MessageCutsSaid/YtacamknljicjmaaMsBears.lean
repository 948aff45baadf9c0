import Derived.Test.YtacamknljicjmaaMsMay
import Derived.Test.YtacamknljicjmaaMsSm
/-
  message: bearsWhatMayBe.
-/
namespace Go.Proofs.Ytacamknljicjmaa
set_option maxRecDepth 100000
section
set_option linter.unusedVariables false
open Go.RowKit Go.Sort Go.Lib

/-- what a message of its kind bears may be -/
def Bears (m : Mm) : Prop :=
  (m.K = 1 ∧ BkMay m.b.V m.b.H m.b.P m.b.J.V m.b.J.H m.b.J.B m.b.tx m.b.S ∧ CtMay m.b.J.V m.b.J.H m.b.J.B m.b.J.vs) ∨ (m.K = 2 ∧ vsE m.v = 0) ∨ (m.K = 3 ∧ CtMay m.c.V m.c.H m.c.B m.c.vs) ∨ (m.K = 4 ∧ VsMay m.bl) ∨ (m.K = 5 ∧ m.a.size = 32) ∨ (m.K = 6 ∧ tsE m.t = 0)
theorem bE (E : Int) : (E == 0) = bD (E = 0) := by
  by_cases h : E = 0
  · rw [bD_true h, h]; rfl
  · rw [bD_false h]; simp [h]

set_option maxHeartbeats 4000000 in
theorem bears_any (m : Mm) (p : Ps) (w : World) (h : MIn w m p) (o : MOk m) :
    Calls Try.prog 21 #[.agg (msA m p)] w fun e w' => e = .returned (.bool (bD (Bears m))) ∧ Up w w' := by
  have hu := Up.alloc (Up.refl w) (.cells (msA m p) 33)
  have hb := heap_alloc_new w (.cells (msA m p) 33)
  have HU := Lib.hid hu
  have HB : Hid (∀ wx, Up (w.alloc (.cells (msA m p) 33)) wx → wx.heap[w.heap.size]? = some (.cells (msA m p) 33 (0, 0))) := fun wx u => (u.block _ (lt_of_block hb)).trans hb
  have M := Lib.hid (mbox m p)
  have MJ := Lib.hid (msA_j m p)
  have hj : Hid ((ctLs m.b.J p.j).length = 4) := (rfl : (ctLs m.b.J p.j).length = 4)
  have CB : Hid (∀ wx, Up (w.alloc (.cells (msA m p) 33)) wx → Calls Try.prog 41 #[.agg (bkLs m.b p.j p.x).toArray] wx fun e w' => e = .returned (.int .i64 (bkE m.b.V m.b.H m.b.P m.b.J.V m.b.J.H m.b.J.B m.b.tx m.b.S)) ∧ Up wx w') := fun wx u =>
    bkCheck_any m.b.V m.b.H m.b.P m.b.J.V m.b.J.H m.b.J.B p.j.1 _ p.j.2 p.x.1 _ p.x.2 m.b.S m.b.tx wx (len62 o.xn) (h.x.up (Up.trans hu u))
  have CJ : Hid (∀ wx, Up (w.alloc (.cells (msA m p) 33)) wx → Calls Try.prog 42 #[.agg (ctLs m.b.J p.j).toArray] wx fun e w' => e = .returned (.bool (bD (CtMay m.b.J.V m.b.J.H m.b.J.B m.b.J.vs))) ∧ Up wx w') := fun wx u =>
    certMayBe_any m.b.J.V m.b.J.H m.b.J.B p.j.1 _ p.j.2 m.b.J.vs wx (h.j.up (Up.trans hu u))
  have CV : Hid (∀ wx, Calls Try.prog 43 #[.agg (vsC m.v).toArray] wx fun e w' => e = .returned (.int .i64 (vsE m.v)) ∧ Up wx w') := fun wx => vtCheck_any m.v.1 m.v.2 wx
  have CC : Hid (∀ wx, Up (w.alloc (.cells (msA m p) 33)) wx → Calls Try.prog 42 #[.agg (ctLs m.c p.c).toArray] wx fun e w' => e = .returned (.bool (bD (CtMay m.c.V m.c.H m.c.B m.c.vs))) ∧ Up wx w') := fun wx u =>
    certMayBe_any m.c.V m.c.H m.c.B p.c.1 _ p.c.2 m.c.vs wx (h.c.up (Up.trans hu u))
  have CL : Hid (∀ wx, Up (w.alloc (.cells (msA m p) 33)) wx → Calls Try.prog 44 #[.slice p.l.1 m.bl.length p.l.2] wx fun e w' => e = .returned (.bool (bD (VsMay m.bl))) ∧ Up wx w') := fun wx u =>
    votesMayBe_any p.l.1 _ p.l.2 m.bl wx (h.l.up (Up.trans hu u))
  have CT : Hid (∀ wx, Calls Try.prog 45 #[.agg (tsC m.t).toArray] wx fun e w' => e = .returned (.int .i64 (tsE m.t)) ∧ Up wx w') := fun wx => check_any m.t.1.F m.t.1.T m.t.1.A m.t.1.N m.t.2 wx
  have R1 : Hid (m.K = 1 → bD (Bears m) = (bD (bkE m.b.V m.b.H m.b.P m.b.J.V m.b.J.H m.b.J.B m.b.tx m.b.S = 0) && bD (CtMay m.b.J.V m.b.J.H m.b.J.B m.b.J.vs))) := fun g => by
    rw [Bool.eq_iff_iff, Bool.and_eq_true, bD_iff, bD_iff, bD_iff]
    have e : bkE m.b.V m.b.H m.b.P m.b.J.V m.b.J.H m.b.J.B m.b.tx m.b.S = 0 ↔ BkMay m.b.V m.b.H m.b.P m.b.J.V m.b.J.H m.b.J.B m.b.tx m.b.S := ⟨fun k => Classical.byContradiction fun n => (by rw [bkE_no n] at k; cases k), bkE_ok⟩
    rw [e]; unfold Bears; simp [g]
  have R2 : Hid (m.K = 2 → bD (Bears m) = bD (vsE m.v = 0)) := fun g => bD_congr (by unfold Bears; simp [g])
  have R3 : Hid (m.K = 3 → bD (Bears m) = bD (CtMay m.c.V m.c.H m.c.B m.c.vs)) := fun g => bD_congr (by unfold Bears; simp [g])
  have R4 : Hid (m.K = 4 → bD (Bears m) = bD (VsMay m.bl)) := fun g => bD_congr (by unfold Bears; simp [g])
  have R5 : Hid (m.K = 5 → bD (Bears m) = ((m.a.size : Int) == 32)) := fun g => by
    rw [Bool.eq_iff_iff, bD_iff, beq_iff_eq]; unfold Bears; simp [g]; omega
  have R6 : Hid (m.K = 6 → bD (Bears m) = bD (tsE m.t = 0)) := fun g => bD_congr (by unfold Bears; simp [g])
  have R0 : Hid (m.K ≠ 1 → m.K ≠ 2 → m.K ≠ 3 → m.K ≠ 4 → m.K ≠ 5 → m.K ≠ 6 → bD (Bears m) = false) := fun g1 g2 g3 g4 g5 g6 => bD_false (by unfold Bears; simp [g1, g2, g3, g4, g5, g6])
  clear h o hu hb
  rw [← bE] at R1 R2 R6
  generalize bD (Bears m) = RES at R0 R1 R2 R3 R4 R5 R6 ⊢
  generalize bkE m.b.V m.b.H m.b.P m.b.J.V m.b.J.H m.b.J.B m.b.tx m.b.S = EB at CB R1
  generalize bD (CtMay m.b.J.V m.b.J.H m.b.J.B m.b.J.vs) = EJ at CJ R1
  generalize vsE m.v = EV at CV R2
  generalize bD (CtMay m.c.V m.c.H m.c.B m.c.vs) = EC at CC R3
  generalize bD (VsMay m.bl) = EL at CL R4
  generalize tsE m.t = ET at CT R6
  generalize msA m p = cs at *
  generalize bkLs m.b p.j p.x = lb at *
  generalize ctLs m.b.J p.j = lj at *
  generalize vsC m.v = lv at *
  generalize hlc : ctLs m.c p.c = lc at *
  generalize tsC m.t = lt at *
  generalize m.bl.length = n1 at *
  generalize p.l.1 = a1 at *
  generalize p.l.2 = k1 at *
  generalize m.K = K at *
  generalize m.a = A at *
  by_cases g1 : K = 1
  · subst g1
    have hr := R1.out rfl
    subst hr
    clear R0 R1 R2 R3 R4 R5 R6
    go_enter Try.func21, Try.ntmps21
    go_wp2_with (first | (refine wpList_exw rfl (.int .i64 1) _ (ex_loadcell (cs := cs) Try.isAgg3 rfl rfl _ (HB.out _ (Up.refl _)) M.out.k) ?_) | (refine wpList_exw rfl (.agg lb.toArray) _ (ex_loadpart (cs := cs) 9 Try.isAgg27 Try.sizeOf27 rfl rfl _ (HB.out _ (Up.refl _)) M.out.b M.out.bn) ?_))
    generalize w.alloc (.cells cs 33) = wz at *
    generalize w.heap.size = b0 at HB ⊢
    with_reducible refine Calls.mono (CB.out _ (Up.refl wz)) ?_
    rintro e w1 ⟨rfl, u1⟩
    by_cases ge : EB = 0
    · subst ge
      go_wp2_with (refine wpList_exw rfl (.agg lj.toArray) _ (ex_loadpart (cs := cs) 4 Try.isAgg24 Try.sizeOf24 rfl rfl _ (HB.out _ u1) MJ.out hj.out) ?_)
      with_reducible refine Calls.mono (CJ.out _ u1) ?_
      rintro e w2 ⟨rfl, u2⟩
      go_wp2
      go_ret
      exact ⟨rfl, Up.trans HU.out (Up.trans u1 u2)⟩
    · have e1 : (EB == 0) = false := by rw [beq_eq_false_iff_ne]; exact ge
      go_wp2
      go_ret
      exact ⟨by rw [e1]; rfl, Up.trans HU.out u1⟩
  by_cases g2 : K = 2
  · subst g2
    have hr := R2.out rfl
    subst hr
    clear R0 R1 R2 R3 R4 R5 R6 g1
    go_enter Try.func21, Try.ntmps21
    go_wp2_with (first | (refine wpList_exw rfl (.int .i64 2) _ (ex_loadcell (cs := cs) Try.isAgg3 rfl rfl _ (HB.out _ (Up.refl _)) M.out.k) ?_) | (refine wpList_exw rfl (.agg lv.toArray) _ (ex_loadpart (cs := cs) 7 Try.isAgg29 Try.sizeOf29 rfl rfl _ (HB.out _ (Up.refl _)) M.out.v M.out.vn) ?_))
    with_reducible refine Calls.mono (CV.out _) ?_
    rintro e w1 ⟨rfl, u1⟩
    go_wp2
    go_ret
    exact ⟨rfl, Up.trans HU.out u1⟩
  by_cases g3 : K = 3
  · subst g3
    have hr := R3.out rfl
    have hr := hr.symm
    subst hr
    clear R0 R1 R2 R3 R4 R5 R6 g1 g2
    go_enter Try.func21, Try.ntmps21
    go_wp2_with (first | (refine wpList_exw rfl (.int .i64 3) _ (ex_loadcell (cs := cs) Try.isAgg3 rfl rfl _ (HB.out _ (Up.refl _)) M.out.k) ?_) | (refine wpList_exw rfl (.agg lc.toArray) _ (ex_loadpart (cs := cs) 4 Try.isAgg24 Try.sizeOf24 rfl rfl _ (HB.out _ (Up.refl _)) M.out.c M.out.cn) ?_))
    with_reducible refine Calls.mono (CC.out _ (Up.refl _)) ?_
    rintro e w1 ⟨rfl, u1⟩
    go_wp2
    go_ret
    exact ⟨rfl, Up.trans HU.out u1⟩
  by_cases g4 : K = 4
  · subst g4
    have hr := R4.out rfl
    have hr := hr.symm
    subst hr
    clear R0 R1 R2 R3 R4 R5 R6 g1 g2 g3
    go_enter Try.func21, Try.ntmps21
    go_wp2_with (first | (refine wpList_exw rfl (.int .i64 4) _ (ex_loadcell (cs := cs) Try.isAgg3 rfl rfl _ (HB.out _ (Up.refl _)) M.out.k) ?_) | (refine wpList_exw rfl (.slice a1 n1 k1) _ (ex_loadcell (cs := cs) Try.isAgg22 rfl rfl _ (HB.out _ (Up.refl _)) M.out.l) ?_))
    with_reducible refine Calls.mono (CL.out _ (Up.refl _)) ?_
    rintro e w1 ⟨rfl, u1⟩
    go_wp2
    go_ret
    exact ⟨rfl, Up.trans HU.out u1⟩
  by_cases g5 : K = 5
  · subst g5
    have hr := R5.out rfl
    subst hr
    clear R0 R1 R2 R3 R4 R5 R6 g1 g2 g3 g4
    go_enter Try.func21, Try.ntmps21
    go_wp2_with (first | (refine wpList_exw rfl (.int .i64 5) _ (ex_loadcell (cs := cs) Try.isAgg3 rfl rfl _ (HB.out _ (Up.refl _)) M.out.k) ?_) | (refine wpList_exw rfl (.string A) _ (ex_loadcell (cs := cs) Try.isAgg9 rfl rfl _ (HB.out _ (Up.refl _)) M.out.a) ?_))
    go_ret
    exact ⟨rfl, HU.out⟩
  by_cases g6 : K = 6
  · subst g6
    have hr := R6.out rfl
    subst hr
    clear R0 R1 R2 R3 R4 R5 R6 g1 g2 g3 g4 g5
    go_enter Try.func21, Try.ntmps21
    go_wp2_with (first | (refine wpList_exw rfl (.int .i64 6) _ (ex_loadcell (cs := cs) Try.isAgg3 rfl rfl _ (HB.out _ (Up.refl _)) M.out.k) ?_) | (refine wpList_exw rfl (.agg lt.toArray) _ (ex_loadpart (cs := cs) 5 Try.isAgg31 Try.sizeOf31 rfl rfl _ (HB.out _ (Up.refl _)) M.out.t M.out.tn) ?_))
    with_reducible refine Calls.mono (CT.out _) ?_
    rintro e w1 ⟨rfl, u1⟩
    go_wp2
    go_ret
    exact ⟨rfl, Up.trans HU.out u1⟩
  obtain rfl := R0.out g1 g2 g3 g4 g5 g6
  have e1 : (K == 1) = false := by rw [beq_eq_false_iff_ne]; exact g1
  have e2 : (K == 2) = false := by rw [beq_eq_false_iff_ne]; exact g2
  have e3 : (K == 3) = false := by rw [beq_eq_false_iff_ne]; exact g3
  have e4 : (K == 4) = false := by rw [beq_eq_false_iff_ne]; exact g4
  have e5 : (K == 5) = false := by rw [beq_eq_false_iff_ne]; exact g5
  have e6 : (K == 6) = false := by rw [beq_eq_false_iff_ne]; exact g6
  clear R0 R1 R2 R3 R4 R5 R6 g1 g2 g3 g4 g5 g6
  go_enter Try.func21, Try.ntmps21
  go_wp2_with (refine wpList_exw rfl (.int .i64 K) _ (ex_loadcell (cs := cs) Try.isAgg3 rfl rfl _ (HB.out _ (Up.refl _)) M.out.k) ?_)
  go_ret
  exact ⟨rfl, HU.out⟩
end
end Go.Proofs.Ytacamknljicjmaa
