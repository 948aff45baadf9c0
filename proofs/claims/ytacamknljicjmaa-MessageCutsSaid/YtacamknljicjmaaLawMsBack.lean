import Derived.Test.YtacamknljicjmaaMsAlive
import Derived.Test.YtacamknljicjmaaMsRm
/-
  MessageBack: the walk returns true.
-/
namespace Go.Proofs.Ytacamknljicjmaa
set_option maxRecDepth 100000
section
set_option linter.unusedVariables false
open Go.RowKit Go.Sort Go.Lib

theorem nil8 : U8s ([] : List Int) := fun j hj => absurd hj (Nat.not_lt_zero _)
theorem rd_back {m : Mm} (o : MOk m) (h : putE m = 0) : rdM (putB m) = m ∧ rdE (putB m) = 0 ∧ U8s (putB m) ∧ (putB m).length ≤ 20482 := by
  obtain ⟨h1, h2, h3⟩ := putE_zero h
  have hm : rMs (0, putB m) = m := by
    have k := rMs_enc (rest := []) h1 o nil8
    rw [List.append_nil] at k
    rw [h2]; exact k
  have hok : RdOk (putB m) := ⟨by rw [hm]; exact h, by rw [hm]⟩
  refine ⟨by unfold rdM; rw [if_pos hok, hm], by unfold rdE; rw [if_pos hok], by rw [h2]; exact msO_u8s o, ?_⟩
  have hq : (putQ m).2.length ≤ 20482 := wrS_len m _ (Nat.le_trans (num6_len m.K) (by decide))
  unfold putB
  rw [if_pos h1]
  unfold doneB
  split
  · exact Nat.zero_le _
  · exact hq
theorem rdM_ok {zs : List Int} (h : U8s zs) : MOk (rdM zs) := by
  unfold rdM
  split
  · exact rMs_ok (inv0 h)
  · exact zM_ok ⟨by omega, by omega⟩

set_option maxHeartbeats 4000000 in
theorem lawMsBack_any (m : Mm) (p : Ps) (v : Value) (zs : List Int) (w : World) (hi : MIn w m p) (ho : MOk m) (hv : Ints .u8 w v zs) (hz : U8s zs) (hl : zs.length ≤ 140737488355328) :
    Calls Try.prog 3 #[.agg (msA m p), v] w fun e w' => e = .returned (.bool true) ∧ Up w w' := by
  have hu := Up.alloc (Up.refl w) (.cells (msA m p) 33)
  have hb := heap_alloc_new w (.cells (msA m p) 33)
  have HU := Lib.hid hu
  have HB := Lib.hid hb
  have HI : Hid ((Try.prog.info? 33).map (·.size) = some (msA m p).size) := info_ms
  have HIN : Hid (∀ wx, Up w wx → MIn wx m p) := fun wx u => hi.up u
  have HVI : Hid (∀ wx, Up w wx → Ints .u8 wx v zs) := fun wx u => hv.up u
  have HAL := Lib.hid msAlive_any
  have HP : Hid (∀ wx, Up w wx → Calls Try.prog 6 #[.agg (msA m p)] wx fun e w' => ∃ r, e = .returned (.tuple #[r, .int .i64 (putE m)]) ∧ Ints .u8 w' r (putB m) ∧ Up wx w') := fun wx u => msPut_any m p wx (hi.up u) ho
  have HRX : Hid (putE m = 0 → ∀ (r : Value) (wx : World), Ints .u8 wx r (putB m) → Calls Try.prog 7 #[r] wx (MsTold wx m 0)) := fun h r wx hr => by
    obtain ⟨k1, k2, k3, k4⟩ := rd_back ho h
    have c := msRd_any r (putB m) wx hr k3 (by omega)
    rw [k1, k2] at c
    exact c
  have HSM : Hid (∀ (q : Ps) (wx : World), Up w wx → MIn wx m q → Calls Try.prog 8 #[.agg (msA m p), .agg (msA m q)] wx fun e w' => e = .returned (.bool true) ∧ Up wx w') := fun q wx u h => by
    have c := refMs_any m m p q wx (hi.up u) h ho ho
    rw [bD_true rfl] at c
    exact c
  have HRB : Hid (∀ wx, Up w wx → Calls Try.prog 7 #[v] wx (MsTold wx (rdM zs) (rdE zs))) := fun wx u => msRd_any v zs wx (hv.up u) hz hl
  have HPN : Hid (∀ (q : Ps) (wx : World), MIn wx (rdM zs) q → Calls Try.prog 6 #[.agg (msA (rdM zs) q)] wx fun e w' => ∃ r, e = .returned (.tuple #[r, .int .i64 (putE (rdM zs))]) ∧ Ints .u8 w' r (putB (rdM zs)) ∧ Up wx w') := fun q wx h => msPut_any _ q wx h (rdM_ok hz)
  have HSZ : Hid (∀ (q : Ps) (wx : World), MIn wx (zM 0) q → Calls Try.prog 8 #[.agg (msA (zM 0) q), .agg (msA (zM 0) zP)] wx fun e w' => e = .returned (.bool true) ∧ Up wx w') := fun q wx h => by
    have c := refMs_any (zM 0) (zM 0) q zP wx h (zM_in _ _) (zM_ok ⟨by omega, by omega⟩) (zM_ok ⟨by omega, by omega⟩)
    rw [bD_true rfl] at c
    exact c
  have HMS : Hid (∀ m p, (msA m p).size = 28 ∧ (msA m p).all (·.oneCell') = true) := fun m p => ⟨rfl, msA_one m p⟩
  have HZZ : Hid ((msA (zM 0) zP).size = 28 ∧ (∀ w : World, (Instr.alloc 33 true (.tuple #[])).run Try.prog w = .ok (.pointer (some ⟨w.heap.size, 0, none⟩)) (w.alloc (.cells (msA (zM 0) zP) 33))) ∧ ∀ w : World, (Instr.build 33 #[]).run Try.prog w = .ok (.agg (msA (zM 0) zP)) w) := ⟨rfl, alloc_ms, build_ms0⟩
  obtain ⟨va, vc, rfl, _, _, _⟩ := hv
  obtain ⟨n, hn⟩ : ∃ n, zs.length = n := ⟨_, rfl⟩
  have HNN := Lib.hid hn
  rw [hn] at HRB
  rw [hn]
  have RD : Hid ((rdE zs = 0 ∧ putE (rdM zs) = 0 ∧ strOfNums (putB (rdM zs)) = strOfNums zs) ∨ (rdE zs = 33 ∧ rdM zs = zM 0)) := by
    (have k : (rdE zs = 0 ∧ putE (rdM zs) = 0 ∧ strOfNums (putB (rdM zs)) = strOfNums zs) ∨ (rdE zs = 33 ∧ rdM zs = zM 0) := by
      by_cases h : RdOk zs
      · left
        have e : rdM zs = rMs (0, zs) := by unfold rdM; rw [if_pos h]
        rw [e]
        exact ⟨by unfold rdE; rw [if_pos h], h.1, h.2⟩
      · right
        exact ⟨by unfold rdE; rw [if_neg h], by unfold rdM; rw [if_neg h]⟩)
    exact k
  clear hu hb hi ho hz hl hn
  generalize putE m = PE at *
  generalize putB m = PB at *
  generalize rdE zs = RE at *
  generalize rdM zs = RM at *
  obtain ⟨cs, hcs⟩ : ∃ cs, msA m p = cs := ⟨_, rfl⟩
  have HCS := Lib.hid hcs
  rw [hcs] at HU HB HI HP HSM
  rw [hcs]
  clear hcs
  generalize hz0 : msA (zM 0) zP = z at *
  clear hz0
  go_enter Try.func3, Try.ntmps3
  go_wp2_with fail
  generalize w.alloc (.cells cs 33) = w1 at *
  generalize w.heap.size = b1 at HB ⊢
  with_reducible refine Calls.mono (HAL.out _) ?_
  rintro e w2 ⟨rfl, u2⟩
  have HU2 := Lib.hid (Up.trans HU.out u2)
  have HB2 := Lib.hid ((u2.block _ (lt_of_block HB.out)).trans HB.out)
  clear u2 HU HB HAL
  go_wp2_with (refine wpList_ex rfl (.agg cs) _ (ex_loadrow rfl rfl _ 33 HB2.out Try.underlying33 rfl HI.out) ?_; refine Stp.h ?_)
  refine Stp.mk ?_
  go_wp2_with fail
  with_reducible refine Calls.mono (HP.out _ HU2.out) ?_
  rintro e w3 ⟨r, rfl, k1, k2⟩
  have HI3 := Lib.hid k1
  have HU3 := Lib.hid (Up.trans HU2.out k2)
  have HB3 := Lib.hid ((k2.block _ (lt_of_block HB2.out)).trans HB2.out)
  obtain ⟨ra, rc, rfl, _, _, _⟩ := k1
  clear k2 HU2 HB2 HP
  generalize hpn : PB.length = pn at *
  clear hpn
  by_cases hE : PE = 0
  · subst hE
    have HR := Lib.hid (HRX.out rfl)
    clear HRX
    go_wp2_with fail
    with_reducible refine Calls.mono (HR.out _ _ HI3.out) ?_
    rintro e w4 ⟨⟨q4, rfl, k1⟩, k2⟩
    have HM4 := Lib.hid k1
    have HU4 := Lib.hid (Up.trans HU3.out k2)
    have HB4 := Lib.hid ((k2.block _ (lt_of_block HB3.out)).trans HB3.out)
    have HMN4 := Lib.hid (HMS.out m q4)
    have HSQ4 := Lib.hid (HSM.out q4)
    clear k1 k2 HR
    generalize msA m q4 = c4 at *
    go_wp2_with (refine wpList_allocT rfl rfl HZZ.out.2.1 ?_; intro b5 w5 k5 s5 u5; refine Stp.h ?_)
    have HS5 : Hid (w4.heap.size ≤ b5) := s5
    have HX5 := Lib.hid k5
    have HU5 := Lib.hid u5
    clear k5 s5 u5
    refine Stp.mk ?_
    go_wp2_with (refine wpList_storeT (B := b5) rfl rfl rfl rfl HX5.out (by rw [info_ms, HMN4.out.1]) (by rw [HZZ.out.1, HMN4.out.1]) HMN4.out.2 ?_; intro w6 k6 g6; refine Stp.h ?_)
    have HX6 := Lib.hid k6
    have HV6 := Lib.hid (up_at HU5.out g6 HS5.out)
    have HM6 := Lib.hid (HM4.out.up HV6.out)
    have HU6 := Lib.hid (Up.trans HU4.out HV6.out)
    have HB6 := Lib.hid ((HV6.out.block _ (lt_of_block HB4.out)).trans HB4.out)
    clear k6 g6 HX5 HU5 HS5
    refine Stp.mk ?_
    go_wp2_with (refine wpList_exw rfl (.agg cs) _ (ex_loadrow rfl rfl _ 33 HB6.out Try.underlying33 rfl HI.out) ?_; refine Stp.h ?_)
    refine Stp.mk ?_
    go_wp2_with (refine wpList_exw rfl (.agg c4) _ (ex_loadrow rfl rfl _ 33 HX6.out Try.underlying33 rfl (by rw [info_ms, HMN4.out.1])) ?_; refine Stp.h ?_)
    refine Stp.mk ?_
    go_wp2_with fail
    with_reducible refine Calls.mono (HSQ4.out _ HU6.out HM6.out) ?_
    rintro e w7 ⟨rfl, u7⟩
    have HU7 := Lib.hid (Up.trans HU6.out u7)
    clear u7 HB3 HB4 HB6 HX6 HM4 HM6 HU3 HU4 HU6 HSQ4 HI3 HSM
    go_wp2_with fail
    with_reducible refine Calls.mono (HRB.out _ HU7.out) ?_
    rintro e w11 ⟨⟨q, rfl, k1⟩, k2⟩
    have HM11 := Lib.hid k1
    have HU11 := Lib.hid (Up.trans HU7.out k2)
    clear k1 k2
    rcases RD.out with ⟨rfl, hpe, hps⟩ | ⟨rfl, rfl⟩
    · have HMN := Lib.hid (HMS.out RM q)
      have HPQ := Lib.hid (HPN.out q)
      generalize msA RM q = cn at *
      go_wp2_with (refine wpList_allocT rfl rfl HZZ.out.2.1 ?_; intro b12 w12 k12 s12 u12; refine Stp.h ?_)
      have HS12 : Hid (w11.heap.size ≤ b12) := s12
      have HX12 := Lib.hid k12
      have HU12 := Lib.hid u12
      clear k12 s12 u12
      refine Stp.mk ?_
      go_wp2_with (refine wpList_storeT (B := b12) rfl rfl rfl rfl HX12.out (by rw [info_ms, HMN.out.1]) (by rw [HZZ.out.1, HMN.out.1]) HMN.out.2 ?_; intro w13 k13 g13; refine Stp.h ?_)
      have HX13 := Lib.hid k13
      have HU13 := Lib.hid (up_at HU12.out g13 HS12.out)
      have HM13 := Lib.hid (HM11.out.up HU13.out)
      have HW13 := Lib.hid (Up.trans HU11.out HU13.out)
      clear k13 g13 HX12 HU12 HS12
      refine Stp.mk ?_
      go_wp2_with (refine wpList_ex rfl (.agg cn) _ (ex_loadrow rfl rfl _ 33 HX13.out Try.underlying33 rfl (by rw [info_ms, HMN.out.1])) ?_; refine Stp.h ?_)
      refine Stp.mk ?_
      go_wp2_with fail
      with_reducible refine Calls.mono (HPQ.out _ HM13.out) ?_
      rintro e w14 ⟨r2, rfl, k1, k2⟩
      have HW14 := Lib.hid (Up.trans HW13.out k2)
      have s1 := k1.str
      have s2 := (HVI.out _ HW14.out).str
      obtain ⟨qa, qc, rfl, _, _, _⟩ := k1
      rw [hpe]
      rw [hps] at s1
      clear k2 hpe hps
      first | (rw [HNN.out] at s2) | skip
      generalize strOfNums zs = SS at *
      generalize (putB RM).length = qn at *
      go_wp2
      go_ret
      exact ⟨rfl, HW14.out⟩
    · have HMN := Lib.hid (HMS.out (zM 0) q)
      have HSQ := Lib.hid (HSZ.out q)
      generalize msA (zM 0) q = cn at *
      go_wp2_with (refine wpList_allocT rfl rfl HZZ.out.2.1 ?_; intro b12 w12 k12 s12 u12; refine Stp.h ?_)
      have HS12 : Hid (w11.heap.size ≤ b12) := s12
      have HX12 := Lib.hid k12
      have HU12 := Lib.hid u12
      clear k12 s12 u12
      refine Stp.mk ?_
      go_wp2_with (refine wpList_storeT (B := b12) rfl rfl rfl rfl HX12.out (by rw [info_ms, HMN.out.1]) (by rw [HZZ.out.1, HMN.out.1]) HMN.out.2 ?_; intro w13 k13 g13; refine Stp.h ?_)
      have HX13 := Lib.hid k13
      have HU13 := Lib.hid (up_at HU12.out g13 HS12.out)
      have HM13 := Lib.hid (HM11.out.up HU13.out)
      have HW13 := Lib.hid (Up.trans HU11.out HU13.out)
      clear k13 g13 HX12 HU12 HS12
      refine Stp.mk ?_
      go_wp2_with (refine wpList_exw rfl (.agg cn) _ (ex_loadrow rfl rfl _ 33 HX13.out Try.underlying33 rfl (by rw [info_ms, HMN.out.1])) ?_; refine Stp.h ?_)
      refine Stp.mk ?_
      go_wp2_with (refine wpList_exw rfl (.agg z) _ (ex_build0 _ _ (HZZ.out.2.2 _) rfl) ?_; refine Stp.h ?_)
      refine Stp.mk ?_
      go_wp2_with fail
      with_reducible refine Calls.mono (HSQ.out _ HM13.out) ?_
      rintro e w14 ⟨rfl, u14⟩
      have HW14 := Lib.hid (Up.trans HW13.out u14)
      clear u14
      go_wp2
      go_ret
      exact ⟨rfl, HW14.out⟩
  · have e1 : (PE == 0) = false := by rw [beq_eq_false_iff_ne]; exact hE
    clear hE HRX HSM HI3
    go_wp2_with fail
    with_reducible refine Calls.mono (HRB.out _ HU3.out) ?_
    rintro e w11 ⟨⟨q, rfl, k1⟩, k2⟩
    have HM11 := Lib.hid k1
    have HU11 := Lib.hid (Up.trans HU3.out k2)
    clear k1 k2
    rcases RD.out with ⟨rfl, hpe, hps⟩ | ⟨rfl, rfl⟩
    · have HMN := Lib.hid (HMS.out RM q)
      have HPQ := Lib.hid (HPN.out q)
      generalize msA RM q = cn at *
      go_wp2_with (refine wpList_allocT rfl rfl HZZ.out.2.1 ?_; intro b12 w12 k12 s12 u12; refine Stp.h ?_)
      have HS12 : Hid (w11.heap.size ≤ b12) := s12
      have HX12 := Lib.hid k12
      have HU12 := Lib.hid u12
      clear k12 s12 u12
      refine Stp.mk ?_
      go_wp2_with (refine wpList_storeT (B := b12) rfl rfl rfl rfl HX12.out (by rw [info_ms, HMN.out.1]) (by rw [HZZ.out.1, HMN.out.1]) HMN.out.2 ?_; intro w13 k13 g13; refine Stp.h ?_)
      have HX13 := Lib.hid k13
      have HU13 := Lib.hid (up_at HU12.out g13 HS12.out)
      have HM13 := Lib.hid (HM11.out.up HU13.out)
      have HW13 := Lib.hid (Up.trans HU11.out HU13.out)
      clear k13 g13 HX12 HU12 HS12
      refine Stp.mk ?_
      go_wp2_with (refine wpList_ex rfl (.agg cn) _ (ex_loadrow rfl rfl _ 33 HX13.out Try.underlying33 rfl (by rw [info_ms, HMN.out.1])) ?_; refine Stp.h ?_)
      refine Stp.mk ?_
      go_wp2_with fail
      with_reducible refine Calls.mono (HPQ.out _ HM13.out) ?_
      rintro e w14 ⟨r2, rfl, k1, k2⟩
      have HW14 := Lib.hid (Up.trans HW13.out k2)
      have s1 := k1.str
      have s2 := (HVI.out _ HW14.out).str
      obtain ⟨qa, qc, rfl, _, _, _⟩ := k1
      rw [hpe]
      rw [hps] at s1
      clear k2 hpe hps
      first | (rw [HNN.out] at s2) | skip
      generalize strOfNums zs = SS at *
      generalize (putB RM).length = qn at *
      go_wp2
      go_ret
      exact ⟨rfl, HW14.out⟩
    · have HMN := Lib.hid (HMS.out (zM 0) q)
      have HSQ := Lib.hid (HSZ.out q)
      generalize msA (zM 0) q = cn at *
      go_wp2_with (refine wpList_allocT rfl rfl HZZ.out.2.1 ?_; intro b12 w12 k12 s12 u12; refine Stp.h ?_)
      have HS12 : Hid (w11.heap.size ≤ b12) := s12
      have HX12 := Lib.hid k12
      have HU12 := Lib.hid u12
      clear k12 s12 u12
      refine Stp.mk ?_
      go_wp2_with (refine wpList_storeT (B := b12) rfl rfl rfl rfl HX12.out (by rw [info_ms, HMN.out.1]) (by rw [HZZ.out.1, HMN.out.1]) HMN.out.2 ?_; intro w13 k13 g13; refine Stp.h ?_)
      have HX13 := Lib.hid k13
      have HU13 := Lib.hid (up_at HU12.out g13 HS12.out)
      have HM13 := Lib.hid (HM11.out.up HU13.out)
      have HW13 := Lib.hid (Up.trans HU11.out HU13.out)
      clear k13 g13 HX12 HU12 HS12
      refine Stp.mk ?_
      go_wp2_with (refine wpList_exw rfl (.agg cn) _ (ex_loadrow rfl rfl _ 33 HX13.out Try.underlying33 rfl (by rw [info_ms, HMN.out.1])) ?_; refine Stp.h ?_)
      refine Stp.mk ?_
      go_wp2_with (refine wpList_exw rfl (.agg z) _ (ex_build0 _ _ (HZZ.out.2.2 _) rfl) ?_; refine Stp.h ?_)
      refine Stp.mk ?_
      go_wp2_with fail
      with_reducible refine Calls.mono (HSQ.out _ HM13.out) ?_
      rintro e w14 ⟨rfl, u14⟩
      have HW14 := Lib.hid (Up.trans HW13.out u14)
      clear u14
      go_wp2
      go_ret
      exact ⟨rfl, HW14.out⟩
end
end Go.Proofs.Ytacamknljicjmaa
