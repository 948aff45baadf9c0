import Derived.Test.YtacamknljicjmaaLawMsBack
import Derived.Test.YtacamknljicjmaaMsWide
/-
  MessageCuts: the walk returns true.
-/
namespace Go.Proofs.Ytacamknljicjmaa
set_option maxRecDepth 100000
section
set_option linter.unusedVariables false
open Go.RowKit Go.Sort Go.Lib

/-- s[:k] -/
theorem cut_pre2 (a : Option Addr) (n c k : Nat) (hk : k ≤ c) (w : World) : (Instr.sliceAt 34 (.slice a n c) none (some (.int .i64 k)) none).run Try.prog w = .ok (.slice a k c) w := by
  have h1 : (Instr.slice 34 (.slice a n c) none (some (.int .i64 k)) none).run Try.prog w = .ok (.slice a k c) w := by
    have hs : (sizeOf 5).run Try.prog w = .ok 1 w := by simp [go_sem]
    simp [Instr.slice, run_underlying (P := Try.prog) (w := w) Try.underlying34, Instr.sliceBounds, run_sliceBound, go_sem, hk]
  simpa [Instr.sliceAt, run_underlying (P := Try.prog) (w := w) Try.underlying34] using h1
theorem build_none8 (w : World) : (Instr.buildSlice 34 0 #[]).run Try.prog w = .ok (.slice (some ⟨w.heap.size, 0, none⟩) 0 0) (w.alloc (.cells #[] 5)) := by
  simp [go_sem]
theorem ex_slice0 {P : Program} {o : Oper} {ρ : Operand → Value} {v : Value} {t : TypeId} (w w' : World) (hr : (Instr.buildSlice t 0 #[]).run P w = .ok v w') (hop : o.op = .buildSlice t 0 #[]) : (execOp ρ o).run P w = .ok (.value v) w' :=
  ex_slice hop (by simp) w w' hr
/-- of a message that has no octets Put tells none -/
theorem put_none {m : Mm} (h : putE m ≠ 0) : putB m = [] := by
  by_cases hm : MayM m
  · unfold putE at h
    unfold putB
    rw [if_pos hm] at h ⊢
    unfold doneE at h
    unfold doneB
    by_cases hE : (putQ m).1 ≠ 0
    · rw [if_pos (.inl hE)]
    · rw [if_neg hE] at h
      by_cases hL : 16384 < (putQ m).2.length
      · rw [if_pos (.inr hL)]
      · rw [if_neg hL] at h
        exact absurd rfl h
  · unfold putB; rw [if_neg hm]
theorem rdOk_msO {zs : List Int} (hz : U8s zs) (h : RdOk zs) : MayM (rMs (0, zs)) ∧ msO (rMs (0, zs)) = zs := by
  obtain ⟨h1, h2, _⟩ := putE_zero h.1
  refine ⟨h1, ?_⟩
  have k := h.2
  rw [h2] at k
  exact strOf_inj _ _ (msO_u8s (rMs_ok (inv0 hz))) hz k
/-- a beginning of a message's octets is none's -/
theorem cut_none {m : Mm} (o : MOk m) (h : putE m = 0) (k : Nat) (hk : k < (putB m).length) : rdE ((putB m).take k) = 33 := by
  obtain ⟨h1, h2, h3⟩ := putE_zero h
  have hu := msO_u8s o
  have ht : U8s ((putB m).take k) := by rw [h2]; exact hu.take k
  unfold rdE
  refine if_neg (fun hok => ?_)
  obtain ⟨k1, k2⟩ := rdOk_msO ht hok
  have e1 := rMs_enc (rest := (putB m).drop k) k1 (rMs_ok (inv0 ht)) (by rw [h2]; exact hu.drop k)
  rw [k2, List.take_append_drop] at e1
  have e2 : rMs (0, putB m) = m := by
    have q := rMs_enc (rest := []) h1 o nil8
    rw [List.append_nil] at q
    rw [h2]; exact q
  have e3 : m = rMs (0, (putB m).take k) := e2.symm.trans e1
  rw [← e3] at k2
  have e4 : (putB m).length = ((putB m).take k).length := by rw [← k2, h2]
  rw [List.length_take] at e4
  omega
/-- with more behind neither -/
theorem more_none {m : Mm} (o : MOk m) (h : putE m = 0) {zs : List Int} (hz : U8s zs) : rdE (putB m ++ zs) = if zs = [] then 0 else 33 := by
  obtain ⟨h1, h2, h3⟩ := putE_zero h
  by_cases he : zs = []
  · subst he
    rw [if_pos rfl, List.append_nil]
    exact (rd_back o h).2.1
  · rw [if_neg he]
    unfold rdE
    refine if_neg (fun hok => ?_)
    have hu : U8s (putB m ++ zs) := by rw [h2]; exact (msO_u8s o).append hz
    obtain ⟨k1, k2⟩ := rdOk_msO hu hok
    have e1 : rMs (0, putB m ++ zs) = m := by rw [h2]; exact rMs_enc h1 o hz
    rw [e1, h2] at k2
    have := congrArg List.length k2
    rw [List.length_append] at this
    exact he (List.eq_nil_of_length_eq_zero (by omega))
theorem put_len {m : Mm} (h : putE m = 0) : 6 ≤ (putB m).length := by
  obtain ⟨h1, h2, h3⟩ := putE_zero h
  rw [h2]
  unfold msO
  rw [List.length_append, octAll_length]
  omega
/-- what an append takes from it -/
theorem ints_src {W : World} {a : Option Addr} {n c : Nat} {zs : List Int} (h : Ints .u8 W (.slice a n c) zs) : (a = none → n = 0 ∧ c = 0) ∧ ∀ ad, a = some ad → ∀ j u, (zs.map (Value.int .u8))[j]? = some u → W.cell? (ad.add j) = some u := by
  obtain ⟨a9, c9, e9, _, hn9, hcs9⟩ := h
  simp only [Value.slice.injEq] at e9
  obtain ⟨rfl, rfl, rfl⟩ := e9
  exact ⟨fun e => ⟨none_empty hcs9 e, hn9 e⟩, cells_all hcs9⟩

set_option maxHeartbeats 4000000 in
theorem lawMsCuts_any (m : Mm) (p : Ps) (at_ : Int) (v : Value) (zs : List Int) (w : World) (hi : MIn w m p) (ho : MOk m) (hat : -9223372036854775808 ≤ at_ ∧ at_ ≤ 9223372036854775807) (hv : Ints .u8 w v zs) (hz : U8s zs) (hl : zs.length ≤ 140737488355328) :
    Calls Try.prog 4 #[.agg (msA m p), .int .i64 at_, v] w fun e w' => e = .returned (.bool true) ∧ Up w w' := by
  have hu := Up.alloc (Up.refl w) (.cells (msA m p) 33)
  have hb := heap_alloc_new w (.cells (msA m p) 33)
  have HU := Lib.hid hu
  have HB := Lib.hid hb
  have HI : Hid ((Try.prog.info? 33).map (·.size) = some (msA m p).size) := info_ms
  have HAL := Lib.hid msAlive_any
  have HP : Hid (∀ wx, Up w wx → Calls Try.prog 6 #[.agg (msA m p)] wx fun e w' => ∃ r, e = .returned (.tuple #[r, .int .i64 (putE m)]) ∧ Ints .u8 w' r (putB m) ∧ Up wx w') := fun wx u => msPut_any m p wx (hi.up u) ho
  have HMS : Hid (∀ m p, (msA m p).size = 28 ∧ (msA m p).all (·.oneCell') = true) := fun m p => ⟨rfl, msA_one m p⟩
  have HZZ : Hid ((msA (zM 0) zP).size = 28 ∧ ∀ w : World, (Instr.alloc 33 true (.tuple #[])).run Try.prog w = .ok (.pointer (some ⟨w.heap.size, 0, none⟩)) (w.alloc (.cells (msA (zM 0) zP) 33))) := ⟨rfl, alloc_ms⟩
  have HVI : Hid (∀ wx, Up w wx → Ints .u8 wx v zs) := fun wx u => hv.up u
  obtain ⟨va, vc, rfl, _, hvn, hvd⟩ := hv
  by_cases hE : putE m = 0
  · have hxl := (rd_back ho hE).2.2.2
    have hxu := (rd_back ho hE).2.2.1
    have hx6 := put_len hE
    obtain ⟨pn, hpn⟩ : ∃ pn, (putB m).length = pn := ⟨_, rfl⟩
    obtain ⟨q, hq⟩ : ∃ q, at_.tmod (pn : Int) = q := ⟨_, rfl⟩
    have hq1 : -(pn : Int) < q ∧ q < pn := by
      have t1 := Int.lt_tmod_of_pos at_ (show (0 : Int) < pn by omega)
      have t2 := Int.tmod_lt_of_pos at_ (show (0 : Int) < pn by omega)
      omega
    obtain ⟨k, hk⟩ : ∃ k : Nat, (q + (pn : Int)).tmod (pn : Int) = k := ⟨((q + (pn : Int)).tmod (pn : Int)).toNat, by
      have := Int.tmod_nonneg (pn : Int) (show 0 ≤ q + (pn : Int) by omega)
      omega⟩
    have hkn : k < pn := by
      have t2 := Int.tmod_lt_of_pos (q + (pn : Int)) (show (0 : Int) < pn by omega)
      omega
    have HR1 : Hid (∀ (r : Value) (wx : World), Ints .u8 wx r ((putB m).take k) → Calls Try.prog 7 #[r] wx (MsTold wx (rdM ((putB m).take k)) 33)) := fun r wx hr => by
      have c := msRd_any r _ wx hr (hxu.take k) (by rw [List.length_take]; omega)
      rw [cut_none ho hE k (by omega)] at c
      exact c
    have HR2 : Hid (∀ (r : Value) (wx : World), Ints .u8 wx r (putB m ++ zs) → Calls Try.prog 7 #[r] wx (MsTold wx (rdM (putB m ++ zs)) (if zs = [] then 0 else 33))) := fun r wx hr => by
      have c := msRd_wide r _ wx hr (hxu.append hz) (by rw [List.length_append]; omega)
      rw [more_none ho hE hz] at c
      exact c
    rw [hE] at HP
    have HXL : Hid ((putB m).length = pn ∧ pn ≤ 20482 ∧ zs.length ≤ 140737488355328) := ⟨hpn, by omega, hl⟩
    generalize rdM ((putB m).take k) = M1 at *
    generalize rdM (putB m ++ zs) = M2 at *
    generalize putB m = PB at *
    obtain ⟨i0, hi0, hz0, hz1, hz2⟩ := info_parts info_u8
    have hw1 := IntWalk.i64_in (q + (pn : Int)) (by omega)
    clear hu hb hi ho hz hE hxl hxu
    obtain ⟨cs, hcs⟩ : ∃ cs, msA m p = cs := ⟨_, rfl⟩
    rw [hcs] at HU HB HI HP
    rw [hcs]
    clear hcs
    generalize msA (zM 0) zP = z at *
    have hpn0 : ((pn : Int) == 0) = false := by rw [beq_eq_false_iff_ne]; omega
    go_enter Try.func4, Try.ntmps4
    go_wp2_with fail
    generalize w.alloc (.cells cs 33) = w1 at *
    generalize w.heap.size = b1 at HB ⊢
    with_reducible refine Calls.mono (HAL.out _) ?_
    rintro e w2 ⟨rfl, u2⟩
    have HU2 := Lib.hid (Up.trans HU.out u2)
    have HB2 := Lib.hid ((u2.block _ (lt_of_block HB.out)).trans HB.out)
    clear u2 HU HB HAL
    go_wp2_with (refine wpList_ex rfl (.agg cs) _ (ex_loadrow rfl rfl _ 33 HB2.out Try.underlying33 rfl HI.out) ?_; refine Stp.h ?_)
    refine Stp.mk ?_
    go_wp2_with fail
    with_reducible refine Calls.mono (HP.out _ HU2.out) ?_
    rintro e w3 ⟨r, rfl, k1, k2⟩
    have HI3 := Lib.hid k1
    have HU3 := Lib.hid (Up.trans HU2.out k2)
    obtain ⟨ra, rc, rfl, hrc, hrn, hrd⟩ := k1
    clear hrn hrd
    rw [HXL.out.1] at HI3 hrc ⊢
    have hcut : ∀ wx, _ := fun wx => cut_pre2 ra pn rc k (by omega) wx
    clear hrc
    have HI3c := Lib.hid (HI3.out.pre k (by have := HXL.out.1; omega))
    clear k2 HU2 HB2 HP
    go_wp2_with fail
    with_reducible refine Calls.mono (HR1.out _ _ HI3c.out) ?_
    rintro e w4 ⟨⟨q4, rfl, k1⟩, k2⟩
    have HU4 := Lib.hid (Up.trans HU3.out k2)
    have HI4 := Lib.hid (HI3.out.up k2)
    have HMN4 := Lib.hid (HMS.out M1 q4)
    clear k1 k2 HR1 HI3 HI3c HU3 hcut
    generalize msA M1 q4 = c4 at *
    go_wp2_with (refine wpList_allocT rfl rfl HZZ.out.2 ?_; intro b5 w5 k5 s5 u5; refine Stp.h ?_)
    have HS5 : Hid (w4.heap.size ≤ b5) := s5
    have HX5 := Lib.hid k5
    have HU5 := Lib.hid u5
    clear k5 s5 u5
    refine Stp.mk ?_
    go_wp2_with (refine wpList_storeT (B := b5) rfl rfl rfl rfl HX5.out (by rw [info_ms, HMN4.out.1]) (by rw [HZZ.out.1, HMN4.out.1]) HMN4.out.2 ?_; intro w6 k6 g6; refine Stp.h ?_)
    have HV6 := Lib.hid (up_at HU5.out g6 HS5.out)
    have HU6 := Lib.hid (Up.trans HU4.out HV6.out)
    have HI6 := Lib.hid (HI4.out.up HV6.out)
    clear k6 g6 HX5 HU5 HS5 HU4 HI4 HV6
    refine Stp.mk ?_
    go_wp2_with (refine wpList_ex rfl _ _ (ex_slice0 _ _ (build_none8 _) rfl) ?_; refine Stp.h ?_)
    have HR7 := Lib.hid (ownsRow_empty w6 5)
    have HV7 := Lib.hid (Up.alloc (Up.refl w6) (.cells #[] 5))
    obtain ⟨b7, hb7⟩ : ∃ b7, w6.heap.size = b7 := ⟨_, rfl⟩
    rw [hb7] at HR7 ⊢
    have HS7 := Lib.hid hb7
    clear hb7
    generalize w6.alloc (.cells #[] 5) = w7 at *
    have HL7 : Hid (b7 ≤ w7.heap.size) := by
      rw [← HS7.out]
      exact HV7.out.size
    have HN7 := Lib.hid (ints_src (HI6.out.up HV7.out))
    refine Stp.mk ?_
    go_wp2_with (at_builtin; refine wpList_append_own_src_at _ rfl (.tmp 43) (.tmp 44) 34 rfl b7 5 i0 (.int .u8 0) 1 1 Try.underlying34 hi0 hz0 hz1 hz2 rfl (by decide) (.slice (some ⟨b7, 0, none⟩) 0 0) 0 _ rfl HR7.out ra pn rc (PB.map (Value.int .u8)) rfl HN7.out.1 (by rw [List.length_map, HXL.out.1, Nat.mul_one]) HN7.out.2 (u8_cells PB) (by unfold maxLen; have := HXL.out; omega) (by have := HXL.out; omega) HL7.out ?_; intro v8 w8 hown8 hgrow8 hat8; refine Stp.h ?_)
    rw [Nat.zero_add, List.nil_append] at hown8
    have HV8 := Lib.hid (up_row HV7.out HR7.out hgrow8 (Nat.le_of_eq HS7.out))
    obtain ⟨a8, c8, rfl⟩ := row_shape hown8
    have HR8 := Lib.hid hown8
    have HL8 : Hid (b7 ≤ w8.heap.size) := by
      rw [← HS7.out]
      exact HV8.out.size
    have HN8 := Lib.hid (ints_src (HVI.out _ (Up.trans HU6.out HV8.out)))
    clear hown8 hgrow8 hat8 HR7 HN7 HL7 HV7 HI6 HVI
    refine Stp.mk ?_
    go_wp2_with (at_builtin; refine wpList_append_own_srcW _ rfl (.tmp 45) (.tmp 46) 34 rfl b7 5 i0 (.int .u8 0) 1 1 Try.underlying34 hi0 hz0 hz1 hz2 rfl (by decide) (.slice a8 pn c8) pn _ rfl HR8.out va zs.length vc (zs.map (Value.int .u8)) rfl HN8.out.1 (by rw [List.length_map, Nat.mul_one]) HN8.out.2 (u8_cells zs) (by unfold maxLen; have := HXL.out; omega) (by have := HXL.out; omega) HL8.out ?_; intro v9 w9 hown9 hgrow9 hat9; refine Stp.h ?_)
    rw [← List.map_append] at hown9
    have HU9 := Lib.hid (Up.trans HU6.out (up_row HV8.out HR8.out hgrow9 (Nat.le_of_eq HS7.out)))
    obtain ⟨a9, c9, rfl⟩ := row_shape hown9
    have HI9 := Lib.hid (Ints.of_row hown9)
    clear hown9 hgrow9 hat9 HR8 HN8 HL8 HV8 HS7 HU6
    refine Stp.mk ?_
    go_wp2_with fail
    with_reducible refine Calls.mono (HR2.out _ _ HI9.out) ?_
    rintro e w10 ⟨⟨q5, rfl, k1⟩, k2⟩
    have HU10 := Lib.hid (Up.trans HU9.out k2)
    clear k1 k2 HR2 HI9 HU9 HXL hl hpn hx6
    by_cases hzs : zs = []
    · subst hzs
      rw [if_pos rfl, List.length_nil]
      have HMN5 := Lib.hid (HMS.out M2 q5)
      clear HMS
      generalize msA M2 q5 = c5 at *
      go_wp2_with (refine wpList_allocT rfl rfl HZZ.out.2 ?_; intro b11 w11 k11 s11 u11; refine Stp.h ?_)
      have HS11 : Hid (w10.heap.size ≤ b11) := s11
      have HX11 := Lib.hid k11
      have HU11 := Lib.hid u11
      clear k11 s11 u11
      refine Stp.mk ?_
      go_wp2_with (refine wpList_storeT (B := b11) rfl rfl rfl rfl HX11.out (by rw [info_ms, HMN5.out.1]) (by rw [HZZ.out.1, HMN5.out.1]) HMN5.out.2 ?_; intro w12 k12 g12; refine Stp.h ?_)
      have HU12 := Lib.hid (Up.trans HU10.out (up_at HU11.out g12 HS11.out))
      clear k12 g12 HX11 HU11 HS11 HU10
      refine Stp.mk ?_
      go_wp2
      go_ret
      exact ⟨rfl, HU12.out⟩
    · have hz9 : ((zs.length : Int) == 0) = false := by
        rw [beq_eq_false_iff_ne]
        intro h
        exact hzs (List.eq_nil_of_length_eq_zero (by omega))
      rw [if_neg hzs]
      clear hvd hzs
      generalize zs.length = zl at *
      have HMN5 := Lib.hid (HMS.out M2 q5)
      clear HMS
      generalize msA M2 q5 = c5 at *
      go_wp2_with (refine wpList_allocT rfl rfl HZZ.out.2 ?_; intro b11 w11 k11 s11 u11; refine Stp.h ?_)
      have HS11 : Hid (w10.heap.size ≤ b11) := s11
      have HX11 := Lib.hid k11
      have HU11 := Lib.hid u11
      clear k11 s11 u11
      refine Stp.mk ?_
      go_wp2_with (refine wpList_storeT (B := b11) rfl rfl rfl rfl HX11.out (by rw [info_ms, HMN5.out.1]) (by rw [HZZ.out.1, HMN5.out.1]) HMN5.out.2 ?_; intro w12 k12 g12; refine Stp.h ?_)
      have HU12 := Lib.hid (Up.trans HU10.out (up_at HU11.out g12 HS11.out))
      clear k12 g12 HX11 HU11 HS11 HU10
      refine Stp.mk ?_
      go_wp2
      go_ret
      exact ⟨rfl, HU12.out⟩
  · have h0 := put_none hE
    rw [h0] at HP
    have e1 : (putE m == 0) = false := by rw [beq_eq_false_iff_ne]; exact hE
    have e2 : (putE m != 0) = true := by rw [bne, e1]; rfl
    clear hu hb hi ho hz hE h0
    generalize putE m = PE at *
    obtain ⟨cs, hcs⟩ : ∃ cs, msA m p = cs := ⟨_, rfl⟩
    rw [hcs] at HU HB HI HP
    rw [hcs]
    clear hcs
    go_enter Try.func4, Try.ntmps4
    go_wp2_with fail
    generalize w.alloc (.cells cs 33) = w1 at *
    generalize w.heap.size = b1 at HB ⊢
    with_reducible refine Calls.mono (HAL.out _) ?_
    rintro e w2 ⟨rfl, u2⟩
    have HU2 := Lib.hid (Up.trans HU.out u2)
    have HB2 := Lib.hid ((u2.block _ (lt_of_block HB.out)).trans HB.out)
    clear u2 HU HB HAL
    go_wp2_with (refine wpList_ex rfl (.agg cs) _ (ex_loadrow rfl rfl _ 33 HB2.out Try.underlying33 rfl HI.out) ?_; refine Stp.h ?_)
    refine Stp.mk ?_
    go_wp2_with fail
    with_reducible refine Calls.mono (HP.out _ HU2.out) ?_
    rintro e w3 ⟨r, rfl, k1, k2⟩
    have HU3 := Lib.hid (Up.trans HU2.out k2)
    obtain ⟨ra, rc, rfl, _, _, _⟩ := k1
    clear k2 HU2 HB2 HP
    go_wp2
    go_ret
    exact ⟨rfl, HU3.out⟩
end
end Go.Proofs.Ytacamknljicjmaa
