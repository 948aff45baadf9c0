import Derived.Deep.QuietTactic
import Derived.BigQuiet
import Derived.Test.YtkelbilcjgndmaaAcGen
import Derived.Test.YtkelbilcjgndmaaRefTx
import Derived.Test.YtkelbilcjgndmaaTsRow
/-
  mootref14.Apply.
-/
namespace Go.Proofs.Ytkelbilcjgndmaa
set_option maxRecDepth 100000
section
set_option linter.unusedVariables false
open Go.RowKit Go.Sort Go.Lib

/-- an account, by its number -/
def acAt (ac : List Ac) (j : Int) : Ac := ac[j.toNat]?.getD (0, 0)
/-- accounts behind a transaction, and what is said of it -/
def acApply (ac : List Ac) (x : Ts) : List Ac × Int :=
  if tsE x ≠ 0 ∨ (ac.length : Int) ≤ x.1.F ∨ (ac.length : Int) ≤ x.1.T then (ac, 9)
  else if x.1.N ≠ (acAt ac x.1.F).2 then (ac, 72)
  else
    let o1 := ac.set x.1.F.toNat ((acAt ac x.1.F).1, wrap64 ((acAt ac x.1.F).2 + 1))
    if (acAt ac x.1.F).1 < x.1.A then (o1, 73)
    else
      let o2 := o1.set x.1.F.toNat (wrap64 ((acAt o1 x.1.F).1 - x.1.A), (acAt o1 x.1.F).2)
      (o2.set x.1.T.toNat (wrap64 ((acAt o2 x.1.T).1 + x.1.A), (acAt o2 x.1.T).2), 0)
theorem acAt_of {ac : List Ac} {j : Nat} (h : j < ac.length) : ac[j]? = some (acAt ac (j : Int)) := by
  unfold acAt
  rw [show ((j : Int)).toNat = j by omega, List.getElem?_eq_getElem h]; rfl
/-- what stays where one row alone is written -/
abbrev But (g : Nat) (w w' : World) : Prop := KeptBut (fun k => k = g) w w'
theorem But.cell {g : Nat} {w w' : World} (h : But g w w') {b o : Nat} {v : Value} (hc : w.cell? ⟨b, o, none⟩ = some v) (hb : b ≠ g) : w'.cell? ⟨b, o, none⟩ = some v := by
  rw [← hc]
  exact World.cell?_of_block (a := ⟨b, o, none⟩) (h.block b (World.block_lt_of_cell? w _ hc) hb)
theorem But.set {g : Nat} {w w' : World} (h : But g w w') (o : Nat) (v : Value) : But g w (w'.setCell ⟨g, o, none⟩ v) :=
  h.trans (KeptBut.of_grown (S := fun k => k = g) (grownBy_setCell w' ⟨g, o, none⟩ v) (fun k e => by cases e; rfl)) (fun _ _ e => e)
theorem But.drewN {g : Nat} {w w' : World} (h : But g w w') (q : Nat) : But g w (w'.drewN q) := ⟨h.os, h.tape, h.output, h.size, h.block⟩
theorem But.drew {g : Nat} {w w' : World} (h : But g w w') : But g w w'.drew := h.drewN 1
theorem AcRow.drewN {W : World} {g : Nat} {xs : List Ac} (h : AcRow W g xs) (q : Nat) : AcRow (W.drewN q) g xs := h
theorem info_acd : (Try.prog.info? 49).map (fun i => (i.zero, i.size, i.bytes)) = some (some (.agg (acA (0, 0))), 2, 16) := by kernel_rfl
theorem ownsRow_emptyA (w : World) : (w.alloc (.cells #[] 49)).ownsRow w.heap.size 49 2 (.slice (some ⟨w.heap.size, 0, none⟩) 0 0) 0 [] :=
  World.ownsRow_made w #[] 0 (Nat.le_refl _) (by decide) rfl
theorem aarg_cells {W : World} {a : Option Addr} {n cap : Nat} {xs : List Ac} (h : AArg W (.slice a n cap) xs) : ∀ ad, a = some ad → ∀ j u, (acF xs)[j]? = some u → W.cell? (ad.add j) = some u := by
  intro ad had j u hj
  have hjl : j < xs.length * 2 := by have := (List.getElem?_eq_some_iff.1 hj).1; rwa [acF_length] at this
  obtain ⟨a', cap', e, h1, h2, h3⟩ := h
  cases e
  rcases h3 with rfl | ⟨b, off, e, hc⟩
  · simp at hjl
  · rw [had] at e
    obtain rfl := Option.some.inj e
    have hi : j / 2 < xs.length := by omega
    have h4 := hc (j / 2) xs[j / 2] (List.getElem?_eq_getElem hi)
    have h5 := acF_get xs (j / 2) xs[j / 2] (List.getElem?_eq_getElem hi)
    have ha : ((⟨b, off, none⟩ : Addr).add j) = ⟨b, off + j, none⟩ := by unfold Addr.add; split <;> simp_all
    rw [ha]
    by_cases hp : j % 2 = 0
    · rw [show j / 2 * 2 = j by omega] at h4 h5
      rw [h4.1, ← h5.1, hj]
    · rw [show j / 2 * 2 + 1 = j by omega] at h4 h5
      rw [h4.2, ← h5.2, hj]

theorem aarg_of_own {W : World} {base n c : Nat} {a : Option Addr} {D : List Ac} (h : W.ownsRow base 49 2 (.slice a n c) n (acF D)) (hn : D.length = n) : AArg W (.slice a n c) D := by
  subst hn
  rcases h.2 with ⟨he, h0⟩ | ⟨g, cap, cur, he, _, hg, hc, _, hs, ht⟩
  · simp only [Value.slice.injEq] at he
    obtain ⟨rfl, _, rfl⟩ := he
    exact ⟨none, 0, rfl, Nat.le_of_eq h0, fun _ => rfl, .inl (List.eq_nil_of_length_eq_zero h0)⟩
  · cases he
    refine ⟨_, c, rfl, hc, (fun e => by cases e), .inr ⟨g, 0, rfl, fun i x hx => ?_⟩⟩
    have hi := (List.getElem?_eq_some_iff.1 hx).1
    have := acF_get D i x hx
    rw [← ht, List.getElem?_take_of_lt (by omega), List.getElem?_take_of_lt (by omega), Array.getElem?_toList, Array.getElem?_toList] at this
    rw [Nat.zero_add, Nat.zero_add, cell_of_row _ _ _ _ _ _ hg, cell_of_row _ _ _ _ _ _ hg]
    exact this

set_option maxHeartbeats 2000000 in
/-- as acApply_any; the new accounts lie in a new block -/
theorem acApply_new (v : Value) (ac : List Ac) (x : Ts) (w : World) (ha : AArg w v ac) (hn : ac.length * 16 ≤ 140737488355328) :
    Calls Try.prog 8 #[v, .agg (tsA x)] w fun e w' => ∃ ra rc, e = .returned (.tuple #[.slice ra ac.length rc, .int .i64 (acApply ac x).2]) ∧ AArg w' (.slice ra ac.length rc) (acApply ac x).1 ∧ Up w w' ∧ ∀ b o, ra = some ⟨b, o, none⟩ → w.heap.size ≤ b := by
  obtain ⟨RES, hRES⟩ : ∃ R, acApply ac x = R := ⟨_, rfl⟩
  have HRES := Lib.hid hRES
  rw [hRES]
  clear hRES
  obtain ⟨i0, hi, hz0, hz1, hz2⟩ := info_partsT info_acd
  have hcz : (Value.agg (acA (0, 0))).cells.size = 2 := rfl
  generalize Value.agg (acA (0, 0)) = ZV at hz0 hcz
  obtain ⟨a, cap, rfl, _, hnone, _⟩ := id ha
  have hwb := Up.alloc (Up.refl w) (.cells (tsA x) 24)
  have hbox := heap_alloc_new w (.cells (tsA x) 24)
  have HT0 : Hid (∀ wx, Calls Try.prog 18 #[.agg (tsA x)] wx fun e w' => e = .returned (.int .i64 (tsE x)) ∧ Up wx w') := Lib.hid fun wx => refTx_any _ _ _ _ _ wx
  have hsz : (Try.prog.info? 24).map (·.size) = some (tsA x).size := info_tx
  have HC : Hid ((tsA x)[0]? = some (.int .i64 x.1.F) ∧ (tsA x)[1]? = some (.int .i64 x.1.T) ∧ (tsA x)[2]? = some (.int .i64 x.1.A) ∧ (tsA x)[3]? = some (.int .i64 x.1.N)) := Lib.hid ⟨rfl, rfl, rfl, rfl⟩
  have HA := Lib.hid ha
  obtain ⟨n, hnl⟩ : ∃ n, ac.length = n := ⟨_, rfl⟩
  have HN := Lib.hid hnl
  have Hnews := Lib.hid (aarg_cells (ha.up (Up.alloc hwb (.cells #[] 49))))
  have r0 := ownsRow_emptyA (w.alloc (.cells (tsA x) 24))
  have hs1 : (w.alloc (.cells (tsA x) 24)).heap.size = w.heap.size + 1 := by simp
  have hb1 := ((Up.alloc (Up.refl (w.alloc (.cells (tsA x) 24))) (.cells #[] 49)).block _ (lt_of_block hbox)).trans hbox
  rw [hs1] at r0
  rw [hnl] at hn HA ⊢
  have Hn1 : Hid (a = none → n = 0 ∧ cap = 0) := Lib.hid fun h => ⟨by have := HA.out; obtain ⟨a', c', e, h1, h2, h3⟩ := this; cases e; rw [hnl] at h1; have := h2 h; omega, hnone h⟩
  have hfl : (acF ac).length = n * 2 := by rw [acF_length, hnl]
  generalize tsA x = cs at *
  clear ha hnl hnone hs1 hbox hwb
  go_enter Try.func8, Try.ntmps8
  go_wp2_with (first | (at_builtin; refine wpList_append_own_src _ rfl (.tmp 7) (.tmp 8) 22 rfl (w.heap.size + 1) 49 i0 ZV 2 16 Try.underlying22 hi hz0 hz1 hz2 hcz (by decide) _ 0 _ rfl r0 a n cap (acF ac) rfl Hn1.out hfl Hnews.out (acF_one ac) (by unfold maxLen; omega) (by omega) (by simp) ?_; intro v' w3 hown' hgrow _; rw [Nat.zero_add, List.nil_append] at hown'; have hb3 := hgrow.block w.heap.size (by simp; omega) (fun e => by have := (r0.lt w.heap.size e.symm).1; omega); have hb4 := hb3.trans hb1; have Hown := Lib.hid hown'; have U3 : Hid (Up w w3) := Lib.hid (Below.grown (Up.alloc (Up.alloc (Up.refl w) _) _) hgrow (by simp; omega) (fun q e => by have := (r0.lt q e).1; omega)); have HB3 := Lib.hid hb4; clear hown' hgrow hb3 hb4 hb1) | (refine wpList_ex rfl (.agg cs) _ (ex_loadrow (x := .tmp 3) rfl rfl _ 24 HB3.out Try.underlying24 rfl hsz) ?_))
  with_reducible refine Calls.mono (HT0.out _) ?_
  rintro e w4 ⟨rfl, u4⟩
  have U4 := Lib.hid (Up.trans U3.out u4)
  obtain ⟨ra, rc, rfl⟩ := row_shape Hown.out
  have HO4 := Lib.hid (ownsRow_up Hown.out u4)
  have HNB : Hid (∀ b o, ra = some ⟨b, o, none⟩ → w.heap.size ≤ b) := Lib.hid fun b o e => by
    subst e
    have := (HO4.out.lt b rfl).1
    omega
  have HB4 : Hid (w4.heap[w.heap.size]? = some (.cells cs 24 (0, 0))) := Lib.hid ((u4.block _ (lt_of_block HB3.out)).trans HB3.out)
  clear u4 Hown HB3 U3
  have hE9 : tsE x = 0 ∨ tsE x = 9 := by unfold tsE txE; split <;> simp
  have HW : Hid (∀ W q, Up w4 W → AArg (W.drewN q) (.slice ra n rc) ac ∧ Up w (W.drewN q)) := Lib.hid fun W q hU => ⟨(aarg_of_own HO4.out HN.out).up (Up.drewN hU q), (U4.out.trans hU).drewN q⟩
  have c0 := tx_cell HB4.out 0 HC.out.1
  have c1 := tx_cell HB4.out 1 HC.out.2.1
  have c2 := tx_cell HB4.out 2 HC.out.2.2.1
  have c3 := tx_cell HB4.out 3 HC.out.2.2.2
  obtain ⟨F, hF⟩ : ∃ F, x.1.F = F := ⟨_, rfl⟩
  obtain ⟨T, hT⟩ : ∃ T, x.1.T = T := ⟨_, rfl⟩
  obtain ⟨A, hA⟩ : ∃ A, x.1.A = A := ⟨_, rfl⟩
  obtain ⟨N, hN⟩ : ∃ N, x.1.N = N := ⟨_, rfl⟩
  have HV : Hid (x.1.F = F ∧ x.1.T = T ∧ x.1.A = A ∧ x.1.N = N) := Lib.hid ⟨hF, hT, hA, hN⟩
  rw [hF] at c0
  rw [hT] at c1
  rw [hA] at c2
  rw [hN] at c3
  clear hF hT hA hN r0 hi hz0 hz1 hz2 hcz hfl hn
  rcases hE9 with hE | hE
  · rw [hE]
    have hrg : (0 ≤ F ∧ F ≤ 3) ∧ (0 ≤ T ∧ T ≤ 3) ∧ F ≠ T := by
      have h := hE
      obtain ⟨e1, e2, e3, e4⟩ := HV.out
      unfold tsE txE at h
      rw [e1, e2, e3, e4] at h
      by_cases hc : ((0 ≤ F ∧ F ≤ 3) ∧ (0 ≤ T ∧ T ≤ 3) ∧ (1 ≤ A ∧ A ≤ 1000) ∧ (0 ≤ N ∧ N ≤ 1099511627776)) ∧ F ≠ T ∧ x.2.size ≤ 4096
      · exact ⟨hc.1.1, hc.1.2.1, hc.2.1⟩
      · rw [if_neg hc] at h; cases h
    have HE := Lib.hid hE
    clear hE
    by_cases h1 : (n : Int) ≤ F
    · have hres : RES = (ac, 9) := by
        rw [← HRES.out]
        unfold acApply
        rw [if_pos (.inr (.inl (by rw [HN.out, HV.out.1]; exact h1)))]
      subst hres
      have hd1 : decide ((n : Int) ≤ F) = true := decide_eq_true h1
      go_wp2
      refine bodyPost_ret (results_tmp2 rfl _ _ _) rfl ⟨ra, rc, rfl, (HW.out w4 0 (Up.refl _)).1, (HW.out w4 0 (Up.refl _)).2, HNB.out⟩
    have hd1 : decide ((n : Int) ≤ F) = false := decide_eq_false h1
    by_cases h2 : (n : Int) ≤ T
    · have hres : RES = (ac, 9) := by
        rw [← HRES.out]
        unfold acApply
        rw [if_pos (.inr (.inr (by rw [HN.out, HV.out.2.1]; exact h2)))]
      subst hres
      have hd2 : decide ((n : Int) ≤ T) = true := decide_eq_true h2
      go_wp2
      refine bodyPost_ret (results_tmp2 rfl _ _ _) rfl ⟨ra, rc, rfl, (HW.out w4 0 (Up.refl _)).1, (HW.out w4 0 (Up.refl _)).2, HNB.out⟩
    have hd2 : decide ((n : Int) ≤ T) = false := decide_eq_false h2
    obtain ⟨f, rfl⟩ : ∃ f : Nat, F = (f : Int) := ⟨F.toNat, by omega⟩
    obtain ⟨s, rfl⟩ : ∃ s : Nat, T = (s : Int) := ⟨T.toNat, by omega⟩
    have hfn : f < n := by omega
    have hsn : s < n := by omega
    have hfz : (f : Int) < (n : Int) := by omega
    have hsz2 : (s : Int) < (n : Int) := by omega
    obtain ⟨⟨B, M⟩, hbm⟩ : ∃ p, acAt ac (f : Int) = p := ⟨_, rfl⟩
    have hat := acAt_of (ac := ac) (j := f) (by rw [HN.out]; exact hfn)
    rw [hbm] at hat
    have hRc : RES = if N ≠ M then (ac, 72) else if B < A then (ac.set f (B, wrap64 (M + 1)), 73) else (((ac.set f (B, wrap64 (M + 1))).set f (wrap64 (B - A), wrap64 (M + 1))).set s (wrap64 ((acAt ((ac.set f (B, wrap64 (M + 1))).set f (wrap64 (B - A), wrap64 (M + 1))) (s : Int)).1 + A), (acAt ((ac.set f (B, wrap64 (M + 1))).set f (wrap64 (B - A), wrap64 (M + 1))) (s : Int)).2), 0) := by
      rw [← HRES.out]
      unfold acApply
      rw [if_neg (by rw [HE.out, HN.out, HV.out.1, HV.out.2.1]; omega), HV.out.1, HV.out.2.1, HV.out.2.2.1, HV.out.2.2.2, hbm]
      have h3 : acAt (ac.set f (B, wrap64 (M + 1))) (f : Int) = (B, wrap64 (M + 1)) := by
        unfold acAt
        rw [show ((f : Int)).toNat = f by omega, List.getElem?_set_self (by rw [HN.out]; exact hfn)]; rfl
      simp only [show ((f : Int)).toNat = f by omega, show ((s : Int)).toNat = s by omega, h3]
    have hRC := Lib.hid hRc
    obtain ⟨b, off, rfl⟩ := HA.out.ptr (by rw [HN.out]; omega)
    obtain ⟨l0, l1⟩ := HA.out.cells hat
    have hbw : b < w.heap.size := World.block_lt_of_cell? w _ l0
    obtain ⟨g, gc, hg1, hg2, hg3, hg4⟩ := AcRow.of_row (xs := ac) (by rw [HN.out]; exact HO4.out) (fun e => by cases e; omega)
    rw [HN.out] at hg1
    cases hg1
    have d0 := later_cell l0 U4.out
    have d1 := later_cell l1 U4.out
    rw [show off + (f * 2 + 1) = off + f * 2 + 1 by omega] at d1
    have HR4 := Lib.hid hg4
    have HCAP : Hid (n ≤ rc) := Lib.hid (by rw [← HN.out]; exact hg3)
    have HG : Hid (w.heap.size + 1 ≤ g) := Lib.hid hg2
    have hne : w.heap.size ≠ g := by omega
    have hne2 : b ≠ g := by omega
    have HCS : Hid (∀ W, But g w4 W → W.cell? ⟨w.heap.size, 0, none⟩ = some (.int .i64 (f : Int)) ∧ W.cell? ⟨w.heap.size, 1, none⟩ = some (.int .i64 (s : Int)) ∧ W.cell? ⟨w.heap.size, 2, none⟩ = some (.int .i64 A) ∧ W.cell? ⟨w.heap.size, 3, none⟩ = some (.int .i64 N) ∧ W.cell? ⟨b, off + f * 2, none⟩ = some (.int .i64 B) ∧ W.cell? ⟨b, off + f * 2 + 1, none⟩ = some (.int .i64 M)) :=
      Lib.hid fun W hK => ⟨hK.cell c0 hne, hK.cell c1 hne, hK.cell c2 hne, hK.cell c3 hne, hK.cell d0 hne2, hK.cell d1 hne2⟩
    have HAT := Lib.hid hat
    clear hRc hg2 hg3 hg4 hbm hat l0 l1 hne hne2 hbw
    by_cases h3 : N = M
    · have hnm : decide (N = M) = true := decide_eq_true h3
      have hnm2 : (N == M) = true := by rw [beq_iff_eq]; exact h3
      go_wp2
      go_quiet (fail)
      rename_i nq
      have hK5 : But g w4 (w4.drewN nq) := But.drewN (KeptBut.refl _ _) nq
      have hR5 : AcRow (w4.drewN nq) g ac := HR4.out
      generalize w4.drewN nq = w5 at hK5 hR5 ⊢
      obtain ⟨c0, c1, c2, c3, d0, d1⟩ := HCS.out w5 hK5
      obtain ⟨o0, o1⟩ := hR5.cell HAT.out
      have ofr := hR5.free (f * 2 + 1)
      have hset : AcRow (w5.setCell ⟨g, f * 2 + 1, none⟩ (.int .i64 (wrap64 (M + 1)))).drew g (ac.set f (B, wrap64 (M + 1))) := (hR5.set HAT.out (wrap64 (M + 1))).2
      have hK6 := But.drew (But.set hK5 (f * 2 + 1) (.int .i64 (wrap64 (M + 1))))
      clear hR5 hK5
      go_wp2
      go_region
      generalize (w5.setCell ⟨g, f * 2 + 1, none⟩ (.int .i64 (wrap64 (M + 1)))).drew = w6 at hset hK6 ⊢
      have HR6 := Lib.hid hset
      have HK6 := Lib.hid hK6
      clear hset o0 o1 ofr c0 c1 c2 c3 d0 d1
      obtain ⟨c0, c1, c2, c3, d0, d1⟩ := HCS.out w6 hK6
      clear hK6
      obtain ⟨O1, hO1⟩ : ∃ O, ac.set f (B, wrap64 (M + 1)) = O := ⟨_, rfl⟩
      have HL1 : Hid (O1.length = n ∧ O1[f]? = some (B, wrap64 (M + 1))) := Lib.hid (by rw [← hO1]; exact ⟨by rw [List.length_set, HN.out], List.getElem?_set_self (by rw [HN.out]; exact hfn)⟩)
      rw [hO1] at HR6 hRC
      clear hO1
      by_cases h4 : B < A
      · have hres : RES = (O1, 73) := by rw [hRC.out, if_neg (fun h => h h3), if_pos h4]
        subst hres
        have hba : decide (B < A) = true := decide_eq_true h4
        go_wp2
        go_quiet (fail)
        have hR7 : AArg (w6.drewN nq) (.slice (some ⟨g, 0, none⟩) n rc) O1 := by
          have := (HR6.out.drewN nq).arg (cap := rc) (by rw [HL1.out.1]; exact HCAP.out)
          rwa [HL1.out.1] at this
        have hU7 : Up w (w6.drewN nq) := up_kept U4.out (But.drewN HK6.out nq) (by have := HG.out; omega)
        go_wp2
        refine bodyPost_ret (results_tmp2 rfl _ _ _) rfl ⟨_, rc, rfl, hR7, hU7, HNB.out⟩
      · have hba : decide (B < A) = false := decide_eq_false h4
        go_wp2
        go_quiet (fail)
        have hK7 : But g w4 (w6.drewN nq) := But.drewN HK6.out nq
        have hR7 : AcRow (w6.drewN nq) g O1 := HR6.out
        generalize w6.drewN nq = w7 at hK7 hR7 ⊢
        clear c0 c1 c2 c3 d0 d1
        obtain ⟨c0, c1, c2, c3, d0, d1⟩ := HCS.out w7 hK7
        obtain ⟨o0, o1⟩ := hR7.cell HL1.out.2
        have ofr := hR7.free (f * 2)
        have hset : AcRow (w7.setCell ⟨g, f * 2, none⟩ (.int .i64 (wrap64 (B - A)))).drew g (O1.set f (wrap64 (B - A), wrap64 (M + 1))) := (hR7.set HL1.out.2 (wrap64 (B - A))).1
        have hK8 := But.drew (But.set hK7 (f * 2) (.int .i64 (wrap64 (B - A))))
        clear hR7 hK7 d0 d1
        go_wp2
        go_region
        generalize (w7.setCell ⟨g, f * 2, none⟩ (.int .i64 (wrap64 (B - A)))).drew = w8 at hset hK8 ⊢
        clear o0 o1 ofr c0 c1 c2 c3
        obtain ⟨O2, hO2⟩ : ∃ O, O1.set f (wrap64 (B - A), wrap64 (M + 1)) = O := ⟨_, rfl⟩
        have hl2 : O2.length = n := by rw [← hO2, List.length_set, HL1.out.1]
        obtain ⟨⟨B2, M2⟩, hbm⟩ : ∃ p, acAt O2 (s : Int) = p := ⟨_, rfl⟩
        have hat := acAt_of (ac := O2) (j := s) (by rw [hl2]; exact hsn)
        have hres : RES = (O2.set s (wrap64 (B2 + A), M2), 0) := by rw [hRC.out, if_neg (fun h => h h3), if_neg (by omega), hO2, hbm]
        rw [hbm] at hat
        subst hres
        rw [hO2] at hset
        obtain ⟨c0, c1, c2, c3, d0, d1⟩ := HCS.out w8 hK8
        obtain ⟨o0, o1⟩ := hset.cell hat
        have ofr := hset.free (s * 2)
        have hset2 : AcRow (w8.setCell ⟨g, s * 2, none⟩ (.int .i64 (wrap64 (B2 + A)))).drew g (O2.set s (wrap64 (B2 + A), M2)) := (hset.set hat (wrap64 (B2 + A))).1
        have hK9 := But.drew (But.set hK8 (s * 2) (.int .i64 (wrap64 (B2 + A))))
        have HL2 : Hid ((O2.set s (wrap64 (B2 + A), M2)).length = n) := Lib.hid (by rw [List.length_set, hl2])
        clear hset hK8 d0 d1 hat hbm hl2 hO2
        go_wp2
        go_region
        generalize (w8.setCell ⟨g, s * 2, none⟩ (.int .i64 (wrap64 (B2 + A)))).drew = w9 at hset2 hK9 ⊢
        have hR9 : AArg w9 (.slice (some ⟨g, 0, none⟩) n rc) (O2.set s (wrap64 (B2 + A), M2)) := by
          have := hset2.arg (cap := rc) (by rw [HL2.out]; exact HCAP.out)
          rwa [HL2.out] at this
        have hU9 : Up w w9 := up_kept U4.out hK9 (by have := HG.out; omega)
        clear hset2 hK9 c0 c1 c2 c3 o0 o1 ofr
        go_wp2
        refine bodyPost_ret (results_tmp2 rfl _ _ _) rfl ⟨_, rc, rfl, hR9, hU9, HNB.out⟩
    · have hres : RES = (ac, 72) := by rw [hRC.out, if_pos h3]
      subst hres
      have hnm : decide (N = M) = false := decide_eq_false h3
      have hnm2 : (N == M) = false := by rw [beq_eq_false_iff_ne]; exact h3
      go_wp2
      go_quiet (fail)
      go_wp2
      refine bodyPost_ret (results_tmp2 rfl _ _ _) rfl ⟨_, rc, rfl, (HW.out w4 _ (Up.refl _)).1, (HW.out w4 _ (Up.refl _)).2, HNB.out⟩
  · rw [hE]
    have hres : RES = (ac, 9) := by
      rw [← HRES.out]
      unfold acApply
      rw [if_pos (.inl (by rw [hE]; decide))]
    subst hres
    clear hE
    go_wp2
    refine bodyPost_ret (results_tmp2 rfl _ _ _) rfl ⟨ra, rc, rfl, (HW.out w4 0 (Up.refl _)).1, (HW.out w4 0 (Up.refl _)).2, HNB.out⟩
theorem acApply_any (v : Value) (ac : List Ac) (x : Ts) (w : World) (ha : AArg w v ac) (hn : ac.length * 16 ≤ 140737488355328) :
    Calls Try.prog 8 #[v, .agg (tsA x)] w fun e w' => ∃ ra rc, e = .returned (.tuple #[.slice ra ac.length rc, .int .i64 (acApply ac x).2]) ∧ AArg w' (.slice ra ac.length rc) (acApply ac x).1 ∧ Up w w' :=
  (acApply_new v ac x w ha hn).mono fun e w' ⟨ra, rc, h1, h2, h3, _⟩ => ⟨ra, rc, h1, h2, h3⟩
theorem acApply_length (ac : List Ac) (x : Ts) : (acApply ac x).1.length = ac.length := by
  unfold acApply
  split
  · rfl
  · split
    · rfl
    · simp only
      split
      · rw [List.length_set]
      · simp
/-- all numbers are numbers -/
def AcsOk (ac : List Ac) : Prop := ∀ (j : Nat) (x : Ac), ac[j]? = some x → AcOk x
theorem AcsOk.set {ac : List Ac} (h : AcsOk ac) (i : Nat) {y : Ac} (hy : AcOk y) : AcsOk (ac.set i y) := by
  intro j x hx
  rcases List.mem_or_eq_of_mem_set (List.mem_of_getElem? hx) with h1 | h1
  · obtain ⟨k, hk, e⟩ := List.mem_iff_getElem.1 h1
    exact h k x (by rw [List.getElem?_eq_getElem hk, e])
  · rw [h1]; exact hy
theorem AcsOk.at {ac : List Ac} (h : AcsOk ac) (j : Int) : AcOk (acAt ac j) := by
  unfold acAt
  cases hc : ac[j.toNat]? with
  | none => exact ⟨by decide, by decide⟩
  | some y => exact h _ y hc
theorem acApply_ok {ac : List Ac} (h : AcsOk ac) (x : Ts) : AcsOk (acApply ac x).1 := by
  have h1 : AcsOk (ac.set x.1.F.toNat ((acAt ac x.1.F).1, wrap64 ((acAt ac x.1.F).2 + 1))) := h.set _ ⟨(h.at _).1, wrap64_wf _⟩
  unfold acApply
  split
  · exact h
  · split
    · exact h
    · simp only
      split
      · exact h1
      · generalize ac.set x.1.F.toNat ((acAt ac x.1.F).1, wrap64 ((acAt ac x.1.F).2 + 1)) = o1 at h1 ⊢
        have h2 : AcsOk (o1.set x.1.F.toNat (wrap64 ((acAt o1 x.1.F).1 - x.1.A), (acAt o1 x.1.F).2)) := h1.set _ ⟨wrap64_wf _, (h1.at _).2⟩
        exact h2.set _ ⟨wrap64_wf _, (h2.at _).2⟩
theorem map_set_snd (ac : List Ac) (j : Int) (b : Int) : (ac.set j.toNat (b, (acAt ac j).2)).map (·.2) = ac.map (·.2) := by
  apply List.ext_getElem?
  intro k
  rw [List.map_set]
  by_cases e : j.toNat = k
  · subst e
    by_cases hk : j.toNat < ac.length
    · rw [List.getElem?_set_self (by simpa using hk), List.getElem?_map]
      unfold acAt
      rw [List.getElem?_eq_getElem hk]; rfl
    · rw [List.getElem?_eq_none (by simp; omega), List.getElem?_eq_none (by simp; omega)]
  · rw [List.getElem?_set_ne e]
/-- what can be done is done -/
theorem acApply_next {ac : List Ac} {x : Ts} (hE : tsE x = 0) (hl : ac.length = 4) (hn : (ac.map (·.2))[x.1.F.toNat]? = some x.1.N) :
    ((acApply ac x).2 = 0 ∨ (acApply ac x).2 = 73) ∧ (acApply ac x).1.map (·.2) = (ac.map (·.2)).set x.1.F.toNat (wrap64 (x.1.N + 1)) := by
  have hrg : (0 ≤ x.1.F ∧ x.1.F ≤ 3) ∧ (0 ≤ x.1.T ∧ x.1.T ≤ 3) := by
    have h := hE
    unfold tsE txE at h
    by_cases hc : ((0 ≤ x.1.F ∧ x.1.F ≤ 3) ∧ (0 ≤ x.1.T ∧ x.1.T ≤ 3) ∧ (1 ≤ x.1.A ∧ x.1.A ≤ 1000) ∧ (0 ≤ x.1.N ∧ x.1.N ≤ 1099511627776)) ∧ x.1.F ≠ x.1.T ∧ x.2.size ≤ 4096
    · exact ⟨hc.1.1, hc.1.2.1⟩
    · rw [if_neg hc] at h; cases h
  have hat : (acAt ac x.1.F).2 = x.1.N := by
    unfold acAt
    rw [List.getElem?_map] at hn
    cases hc : ac[x.1.F.toNat]? with
    | none => rw [hc] at hn; cases hn
    | some y => rw [hc] at hn; simpa using hn
  have h1 : (ac.set x.1.F.toNat ((acAt ac x.1.F).1, wrap64 ((acAt ac x.1.F).2 + 1))).map (·.2) = (ac.map (·.2)).set x.1.F.toNat (wrap64 (x.1.N + 1)) := by
    rw [List.map_set, hat]
  unfold acApply
  rw [if_neg (by rw [hE, hl]; omega), if_neg (by rw [hat]; simp)]
  simp only
  split
  · exact ⟨.inr rfl, h1⟩
  · refine ⟨.inl rfl, ?_⟩
    rw [map_set_snd, map_set_snd, h1]
end
end Go.Proofs.Ytkelbilcjgndmaa
