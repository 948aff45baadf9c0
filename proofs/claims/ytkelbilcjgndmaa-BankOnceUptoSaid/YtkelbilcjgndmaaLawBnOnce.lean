import Derived.Test.YtkelbilcjgndmaaBnGood
/-
  BankOnce: the walk.
-/
namespace Go.Proofs.Ytkelbilcjgndmaa
set_option maxRecDepth 100000
section
set_option linter.unusedVariables false
open Go.RowKit Go.Sort Go.Lib

theorem apply_not {ac : List Ac} {x : Ts} (h : (acApply ac x).2 = 9 ∨ (acApply ac x).2 = 72) : (acApply ac x).1 = ac := by
  unfold acApply at h ⊢
  by_cases h1 : tsE x ≠ 0 ∨ (ac.length : Int) ≤ x.1.F ∨ (ac.length : Int) ≤ x.1.T
  · rw [if_pos h1]
  rw [if_neg h1] at h ⊢
  by_cases h2 : x.1.N ≠ (acAt ac x.1.F).2
  · rw [if_pos h2]
  rw [if_neg h2] at h ⊢
  simp only at h
  split at h
  · simp at h
  · simp at h
/-- what was done, or lacked funds: the Nonce is one more, and it is not done again -/
theorem apply_done {ac : List Ac} (hg : Good ac) {x : Ts} (h : (acApply ac x).2 = 0 ∨ (acApply ac x).2 = 73) :
    ∃ (f : Nat) (B M B' : Int), x.1.F = (f : Int) ∧ f < 4 ∧ ac[f]? = some (B, M) ∧ (acApply ac x).1[f]? = some (B', M + 1) ∧ 0 ≤ M ∧ M ≤ 1099511627776 ∧ acApply (acApply ac x).1 x = ((acApply ac x).1, 72) := by
  by_cases h1 : tsE x ≠ 0 ∨ (ac.length : Int) ≤ x.1.F ∨ (ac.length : Int) ≤ x.1.T
  · exfalso
    unfold acApply at h
    rw [if_pos h1] at h
    simp at h
  by_cases h2 : x.1.N ≠ (acAt ac x.1.F).2
  · exfalso
    unfold acApply at h
    rw [if_neg h1, if_pos h2] at h
    simp at h
  have hE : tsE x = 0 := by
    by_cases e : tsE x = 0
    · exact e
    · exact absurd (.inl e) h1
  have hF : ¬ (ac.length : Int) ≤ x.1.F := fun e => h1 (.inr (.inl e))
  have hT : ¬ (ac.length : Int) ≤ x.1.T := fun e => h1 (.inr (.inr e))
  obtain ⟨⟨f0, f3⟩, ⟨t0, t3⟩, hne, ⟨a1, a2⟩, n0, n1⟩ := tsE_zero hE
  have hN : x.1.N = (acAt ac x.1.F).2 := by
    by_cases e : x.1.N = (acAt ac x.1.F).2
    · exact e
    · exact absurd e h2
  obtain ⟨f, hf⟩ : ∃ f : Nat, x.1.F = (f : Int) := ⟨x.1.F.toNat, by omega⟩
  obtain ⟨s, hs⟩ : ∃ s : Nat, x.1.T = (s : Int) := ⟨x.1.T.toNat, by omega⟩
  have hfl : f < ac.length := by omega
  have hsl : s < ac.length := by omega
  have hfs : f ≠ s := by omega
  have haf := acAt_of hfl
  obtain ⟨⟨B, M⟩, hbm⟩ : ∃ p, acAt ac (f : Int) = p := ⟨_, rfl⟩
  rw [hbm] at haf
  have hNM : x.1.N = M := by rw [hN, hf, hbm]
  have hM1 : wrap64 (M + 1) = M + 1 := wrap_in (by omega) (by omega)
  have hlen := acApply_length ac x
  have hafter : ∃ B', (acApply ac x).1[f]? = some (B', M + 1) := by
    unfold acApply
    rw [if_neg h1, if_neg h2]
    simp only [hf, hbm, show ((f : Int)).toNat = f by omega, hM1]
    split
    · exact ⟨B, List.getElem?_set_self hfl⟩
    · have ha1 : acAt (ac.set f (B, M + 1)) (f : Int) = (B, M + 1) := by
        have := acAt_of (ac := ac.set f (B, M + 1)) (j := f) (by rw [List.length_set]; exact hfl)
        rw [List.getElem?_set_self hfl] at this
        exact (Option.some.inj this).symm
      simp only [ha1, hs, show ((s : Int)).toNat = s by omega]
      exact ⟨_, by rw [List.getElem?_set_ne (Ne.symm hfs), List.getElem?_set_self (by rw [List.length_set]; exact hfl)]⟩
  obtain ⟨B', hB'⟩ := hafter
  refine ⟨f, B, M, B', hf, by have := hg.four; omega, haf, hB', by omega, by omega, ?_⟩
  generalize (acApply ac x).1 = L1 at hlen hB' ⊢
  unfold acApply
  rw [if_neg (by rw [hlen]; exact h1)]
  have ha : acAt L1 x.1.F = (B', M + 1) := by
    rw [hf]
    have := acAt_of (ac := L1) (j := f) (by omega)
    rw [hB'] at this
    exact (Option.some.inj this).symm
  rw [if_pos (by rw [ha, hNM]; simp only; omega)]

set_option maxHeartbeats 1000000 in
theorem lawBnOnce_any (v : Value) (bs : List Bb) (x : Ts) (w : World) (hb : BArg w v bs) (hk : bs.length + (allTx bs).length ≤ 1048577) :
    Calls Try.prog 6 #[v, .agg (tsA x)] w fun e w' => e = .returned (.bool true) ∧ Up w w' := by
  have hu1 := Up.alloc (Up.refl w) (.cells (tsA x) 24)
  have HB := Lib.hid (heap_alloc_new w (.cells (tsA x) 24))
  have HU1 := Lib.hid hu1
  have HF : Hid (∀ wx, Up w wx → _) := Lib.hid fun wx hu => bnFold_any _ bs wx (hb.up hu) hk
  have HGd := Lib.hid (Good.genesis.fold (allTx bs))
  have HAl := Lib.hid (fun wx => bnAlive_any wx)
  have hsz : (Try.prog.info? 24).map (·.size) = some (tsA x).size := info_tx
  have HC0 : Hid ((tsA x)[0]? = some (.int .i64 x.1.F)) := Lib.hid rfl
  have HA : Hid (∀ u ac wx, AArg wx u ac → ac.length = 4 → Calls Try.prog 7 #[u, .agg (tsA x)] wx fun e w' => ∃ g, e = .returned (.tuple #[.slice (some ⟨g, 0, none⟩) 4 4, .int .i64 (acApply ac x).2]) ∧ AcRow w' g (acApply ac x).1 ∧ wx.heap.size ≤ g ∧ Up wx w') := Lib.hid fun u ac wx ha h4 => by
    have := bnApply_any u ac x wx ha (by rw [h4]; decide)
    rw [h4] at this
    exact this
  obtain ⟨a, cap, rfl, _⟩ := id hb
  generalize (foldA acG (allTx bs)) = L at *
  have HL1 := Lib.hid (acApply_length L x)
  have HE := Lib.hid (acApply_errs L x)
  have HN := Lib.hid (@apply_not L x)
  have HD := Lib.hid (@apply_done L HGd.out x)
  generalize tsA x = cs at *
  clear hu1 hb
  go_enter Try.func6, Try.ntmps6
  go_wp2_with fail
  with_reducible refine Calls.mono (HAl.out _) ?_
  rintro e w2 ⟨rfl, hU2⟩
  have HU2 := Lib.hid (HU1.out.trans hU2)
  have HB2 := Lib.hid ((hU2.block _ (lt_of_block HB.out)).trans HB.out)
  clear hU2 HAl HU1 HB
  go_wp2_with fail
  with_reducible refine Calls.mono (HF.out _ HU2.out) ?_
  rintro e w3 ⟨g, r, rfl, hR3, hg3, _, hU3⟩
  have HU3 := Lib.hid (HU2.out.trans hU3)
  have HB3 := Lib.hid ((hU3.block _ (lt_of_block HB2.out)).trans HB2.out)
  have HR3 := Lib.hid hR3
  have h4 : L.length = 4 := HGd.out.four
  have HA3 : Hid (AArg w3 (.slice (some ⟨g, 0, none⟩) 4 4) L) := Lib.hid (by have := hR3.arg (cap := 4) (by rw [h4]; exact Nat.le_refl _); rwa [h4] at this)
  have HX3 := Lib.hid (HA.out _ L w3 HA3.out h4)
  clear hU3 hg3 hR3 HF HU2 HB2
  go_wp2_with (refine wpList_ex rfl (.agg cs) _ (ex_loadrow (x := .tmp 3) rfl rfl _ 24 HB3.out Try.underlying24 rfl hsz) ?_)
  with_reducible refine Calls.mono HX3.out ?_
  rintro e w4 ⟨g2, rfl, hR4, hg4, hU4⟩
  have HU4 := Lib.hid (HU3.out.trans hU4)
  have HB4 := Lib.hid ((hU4.block _ (lt_of_block HB3.out)).trans HB3.out)
  have HR4 := Lib.hid hR4
  have HA34 := Lib.hid (HA3.out.up hU4)
  have HR34 := Lib.hid (HR3.out.up hU4)
  obtain ⟨⟨L1, E1⟩, hL1⟩ : ∃ p, acApply L x = p := ⟨_, rfl⟩
  rw [hL1] at HR4 HL1 HE HN HD ⊢
  have h41 : L1.length = 4 := HL1.out.trans h4
  have HA4 : Hid (AArg w4 (.slice (some ⟨g2, 0, none⟩) 4 4) L1) := Lib.hid (by have := HR4.out.arg (cap := 4) (by rw [h41]; exact Nat.le_refl _); rwa [h41] at this)
  have HX4 := Lib.hid (HA.out _ L1 w4 HA4.out h41)
  clear hU4 hg4 hR4 HX3 HB3 HU3 HA3 HR3
  go_wp2_with (refine wpList_ex rfl (.agg cs) _ (ex_loadrow (x := .tmp 3) rfl rfl _ 24 HB4.out Try.underlying24 rfl hsz) ?_)
  with_reducible refine Calls.mono HX4.out ?_
  rintro e w5 ⟨g3, rfl, hR5, hg5, hU5⟩
  have HU5 := Lib.hid (HU4.out.trans hU5)
  have HB5 := Lib.hid ((hU5.block _ (lt_of_block HB4.out)).trans HB4.out)
  have HR5 := Lib.hid hR5
  have HA35 := Lib.hid (HA34.out.up hU5)
  have HR35 := Lib.hid (HR34.out.up hU5)
  have HA45 := Lib.hid (HA4.out.up hU5)
  have HR45 := Lib.hid (HR4.out.up hU5)
  clear hU5 hg5 hR5 HX4 HB4 HU4 HA4 HR4 HA34 HR34
  by_cases hdo : E1 = 0 ∨ E1 = 73
  · obtain ⟨f, B, M, B', hf, hf4, hat, hat1, hM0, hM1, hap⟩ := HD.out hdo
    rw [hap] at HR5 ⊢
    have h42 : L1.length = 4 := h41
    have HA5 : Hid (AArg w5 (.slice (some ⟨g3, 0, none⟩) 4 4) L1) := Lib.hid (by have := HR5.out.arg (cap := 4) (by rw [h41]; exact Nat.le_refl _); rwa [h41] at this)
    have HS := Lib.hid (fun m => same_any (.slice (some ⟨g2, 0, none⟩) 4 4) (.slice (some ⟨g3, 0, none⟩) 4 4) L1 (w5.drewN m) (HA45.out.drewN m) (HA5.out.drewN m) (by rw [h41]; decide))
    have c0 := tx_cell HB5.out 0 HC0.out
    rw [hf] at c0
    obtain ⟨q0, q1⟩ := HR35.out.cell hat
    obtain ⟨p0, p1⟩ := HR45.out.cell hat1
    have hfz : (f : Int) < 4 := by omega
    clear hap hat hat1 h42 hf
    rcases hdo with rfl | rfl
    · go_wp2
      go_quiet ((go_at_call 11; exact Calls.quiet_of (HS.out _)))
      go_wp2
      go_ret
      exact ⟨rfl, HU5.out.drewN _⟩
    · go_wp2
      go_quiet ((go_at_call 11; exact Calls.quiet_of (HS.out _)))
      go_wp2
      go_ret
      exact ⟨rfl, HU5.out.drewN _⟩
  · have hbad : E1 = 9 ∨ E1 = 72 := by have h := HE.out; omega
    have hLL : L1 = L := HN.out hbad
    subst hLL
    rw [hL1] at HR5 ⊢
    have HS := Lib.hid (same_any (.slice (some ⟨g, 0, none⟩) 4 4) (.slice (some ⟨g2, 0, none⟩) 4 4) L1 w5 HA35.out HA45.out (by rw [h41]; decide))
    have e0 : (E1 == 0) = false := by rw [beq_eq_false_iff_ne]; omega
    have e73 : (E1 == 73) = false := by rw [beq_eq_false_iff_ne]; omega
    go_wp2_with fail
    with_reducible refine Calls.mono HS.out ?_
    rintro e w6 ⟨rfl, m, rfl⟩
    go_wp2
    go_ret
    exact ⟨rfl, HU5.out.drewN _⟩
end
end Go.Proofs.Ytkelbilcjgndmaa
