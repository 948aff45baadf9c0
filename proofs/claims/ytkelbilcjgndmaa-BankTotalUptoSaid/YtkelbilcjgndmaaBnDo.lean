import Derived.Deep.QuietTactic
import Derived.BigQuiet
import Derived.Test.YtkelbilcjgndmaaAcApply
import Derived.Test.YtkelbilcjgndmaaTxCheck
/-
  bank.do.
-/
namespace Go.Proofs.Ytkelbilcjgndmaa
set_option maxRecDepth 100000
section
set_option linter.unusedVariables false
open Go.RowKit Go.Sort Go.Lib

theorem But.up {g : Nat} {w w' w2 : World} (h : But g w w') (u : Up w' w2) : But g w w2 := h.trans (KeptBut.of_up u) (fun _ _ e => e)
theorem tsE_two (x : Ts) : tsE x = 0 ∨ tsE x = 9 := by unfold tsE txE; split <;> simp
theorem tsE_zero {x : Ts} (h : tsE x = 0) : (0 ≤ x.1.F ∧ x.1.F ≤ 3) ∧ (0 ≤ x.1.T ∧ x.1.T ≤ 3) ∧ x.1.F ≠ x.1.T ∧ (1 ≤ x.1.A ∧ x.1.A ≤ 1000) ∧ (0 ≤ x.1.N ∧ x.1.N ≤ 1099511627776) := by
  unfold tsE txE at h
  by_cases hc : ((0 ≤ x.1.F ∧ x.1.F ≤ 3) ∧ (0 ≤ x.1.T ∧ x.1.T ≤ 3) ∧ (1 ≤ x.1.A ∧ x.1.A ≤ 1000) ∧ (0 ≤ x.1.N ∧ x.1.N ≤ 1099511627776)) ∧ x.1.F ≠ x.1.T ∧ x.2.size ≤ 4096
  · exact ⟨hc.1.1, hc.1.2.1, hc.2.1, hc.1.2.2.1, hc.1.2.2.2⟩
  · rw [if_neg hc] at h; cases h
theorem AcRow.load {W : World} {g : Nat} {xs : List Ac} (h : AcRow W g xs) {i : Nat} {x : Ac} (hx : xs[i]? = some x) : (loadVar 49 ⟨g, i * 2, none⟩).run Try.prog W = .ok (.agg (acA x)) W := by
  have := (h.arg (Nat.le_refl _)).load hx
  rwa [Nat.zero_add] at this

set_option maxHeartbeats 2000000 in
theorem bnDo_any (g n cap : Nat) (ac : List Ac) (x : Ts) (w : World) (hr : AcRow w g ac) (hl : ac.length = n) :
    Calls Try.prog 17 #[.slice (some ⟨g, 0, none⟩) n cap, .agg (tsA x)] w fun e w' => e = .returned (.int .i64 (acApply ac x).2) ∧ AcRow w' g (acApply ac x).1 ∧ But g w w' := by
  obtain ⟨RES, hRES⟩ : ∃ R, acApply ac x = R := ⟨_, rfl⟩
  have HRES := Lib.hid hRES
  rw [hRES]
  clear hRES
  have hwb := Up.alloc (Up.refl w) (.cells (tsA x) 24)
  have hbox := heap_alloc_new w (.cells (tsA x) 24)
  have HC0 : Hid (∀ wx, Calls Try.prog 21 #[.agg (tsA x)] wx fun e w' => e = .returned (.int .i64 (tsE x)) ∧ Up wx w') := Lib.hid fun wx => check_any _ _ _ _ _ wx
  have hsz : (Try.prog.info? 24).map (·.size) = some (tsA x).size := info_tx
  have HC : Hid ((tsA x)[0]? = some (.int .i64 x.1.F) ∧ (tsA x)[1]? = some (.int .i64 x.1.T) ∧ (tsA x)[2]? = some (.int .i64 x.1.A) ∧ (tsA x)[3]? = some (.int .i64 x.1.N)) := Lib.hid ⟨rfl, rfl, rfl, rfl⟩
  have hgw : g < w.heap.size := hr.lt
  have HG := Lib.hid hgw
  have HN := Lib.hid hl
  have HK1 : Hid (But g w (w.alloc (.cells (tsA x) 24))) := Lib.hid (KeptBut.of_up hwb)
  have HR1 := Lib.hid (hr.up hwb)
  have hbox := Lib.hid hbox
  generalize tsA x = cs at *
  clear hr hwb hl
  go_enter Try.func17, Try.ntmps17
  go_wp2_with (refine wpList_ex rfl (.agg cs) _ (ex_loadrow (x := .tmp 3) rfl rfl _ 24 hbox.out Try.underlying24 rfl hsz) ?_)
  with_reducible refine Calls.mono (HC0.out _) ?_
  rintro e w4 ⟨rfl, u4⟩
  have HB4 : Hid (w4.heap[w.heap.size]? = some (.cells cs 24 (0, 0))) := Lib.hid ((u4.block _ (lt_of_block hbox.out)).trans hbox.out)
  have HK4 : Hid (But g w w4) := Lib.hid (HK1.out.up u4)
  have HR4 := Lib.hid (HR1.out.up u4)
  have HS4 : Hid (w.heap.size < w4.heap.size) := Lib.hid (Nat.lt_of_lt_of_le (lt_of_block hbox.out) u4.size)
  clear u4 HK1 HR1 hbox HC0 hgw
  have c0 := tx_cell HB4.out 0 HC.out.1
  have c1 := tx_cell HB4.out 1 HC.out.2.1
  have c2 := tx_cell HB4.out 2 HC.out.2.2.1
  have c3 := tx_cell HB4.out 3 HC.out.2.2.2
  obtain ⟨F, hF⟩ : ∃ F, x.1.F = F := ⟨_, rfl⟩
  obtain ⟨T, hT⟩ : ∃ T, x.1.T = T := ⟨_, rfl⟩
  obtain ⟨A, hA⟩ : ∃ A, x.1.A = A := ⟨_, rfl⟩
  obtain ⟨N, hN⟩ : ∃ N, x.1.N = N := ⟨_, rfl⟩
  have HV : Hid (x.1.F = F ∧ x.1.T = T ∧ x.1.A = A ∧ x.1.N = N) := Lib.hid ⟨hF, hT, hA, hN⟩
  rw [hF] at c0
  rw [hT] at c1
  rw [hA] at c2
  rw [hN] at c3
  clear hF hT hA hN hsz
  rcases tsE_two x with hE | hE
  · rw [hE]
    have hrg : (0 ≤ F ∧ F ≤ 3) ∧ (0 ≤ T ∧ T ≤ 3) ∧ F ≠ T := by
      have h := tsE_zero hE
      obtain ⟨e1, e2, e3, e4⟩ := HV.out
      rw [e1, e2] at h
      exact ⟨h.1, h.2.1, h.2.2.1⟩
    have HE := Lib.hid hE
    clear hE
    by_cases h1 : (n : Int) ≤ F
    · have hres : RES = (ac, 9) := by
        rw [← HRES.out]
        unfold acApply
        rw [if_pos (.inr (.inl (by rw [HN.out, HV.out.1]; exact h1)))]
      subst hres
      have hd1 : decide ((n : Int) ≤ F) = true := decide_eq_true h1
      go_wp2
      go_ret
      exact ⟨rfl, HR4.out, HK4.out⟩
    have hd1 : decide ((n : Int) ≤ F) = false := decide_eq_false h1
    by_cases h2 : (n : Int) ≤ T
    · have hres : RES = (ac, 9) := by
        rw [← HRES.out]
        unfold acApply
        rw [if_pos (.inr (.inr (by rw [HN.out, HV.out.2.1]; exact h2)))]
      subst hres
      have hd2 : decide ((n : Int) ≤ T) = true := decide_eq_true h2
      go_wp2
      go_ret
      exact ⟨rfl, HR4.out, HK4.out⟩
    have hd2 : decide ((n : Int) ≤ T) = false := decide_eq_false h2
    obtain ⟨f, rfl⟩ : ∃ f : Nat, F = (f : Int) := ⟨F.toNat, by omega⟩
    obtain ⟨s, rfl⟩ : ∃ s : Nat, T = (s : Int) := ⟨T.toNat, by omega⟩
    have hfn : f < n := by omega
    have hsn : s < n := by omega
    have hfz : (f : Int) < (n : Int) := by omega
    have hsz2 : (s : Int) < (n : Int) := by omega
    obtain ⟨⟨B, M⟩, hbm⟩ : ∃ p, acAt ac (f : Int) = p := ⟨_, rfl⟩
    have hat := acAt_of (ac := ac) (j := f) (by rw [HN.out]; exact hfn)
    rw [hbm] at hat
    have hRc : RES = if N ≠ M then (ac, 72) else if B < A then (ac.set f (B, wrap64 (M + 1)), 73) else (((ac.set f (B, wrap64 (M + 1))).set f (wrap64 (B - A), wrap64 (M + 1))).set s (wrap64 ((acAt ((ac.set f (B, wrap64 (M + 1))).set f (wrap64 (B - A), wrap64 (M + 1))) (s : Int)).1 + A), (acAt ((ac.set f (B, wrap64 (M + 1))).set f (wrap64 (B - A), wrap64 (M + 1))) (s : Int)).2), 0) := by
      rw [← HRES.out]
      unfold acApply
      rw [if_neg (by rw [HE.out, HN.out, HV.out.1, HV.out.2.1]; omega), HV.out.1, HV.out.2.1, HV.out.2.2.1, HV.out.2.2.2, hbm]
      have h3 : acAt (ac.set f (B, wrap64 (M + 1))) (f : Int) = (B, wrap64 (M + 1)) := by
        unfold acAt
        rw [show ((f : Int)).toNat = f by omega, List.getElem?_set_self (by rw [HN.out]; exact hfn)]; rfl
      simp only [show ((f : Int)).toNat = f by omega, show ((s : Int)).toNat = s by omega, h3]
    have hRC := Lib.hid hRc
    have HAT := Lib.hid hat
    have Hl := Lib.hid (HR4.out.load hat)
    have hne : w.heap.size ≠ g := by have := HG.out; omega
    have h54 : w4.heap.size ≠ g := by have := HR4.out.lt; omega
    -- the account's copy, in a block behind w4
    have HU5 := Lib.hid (Up.alloc (Up.refl w4) (.cells (acA (B, M)) 49))
    have HB5 := Lib.hid (heap_alloc_new w4 (.cells (acA (B, M)) 49))
    have HR5 := Lib.hid (HR4.out.up HU5.out)
    have HCS : Hid (∀ W, But g (w4.alloc (.cells (acA (B, M)) 49)) W → W.cell? ⟨w.heap.size, 0, none⟩ = some (.int .i64 (f : Int)) ∧ W.cell? ⟨w.heap.size, 1, none⟩ = some (.int .i64 (s : Int)) ∧ W.cell? ⟨w.heap.size, 2, none⟩ = some (.int .i64 A) ∧ W.cell? ⟨w.heap.size, 3, none⟩ = some (.int .i64 N) ∧ W.cell? ⟨w4.heap.size, 0, none⟩ = some (.int .i64 B) ∧ W.cell? ⟨w4.heap.size, 1, none⟩ = some (.int .i64 M)) :=
      Lib.hid fun W hK => ⟨hK.cell (later_cell c0 HU5.out) hne, hK.cell (later_cell c1 HU5.out) hne, hK.cell (later_cell c2 HU5.out) hne, hK.cell (later_cell c3 HU5.out) hne, hK.cell (tx_cell HB5.out 0 rfl) h54, hK.cell (tx_cell HB5.out 1 rfl) h54⟩
    have HW : Hid (∀ W, But g (w4.alloc (.cells (acA (B, M)) 49)) W → But g w W) := Lib.hid fun W hK => (HK4.out.up HU5.out).trans hK (fun _ _ e => e)
    clear hRc hbm hat hne h54 HU5 HB5 HB4
    go_upto_region 4 with (first | (refine wpList_ex rfl (.agg (acA (B, M))) w4 (ex_lda (x := .tmp 26) rfl rfl Hl.out) ?_) | (refine wpList_exs rfl _ (ex_fillA (x := .tmp 5) (y := .tmp 27) (W := w4) rfl rfl rfl rfl) ?_))
    generalize w4.alloc (.cells (acA (B, M)) 49) = w5 at HR5 HCS HW ⊢
    obtain ⟨e0, e1, e2, e3, d0, d1⟩ := HCS.out w5 (KeptBut.refl _ _)
    clear Hl HS4 HR4 c0 c1 c2 c3
    by_cases h3 : M = N
    · subst h3
      obtain ⟨o0, o1⟩ := HR5.out.cell HAT.out
      have ofr := HR5.out.free (f * 2 + 1)
      have hset : AcRow (w5.setCell ⟨g, f * 2 + 1, none⟩ (.int .i64 (wrap64 (M + 1)))) g (ac.set f (B, wrap64 (M + 1))) := (HR5.out.set HAT.out (wrap64 (M + 1))).2
      have hK6 : But g w5 (w5.setCell ⟨g, f * 2 + 1, none⟩ (.int .i64 (wrap64 (M + 1)))) := But.set (KeptBut.refl _ _) (f * 2 + 1) (.int .i64 (wrap64 (M + 1)))
      have HLa : ∀ O1 : List Ac, ac.set f (B, wrap64 (M + 1)) = O1 → O1.length = n ∧ O1[f]? = some (B, wrap64 (M + 1)) := fun O1 hO1 => by rw [← hO1]; exact ⟨by rw [List.length_set, HN.out], List.getElem?_set_self (by rw [HN.out]; exact hfn)⟩
      obtain ⟨O1, hO1⟩ : ∃ O, ac.set f (B, wrap64 (M + 1)) = O := ⟨_, rfl⟩
      have HL1 := Lib.hid (HLa O1 hO1)
      rw [hO1] at hset hRC
      clear hO1 HLa
      by_cases h4 : B < A
      · have hres : RES = (O1, 73) := by rw [hRC.out, if_neg (fun h => h rfl), if_pos h4]
        subst hres
        have hba : decide (B < A) = true := decide_eq_true h4
        go_wp2
        go_ret
        exact ⟨rfl, hset, HW.out _ hK6⟩
      · have hba : decide (B < A) = false := decide_eq_false h4
        go_upto_region 1 with fail
        generalize w5.setCell ⟨g, f * 2 + 1, none⟩ (.int .i64 (wrap64 (M + 1))) = w6 at hset hK6 ⊢
        have HR6 := Lib.hid hset
        have HK6 := Lib.hid hK6
        clear hset o0 o1 ofr e0 e1 e2 e3 d0 d1
        obtain ⟨c0, c1, c2, c3, d0, d1⟩ := HCS.out w6 hK6
        clear hK6
        obtain ⟨o0, o1⟩ := HR6.out.cell HL1.out.2
        have ofr := HR6.out.free (f * 2)
        have hset : AcRow (w6.setCell ⟨g, f * 2, none⟩ (.int .i64 (wrap64 (B - A)))).drew g (O1.set f (wrap64 (B - A), wrap64 (M + 1))) := (HR6.out.set HL1.out.2 (wrap64 (B - A))).1
        have hK8 := But.drew (But.set HK6.out (f * 2) (.int .i64 (wrap64 (B - A))))
        clear d0 d1
        go_wp2
        go_region
        generalize (w6.setCell ⟨g, f * 2, none⟩ (.int .i64 (wrap64 (B - A)))).drew = w8 at hset hK8 ⊢
        clear o0 o1 ofr c0 c1 c2 c3
        obtain ⟨O2, hO2⟩ : ∃ O, O1.set f (wrap64 (B - A), wrap64 (M + 1)) = O := ⟨_, rfl⟩
        have hl2 : O2.length = n := by rw [← hO2, List.length_set, HL1.out.1]
        obtain ⟨⟨B2, M2⟩, hbm⟩ : ∃ p, acAt O2 (s : Int) = p := ⟨_, rfl⟩
        have hat := acAt_of (ac := O2) (j := s) (by rw [hl2]; exact hsn)
        have hres : RES = (O2.set s (wrap64 (B2 + A), M2), 0) := by rw [hRC.out, if_neg (fun h => h rfl), if_neg (by omega), hO2, hbm]
        rw [hbm] at hat
        subst hres
        rw [hO2] at hset
        obtain ⟨c0, c1, c2, c3, d0, d1⟩ := HCS.out w8 hK8
        obtain ⟨o0, o1⟩ := hset.cell hat
        have ofr := hset.free (s * 2)
        have hset2 : AcRow (w8.setCell ⟨g, s * 2, none⟩ (.int .i64 (wrap64 (B2 + A)))).drew g (O2.set s (wrap64 (B2 + A), M2)) := (hset.set hat (wrap64 (B2 + A))).1
        have hK9 := But.drew (But.set hK8 (s * 2) (.int .i64 (wrap64 (B2 + A))))
        clear hset hK8 d0 d1 hat hbm hl2 hO2
        go_wp2
        go_region
        generalize (w8.setCell ⟨g, s * 2, none⟩ (.int .i64 (wrap64 (B2 + A)))).drew = w9 at hset2 hK9 ⊢
        clear c0 c1 c2 c3 o0 o1 ofr
        go_wp2
        go_ret
        exact ⟨rfl, hset2, HW.out _ hK9⟩
    · have hres : RES = (ac, 72) := by rw [hRC.out, if_pos (fun e => h3 e.symm)]
      subst hres
      have hnm : decide (M = N) = false := decide_eq_false h3
      have hnm2 : (M == N) = false := by rw [beq_eq_false_iff_ne]; exact h3
      go_wp2
      go_ret
      exact ⟨rfl, HR5.out, HW.out _ (KeptBut.refl _ _)⟩
  · rw [hE]
    have hres : RES = (ac, 9) := by
      rw [← HRES.out]
      unfold acApply
      rw [if_pos (.inl (by rw [hE]; decide))]
    subst hres
    clear hE
    go_wp2
    go_ret
    exact ⟨rfl, HR4.out, HK4.out⟩
end
end Go.Proofs.Ytkelbilcjgndmaa
