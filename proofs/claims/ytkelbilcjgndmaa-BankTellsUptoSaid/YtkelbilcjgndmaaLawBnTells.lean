import Derived.Deep.QuietTactic
import Derived.BigQuiet
import Derived.Test.YtkelbilcjgndmaaAcArg
import Derived.Test.YtkelbilcjgndmaaBnGood
/-
  BankTells: the walk.
-/
namespace Go.Proofs.Ytkelbilcjgndmaa
set_option maxRecDepth 100000
section
set_option linter.unusedVariables false
open Go.RowKit Go.Sort Go.Lib

theorem bulk_acs {H : Type} {d : DataW H} {xs : List Ac} (hD : AcsD d xs) : xs.length + 1 ≤ Rows.uptoBulk d := by
  rcases hD with ⟨rfl, rfl⟩ | ⟨ds, spare, rfl, hl⟩
  · simp [Rows.uptoBulk]
  · simp only [Rows.uptoBulk]
    have h := bulkAll_len ds
    omega
theorem num16_any (e : Int) (w : World) : Calls Try.prog 12 #[.int .i64 e] w fun x w' => x = .returned (.int .i64 e) ∧ ∃ m, w' = w.drewN m := by
  go_enter Try.func12, Try.ntmps12
  go_wp2
  go_ret
  exact ⟨rfl, 0, rfl⟩
theorem Ints.cell16 {W : World} {a : Option Addr} {n c : Nat} {zs : List Int} (h : Ints .i64 W (.slice a n c) zs) {i : Nat} {z : Int} (hz : zs[i]? = some z) : ∃ b off, a = some ⟨b, off, none⟩ ∧ W.cell? ⟨b, off + i, none⟩ = some (.int .i64 z) := by
  obtain ⟨a', cap, e, h1, h2, h3⟩ := h
  cases e
  have hi := (List.getElem?_eq_some_iff.1 hz).1
  rcases h3 with rfl | ⟨b, off, e, hc⟩
  · simp at hi
  · refine ⟨b, off, e, ?_⟩
    have := hc i hi
    rwa [hz] at this

set_option maxHeartbeats 2000000 in
theorem lawBnTells_any (va vl vt : Value) (ac : List Ac) (x : Ts) (bs : List Bb) (xs : List Ts) (w : World) (ha : AArg w va ac) (hna : ac.length ≤ 1048576) (hb : BArg w vl bs) (hk : bs.length + (allTx bs).length ≤ 1048577) (ht : TArg w vt xs) (hnt : xs.length ≤ 1048576) :
    Calls Try.prog 3 #[va, .agg (tsA x), vl, vt] w fun e w' => e = .returned (.bool true) ∧ Up w w' := by
  have hu1 := Up.alloc (Up.refl w) (.cells (tsA x) 24)
  have HB := Lib.hid (heap_alloc_new w (.cells (tsA x) 24))
  have HU1 := Lib.hid hu1
  obtain ⟨aa, ca, rfl, _⟩ := id ha
  obtain ⟨ab, cb, rfl, _⟩ := id hb
  obtain ⟨at_, ct, rfl, _⟩ := id ht
  have HA : Hid (∀ wx, Up w wx → _) := Lib.hid fun wx hu => bnApply_any _ ac x wx (ha.up hu) (by omega)
  have HRA : Hid (∀ wx, Up w wx → _) := Lib.hid fun wx hu => acApply_any _ ac x wx (ha.up hu) (by omega)
  have HF : Hid (∀ wx, Up w wx → _) := Lib.hid fun wx hu => bnFold_any _ bs wx (hb.up hu) hk
  have HRF : Hid (∀ wx, Up w wx → _) := Lib.hid fun wx hu => rfFold_any _ bs wx (hb.up hu) hk
  have HNx : Hid (∀ wx, Up w wx → _) := Lib.hid fun wx hu => bnNext_any _ _ ac xs wx (ha.up hu) (by omega) (ht.up hu) (by omega)
  have HAl := Lib.hid (fun wx => bnAlive_any wx)
  have HNum := Lib.hid (fun e wx => num16_any e wx)
  have hsz : (Try.prog.info? 24).map (·.size) = some (tsA x).size := info_tx
  have HEL := Lib.hid (errA_length acG (allTx bs))
  have HK := Lib.hid hk
  have H4 : Hid ((foldA acG (allTx bs)).length = 4) := Lib.hid (by rw [foldA_length]; rfl)
  have HL1 := Lib.hid (acApply_length ac x)
  have HT := Lib.hid ht
  have HAA := Lib.hid ha
  obtain ⟨⟨L1, E1⟩, hL1⟩ : ∃ p, acApply ac x = p := ⟨_, rfl⟩
  rw [hL1] at HA HRA HL1
  have hHA := HA.out
  obtain ⟨n, hn⟩ : ∃ n, ac.length = n := ⟨_, rfl⟩
  obtain ⟨nb, hnb⟩ : ∃ n, bs.length = n := ⟨_, rfl⟩
  obtain ⟨nt, hntl⟩ : ∃ n, xs.length = n := ⟨_, rfl⟩
  have HN := Lib.hid hn
  have HNT := Lib.hid hntl
  generalize tsA x = cs at *
  rw [hn] at hna HA HRA HNx HAA HL1 ⊢
  rw [hnb] at HF HRF ⊢
  rw [hntl] at hnt HNx HT ⊢
  clear hu1 ha hb ht hk hL1 hHA hn hnb hntl
  go_enter Try.func3, Try.ntmps3
  go_wp2_with (refine wpList_ex rfl (.agg cs) _ (ex_loadrow (x := .tmp 5) rfl rfl _ 24 HB.out Try.underlying24 rfl hsz) ?_)
  with_reducible refine Calls.mono (HA.out _ HU1.out) ?_
  rintro e w2 ⟨g, rfl, hR2, hg2, hU2⟩
  have HU2 := Lib.hid (HU1.out.trans hU2)
  have HB2 := Lib.hid ((hU2.block _ (lt_of_block HB.out)).trans HB.out)
  have HX2 : Hid (AArg w2 (.slice (some ⟨g, 0, none⟩) n n) L1) := Lib.hid (by have := hR2.arg (cap := n) (by rw [HL1.out]; exact Nat.le_refl _); rwa [HL1.out] at this)
  clear hU2 hR2 hg2 HA HU1 HB
  go_wp2_with (refine wpList_ex rfl (.agg cs) _ (ex_loadrow (x := .tmp 5) rfl rfl _ 24 HB2.out Try.underlying24 rfl hsz) ?_)
  with_reducible refine Calls.mono (HRA.out _ HU2.out) ?_
  rintro e w3 ⟨ra, rc, rfl, hR3, hU3⟩
  have HU3 := Lib.hid (HU2.out.trans hU3)
  have HX3 := Lib.hid (HX2.out.up hU3)
  have HY3 := Lib.hid hR3
  clear hU3 hR3 HRA HU2 HX2 HB2
  go_wp2_with fail
  with_reducible refine Calls.mono (HF.out _ HU3.out) ?_
  rintro e w4 ⟨g4, r4, rfl, hR4, hg4, hI4, hU4⟩
  have HU4 := Lib.hid (HU3.out.trans hU4)
  have HX4 := Lib.hid (HX3.out.up hU4)
  have HY4 := Lib.hid (HY3.out.up hU4)
  have HP4 : Hid (AArg w4 (.slice (some ⟨g4, 0, none⟩) 4 4) (foldA acG (allTx bs))) := Lib.hid (by have := hR4.arg (cap := 4) (by rw [H4.out]; exact Nat.le_refl _); rwa [H4.out] at this)
  have HI4 := Lib.hid hI4
  clear hU4 hR4 hg4 hI4 HF HU3 HX3 HY3
  go_wp2_with fail
  with_reducible refine Calls.mono (HRF.out _ HU4.out) ?_
  rintro e w5 ⟨vq, r5, rfl, hR5, hI5, hU5⟩
  have HU5 := Lib.hid (HU4.out.trans hU5)
  have HX5 := Lib.hid (HX4.out.up hU5)
  have HY5 := Lib.hid (HY4.out.up hU5)
  have HP5 := Lib.hid (HP4.out.up hU5)
  have HQ5 := Lib.hid hR5
  have hI45 := HI4.out.up hU5
  obtain ⟨a4, c4, rfl, _⟩ := id hI45
  obtain ⟨a5, c5, rfl, _⟩ := id hI5
  obtain ⟨aq, cq, hvq, _⟩ := id hR5
  obtain ⟨m, hm⟩ : ∃ m, (errA acG (allTx bs)).length = m := ⟨_, rfl⟩
  have hmk : m ≤ 1048577 := by rw [← hm, HEL.out]; have := HK.out; omega
  rw [hm] at hI45 hI5
  have HI45 := Lib.hid hI45
  have HI5 := Lib.hid hI5
  have HM := Lib.hid hm
  rw [hm]
  rw [H4.out] at hvq
  subst hvq
  have HS1 := Lib.hid (same_any _ _ L1 w5 HX5.out HY5.out (by rw [HL1.out]; omega))
  clear hU5 hR5 hI45 hI5 HI4 HRF HU4 HX4 HY4 HP4 HEL HK hm
  go_wp2_with fail
  with_reducible refine Calls.mono HS1.out ?_
  rintro e w6 ⟨rfl, m6, hw6⟩
  have HU6 : Hid (Up w5 w6) := Lib.hid (by rw [hw6]; exact Up.drewN (Up.refl w5) m6)
  clear HS1 hw6
  go_wp2_with fail
  with_reducible refine Calls.mono (HNum.out _ _) ?_
  rintro e w7 ⟨rfl, m7, hw7⟩
  have HU7 : Hid (Up w5 w7) := Lib.hid (by rw [hw7]; exact Up.drewN HU6.out m7)
  have HS3 := Lib.hid (same_any _ _ _ w7 (HP5.out.up HU7.out) (HQ5.out.up HU7.out) (by rw [H4.out]; decide))
  clear hw7 HU6
  go_wp2_with fail
  with_reducible refine Calls.mono HS3.out ?_
  rintro e w8 ⟨rfl, m8, hw8⟩
  have HU8 : Hid (Up w5 w8) := Lib.hid (by rw [hw8]; exact Up.drewN HU7.out m8)
  clear HS3 hw8 HU7
  go_wp2
  go_loopw [17] (fun vi wr => ∃ i : Nat, vi = .int .i64 (i : Nat) ∧ i ≤ m ∧ Hid (Up w5 wr)) (fun vi _ => m - (intOf vi).toNat)
  case atStart => exact ⟨0, rfl, Nat.zero_le _, HU8⟩
  case round =>
    obtain ⟨i, rfl, hi, HU⟩ := hrel
    by_cases hlt : i < m
    · have hz : (i : Int) < (m : Int) := by omega
      obtain ⟨z, hzi⟩ : ∃ z, (errA acG (allTx bs))[i]? = some z := ⟨(errA acG (allTx bs))[i]'(by have := HM.out; omega), List.getElem?_eq_getElem _⟩
      obtain ⟨b4, o4, rfl, d4⟩ := (HI45.out.up HU.out).cell16 hzi
      obtain ⟨b5, o5, rfl, d5⟩ := (HI5.out.up HU.out).cell16 hzi
      clear hzi
      go_wp2
      go_quiet ((go_at_call 12; exact Calls.quiet_of (HNum.out _ _)))
      go_wp2
      go_roundw
      case rel => exact ⟨i + 1, by go_num, hlt, Lib.hid (HU.out.drewN _)⟩
      case measure => simp [intOf]; omega
    · obtain rfl : i = m := by omega
      have HU9 := Lib.hid (HU5.out.trans HU.out)
      have HR0 : Hid (AArg wr (.slice aa n ca) ac) := Lib.hid (HAA.out.up HU9.out)
      clear HU HU8
      go_wp2
      go_loopw [18, 19, 20] (fun vc vb vi wr => ∃ (C : Bool) (k : Nat), vc = .bool C ∧ vi = .int .i64 (k : Nat) ∧ k ≤ nt ∧ Hid (C = nextP ac (xs.take k)) ∧ Hid (AArg wr vb (foldA ac (xs.take k))) ∧ Hid (Up w wr)) (fun _ _ vi _ => nt - (intOf vi).toNat)
      case atStart => exact ⟨true, 0, rfl, rfl, Nat.zero_le _, Lib.hid rfl, HR0, HU9⟩
      case round =>
        obtain ⟨C, k, rfl, rfl, hk, HC, HR, HU⟩ := hrel
        by_cases hlk : k < nt
        · have hzk : (k : Int) < (nt : Int) := by omega
          obtain ⟨y, hy⟩ : ∃ y, xs[k]? = some y := ⟨xs[k]'(by have := HNT.out; omega), List.getElem?_eq_getElem _⟩
          obtain ⟨tb, tf, rfl⟩ := HT.out.ptr (by have := HNT.out; omega)
          have Hl := Lib.hid ((HT.out.up HU.out).load hy)
          have hTk := take_oneB xs k y hy
          have hAp := acApply_any _ (foldA ac (xs.take k)) y _ HR.out (by rw [foldA_length, HN.out]; omega)
          have hC2 : nextP ac (xs.take (k + 1)) = (C && fineE (acApply (foldA ac (xs.take k)) y).2) := by rw [hTk, nextP_snoc, ← HC.out]
          rw [foldA_length, HN.out, ← foldA_snoc, ← hTk] at hAp
          obtain ⟨E, hE⟩ : ∃ E, (acApply (foldA ac (xs.take k)) y).2 = E := ⟨_, rfl⟩
          rw [hE] at hAp hC2
          have HAp := Lib.hid hAp
          have HC2 := Lib.hid hC2
          obtain ⟨vb1, vb2, rfl, _⟩ := id HR.out
          clear hy hTk hAp hC2 hE
          go_wp2_with (refine wpList_ex rfl (.agg (tsA y)) wr (ex_ldt (x := .tmp 94) rfl rfl Hl.out) ?_)
          with_reducible refine Calls.mono HAp.out ?_
          rintro e2 w9 ⟨rb, rbc, rfl, hR9, hU9⟩
          have HR9 := Lib.hid hR9
          have HU10 := Lib.hid (Up.trans HU.out hU9)
          clear hR9 hU9 HAp Hl HR HU
          cases C with
          | false =>
            have HC3 : Hid (false = nextP ac (xs.take (k + 1))) := Lib.hid (by rw [HC2.out]; rfl)
            go_wp2
            go_roundw
            case rel => exact ⟨false, k + 1, rfl, by go_num, hlk, HC3, HR9, HU10⟩
            case measure => simp [intOf]; omega
          | true =>
            by_cases h9 : E = 9
            · subst h9
              have HC3 : Hid (false = nextP ac (xs.take (k + 1))) := Lib.hid (by rw [HC2.out]; rfl)
              go_wp2
              go_roundw
              case rel => exact ⟨false, k + 1, rfl, by go_num, hlk, HC3, HR9, HU10⟩
              case measure => simp [intOf]; omega
            · by_cases h72 : E = 72
              · subst h72
                have HC3 : Hid (false = nextP ac (xs.take (k + 1))) := Lib.hid (by rw [HC2.out]; rfl)
                go_wp2
                go_roundw
                case rel => exact ⟨false, k + 1, rfl, by go_num, hlk, HC3, HR9, HU10⟩
                case measure => simp [intOf]; omega
              · have HC3 : Hid (true = nextP ac (xs.take (k + 1))) := Lib.hid (by rw [HC2.out, Bool.true_and]; exact (fine_iff.2 ⟨h9, h72⟩).symm)
                have e9 : (E == 9) = false := by rw [beq_eq_false_iff_ne]; omega
                have e72 : (E == 72) = false := by rw [beq_eq_false_iff_ne]; omega
                go_wp2
                go_roundw
                case rel => exact ⟨true, k + 1, by simp [bne, e9, e72], by go_num, hlk, HC3, HR9, HU10⟩
                case measure => simp [intOf]; omega
        · obtain rfl : k = nt := by omega
          have hC : nextP ac xs = C := by
            have := HC.out
            rw [List.take_of_length_le (by rw [HNT.out]; exact Nat.le_refl _)] at this
            exact this.symm
          have HX := Lib.hid (HNx.out wr HU.out)
          rw [hC] at HX
          clear hC HC
          go_wp2_with fail
          with_reducible refine Calls.mono HX.out ?_
          rintro e2 w9 ⟨rfl, hU9⟩
          have HU10 := Lib.hid (Up.trans HU.out hU9)
          clear hU9 HX
          go_wp2_with fail
          with_reducible refine Calls.mono (HAl.out _) ?_
          rintro e3 w10 ⟨rfl, hU11⟩
          have HU11 := Lib.hid (Up.trans HU10.out hU11)
          clear hU11
          go_wp2
          go_ret
          exact ⟨rfl, HU11.out⟩
end
end Go.Proofs.Ytkelbilcjgndmaa
