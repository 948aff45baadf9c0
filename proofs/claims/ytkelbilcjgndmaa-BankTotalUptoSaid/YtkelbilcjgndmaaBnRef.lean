import Derived.Test.YtkelbilcjgndmaaBnFold
/-
  mootref14.Fold.
-/
namespace Go.Proofs.Ytkelbilcjgndmaa
set_option maxRecDepth 100000
section
set_option linter.unusedVariables false
open Go.RowKit Go.Sort Go.Lib

theorem info_intB : (Try.prog.info? 3).map (fun i => (i.zero, i.size, i.bytes)) = some (some (.int .i64 0), 1, 8) := by kernel_rfl
/-- so far: these transactions are done -/
structure FoldR (w wr : World) (va vo : Value) (D : List Ts) : Prop where
  row : AArg wr va (foldA acG D)
  errs : wr.ownsRow w.heap.size 3 1 vo D.length (errVs D)
  up : Up w wr
theorem FoldR.ups {w wr w2 : World} {va vo : Value} {D : List Ts} (h : FoldR w wr va vo D) (u : Up wr w2) : FoldR w w2 va vo D :=
  ⟨h.row.up u, ownsRow_up h.errs u, h.up.trans u⟩
set_option maxHeartbeats 1000000 in
theorem rfFold_any (v : Value) (bs : List Bb) (w : World) (hb : BArg w v bs) (hk : bs.length + (allTx bs).length ≤ 1048577) :
    Calls Try.prog 10 #[v] w fun e w' => ∃ va r, e = .returned (.tuple #[va, r]) ∧ AArg w' va (foldA acG (allTx bs)) ∧ Ints .i64 w' r (errA acG (allTx bs)) ∧ Up w w' := by
  obtain ⟨a, cap, rfl, _⟩ := id hb
  obtain ⟨i0, hi, hz0, hz1, hz2⟩ := info_partsT info_intB
  obtain ⟨n, hn⟩ : ∃ n, bs.length = n := ⟨_, rfl⟩
  have HK := Lib.hid hk
  have hnk : n ≤ 1048577 := by omega
  rw [hn] at hb ⊢
  have HB := Lib.hid hb
  have HN := Lib.hid hn
  have HG := Lib.hid (acGen_any w)
  clear hb hn hk
  go_enter Try.func10, Try.ntmps10
  go_wp2_with fail
  with_reducible refine Calls.mono HG.out ?_
  rintro e1 w1 ⟨rfl, hR1, hU1⟩
  have HS1 : Hid (FoldR w w1 (.slice (some ⟨w.heap.size, 0, none⟩) 4 4) (.slice none 0 0) []) := Lib.hid ⟨hR1.arg (cap := 4) (Nat.le_refl _), World.ownsRow_nil _ _ _ _, hU1⟩
  clear hR1 hU1 HG
  go_wp2
  go_loopw [4, 5, 6] (fun va vo vi wr => ∃ i : Nat, vi = .int .i64 (i : Nat) ∧ i ≤ n ∧ Hid (FoldR w wr va vo (allTx (bs.take i)))) (fun _ _ vi _ => n - (intOf vi).toNat)
  case atStart => exact ⟨0, rfl, Nat.zero_le _, HS1⟩
  case round =>
    obtain ⟨i, rfl, hi9, HS⟩ := hrel
    by_cases hlt : i < n
    · have hz : (i : Int) < (n : Int) := by omega
      obtain ⟨x, hx⟩ : ∃ x, bs[i]? = some x := ⟨bs[i]'(by have := HN.out; omega), List.getElem?_eq_getElem _⟩
      obtain ⟨b, off, rfl⟩ := HB.out.ptr (by have := HN.out; omega)
      have HC7 : Hid (∀ wx, Up w wx → wx.cell? ⟨b, off + i * 9 + 7, none⟩ = some (.slice x.a x.tx.length x.c)) := Lib.hid fun wx hU => by
        have := (HB.out.up hU).cell hx 7 (by decide)
        rwa [← Nat.add_assoc] at this
      have HT := Lib.hid (HB.out.txs hx).1
      have HTk := Lib.hid (allTx_take bs i x hx)
      have HLe : Hid ((allTx (bs.take i)).length + x.tx.length ≤ 1048577) := Lib.hid (by
        have h1 := allTx_le bs (i + 1)
        rw [HTk.out, List.length_append] at h1
        have := HK.out
        omega)
      obtain ⟨tn, htn⟩ : ∃ tn, x.tx.length = tn := ⟨_, rfl⟩
      have HTN := Lib.hid htn
      rw [htn] at HC7 HT HLe
      have htb : tn ≤ 1048577 := by have := HLe.out; omega
      clear htn hx
      go_wp2
      go_loopw [4, 5, 7] (fun va vo vk wr => ∃ k : Nat, vk = .int .i64 (k : Nat) ∧ k ≤ tn ∧ Hid (FoldR w wr va vo (allTx (bs.take i) ++ x.tx.take k))) (fun _ _ vk _ => tn - (intOf vk).toNat)
      case atStart => exact ⟨0, rfl, Nat.zero_le _, by rw [List.take_zero, List.append_nil]; exact HS⟩
      case round =>
        obtain ⟨k, rfl, hk9, HS⟩ := hrel
        have c7 := HC7.out _ HS.out.up
        by_cases hlk : k < tn
        · have hzk : (k : Int) < (tn : Int) := by omega
          obtain ⟨y, hy⟩ : ∃ y, x.tx[k]? = some y := ⟨x.tx[k]'(by have := HTN.out; omega), List.getElem?_eq_getElem _⟩
          obtain ⟨tb, tf, hta⟩ := HT.out.ptr (by have := HTN.out; omega)
          obtain ⟨D, hD⟩ : ∃ D, allTx (bs.take i) ++ x.tx.take k = D := ⟨_, rfl⟩
          have HD2 : Hid (allTx (bs.take i) ++ x.tx.take (k + 1) = D ++ [y]) := Lib.hid (by rw [take_oneB x.tx k y hy, ← List.append_assoc, hD])
          have HDL : Hid (D.length ≤ 1048576) := Lib.hid (by
            rw [← hD, List.length_append, List.length_take]
            have := HLe.out
            omega)
          rw [hD] at HS
          have HT2 := HT.out.up HS.out.up
          rw [hta] at HT2 c7
          have Hly := Lib.hid (HT2.load hy)
          have hlA : (foldA acG D).length = 4 := by rw [foldA_length]; rfl
          have hAp := acApply_new _ (foldA acG D) y _ HS.out.row (by rw [hlA]; decide)
          obtain ⟨E, hE⟩ : ∃ E, (acApply (foldA acG D) y).2 = E := ⟨_, rfl⟩
          have HE : Hid (errVs (D ++ [y]) = errVs D ++ [.int .i64 E]) := Lib.hid (by rw [errVs_snoc, hE])
          rw [hE, ← foldA_snoc, hlA] at hAp
          have HAp := Lib.hid hAp
          obtain ⟨ea, ec, rfl⟩ := row_shape HS.out.errs
          clear hy hD hta HT2 hE hlA hAp
          obtain ⟨m, hm⟩ : ∃ m, D.length = m := ⟨_, rfl⟩
          have HM : Hid (D.length = m) := Lib.hid hm
          have hmk : m ≤ 1048576 := by rw [← hm]; exact HDL.out
          rw [hm]
          clear hm HDL
          go_wp2_with (refine wpList_ex rfl (.agg (tsA y)) wr (ex_ldt (x := .tmp 34) rfl rfl Hly.out) ?_)
          with_reducible refine Calls.mono HAp.out ?_
          rintro e2 w2 ⟨ra, rc, rfl, hR2, hU2, hnb⟩
          have HR2 := Lib.hid hR2
          have HNB := Lib.hid hnb
          have HU2 := Lib.hid (Up.trans HS.out.up hU2)
          have hE2 : w2.ownsRow w.heap.size 3 1 (.slice ea m ec) m (errVs D) := by
            have := ownsRow_up HS.out.errs hU2
            rwa [HM.out] at this
          have HLT : Hid (∀ q, (Value.slice ea m ec).ownBlock = some q → q < wr.heap.size) := Lib.hid fun q e => by
            have := HS.out.errs
            rw [HM.out] at this
            exact (this.lt q e).2
          clear hR2 hU2 HAp Hly HS c7 hnb
          have hbw : w.heap.size ≤ w2.heap.size := HU2.out.size
          go_wp2_with (at_builtin; refine wpList_append_own _ rfl (.tmp 39) (.tmp 41) 35 rfl w.heap.size 3 i0 (.int .i64 0) 1 8 Try.underlying35 hi hz0 hz1 hz2 rfl (by decide) _ m _ rfl (hE2.alloc _) ⟨w2.heap.size, 0, none⟩ 1 1 [.int .i64 E] rfl rfl (cell_one_new _ _ _) (by simp [Value.oneCell']) (by unfold maxLen; omega) (by omega) (by simp; omega) ?_; intro v3 w3 hr3 hg3 _; obtain ⟨g3, c3, rfl⟩ := ownsRow_succ hr3)
          have hU3 := up_row (Up.alloc HU2.out (.cells #[.int .i64 E] 3)) (hE2.alloc _) hg3 (Nat.le_refl _)
          have hA3 : AArg w3 (.slice ra 4 rc) (foldA acG (D ++ [y])) := by
            have h2 := HR2.out.up (Up.alloc (Up.refl w2) (.cells #[.int .i64 E] 3))
            refine h2.keep fun b o e => ?_
            subst e
            have hl : (foldA acG (D ++ [y])).length = 4 := by rw [foldA_length]; rfl
            have hb2 : b < (w2.alloc (.cells #[.int .i64 E] 3)).heap.size := World.block_lt_of_cell? _ _ (h2.cells (i := 0) (x := (foldA acG (D ++ [y]))[0]) (List.getElem?_eq_getElem (by omega))).1
            intro o2
            exact World.cell?_of_block (a := ⟨b, o2, none⟩) (hg3.block b hb2 (fun e => by have h3 := HLT.out b e.symm; have h4 := HNB.out b o rfl; omega))
          have HS4 : Hid (FoldR w w3 (.slice ra 4 rc) (.slice (some ⟨g3, 0, none⟩) (m + 1) c3) (allTx (bs.take i) ++ x.tx.take (k + 1))) := Lib.hid (by
            rw [HD2.out]
            refine ⟨hA3, ?_, hU3⟩
            rw [HE.out, List.length_append, HM.out]; exact hr3)
          clear hU3 hA3 hr3 hg3
          go_wp2
          go_roundw
          case rel => exact ⟨k + 1, by go_num, hlk, HS4⟩
          case measure => simp [intOf]; omega
        · obtain rfl : k = tn := by omega
          have hS3 := HS.out
          rw [List.take_of_length_le (l := x.tx) (by rw [HTN.out]; exact Nat.le_refl _), ← HTk.out] at hS3
          have HS3 := Lib.hid hS3
          clear hS3
          go_wp2
          go_roundw
          case rel => exact ⟨i + 1, by go_num, hlt, HS3⟩
          case measure => simp [intOf]; omega
    · obtain rfl : i = n := by omega
      have hS := HS.out
      rw [List.take_of_length_le (by rw [HN.out]; exact Nat.le_refl _)] at hS
      go_wp2
      refine bodyPost_ret (results_tmp2 (t := 2) (u := 3) rfl _ _ _) rfl ⟨_, _, rfl, hS.row, ?_, hS.up⟩
      exact Ints.of_row hS.errs
end
end Go.Proofs.Ytkelbilcjgndmaa
