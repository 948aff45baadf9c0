import Derived.Test.YtkelbilcjgndmaaBnBl
/-
  bank.Fold.
-/
namespace Go.Proofs.Ytkelbilcjgndmaa
set_option maxRecDepth 100000
section
set_option linter.unusedVariables false
open Go.RowKit Go.Sort Go.Lib

theorem info_errno : (Try.prog.info? 27).map (fun i => (i.zero, i.size, i.bytes)) = some (some (.int .i64 0), 1, 8) := by kernel_rfl
def errVs (D : List Ts) : List Value := (errA acG D).map (Value.int .i64)
theorem errVs_snoc (D : List Ts) (x : Ts) : errVs (D ++ [x]) = errVs D ++ [.int .i64 (acApply (foldA acG D) x).2] := by
  unfold errVs; rw [errA_snoc, List.map_append]; rfl
/-- so far: these transactions are done -/
structure FoldS (base g : Nat) (et : TypeId) (w wr : World) (vo : Value) (D : List Ts) : Prop where
  row : AcRow wr g (foldA acG D)
  errs : wr.ownsRow base et 1 vo D.length (errVs D)
  up : Up w wr
  size : base ≤ wr.heap.size
theorem FoldS.ups {base g : Nat} {et : TypeId} {w wr w2 : World} {vo : Value} {D : List Ts} (h : FoldS base g et w wr vo D) (u : Up wr w2) : FoldS base g et w w2 vo D :=
  ⟨h.row.up u, ownsRow_up h.errs u, h.up.trans u, Nat.le_trans h.size u.size⟩
set_option maxHeartbeats 1000000 in
theorem bnFold_any (v : Value) (bs : List Bb) (w : World) (hb : BArg w v bs) (hk : bs.length + (allTx bs).length ≤ 1048577) :
    Calls Try.prog 9 #[v] w fun e w' => ∃ g r, e = .returned (.tuple #[.slice (some ⟨g, 0, none⟩) 4 4, r]) ∧ AcRow w' g (foldA acG (allTx bs)) ∧ w.heap.size ≤ g ∧ Ints .i64 w' r (errA acG (allTx bs)) ∧ Up w w' := by
  obtain ⟨a, cap, rfl, _⟩ := id hb
  obtain ⟨i0, hi, hz0, hz1, hz2⟩ := info_partsT info_errno
  obtain ⟨n, hn⟩ : ∃ n, bs.length = n := ⟨_, rfl⟩
  have HK := Lib.hid hk
  have hnk : n ≤ 1048577 := by omega
  rw [hn] at hb ⊢
  have HB := Lib.hid hb
  have HN := Lib.hid hn
  have HG := Lib.hid (bnGen_any w)
  clear hb hn hk
  go_enter Try.func9, Try.ntmps9
  go_wp2_with fail
  with_reducible refine Calls.mono HG.out ?_
  rintro e1 w1 ⟨rfl, hR1, hU1⟩
  have hgb : w.heap.size < w1.heap.size := hR1.lt
  have HS1 : Hid (FoldS w1.heap.size w.heap.size 27 w w1 (.slice none 0 0) []) := Lib.hid ⟨hR1, World.ownsRow_nil _ _ _ _, hU1, Nat.le_refl _⟩
  have HWB : Hid (w.heap.size ≤ w1.heap.size) := Lib.hid hU1.size
  generalize w1.heap.size = base at *
  have HW0 : ∀ g, w.heap.size = g → Hid (w.heap.size ≤ g) := fun g e => Lib.hid (Nat.le_of_eq e)
  generalize hg : w.heap.size = g at hgb HS1 ⊢
  have HW := HW0 g hg
  clear HW0 hg
  clear hR1 hU1 HG
  go_wp2
  go_loopw [5, 13] (fun vo vi wr => ∃ i : Nat, vi = .int .i64 (i : Nat) ∧ i ≤ n ∧ Hid (FoldS base g 27 w wr vo (allTx (bs.take i)))) (fun _ vi _ => n - (intOf vi).toNat)
  case atStart => exact ⟨0, rfl, Nat.zero_le _, HS1⟩
  case round =>
    obtain ⟨i, rfl, hi9, HS⟩ := hrel
    by_cases hlt : i < n
    · have hz : (i : Int) < (n : Int) := by omega
      obtain ⟨x, hx⟩ : ∃ x, bs[i]? = some x := ⟨bs[i]'(by have := HN.out; omega), List.getElem?_eq_getElem _⟩
      obtain ⟨b, off, rfl⟩ := HB.out.ptr (by have := HN.out; omega)
      have Hl := Lib.hid ((HB.out.up HS.out.up).load hx)
      have Hone := Lib.hid (HB.out.txs hx).2
      have HS2 : Hid (FoldS base g 27 w (wr.alloc (.cells (bbA x) 47)) _ (allTx (bs.take i))) := Lib.hid (HS.out.ups (Up.alloc (Up.refl wr) _))
      have hc7 := tx_cell (heap_alloc_new wr (.cells (bbA x) 47)) 7 (show (bbA x)[7]? = some (.slice x.a x.tx.length x.c) from rfl)
      have HT := Lib.hid (HB.out.txs hx).1
      have HTk := Lib.hid (allTx_take bs i x hx)
      have HLe : Hid ((allTx (bs.take i)).length + x.tx.length ≤ 1048577) := Lib.hid (by
        have h1 := allTx_le bs (i + 1)
        rw [HTk.out, List.length_append] at h1
        have := HK.out
        omega)
      obtain ⟨tn, htn⟩ : ∃ tn, x.tx.length = tn := ⟨_, rfl⟩
      have HTN := Lib.hid htn
      rw [htn] at hc7 HT HLe
      have htb : tn ≤ 1048577 := by have := HLe.out; omega
      clear htn
      go_wp2_with (first | (refine wpList_ex rfl (.agg (bbA x)) wr (ex_ldb (x := .tmp 15) rfl rfl Hl.out) ?_) | (refine wpList_exs rfl _ (ex_fillB (x := .tmp 7) (y := .tmp 16) (W := wr) Hone.out rfl rfl rfl rfl) ?_))
      go_loopw [5, 20] (fun vo vk wr => ∃ k : Nat, vk = .int .i64 (k : Nat) ∧ k ≤ tn ∧ Hid (FoldS base g 27 w wr vo (allTx (bs.take i) ++ x.tx.take k))) (fun _ vk _ => tn - (intOf vk).toNat)
      case atStart => exact ⟨0, rfl, Nat.zero_le _, by rw [List.take_zero, List.append_nil]; exact HS2⟩
      case round =>
        obtain ⟨k, rfl, hk9, HS⟩ := hrel
        by_cases hlk : k < tn
        · have hzk : (k : Int) < (tn : Int) := by omega
          obtain ⟨y, hy⟩ : ∃ y, x.tx[k]? = some y := ⟨x.tx[k]'(by have := HTN.out; omega), List.getElem?_eq_getElem _⟩
          obtain ⟨tb, tf, hta⟩ := HT.out.ptr (by have := HTN.out; omega)
          obtain ⟨D, hD⟩ : ∃ D, allTx (bs.take i) ++ x.tx.take k = D := ⟨_, rfl⟩
          have HD2 : Hid (allTx (bs.take i) ++ x.tx.take (k + 1) = D ++ [y]) := Lib.hid (by rw [take_oneB x.tx k y hy, ← List.append_assoc, hD])
          have HDL : Hid (D.length ≤ 1048576) := Lib.hid (by
            rw [← hD, List.length_append, List.length_take]
            have := HLe.out
            omega)
          rw [hD] at HS
          have HT2 := HT.out.up HS.out.up
          rw [hta] at HT2 ⊢
          have Hly := Lib.hid (HT2.load hy)
          have HSA := Lib.hid (HS.out.ups (Up.alloc (Up.refl wr) (.cells (tsA y) 24)))
          have HBy := Lib.hid (heap_alloc_new wr (.cells (tsA y) 24))
          have HDo := Lib.hid (bnDo_any g 4 4 (foldA acG D) y _ HSA.out.row (by rw [foldA_length]; rfl))
          obtain ⟨E, hE⟩ : ∃ E, (acApply (foldA acG D) y).2 = E := ⟨_, rfl⟩
          have HE : Hid (errVs (D ++ [y]) = errVs D ++ [.int .i64 E]) := Lib.hid (by rw [errVs_snoc, hE])
          rw [hE] at HDo
          rw [← foldA_snoc] at HDo
          obtain ⟨ea, ec, rfl⟩ := row_shape HS.out.errs
          clear hy hD hta HT2 hE
          obtain ⟨m, hm⟩ : ∃ m, D.length = m := ⟨_, rfl⟩
          have HM : Hid (D.length = m) := Lib.hid hm
          have hmk : m ≤ 1048576 := by rw [← hm]; exact HDL.out
          rw [hm]
          clear hm HDL
          go_wp2_with (first | (refine wpList_ex rfl (.agg (tsA y)) wr (ex_ldt (x := .tmp 22) rfl rfl Hly.out) ?_) | (refine wpList_exs rfl _ (ex_fillX (x := .tmp 9) (y := .tmp 23) (W := wr) rfl rfl rfl rfl) ?_) | (refine wpList_ex rfl (.agg (tsA y)) _ (ex_loadrow (x := .tmp 9) rfl rfl _ 24 HBy.out Try.underlying24 rfl info_tx) ?_))
          with_reducible refine Calls.mono HDo.out ?_
          rintro e2 w2 ⟨rfl, hR2, hK2⟩
          have HR2 := Lib.hid hR2
          have HU2 := Lib.hid (up_kept HSA.out.up hK2 HW.out)
          have hE2 : w2.ownsRow base 27 1 (.slice ea m ec) m (errVs D) := by
            have := own_but HSA.out.errs hK2 (fun q hq e => by have := (HSA.out.errs.lt q hq).1; omega)
            rwa [HM.out] at this
          have hbw : base ≤ w2.heap.size := Nat.le_trans HSA.out.size hK2.size
          clear hR2 hK2 HDo HBy HSA Hly HS
          go_wp2_with (at_builtin; refine wpList_append_own _ rfl (.tmp 24) (.tmp 28) 32 rfl base 27 i0 (.int .i64 0) 1 8 Try.underlying32 hi hz0 hz1 hz2 rfl (by decide) _ m _ rfl (hE2.alloc _) ⟨w2.heap.size, 0, none⟩ 1 1 [.int .i64 E] rfl rfl (cell_one_new _ _ _) (by simp [Value.oneCell']) (by unfold maxLen; omega) (by omega) (by simp; omega) ?_; intro v3 w3 hr3 hg3 _; obtain ⟨g3, c3, rfl⟩ := ownsRow_succ hr3)
          have hU3 := up_row (Up.alloc HU2.out (.cells #[.int .i64 E] 27)) (hE2.alloc _) hg3 HWB.out
          have hR3 : AcRow w3 g (foldA acG (D ++ [y])) := (HR2.out.up (Up.alloc (Up.refl w2) _)).of_block (hg3.block g (lt_of_block (HR2.out.up (Up.alloc (Up.refl w2) _)).choose_spec.1) (fun e => by have := (hE2.lt g e.symm).1; omega))
          have HS4 : Hid (FoldS base g 27 w w3 (.slice (some ⟨g3, 0, none⟩) (m + 1) c3) (allTx (bs.take i) ++ x.tx.take (k + 1))) := Lib.hid (by
            rw [HD2.out]
            refine ⟨hR3, ?_, hU3, ?_⟩
            · rw [HE.out, List.length_append, HM.out]; exact hr3
            · exact Nat.le_trans hbw (Nat.le_trans (by simp) hg3.size))
          clear hU3 hR3 hr3 hg3
          go_wp2
          go_roundw
          case rel => exact ⟨k + 1, by go_num, hlk, HS4⟩
          case measure => simp [intOf]; omega
        · obtain rfl : k = tn := by omega
          have hS3 := HS.out
          rw [List.take_of_length_le (l := x.tx) (by rw [HTN.out]; exact Nat.le_refl _), ← HTk.out] at hS3
          have HS3 := Lib.hid hS3
          clear hS3
          go_wp2
          go_roundw
          case rel => exact ⟨i + 1, by go_num, hlt, HS3⟩
          case measure => simp [intOf]; omega
    · obtain rfl : i = n := by omega
      have hS := HS.out
      rw [List.take_of_length_le (by rw [HN.out]; exact Nat.le_refl _)] at hS
      go_wp2
      refine bodyPost_ret (results_tmp2 rfl _ _ _) rfl ⟨g, _, rfl, hS.row, HW.out, ?_, hS.up⟩
      exact Ints.of_row hS.errs
end
end Go.Proofs.Ytkelbilcjgndmaa
