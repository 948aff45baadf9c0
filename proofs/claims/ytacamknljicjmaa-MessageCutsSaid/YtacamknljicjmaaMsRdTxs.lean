import Derived.Test.YtacamknljicjmaaMsRows
/-
  block: readTxs.
-/
namespace Go.Proofs.Ytacamknljicjmaa
set_option maxRecDepth 100000
section
set_option linter.unusedVariables false
open Go.RowKit Go.Sort Go.Lib

theorem rdNum_rng (E : Int) (zs : List Int) (most : Int) (hm : 0 ≤ most) : 0 ≤ (rdNum E zs most).1 ∧ (rdNum E zs most).1 ≤ most := by
  unfold rdNum gNum
  have h := getB_range (zs.take 6)
  split
  · split
    · exact ⟨Int.le_refl _, hm⟩
    · split
      · exact ⟨Int.le_refl _, hm⟩
      · next k => exact ⟨h.1, by simp only; omega⟩
  · exact ⟨Int.le_refl _, hm⟩
/-- a block's transactions, and the reader behind them -/
def rTxs (q : Int × List Int) : List Ts × (Int × List Int) := rTsL (rvNum q).toNat (rvNumS q)
theorem rTsL_inv : ∀ (n : Nat) (q : Int × List Int), RvInv q → RvInv (rTsL n q).2
  | 0, q, h => h
  | n + 1, q, h => by
    unfold rTsL
    split
    · exact h
    · exact rTsL_inv n _ (tsR_inv h)
/-- what the round of the loop knows -/
structure TxLoop (g : Nat) (l : Value) (w W wr : World) (q0 : Int × List Int) (n i : Nat) (va : Option Addr) (vc : Nat) (ls : List Ts) (qi : Int × List Int) : Prop where
  len : ls.length = i
  row : wr.ownsRow W.heap.size 31 5 (.slice va i vc) i (tsF ls)
  rd : Reads g l w qi.1 qi.2 wr
  inv : RvInv qi
  eq : rTsL n q0 = (ls ++ (rTsL (n - i) qi).1, (rTsL (n - i) qi).2)
  gr : W.grownBy wr (some g)

set_option maxHeartbeats 4000000 in
theorem readTxs_on (g : Nat) (l : Value) (q : Int × List Int) (w W : World) (h : Reads g l w q.1 q.2 W) (hi : RvInv q) (hl : ∀ k, l.ownBlock = some k → k < w.heap.size) (hg : g < w.heap.size) :
    Calls Try.prog 57 #[.pointer (some ⟨g, 0, none⟩)] W fun e w' => ∃ a n c, e = .returned (.slice a n c) ∧ (rTxs q).1.length = n ∧ w'.ownsRow W.heap.size 31 5 (.slice a n c) n (tsF (rTxs q).1) ∧ Reads g l w (rTxs q).2.1 (rTxs q).2.2 w' ∧ W.grownBy w' (some g) := by
  have hr := rdNum_rng q.1 q.2 1099511627776 (by omega)
  have HC := Lib.hid (rnum_on g l q.1 q.2 1099511627776 w W h hi.2 (by omega))
  have HNI := Lib.hid (rvNum_inv hi)
  have HEQ : Hid (rTxs q = rTsL (rvNum q).toNat (rvNumS q)) := rfl
  have HL := Lib.hid hl
  have HG := Lib.hid hg
  have HS := Lib.hid h.size
  change Hid (Calls Try.prog _ _ W fun e w' => e = .returned (.int .i64 (rvNum q)) ∧ Reads g l w (rvNumS q).1 (rvNumS q).2 w' ∧ W.grownBy w' (some g)) at HC
  change 0 ≤ rvNum q ∧ rvNum q ≤ 1099511627776 at hr
  generalize rTxs q = R at *
  generalize rvNumS q = q0 at *
  generalize rvNum q = N at *
  obtain ⟨n, rfl⟩ : ∃ n : Nat, N = n := ⟨N.toNat, by omega⟩
  rw [Int.toNat_natCast] at HEQ
  have hn : n ≤ 1099511627776 := by omega
  clear h hi hl hg hr
  go_enter Try.func57, Try.ntmps57
  go_wp2_with fail
  with_reducible refine Calls.mono HC.out ?_
  rintro e w1 ⟨rfl, k1, k2⟩
  have HS1 : Hid (TxLoop g l w W w1 q0 n 0 none 0 [] q0) := ⟨rfl, ⟨rfl, .inl ⟨rfl, rfl⟩⟩, k1, HNI.out, by rw [Nat.sub_zero, List.nil_append], k2⟩
  clear k1 k2 HC HNI
  go_wp2
  go_loopw [3, 6] (fun v3 vi wr => ∃ (i : Nat) (va : Option Addr) (vc : Nat) (ls : List Ts) (qi : Int × List Int), v3 = .slice va i vc ∧ vi = .int .i64 (i : Nat) ∧ i ≤ n ∧ Hid (TxLoop g l w W wr q0 n i va vc ls qi)) (fun _ vi _ => n - (RowKit.intOf vi).toNat)
  case atStart => exact ⟨0, none, 0, [], q0, rfl, rfl, Nat.zero_le _, HS1⟩
  case round =>
    obtain ⟨i, va, vc, ls, qi, rfl, rfl, hi, HT⟩ := hrel
    have HE := Lib.hid (rerr_on g l qi.1 qi.2 w wr HT.out.rd)
    by_cases hlt : i < n
    · have hz : (i : Int) < (n : Int) := by omega
      by_cases he : qi.1 = 0
      · rw [he] at HE
        have HRD := Lib.hid (txRead_on g l qi w wr HT.out.rd HT.out.inv HL.out)
        obtain ⟨x, hx⟩ : ∃ x, rTs qi = x := ⟨_, rfl⟩
        rw [hx] at HRD
        have HX := Lib.hid hx
        clear hx
        go_wp2_with fail
        with_reducible refine Calls.mono HE.out ?_
        rintro e w2 ⟨rfl, rfl⟩
        go_wp2_with fail
        with_reducible refine Calls.mono HRD.out ?_
        rintro e w3 ⟨rfl, k1, k2⟩
        have hrow := own_read HT.out.row k2 (by have := HG.out; have := HS.out; omega)
        have hsz3 : W.heap.size ≤ w3.heap.size := Nat.le_trans HT.out.gr.size k2.size
        obtain ⟨va', vc', w4, h1, h2, h3⟩ := app_st (st := 25) (et := 31) Try.underlying25 info_ts3 rfl (by decide) W.heap.size w3 va vc i (tsF ls) (tsA x) hrow rfl (fun v hv => tsC_one x v (by simpa [tsA_eq] using hv)) (by omega) (by unfold maxLen; omega) (by unfold maxLen; omega) hsz3
        have hua := Up.alloc (Up.refl w3) (.cells (tsA x) 31)
        have h4 : Hid (TxLoop g l w W w4 q0 n (i + 1) va' vc' (ls ++ [x]) (tsR qi)) := ⟨by rw [List.length_append, HT.out.len]; rfl, by rw [tsF_append]; exact (by
            have e : tsF [x] = (tsA x).toList := by unfold tsF; rw [List.flatMap_cons, List.flatMap_nil, List.append_nil]; rfl
            rw [e]; exact h2), reads_row (k1.up hua) (ownsRow_up hrow hua) h3 (by have := HG.out; have := HS.out; omega) HS.out HL.out, tsR_inv HT.out.inv, by
            have e := HT.out.eq
            have e2 : n - i = (n - (i + 1)) + 1 := by omega
            rw [e2] at e
            rw [e, ← HX.out]
            show (ls ++ (if qi.1 ≠ 0 then ([], qi) else (rTs qi :: (rTsL (n - (i + 1)) (tsR qi)).1, (rTsL (n - (i + 1)) (tsR qi)).2)).1, (if qi.1 ≠ 0 then ([], qi) else (rTs qi :: (rTsL (n - (i + 1)) (tsR qi)).1, (rTsL (n - (i + 1)) (tsR qi)).2)).2) = _
            rw [if_neg (fun k => k he)]
            simp only [List.append_assoc, List.cons_append, List.nil_append], by
            have hgu := grown_up hua (some g)
            rcases hob : (Value.slice va i vc).ownBlock with _ | b
            · rw [hob] at h3
              exact grown_trans (grown_trans HT.out.gr k2) (grown_trans hgu (grown_up (up_grown h3) _))
            · rw [hob] at h3
              have hb := (hrow.lt b hob).1
              exact grown_new (grown_trans (grown_trans HT.out.gr k2) hgu) h3 (fun q e => by cases e; exact hb)⟩
        have HB := Lib.hid (build_ts1 x w3)
        have HA := Lib.hid h1
        clear k1 k2 hrow hsz3 h1 h2 h3 hua HRD
        obtain ⟨i1, hi1⟩ : ∃ i1, i + 1 = i1 := ⟨_, rfl⟩
        rw [hi1] at HA h4
        have HI1 := Lib.hid hi1
        clear hi1
        generalize tsA x = cx at *
        go_wp2_with (refine wpList_ex rfl (.slice (some ⟨w3.heap.size, 0, none⟩) 1 1) (w3.alloc (.cells cx 31)) (ex_slice1 (x := .tmp 13) _ _ HB.out rfl rfl) ?_; refine Stp.h ?_)
        generalize w3.alloc (.cells cx 31) = wn at HA ⊢
        generalize w3.heap.size = nb at HA ⊢
        refine Stp.mk ?_
        go_wp2_with (refine wpList_ex rfl (.slice va' i1 vc') w4 (ex_append1 (s := .tmp 11) (x := .tmp 14) rfl rfl rfl rfl HA.out) ?_; refine Stp.h ?_)
        refine Stp.mk ?_
        go_wp2
        go_roundw
        case rel => exact ⟨i1, va', vc', ls ++ [x], tsR qi, rfl, by rw [← HI1.out]; go_num, by rw [← HI1.out]; exact hlt, h4⟩
        case measure => simp [RowKit.intOf]; omega
      · have e1 : (qi.1 == 0) = false := by rw [beq_eq_false_iff_ne]; exact he
        have e2 : (qi.1 != 0) = true := by rw [bne, e1]; rfl
        have HRR : Hid (R = (ls, qi)) := by
          (have e : R = (ls, qi) := by
            rw [HEQ.out, HT.out.eq]
            have e2 : n - i = (n - (i + 1)) + 1 := by omega
            rw [e2]
            show (ls ++ (if qi.1 ≠ 0 then ([], qi) else (rTs qi :: (rTsL (n - (i + 1)) (tsR qi)).1, (rTsL (n - (i + 1)) (tsR qi)).2)).1, (if qi.1 ≠ 0 then ([], qi) else (rTs qi :: (rTsL (n - (i + 1)) (tsR qi)).1, (rTsL (n - (i + 1)) (tsR qi)).2)).2) = _
            rw [if_pos he, List.append_nil])
          exact e
        clear he
        go_wp2_with fail
        with_reducible refine Calls.mono HE.out ?_
        rintro e w2 ⟨rfl, rfl⟩
        go_wp2
        go_ret
        exact ⟨va, i, vc, rfl, by rw [HRR.out]; exact HT.out.len, by rw [HRR.out]; exact HT.out.row, by rw [HRR.out]; exact HT.out.rd, HT.out.gr⟩
    · have hie : i = n := by omega
      have hz : ¬ (i : Int) < (n : Int) := by omega
      have HRR : Hid (R = (ls, qi)) := by
        (have e : R = (ls, qi) := by
          rw [HEQ.out, HT.out.eq, hie, Nat.sub_self]
          show (ls ++ [], qi) = _
          rw [List.append_nil])
        exact e
      clear hie HE
      go_wp2
      go_ret
      exact ⟨va, i, vc, rfl, by rw [HRR.out]; exact HT.out.len, by rw [HRR.out]; exact HT.out.row, by rw [HRR.out]; exact HT.out.rd, HT.out.gr⟩
end
end Go.Proofs.Ytacamknljicjmaa
