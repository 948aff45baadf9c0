import Derived.Test.YtkelbilcjgndmaaBnGood
import Derived.Test.YtkelbilcjgndmaaBnRows
/-
  BankParts: the walk.
-/
namespace Go.Proofs.Ytkelbilcjgndmaa
set_option maxRecDepth 100000
section
set_option linter.unusedVariables false
open Go.RowKit Go.Sort Go.Lib

set_option maxHeartbeats 2000000 in
theorem lawBnParts_any (v vt : Value) (bs : List Bb) (xs : List Ts) (w : World) (hb : BArg w v bs) (ht : TArg w vt xs) (hk : bs.length + (allTx bs).length + xs.length ≤ 1048576) :
    Calls Try.prog 5 #[v, vt] w fun e w' => e = .returned (.bool true) ∧ Up w w' := by
  have HAl := Lib.hid (bnAlive_any w)
  obtain ⟨i0, hi, hz0, hz1, hz2⟩ := info_partsT info_bbd
  have hcz : (Value.agg (bbA (bbT none 0 []))).cells.size = 9 := rfl
  generalize Value.agg (bbA (bbT none 0 [])) = ZV at hz0 hcz
  obtain ⟨a, cap, rfl, _, hnone, _⟩ := id hb
  obtain ⟨at_, ct, rfl, _⟩ := id ht
  obtain ⟨n, hn⟩ : ∃ n, bs.length = n := ⟨_, rfl⟩
  obtain ⟨m, hm⟩ : ∃ m, xs.length = m := ⟨_, rfl⟩
  have HK := Lib.hid hk
  have HN := Lib.hid hn
  have HM := Lib.hid hm
  have hnk : n ≤ 1048576 := by omega
  have hmk : m ≤ 1048576 := by omega
  rw [hn] at hb ⊢
  rw [hm] at ht ⊢
  have Hn1 : Hid (a = none → n = 0 ∧ cap = 0) := Lib.hid fun h => ⟨by obtain ⟨a', c', e, h1, h2, h3⟩ := hb; cases e; rw [hn] at h1; have := h2 h; omega, hnone h⟩
  have hfl : (bbF bs).length = n * 9 := by rw [bbF_length, hn]
  have HB := Lib.hid hb
  have HT := Lib.hid ht
  have HX0 : Hid (bbC (bbT at_ ct xs) = [.int .i64 0, .int .i64 0, .string ⟨#[]⟩, .int .i64 0, .int .i64 0, .string ⟨#[]⟩, .slice none 0 0, .slice at_ m ct, .string ⟨#[]⟩]) := Lib.hid (by show ([.int .i64 0, .int .i64 0, .string ⟨#[]⟩, .int .i64 0, .int .i64 0, .string ⟨#[]⟩, .slice none 0 0, .slice at_ xs.length ct, .string ⟨#[]⟩] : List Value) = _; rw [hm])
  have HX1 : Hid (∀ v ∈ ([.int .i64 0, .int .i64 0, .string ⟨#[]⟩, .int .i64 0, .int .i64 0, .string ⟨#[]⟩, .slice none 0 0, .slice at_ m ct, .string ⟨#[]⟩] : List Value), v.oneCell' = true) := Lib.hid (by rw [← HX0.out]; exact bbT_one at_ ct xs)
  clear hb ht hk hn hm hnone
  go_enter Try.func5, Try.ntmps5
  go_wp2_with fail
  with_reducible refine Calls.mono HAl.out ?_
  rintro e w1 ⟨rfl, hU1⟩
  have HU1 := Lib.hid hU1
  have Hnews := Lib.hid (barg_cells (HB.out.up hU1))
  have hbase : w.heap.size ≤ w1.heap.size := hU1.size
  clear hU1 HAl
  go_wp2_with (first | (at_builtin; refine wpList_append_own_src _ rfl (.tmp 13) (.tmp 14) 25 rfl w.heap.size 47 i0 ZV 9 128 Try.underlying25 hi hz0 hz1 hz2 hcz (by decide) _ 0 [] rfl (World.ownsRow_nil _ _ _ _) a n cap (bbF bs) rfl Hn1.out hfl Hnews.out (bbF_one HB.out.one) (by unfold maxLen; omega) (by omega) (by omega) ?_; intro v' w3 hown' hgrow _; rw [Nat.zero_add, List.nil_append] at hown'; obtain ⟨ra, rc, rfl⟩ := row_shape hown'; have HO3 := Lib.hid hown'; have HU3 : Hid (Up w w3) := Lib.hid (Below.grown HU1.out hgrow (by omega) (fun q e => by cases e)); have hb3 : w.heap.size ≤ w3.heap.size := HU3.out.size; clear hown' hgrow) | (at_builtin; refine wpList_append_own _ rfl (.tmp 15) (.tmp 18) 25 rfl w.heap.size 47 i0 ZV 9 128 Try.underlying25 hi hz0 hz1 hz2 hcz (by decide) _ n _ rfl (HO3.out.alloc _) ⟨w3.heap.size, 0, none⟩ 1 1 [.int .i64 0, .int .i64 0, .string ⟨#[]⟩, .int .i64 0, .int .i64 0, .string ⟨#[]⟩, .slice none 0 0, .slice at_ m ct, .string ⟨#[]⟩] rfl rfl (fun j y hy => cells_new w3 _ _ j y hy) HX1.out (by unfold maxLen; omega) (by omega) (by simp; omega) ?_; intro v4 w4 hr4 hg4 _; obtain ⟨g4, c4, rfl⟩ := ownsRow_succ hr4))
  have hU4 := up_row (Up.alloc HU3.out _) (HO3.out.alloc _) hg4 (Nat.le_refl _)
  have HU4 := Lib.hid hU4
  have HALL : Hid (BArg w4 (.slice (some ⟨g4, 0, none⟩) (n + 1) c4) (bs ++ [bbT at_ ct xs])) := Lib.hid (by
    refine barg_of_own (base := w.heap.size) ?_ (by rw [List.length_append, HN.out]; rfl) fun x hx => ?_
    · rw [bbF_append, bbF_single, HX0.out]; exact hr4
    · rcases List.mem_append.1 hx with h1 | h1
      · obtain ⟨j, hj⟩ := List.mem_iff_getElem?.1 h1
        exact (HB.out.txs hj).up hU4
      · rw [List.mem_singleton.1 h1]
        refine ⟨?_, bbT_one at_ ct xs⟩
        show TArg w4 (.slice at_ xs.length ct) xs
        rw [HM.out]
        exact HT.out.up hU4)
  have HF := Lib.hid (bnFold_any _ bs w4 (HB.out.up hU4) (by have := HK.out; omega))
  clear hr4 hg4 hU4 HO3 HU3 Hnews HX0 HX1
  with_reducible refine Calls.mono HF.out ?_
  rintro e w5 ⟨g, r, rfl, hR5, hg5, _, hU5⟩
  have h4 : ∀ D, (foldA acG D).length = 4 := fun D => by rw [foldA_length]; rfl
  have H4 := Lib.hid h4
  have HU5 := Lib.hid (HU4.out.trans hU5)
  have HALL5 := Lib.hid (HALL.out.up hU5)
  have HA5 : Hid (AArg w5 (.slice (some ⟨g, 0, none⟩) 4 4) (foldA acG (allTx bs ++ xs.take 0))) := Lib.hid (by
    rw [List.take_zero, List.append_nil]
    have := hR5.arg (cap := 4) (by rw [h4]; exact Nat.le_refl _)
    rwa [h4] at this)
  clear hR5 hg5 hU5 HF h4 HALL HU4
  go_wp2
  go_loopw [6, 8] (fun va vi wr => ∃ i : Nat, vi = .int .i64 (i : Nat) ∧ i ≤ m ∧ Hid (AArg wr va (foldA acG (allTx bs ++ xs.take i))) ∧ Hid (Up w5 wr)) (fun _ vi _ => m - (intOf vi).toNat)
  case atStart => exact ⟨0, rfl, Nat.zero_le _, HA5, Lib.hid (Up.refl _)⟩
  case round =>
    obtain ⟨i, rfl, hi9, HA, HU⟩ := hrel
    by_cases hlt : i < m
    · have hz : (i : Int) < (m : Int) := by omega
      obtain ⟨y, hy⟩ : ∃ y, xs[i]? = some y := ⟨xs[i]'(by have := HM.out; omega), List.getElem?_eq_getElem _⟩
      obtain ⟨tb, tf, rfl⟩ := HT.out.ptr (by have := HM.out; omega)
      have Hl := Lib.hid ((HT.out.up (HU5.out.trans HU.out)).load hy)
      have hTk : allTx bs ++ xs.take (i + 1) = (allTx bs ++ xs.take i) ++ [y] := by rw [take_oneB xs i y hy, List.append_assoc]
      have hAp := bnApply_any _ _ y _ HA.out (by rw [H4.out]; decide)
      rw [H4.out, ← foldA_snoc, ← hTk] at hAp
      have HAp := Lib.hid hAp
      clear hy hTk hAp
      go_wp2_with (refine wpList_ex rfl (.agg (tsA y)) wr (ex_ldt (x := .tmp 35) rfl rfl Hl.out) ?_)
      with_reducible refine Calls.mono HAp.out ?_
      rintro e2 w6 ⟨g6, rfl, hR6, hg6, hU6⟩
      have HU6 := Lib.hid (Up.trans HU.out hU6)
      have HA6 : Hid (AArg w6 (.slice (some ⟨g6, 0, none⟩) 4 4) (foldA acG (allTx bs ++ xs.take (i + 1)))) := Lib.hid (by
        have := hR6.arg (cap := 4) (by rw [H4.out]; exact Nat.le_refl _)
        rwa [H4.out] at this)
      clear hR6 hg6 hU6 HAp Hl HU HA
      go_wp2
      go_roundw
      case rel => exact ⟨i + 1, by go_num, hlt, HA6, HU6⟩
      case measure => simp [intOf]; omega
    · obtain rfl : i = m := by omega
      have hA := HA.out
      rw [List.take_of_length_le (by rw [HM.out]; exact Nat.le_refl _)] at hA
      have HA := Lib.hid hA
      have hF2 := bnFold_any _ _ wr (HALL5.out.up HU.out) (by
        rw [allTx_append, allTx_one, List.length_append, List.length_append]
        have := HK.out
        show bs.length + 1 + ((allTx bs).length + xs.length) ≤ 1048577
        omega)
      rw [allTx_append, allTx_one] at hF2
      change Calls _ _ _ _ (fun e w' => ∃ g r, e = .returned (.tuple #[.slice (some ⟨g, 0, none⟩) 4 4, r]) ∧ AcRow w' g (foldA acG (allTx bs ++ xs)) ∧ wr.heap.size ≤ g ∧ Ints .i64 w' r (errA acG (allTx bs ++ xs)) ∧ Up wr w') at hF2
      have HF2 := Lib.hid hF2
      obtain ⟨aa, ac, rfl, _⟩ := id hA
      clear hF2 hA
      go_wp2_with fail
      with_reducible refine Calls.mono HF2.out ?_
      rintro e2 w6 ⟨g6, r6, rfl, hR6, hg6, _, hU6⟩
      have HU6 := Lib.hid (Up.trans HU.out hU6)
      have HA6 : AArg w6 (.slice (some ⟨g6, 0, none⟩) 4 4) (foldA acG (allTx bs ++ xs)) := by
        have := hR6.arg (cap := 4) (by rw [H4.out]; exact Nat.le_refl _)
        rwa [H4.out] at this
      have HS := Lib.hid (same_any _ _ _ w6 (HA.out.up hU6) HA6 (by rw [H4.out]; decide))
      clear hR6 hg6 hU6 HF2 HU HA6
      go_wp2_with fail
      with_reducible refine Calls.mono HS.out ?_
      rintro e3 w7 ⟨rfl, q, hq⟩
      have HU7 : Hid (Up w w7) := Lib.hid (by rw [hq]; exact (HU5.out.trans HU6.out).drewN q)
      clear hq
      go_wp2
      go_ret
      exact ⟨rfl, HU7.out⟩
end
end Go.Proofs.Ytkelbilcjgndmaa
