import Derived.Test.YtmjcjbiengcigaaLawHeFresh
/-
  HeldOnce: the walk returns true.
-/
namespace Go.Proofs.Ytmjcjbiengcigaa
set_option maxRecDepth 100000
set_option linter.unusedVariables false
open Go.RowKit Go.Shelf

theorem take_up (F : Int) : ∀ (m t : Nat), ∃ k, (upF t m).takeWhile (fun x => decide (x ≤ F)) = upF t k ∧ k ≤ m ∧ (∀ j, j < k → (2 : Int) ^ (t + j) ≤ F) ∧ (k < m → F < (2 : Int) ^ (t + k))
  | 0, t => ⟨0, rfl, Nat.le_refl _, fun j h => by omega, fun h => by omega⟩
  | m + 1, t => by
    rw [upF_succ]
    by_cases h : (2 : Int) ^ t ≤ F
    · obtain ⟨k, h1, h2, h3, h4⟩ := take_up F m (t + 1)
      refine ⟨k + 1, ?_, by omega, ?_, ?_⟩
      · rw [List.takeWhile_cons, if_pos (by simpa using h), h1, upF_succ]
      · intro j hj
        cases j with
        | zero => exact h
        | succ j => have := h3 j (by omega); rwa [show t + 1 + j = t + (j + 1) by omega] at this
      · intro hk
        have := h4 (by omega)
        rwa [show t + 1 + k = t + (k + 1) by omega] at this
    · refine ⟨0, ?_, by omega, fun j h => by omega, fun _ => by simpa using h⟩
      rw [List.takeWhile_cons, if_neg (by simpa using h)]
      rfl
/-- how many were told, when I ticks were looked at -/
structure Tally (B : ByteArray) (I : Int) (t : Nat) : Prop where
  le : t ≤ 7
  off : runs B = false → t = 0
  low : 0 < t → (2 : Int) ^ (t - 1) ≤ I - 2
  high : runs B = true → t < 7 → I - 2 < (2 : Int) ^ t
/-- the last one told -/
def lastL (t : Nat) : Int := if t = 0 then 0 else 2 ^ (t - 1)
theorem pow_pos2 (t : Nat) : (1 : Int) ≤ 2 ^ t := by
  induction t with
  | zero => decide
  | succ t ih => rw [Int.pow_succ]; omega
theorem pow_le7 (t : Nat) (h : t ≤ 7) : (2 : Int) ^ t ≤ 128 := by
  have : ∀ m : Nat, m < 8 → (2 : Int) ^ m ≤ 128 := by decide
  exact this t (by omega)
theorem lastL_lt (t : Nat) : 0 ≤ lastL t ∧ lastL t < (2 : Int) ^ t := by
  unfold lastL
  split
  · subst t; decide
  · have := pow_pos2 (t - 1)
    have e : (2 : Int) ^ t = 2 ^ (t - 1) * 2 := by rw [← Int.pow_succ]; congr 1; omega
    omega
theorem tally_step {B : ByteArray} {I : Int} {t : Nat} (h : Tally B I t) (hI : 0 ≤ I) : ∃ k, dueL B t (max 0 (I - 1)) = upF t k ∧ (0 < k → runs B = true) ∧ (∀ j, j < k → (2 : Int) ^ (t + j) < I) ∧ Tally B (I + 1) (t + k) := by
  cases hr : runs B with
  | false =>
    refine ⟨0, due_off hr _ _, fun h => by omega, fun j h => by omega, ⟨h.le, fun _ => h.off hr, fun ht => ?_, fun e => (by rw [hr] at e; cases e)⟩⟩
    have := h.off hr; omega
  | true =>
    obtain ⟨k, h1, h2, h3, h4⟩ := take_up (max 0 (I - 1)) (7 - t) t
    refine ⟨k, ?_, fun _ => rfl, ?_, ⟨by have := h.le; omega, fun e => (by rw [hr] at e; cases e), ?_, ?_⟩⟩
    · unfold dueL
      rw [unL_run hr, h1]
    · intro j hj
      have := h3 j hj
      have := pow_pos2 (t + j)
      omega
    · intro hk
      by_cases h0 : k = 0
      · subst h0
        have := h.low hk
        rw [Nat.add_zero]
        omega
      · have := h3 (k - 1) (by omega)
        have := pow_pos2 (t + (k - 1))
        rw [show t + k - 1 = t + (k - 1) by omega]
        omega
    · intro _ hk
      have := h4 (by omega)
      omega
theorem upF_at (t k j : Nat) (hj : j < k) : (upF t k)[j]?.getD 0 = (2 : Int) ^ (t + j) := by
  unfold upF
  simp [hj]
/-- what the end asks -/
theorem tally_end {B : ByteArray} {n : Int} {t : Nat} (h : Tally B (n + 1) t) : (runs B = false ∨ n < 2 → lastL t = 0) ∧ (runs B = true → 2 ≤ n → lastL t ≤ n - 1 ∧ (n - 1 < 2 * lastL t ∨ lastL t = 64)) := by
  refine ⟨fun hc => ?_, fun hr hn => ?_⟩
  · rcases Nat.eq_zero_or_pos t with rfl | ht
    · rfl
    · rcases hc with h1 | h1
      · have := h.off h1; omega
      · have := h.low ht
        have := pow_pos2 (t - 1)
        omega
  · rcases Nat.eq_zero_or_pos t with rfl | ht
    · have := h.high hr (by omega)
      simp at this
      omega
    · have h1 := h.low ht
      unfold lastL
      rw [if_neg (by omega)]
      refine ⟨by omega, ?_⟩
      by_cases h7 : t < 7
      · have := h.high hr h7
        have e : (2 : Int) ^ t = 2 ^ (t - 1) * 2 := by rw [← Int.pow_succ]; congr 1; omega
        left; omega
      · obtain rfl : t = 7 := by have := h.le; omega
        right; rfl
set_option maxHeartbeats 4000000 in
theorem lawHeOnce_any (V H : Int) (B : ByteArray) (s n : Int) (w : World) (hs : -9223372036854775808 ≤ s ∧ s ≤ 9223372036854775807) (hn : -9223372036854775808 ≤ n ∧ n ≤ 9223372036854775807) :
    Calls Try.prog 4 #[.agg (mkC V H B), .int .i64 s, .int .i64 n] w fun e w' => e = .returned (.bool true) ∧ Up w w' := by
  have r0 := heap_alloc_new w (.cells #[.int .i64 V, .int .i64 H, .string B] 23)
  have HU0 := Lib.hid (Up.alloc (Up.refl w) (.cells #[.int .i64 V, .int .i64 H, .string B] 23))
  have HR0 := Lib.hid r0
  clear r0
  unfold mkC
  go_enter Try.func4, Try.ntmps4
  go_wp2_with fail
  with_reducible refine Calls.mono (heAlive_any _) ?_
  rintro e w1 ⟨rfl, hU1⟩
  have r1 := (hU1.block _ (lt_of_block HR0.out)).trans HR0.out
  obtain ⟨q0, q1, q2⟩ := mk_cells r1
  go_wp2_with fail
  have hS := norm_in s 1000 (by decide) (by decide)
  have hN := norm_in n 80 (by decide) (by decide)
  generalize (wrap64 (s.tmod 1000 + 1000)).tmod 1000 = S at hS ⊢
  generalize (wrap64 (n.tmod 80 + 80)).tmod 80 = N at hN ⊢
  have HS := Lib.hid (fun wx => start_any V H B S wx)
  unfold mkC at HS
  unfold heC at HS
  with_reducible refine Calls.mono (HS.out _) ?_
  rintro e w2 ⟨rfl, hU2⟩
  have r2 := (hU2.block _ (lt_of_block r1)).trans r1
  have h2 := heap_alloc_new w2 (.cells #[.int .i64 V, .int .i64 H, .string B, .int .i64 S, .int .i64 0] 25)
  have u2 := Up.alloc (Up.refl w2) (.cells #[.int .i64 V, .int .i64 H, .string B, .int .i64 S, .int .i64 0] 25)
  have R2 := Lib.hid ((u2.block _ (lt_of_block r2)).trans r2)
  have U2 := Lib.hid (((HU0.out.trans hU1).trans hU2).trans u2)
  have H2 := Lib.hid h2
  have hlt := lt_of_block r2
  clear q0 q1 q2 r1 r2 h2 u2 hU1 hU2 HR0 HU0 HS
  go_wp2
  generalize hb2 : w2.heap.size = b2 at *
  clear hb2
  go_loopw [8, 9] (fun la ia wr => ∃ (I : Int) (t : Nat), ia = .int .i64 I ∧ la = .int .i64 (lastL t) ∧ 0 ≤ I ∧ I ≤ N + 1 ∧ Tally B I t ∧ wr.heap[b2]? = some (.cells #[.int .i64 V, .int .i64 H, .string B, .int .i64 S, .int .i64 (t : Int)] 25 (0, 0)) ∧ wr.heap[w.heap.size]? = some (.cells #[.int .i64 V, .int .i64 H, .string B] 23 (0, 0)) ∧ Up w wr) (fun _ i _ => (N + 1 - intOf i).toNat)
  case atStart => exact ⟨0, 0, rfl, rfl, by omega, by omega, ⟨by omega, fun _ => rfl, fun h => by omega, fun _ _ => by decide⟩, H2.out, R2.out, U2.out⟩
  case round =>
    obtain ⟨I, t, rfl, rfl, hI0, hI1, hT, hHe, hMk, hUp⟩ := hrel
    by_cases hin : I ≤ N
    · obtain ⟨k, hd, hrun, hle, hT2⟩ := tally_step hT hI0
      have hf : fullL S (S + I) = max 0 (I - 1) := by
        unfold fullL isTk
        rw [if_pos ⟨decide_eq_true (by omega), decide_eq_true (by omega)⟩]; omega
      rw [← hf] at hd
      have ht7 := hT.le
      have HTk := Lib.hid (tick_of V H B S (t : Int) (S + I) (upF t k) wr (by omega) (by omega) hd)
      have hw : wrap64 (S + I) = S + I := by unfold wrap64; omega
      obtain ⟨q0, q1, q2, q3, q4⟩ := tx_cells hHe
      have HT := Lib.hid hT
      have HT2 := Lib.hid hT2
      have HHe := Lib.hid hHe
      have HMk := Lib.hid hMk
      have HUp := Lib.hid hUp
      have HRun := Lib.hid hrun
      have HLe := Lib.hid hle
      clear hd hT hT2 hHe hMk hUp hf hrun hle
      unfold heC at HTk
      rw [upF_length] at HTk
      go_wp2_with fail
      with_reducible refine Calls.mono HTk.out ?_
      rintro e w3 ⟨a, c, rfl, hr, hU3⟩
      have H3 := Lib.hid ((hU3.block _ (lt_of_block HHe.out)).trans HHe.out)
      have R3 := Lib.hid ((hU3.block _ (lt_of_block HMk.out)).trans HMk.out)
      have U3 := Lib.hid (HUp.out.trans hU3)
      have hone := one_he V H B S ((t : Int) + (k : Int))
      have hbw := lt_of_block HHe.out
      clear q0 q1 q2 q3 q4 hU3
      go_wp2_with (refine wpList_store_agg rfl 25 (.tmp 7) (.tmp 36) rfl b2 _ #[.int .i64 V, .int .i64 H, .string B, .int .i64 S, .int .i64 ((t : Int) + (k : Int))] rfl rfl 25 H3.out info_he rfl hone ?_; intro w4 hg4 hgr4)
      have U4 := Lib.hid (up_at U3.out hgr4 (by omega))
      have R4 := Lib.hid ((hgr4.block _ (lt_of_block R3.out) (fun e => by simp only [Option.some.injEq] at e; omega)).trans R3.out)
      have H4 := Lib.hid hg4
      have HI4 := Lib.hid (Ints.of_row (hr.kept hgr4 (row_off (r := some b2) hr (fun q e => by cases e; omega))))
      clear hr hg4 hgr4 R3 U3 H3
      have hk7 : t + k ≤ 7 := HT2.out.le
      go_loopw [8, 11] (fun la ka wx => ∃ j : Nat, j ≤ k ∧ ka = .int .i64 j ∧ la = .int .i64 (lastL (t + j)) ∧ Up w4 wx) (fun _ j _ => k - (intOf j).toNat)
      case atStart => exact ⟨0, by omega, rfl, rfl, Up.refl _⟩
      case round =>
        obtain ⟨j, hj, rfl, rfl, hUx⟩ := hrel
        by_cases hlt2 : j < k
        · obtain ⟨g, off, c2, e2, hcell⟩ := HI4.out.all (by rw [upF_length]; omega)
          have hc := hcell _ hUx j (by rw [upF_length]; omega)
          rw [upF_at t k j hlt2] at hc
          simp only [upF_length, Value.slice.injEq] at e2
          obtain ⟨rfl, _, rfl⟩ := e2
          have hP1 := lastL_lt (t + j)
          have hP2 := HLe.out j hlt2
          have hd3 : B.toList.isEmpty = false := by
            have := HRun.out (by omega)
            unfold runs at this
            simpa using this
          have r4 := (hUx.block _ (lt_of_block R4.out)).trans R4.out
          obtain ⟨q0, q1, q2⟩ := mk_cells r4
          have HL := Lib.hid (show lastL (t + (j + 1)) = (2 : Int) ^ (t + j) by unfold lastL; rw [if_neg (by omega)]; congr 1)
          clear hcell r4
          obtain ⟨P, hP⟩ : ∃ P : Int, (2 : Int) ^ (t + j) = P := ⟨_, rfl⟩
          obtain ⟨L, hL⟩ : ∃ L : Int, lastL (t + j) = L := ⟨_, rfl⟩
          rw [hP] at hc hP1 hP2 HL
          rw [hL] at hP1 ⊢
          clear hP hL
          have hd1 : decide (P ≤ L) = false := decide_eq_false (by omega)
          have hd2 : decide (I ≤ P) = false := decide_eq_false (by omega)
          have HUx := Lib.hid hUx
          clear hUx
          go_wp2
          go_roundw
          case rel => exact ⟨j + 1, by omega, by go_num, by rw [HL.out], HUx.out⟩
          case measure => simp [intOf]; omega
        · obtain rfl : j = k := by omega
          have HUx := Lib.hid hUx
          clear hUx
          go_wp2
          go_roundw
          case rel => exact ⟨I + 1, t + j, rfl, rfl, by omega, by omega, HT2.out, by rw [Int.natCast_add]; exact (HUx.out.block _ (lt_of_block H4.out)).trans H4.out, (HUx.out.block _ (lt_of_block R4.out)).trans R4.out, U4.out.trans HUx.out⟩
          case measure => simp [intOf]; omega
    · obtain rfl : I = N + 1 := by omega
      obtain ⟨hz, hnz⟩ := tally_end hT
      obtain ⟨q0, q1, q2⟩ := mk_cells hMk
      have HUp := Lib.hid hUp
      have hL0 := (lastL_lt t).1
      have hL1 : lastL t ≤ 128 := Int.le_of_lt (Int.lt_of_lt_of_le (lastL_lt t).2 (pow_le7 t hT.le))
      clear hT hHe hMk hUp hin
      obtain ⟨L, hL⟩ : ∃ L : Int, lastL t = L := ⟨_, rfl⟩
      rw [hL] at hz hnz hL0 hL1 ⊢
      clear hL
      cases hr : runs B with
      | false =>
        obtain rfl := hz (.inl hr)
        have hd : B.toList.isEmpty = true := by unfold runs at hr; simpa using hr
        clear hz hnz hr
        go_wp2
        go_ret
        exact ⟨rfl, HUp.out⟩
      | true =>
        have hd : B.toList.isEmpty = false := by unfold runs at hr; simpa using hr
        by_cases h2 : N < 2
        · obtain rfl := hz (.inr h2)
          clear hz hnz hr
          go_wp2
          go_ret
          exact ⟨rfl, HUp.out⟩
        · obtain ⟨h3, h4⟩ := hnz hr (by omega)
          have hw1 : wrap64 (N - 1) = N - 1 := by unfold wrap64; omega
          have hw2 : wrap64 (2 * L) = 2 * L := by unfold wrap64; omega
          clear hz hnz hr
          by_cases h5 : N - 1 < 2 * L
          · go_wp2
            go_ret
            exact ⟨rfl, HUp.out⟩
          · exfalso; omega
end Go.Proofs.Ytmjcjbiengcigaa
