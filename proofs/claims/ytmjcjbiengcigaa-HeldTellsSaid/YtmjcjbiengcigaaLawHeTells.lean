import Derived.Test.YtmjcjbiengcigaaLawHeOnce
/-
  HeldTells: the walk returns true. (gen_lawhetells.py SEAT PRINT of HeldTells)
-/
namespace Go.Proofs.Ytmjcjbiengcigaa
set_option maxRecDepth 100000
set_option linter.unusedVariables false
open Go.RowKit Go.Shelf

theorem he_eql (V H : Int) (B : ByteArray) (S T : Int) (p q : Operand) (w : World) : (do eqGuard .eql 25 p q (.agg (heC V H B S T)) (.agg (heC V H B S T)); binOp .eql 25 (.agg (heC V H B S T)) (.agg (heC V H B S T)) : Sem Value).run Try.prog w = .ok (.bool true) w := by
  simp [eqGuard, go_sem, heC]
theorem bool_eql (b : Bool) (p q : Operand) (w : World) : (do eqGuard .eql 4 p q (.bool b) (.bool b); binOp .eql 4 (.bool b) (.bool b) : Sem Value).run Try.prog w = .ok (.bool true) w := by
  simp [eqGuard, go_sem]
theorem str_runs (B : ByteArray) (p q : Operand) (w : World) : (do eqGuard .neq 9 p q (.string B) (.string ⟨#[]⟩); binOp .neq 9 (.string B) (.string ⟨#[]⟩) : Sem Value).run Try.prog w = .ok (.bool (runs B)) w := by
  simp [eqGuard, go_sem, runs]
theorem he_build (V H : Int) (B : ByteArray) (N : Int) (w : World) : (Instr.build 25 #[(0, .agg (mkC V H B)), (1, .int .i64 N)]).run Try.prog w = .ok (.agg (heC V H B N 0)) w := by
  simp [go_sem, mkC, heC]
theorem ex_build2 {P : Program} {o : Oper} {x y : Operand} {ρ : Operand → Value} {v : Value} {t : TypeId} {v0 v1 : Value} (w w' : World) (hr : (Instr.build t #[(0, v0), (1, v1)]).run P w = .ok v w') (hop : o.op = .build t #[(0, x), (1, y)]) (hx : ρ x = v0) (hy : ρ y = v1) : (execOp ρ o).run P w = .ok (.value v) w' :=
  ex_build hop (by simp [hx, hy]) w w' hr
theorem he_mark {W : World} {G : Nat} {V H : Int} {B : ByteArray} {S T : Int} (h : W.heap[G]? = some (.cells (heC V H B S T) 25 (0, 0))) : (loadVar 23 ⟨G, 0, none⟩).run Try.prog W = .ok (.agg (mkC V H B)) W := by
  have hcell : ∀ j v, ([.int .i64 V, .int .i64 H, .string B] : List Value)[j]? = some v → W.cell? ((⟨G, 0, none⟩ : Addr).add j) = some v := by
    intro j v hv
    have ha : ((⟨G, 0, none⟩ : Addr).add j) = ⟨G, j, none⟩ := by unfold Addr.add; split <;> simp_all
    rw [ha, cell_of_row _ _ _ _ _ _ h]
    have hj : j < 3 := (List.getElem?_eq_some_iff.1 hv).1
    match j, hj with
    | 0, _ => exact hv
    | 1, _ => exact hv
    | 2, _ => exact hv
  have h5 := run_loadCellsFrom_list Try.prog W ⟨G, 0, none⟩ [.int .i64 V, .int .i64 H, .string B] 3 rfl hcell
  simp [loadVar, loadCells, Try.isAgg23, Try.sizeOf23, h5, Result.andThen, mkC]
/-- what the statement's own loop finds: K reports are due -/
theorem told_steps (B : ByteArray) (T F : Int) : ∃ K : Nat, dueL B T F = upF T.toNat K ∧ K ≤ 7 ∧ (∀ j : Nat, j < K → 0 ≤ T ∧ T + j < 7 ∧ runs B = true ∧ (2 : Int) ^ (T.toNat + j) ≤ F) ∧ (T + (K : Int) < 0 ∨ 7 ≤ T + (K : Int) ∨ (0 ≤ T ∧ T + (K : Int) < 7 ∧ runs B = false) ∨ (0 ≤ T ∧ T + (K : Int) < 7 ∧ runs B = true ∧ F < (2 : Int) ^ (T.toNat + K))) := by
  by_cases h0 : T < 0
  · refine ⟨0, ?_, by omega, fun j h => by omega, .inl (by omega)⟩
    unfold dueL unL
    rw [if_neg (fun e => by omega)]; rfl
  · by_cases h7 : 7 ≤ T
    · refine ⟨0, ?_, by omega, fun j h => by omega, .inr (.inl (by omega))⟩
      unfold dueL unL
      split
      · rw [show 7 - T.toNat = 0 by omega]; rfl
      · rfl
    · cases hr : runs B with
      | false => exact ⟨0, due_off hr _ _, by omega, fun j h => by omega, .inr (.inr (.inl ⟨by omega, by omega, rfl⟩))⟩
      | true =>
        obtain ⟨K, h1, h2, h3, h4⟩ := take_up F (7 - T.toNat) T.toNat
        refine ⟨K, ?_, by omega, fun j hj => ⟨by omega, by omega, rfl, h3 j hj⟩, ?_⟩
        · unfold dueL unL
          rw [if_pos ⟨hr, by omega⟩, h1]
        · by_cases hK : K < 7 - T.toNat
          · exact .inr (.inr (.inr ⟨by omega, by omega, rfl, h4 hK⟩))
          · exact .inr (.inl (by omega))
theorem pow_at (T : Int) (j : Nat) (h : 0 ≤ T) (h2 : T + (j : Int) < 7) : wrap64 ((2 : Int) ^ (T + (j : Int)).toNat) = 2 ^ (T.toNat + j) := by
  have e : (T + (j : Int)).toNat = T.toNat + j := by omega
  rw [e]
  have h3 := pow_le7 (T.toNat + j) (by omega)
  have h4 := pow_pos2 (T.toNat + j)
  unfold wrap64; omega
theorem fullL_le (S N : Int) : 0 ≤ fullL S N ∧ fullL S N ≤ 1099511627776 := by
  unfold fullL isTk
  split
  · rename_i h
    have h1 := of_decide_eq_true h.1
    have h2 := of_decide_eq_true h.2
    omega
  · omega
set_option maxHeartbeats 8000000 in
theorem lawHeTells_any (V H : Int) (B : ByteArray) (S T N : Int) (w : World) (hS : -9223372036854775808 ≤ S ∧ S ≤ 9223372036854775807) (hT : -9223372036854775808 ≤ T ∧ T ≤ 9223372036854775807) (hN : -9223372036854775808 ≤ N ∧ N ≤ 9223372036854775807) :
    Calls Try.prog 3 #[.agg (heC V H B S T), .int .i64 N] w fun e w' => e = .returned (.bool true) ∧ Up w w' := by
  obtain ⟨i0, hi, hz0, hz1, hz2⟩ := info_parts info_int1
  obtain ⟨K, hK1, hK7, hK2, hK3⟩ := told_steps B T (fullL S N)
  have hFl := fullL_le S N
  have HT := Lib.hid (fun wx => tick_of V H B S T N _ wx hT.2 hT.1 hK1)
  have HFu := Lib.hid (fun wx => full_any V H B S T N wx)
  have HRu := Lib.hid (fun wx => running_any V H B S T wx)
  have HSt := Lib.hid (fun wx => start_any V H B N wx)
  rw [upF_length] at HT
  -- the reference's own full
  have hfull : ∃ c : Bool, (c = true → isTk S = true ∧ isTk N = true ∧ fullL S N = max (N - S - 1) 0) ∧ (c = false → fullL S N = 0) ∧ ((0 ≤ S ∧ S ≤ 1099511627776 ∧ 0 ≤ N ∧ N ≤ 1099511627776) ↔ c = true) := by
    by_cases h : isTk S = true ∧ isTk N = true
    · refine ⟨true, fun _ => ⟨h.1, h.2, ?_⟩, fun e => (by cases e), ⟨fun _ => rfl, fun _ => ?_⟩⟩
      · unfold fullL; rw [if_pos h]; omega
      · have h1 := of_decide_eq_true h.1
        have h2 := of_decide_eq_true h.2
        omega
    · refine ⟨false, fun e => (by cases e), fun _ => ?_, ⟨fun k => ?_, fun e => (by cases e)⟩⟩
      · unfold fullL; rw [if_neg h]
      · exact absurd ⟨decide_eq_true (show 0 ≤ S ∧ S ≤ 1099511627776 by omega), decide_eq_true (show 0 ≤ N ∧ N ≤ 1099511627776 by omega)⟩ h
  obtain ⟨cc, hf1, hf2, hf3⟩ := hfull
  generalize fullL S N = F at *
  have r0 := heap_alloc_new w (.cells (heC V H B S T) 25)
  have HU0 := Lib.hid (Up.alloc (Up.refl w) (.cells (heC V H B S T) 25))
  have HR0 := Lib.hid r0
  have hsz0 : (w.alloc (.cells (heC V H B S T) 25)).heap.size = w.heap.size + 1 := by simp
  obtain ⟨q0, q1, q2, q3, q4⟩ := tx_cells r0
  clear r0
  unfold heC at HT HU0 HR0 hsz0 q0 q1 q2 q3 q4 ⊢
  go_enter Try.func3, Try.ntmps3
  go_upto_region 1 with fail
  generalize w.alloc (.cells #[.int .i64 V, .int .i64 H, .string B, .int .i64 S, .int .i64 T] 25) = w1 at *
  have HK1 := Lib.hid hK1
  have HK2 := Lib.hid hK2
  have HK3 := Lib.hid hK3
  clear hK1 hK2 hK3
  go_upto_region 2 with fail
  go_cut [26] from 11 to 26 (fun s26 wx => s26 = .bool cc ∧ wx = w1)
  case first =>
    by_cases h1 : 0 ≤ S
    · by_cases h2 : S ≤ 1099511627776
      · by_cases h3 : 0 ≤ N
        · by_cases h4 : N ≤ 1099511627776
          · have e := hf3.1 ⟨h1, h2, h3, h4⟩
            subst e
            clear hf1 hf2 hf3
            go_wp2
            go_meet
            exact ⟨rfl, rfl⟩
          · have e : cc = false := by (cases cc with | false => rfl | true => exact absurd (hf3.2 rfl) (by omega))
            subst e
            clear hf1 hf2 hf3
            go_wp2
            go_meet
            exact ⟨rfl, rfl⟩
        · have e : cc = false := by (cases cc with | false => rfl | true => exact absurd (hf3.2 rfl) (by omega))
          subst e
          clear hf1 hf2 hf3
          go_wp2
          go_meet
          exact ⟨rfl, rfl⟩
      · have e : cc = false := by (cases cc with | false => rfl | true => exact absurd (hf3.2 rfl) (by omega))
        subst e
        clear hf1 hf2 hf3
        go_wp2
        go_meet
        exact ⟨rfl, rfl⟩
    · have e : cc = false := by (cases cc with | false => rfl | true => exact absurd (hf3.2 rfl) (by omega))
      subst e
      clear hf1 hf2 hf3
      go_wp2
      go_meet
      exact ⟨rfl, rfl⟩
  case rest =>
  obtain ⟨h26, rfl⟩ := hcut
  have H26 := Lib.hid h26
  clear h26
  go_wp2
  go_cut [5] from 27 to 32 (fun s5 wx => s5 = .int .i64 F ∧ wx = wc)
  case first =>
    obtain rfl := H26.out
    cases cc with
    | false =>
      have HF := Lib.hid (hf2 rfl)
      clear hf1 hf2 hf3
      go_wp2
      go_meet
      exact ⟨by rw [HF.out], rfl⟩
    | true =>
      have HF := Lib.hid (hf1 rfl).2.2
      have e := hf3.2 rfl
      have hw1 : wrap64 (N - S) = N - S := by unfold wrap64; omega
      have hw2 : wrap64 (N - S - 1) = N - S - 1 := by unfold wrap64; omega
      clear hf1 hf2 hf3
      go_wp2
      go_meet
      exact ⟨by rw [HF.out], rfl⟩
  case rest =>
  obtain ⟨rfl, rfl⟩ := hcut
  clear hf1 hf2 hf3
  go_wp2
  clear H26
  have hone := one_he V H B S (T + (K : Int))
  go_loopw [6, 7] (fun wa ta wr => ∃ (j : Nat) (a : Option Addr) (c : Nat), j ≤ K ∧ ta = .int .i64 (T + (j : Int)) ∧ wa = .slice a j c ∧ wr.ownsRow (w.heap.size + 1) 3 1 (.slice a j c) j ((upF T.toNat j).map (Value.int .i64)) ∧ wr.heap[w.heap.size]? = some (.cells #[.int .i64 V, .int .i64 H, .string B, .int .i64 S, .int .i64 T] 25 (0, 0)) ∧ Up w wr) (fun _ ta _ => (T + (K : Int) + 1 - intOf ta).toNat)
  case atStart => exact ⟨0, none, 0, by omega, by go_num, rfl, World.ownsRow_nil _ _ _ _, HR0.out, HU0.out⟩
  case round =>
    obtain ⟨j, a, c, hj, rfl, rfl, hrow, hb, hUp⟩ := hrel
    have HRow := Lib.hid hrow
    have HB := Lib.hid hb
    have HUp := Lib.hid hUp
    obtain ⟨p0, p1, p2, p3, p4⟩ := tx_cells hb
    have hlt := lt_of_block hb
    clear hrow hb hUp
    go_upto_region 6 with fail
    obtain ⟨D, hD⟩ : ∃ D, decide (j < K) = D := ⟨_, rfl⟩
    have HD := Lib.hid hD
    clear hD
    go_cut [53] from 35 to 53 (fun s53 wx => s53 = .bool D ∧ wr = wx)
    case first =>
      by_cases hjK : j < K
      · obtain ⟨h1, h2, h3, h4⟩ := HK2.out j hjK
        have hd : B.toList.isEmpty = false := by unfold runs at h3; simpa using h3
        obtain rfl : D = true := by rw [← HD.out]; exact decide_eq_true hjK
        have hP := pow_at T j h1 h2
        have HP := Lib.hid h4
        clear h4
        go_wp2
        go_meet
        exact ⟨by rw [decide_eq_true HP.out], rfl⟩
      · obtain rfl : j = K := by omega
        obtain rfl : D = false := by rw [← HD.out]; exact decide_eq_false (Nat.lt_irrefl j)
        rcases HK3.out with h1 | h1 | ⟨h1, h2, h3⟩ | ⟨h1, h2, h3, h4⟩
        · go_wp2
          go_meet
          exact ⟨rfl, rfl⟩
        · go_wp2
          go_meet
          exact ⟨rfl, rfl⟩
        · have hd : B.toList.isEmpty = true := by unfold runs at h3; simpa using h3
          go_wp2
          go_meet
          exact ⟨rfl, rfl⟩
        · have hd : B.toList.isEmpty = false := by unfold runs at h3; simpa using h3
          have hP := pow_at T j h1 h2
          have HP := Lib.hid h4
          clear h4
          go_wp2
          go_meet
          exact ⟨by rw [decide_eq_false (by have := HP.out; omega)], rfl⟩
    case rest =>
      obtain ⟨rfl, rfl⟩ := hcut
      cases D with
      | true =>
        have hjK : j < K := of_decide_eq_true HD.out
        obtain ⟨h1, h2, h3, h4⟩ := HK2.out j hjK
        have hP := pow_at T j h1 h2
        have HS := Lib.hid (upF_snoc T.toNat j)
        obtain ⟨P, hPP⟩ : ∃ P : Int, (2 : Int) ^ (T.toNat + j) = P := ⟨_, rfl⟩
        rw [hPP] at hP HS
        clear hPP h4
        go_wp2_with (at_builtin; refine wpList_append_own _ rfl (.tmp 54) (.tmp 58) 26 rfl (w.heap.size + 1) 3 i0 (.int .i64 0) 1 8 Try.underlying26 hi hz0 hz1 hz2 rfl (by decide) _ j _ rfl (HRow.out.alloc _) ⟨wr.heap.size, 0, none⟩ 1 1 [.int .i64 P] rfl rfl (cell_one_new _ _ _) (by simp [Value.oneCell']) (by unfold maxLen; omega) (by omega) (by simp; omega) ?_; intro v3 w3 hr3 hg3 _; obtain ⟨g3, c3, rfl⟩ := ownsRow_succ hr3)
        have hoff := row_off (r := some w.heap.size) HRow.out (fun q e => by cases e; omega)
        have ua := Up.alloc (Up.refl wr) (.cells #[.int .i64 P] 3)
        have hg3b : (wr.alloc (.cells #[.int .i64 P] 3)).grownBy w3 (Value.slice a j c).ownBlock := hg3
        have hb2 := (ua.block _ (lt_of_block HB.out)).trans HB.out
        have hb3 := (hg3b.block _ (lt_of_block hb2) (fun e => hoff.elim (fun h => (by rw [h] at e; cases e)) (fun h => h e.symm))).trans hb2
        have hu3 : Up w w3 := up_row (HUp.out.trans ua) (ownsRow_up HRow.out ua) hg3b (by omega)
        go_roundw
        case rel => exact ⟨j + 1, _, _, by omega, by go_num, rfl, by rw [HS.out, List.map_append]; exact hr3, hb3, hu3⟩
        case measure => simp [intOf]; omega
      | false =>
        obtain rfl : j = K := by have := of_decide_eq_false HD.out; omega
        clear HK2 HK3
        go_wp2_with fail
        with_reducible refine Calls.mono (HT.out _) ?_
        rintro e w5 ⟨a5, c5, rfl, hr5, hU5⟩
        have hb5 := (hU5.block _ (lt_of_block HB.out)).trans HB.out
        have hI5 := Ints.of_row hr5
        have hI6 := (Ints.of_row HRow.out).up hU5
        have u6 := Up.alloc (Up.refl w5) (.cells #[.int .i64 V, .int .i64 H, .string B, .int .i64 S, .int .i64 (T + (j : Int))] 25)
        have hU58 := Up.alloc u6 (.cells #[.int .i64 V, .int .i64 H, .string B, .int .i64 S, .int .i64 (T + (j : Int))] 25)
        have hb6 := (u6.block _ (lt_of_block hb5)).trans hb5
        have h88 := heap_alloc_new w5 (.cells #[.int .i64 V, .int .i64 H, .string B, .int .i64 S, .int .i64 (T + (j : Int))] 25)
        have h8a := heap_alloc_new (w5.alloc (.cells #[.int .i64 V, .int .i64 H, .string B, .int .i64 S, .int .i64 (T + (j : Int))] 25)) (.cells #[.int .i64 V, .int .i64 H, .string B, .int .i64 S, .int .i64 (T + (j : Int))] 25)
        rw [World.size_alloc] at h8a
        have HA8 := Lib.hid h8a
        have H88 := Lib.hid (((Up.alloc (Up.refl _) (.cells #[.int .i64 V, .int .i64 H, .string B, .int .i64 S, .int .i64 (T + (j : Int))] 25)).block _ (lt_of_block h88)).trans h88)
        have HB8 := Lib.hid ((hU58.block _ (lt_of_block hb5)).trans hb5)
        have HUw := Lib.hid ((HUp.out.trans hU5).trans hU58)
        have HI8 := Lib.hid (hI5.up hU58)
        have HJ8 := Lib.hid (hI6.up hU58)
        obtain ⟨z0, z1, z2, z3, z4⟩ := tx_cells hb6
        clear hr5 hU5 hb5 hI5 hI6 u6 hb6 h88 h8a hU58 p0 p1 p2 p3 p4 q0 q1 q2 q3 q4
        go_upto_region 12 with fail
        clear z0 z1 z2 z3 z4
        generalize ((w5.alloc (.cells #[.int .i64 V, .int .i64 H, .string B, .int .i64 S, .int .i64 (T + (j : Int))] 25)).alloc (.cells #[.int .i64 V, .int .i64 H, .string B, .int .i64 S, .int .i64 (T + (j : Int))] 25)) = w8 at HA8 H88 HB8 HUw HI8 HJ8 ⊢
        have RA : Hid (w8.heap[w5.heap.size + 1]? = some (.cells (heC V H B S (T + (j : Int))) 25 (0, 0))) := HA8
        have R8 : Hid (w8.heap[w5.heap.size]? = some (.cells (heC V H B S (T + (j : Int))) 25 (0, 0))) := H88
        have RB : Hid (w8.heap[w.heap.size]? = some (.cells (heC V H B S T) 25 (0, 0))) := HB8
        have HIn : Hid (∀ wx, Up w8 wx → Calls Try.prog 8 #[.slice a5 j c5, .slice a j c] wx fun e w' => e = .returned (.bool true) ∧ Up wx w') := Lib.hid fun wx hu => sameInts0_any _ _ (upF T.toNat j) wx (HI8.out.up hu) (HJ8.out.up hu) (by rw [upF_length]; omega)
        have HAl := Lib.hid (fun wx => heAlive_any wx)
        clear HA8 H88 HB8 HI8 HJ8 HT hone HRow HB HU0 HR0 HUp hsz0 hlt
        generalize w5.heap.size = D8 at RA R8 ⊢
        generalize w.heap.size = D0 at RB ⊢
        generalize hM : T + (j : Int) = M at RA R8 ⊢
        clear hM
        refine region_alongK (fun x => Up w8 x) (.read 0 (.read 1 (.read 3 (.step 2 (.read 4 (.read 5 (.read 6 (.read 7 (.step 8 (.read 9 (.read 10 (.read 11 (.read 12 (.read 13 (.read 14 (.read 15 (.read 16 (.read 18 (.read 19 (.read 20 (.read 21 (.step 17 (.read 22 (.read 23 (.read 24 (.read 25 (.read 26 (.read 27 (.read 29 (.read 30 (.read 31 (.read 32 (.step 28 (.read 33 (.read 34 (.read 35 (.step 36 (.read 37 (.read 38 (.nil)))))))))))))))))))))))))))))))))))))))) (by kernel_rfl) rfl (by kernel_rfl) (by kernel_rfl) (fun c a d v w h => by cases d <;> exact h) (Up.drew1 w8) ?_
        refine alongK_read (.agg (heC V H B S T)) rfl rfl (fun wx hS => ex_loadrow rfl rfl wx 25 (row_up RB.out hS) Try.underlying25 rfl info_he) ?_
        refine alongK_read (.int .i64 N) rfl rfl (fun wx hS => ex_move (by rfl) (by rfl) wx) ?_
        change AlongK _ _ _ _ _ { tmps := #[.agg #[.int .i64 V, .int .i64 H, .string B, .int .i64 S, .int .i64 T], .int .i64 N, .pointer (some ⟨D0, 0, none⟩), _, _, .int .i64 F, .slice a j c, .int .i64 M, .pointer (some ⟨D8, 0, none⟩), .slice a5 j c5, .pointer (some ⟨D8 + 1, 0, none⟩), _, _, _, _, _, _, _, _, _, _, _, _, _, _, _, _, _, _, _, _, _, _, _, _, _, _, _, _, _, _, _, _, _, _, _, _, _, _, _, _, _, _, _, _, _, _, _, _, _, _, _, _, _, _, _, _, _, _, _, _, .agg (heC V H B S T), .int .i64 N, _, _, _, _, _, _, _, _, _, _, _, _, _, _, _, _, _, _, _, _, _, _, _, _, _, _, _, _, _, _, _, _, _, _, _, _], defers := _ } _
        refine alongK_read (.int .i64 F) rfl rfl (fun wx hS => ex_move (by rfl) (by rfl) wx) ?_
        change AlongK _ _ _ _ _ { tmps := #[.agg #[.int .i64 V, .int .i64 H, .string B, .int .i64 S, .int .i64 T], .int .i64 N, .pointer (some ⟨D0, 0, none⟩), _, _, .int .i64 F, .slice a j c, .int .i64 M, .pointer (some ⟨D8, 0, none⟩), .slice a5 j c5, .pointer (some ⟨D8 + 1, 0, none⟩), _, _, _, _, _, _, _, _, _, _, _, _, _, _, _, _, _, _, _, _, _, _, _, _, _, _, _, _, _, _, _, _, _, _, _, _, _, _, _, _, _, _, _, _, _, _, _, _, _, _, _, _, _, _, _, _, _, _, _, _, .agg (heC V H B S T), .int .i64 N, _, .int .i64 F, _, _, _, _, _, _, _, _, _, _, _, _, _, _, _, _, _, _, _, _, _, _, _, _, _, _, _, _, _, _, _, _, _, _], defers := _ } _
        refine alongK_step ?_
        refine opK_call (vs := [.agg (heC V H B S T), .int .i64 N]) rfl rfl rfl (enters_of Try.func7 (by kernel_rfl) rfl) rfl ?_
        with_reducible refine Calls.mono (HFu.out _) ?_
        rintro e y2 ⟨rfl, hy2⟩
        refine ⟨_, rfl, (fun x => Up w8 x), (fun _ h => h), (Up.trans (Up.drew1 w8) hy2), ?_⟩
        change AlongK _ _ _ _ _ { tmps := #[.agg #[.int .i64 V, .int .i64 H, .string B, .int .i64 S, .int .i64 T], .int .i64 N, .pointer (some ⟨D0, 0, none⟩), _, _, .int .i64 F, .slice a j c, .int .i64 M, .pointer (some ⟨D8, 0, none⟩), .slice a5 j c5, .pointer (some ⟨D8 + 1, 0, none⟩), _, _, _, _, _, _, _, _, _, _, _, _, _, _, _, _, _, _, _, _, _, _, _, _, _, _, _, _, _, _, _, _, _, _, _, _, _, _, _, _, _, _, _, _, _, _, _, _, _, _, _, _, _, _, _, _, _, _, _, _, .agg (heC V H B S T), .int .i64 N, .int .i64 F, .int .i64 F, _, _, _, _, _, _, _, _, _, _, _, _, _, _, _, _, _, _, _, _, _, _, _, _, _, _, _, _, _, _, _, _, _, _], defers := _ } _
        refine alongK_read (.bool true) rfl rfl (fun wx hS => ex_eqi rfl (by rfl) (by rfl) (by simp) wx) ?_
        refine alongK_read (.bool true) rfl rfl (fun wx hS => ex_move (by rfl) (by rfl) wx) ?_
        change AlongK _ _ _ _ _ { tmps := #[.agg #[.int .i64 V, .int .i64 H, .string B, .int .i64 S, .int .i64 T], .int .i64 N, .pointer (some ⟨D0, 0, none⟩), _, _, .int .i64 F, .slice a j c, .int .i64 M, .pointer (some ⟨D8, 0, none⟩), .slice a5 j c5, .pointer (some ⟨D8 + 1, 0, none⟩), _, _, _, _, _, _, _, _, _, _, _, _, _, _, _, _, _, _, _, _, _, _, _, _, _, _, _, _, _, _, _, _, _, _, _, _, _, _, _, _, _, _, _, _, _, _, _, _, _, _, _, _, _, _, _, _, _, _, _, _, .agg (heC V H B S T), .int .i64 N, .int .i64 F, .int .i64 F, .bool true, .bool true, _, _, _, _, _, _, _, _, _, _, _, _, _, _, _, _, _, _, _, _, _, _, _, _, _, _, _, _, _, _, _, _], defers := _ } _
        refine alongK_read (.slice a5 j c5) rfl rfl (fun wx hS => ex_move (by rfl) (by rfl) wx) ?_
        refine alongK_read (.slice a j c) rfl rfl (fun wx hS => ex_move (by rfl) (by rfl) wx) ?_
        change AlongK _ _ _ _ _ { tmps := #[.agg #[.int .i64 V, .int .i64 H, .string B, .int .i64 S, .int .i64 T], .int .i64 N, .pointer (some ⟨D0, 0, none⟩), _, _, .int .i64 F, .slice a j c, .int .i64 M, .pointer (some ⟨D8, 0, none⟩), .slice a5 j c5, .pointer (some ⟨D8 + 1, 0, none⟩), _, _, _, _, _, _, _, _, _, _, _, _, _, _, _, _, _, _, _, _, _, _, _, _, _, _, _, _, _, _, _, _, _, _, _, _, _, _, _, _, _, _, _, _, _, _, _, _, _, _, _, _, _, _, _, _, _, _, _, _, .agg (heC V H B S T), .int .i64 N, .int .i64 F, .int .i64 F, .bool true, .bool true, .slice a5 j c5, .slice a j c, _, _, _, _, _, _, _, _, _, _, _, _, _, _, _, _, _, _, _, _, _, _, _, _, _, _, _, _, _, _], defers := _ } _
        refine alongK_step ?_
        refine opK_call (vs := [.slice a5 j c5, .slice a j c]) rfl rfl rfl (enters_of Try.func8 (by kernel_rfl) rfl) rfl ?_
        with_reducible refine Calls.mono (HIn.out _ (Up.trans (Up.drew1 w8) hy2)) ?_
        rintro e y8 ⟨rfl, hy8⟩
        refine ⟨_, rfl, (fun x => Up w8 x), (fun _ h => h), (Up.trans (Up.trans (Up.drew1 w8) hy2) hy8), ?_⟩
        change AlongK _ _ _ _ _ { tmps := #[.agg #[.int .i64 V, .int .i64 H, .string B, .int .i64 S, .int .i64 T], .int .i64 N, .pointer (some ⟨D0, 0, none⟩), _, _, .int .i64 F, .slice a j c, .int .i64 M, .pointer (some ⟨D8, 0, none⟩), .slice a5 j c5, .pointer (some ⟨D8 + 1, 0, none⟩), _, _, _, _, _, _, _, _, _, _, _, _, _, _, _, _, _, _, _, _, _, _, _, _, _, _, _, _, _, _, _, _, _, _, _, _, _, _, _, _, _, _, _, _, _, _, _, _, _, _, _, _, _, _, _, _, _, _, _, _, .agg (heC V H B S T), .int .i64 N, .int .i64 F, .int .i64 F, .bool true, .bool true, .slice a5 j c5, .slice a j c, .bool true, _, _, _, _, _, _, _, _, _, _, _, _, _, _, _, _, _, _, _, _, _, _, _, _, _, _, _, _, _], defers := _ } _
        refine alongK_read (.bool true) rfl rfl (fun wx hS => ex_pickt rfl (by rfl) (by rfl) wx) ?_
        refine alongK_read (.bool true) rfl rfl (fun wx hS => ex_move (by rfl) (by rfl) wx) ?_
        change AlongK _ _ _ _ _ { tmps := #[.agg #[.int .i64 V, .int .i64 H, .string B, .int .i64 S, .int .i64 T], .int .i64 N, .pointer (some ⟨D0, 0, none⟩), _, _, .int .i64 F, .slice a j c, .int .i64 M, .pointer (some ⟨D8, 0, none⟩), .slice a5 j c5, .pointer (some ⟨D8 + 1, 0, none⟩), _, _, _, _, _, _, _, _, _, _, _, _, _, _, _, _, _, _, _, _, _, _, _, _, _, _, _, _, _, _, _, _, _, _, _, _, _, _, _, _, _, _, _, _, _, _, _, _, _, _, _, _, _, _, _, _, _, _, _, _, .agg (heC V H B S T), .int .i64 N, .int .i64 F, .int .i64 F, .bool true, .bool true, .slice a5 j c5, .slice a j c, .bool true, .bool true, .bool true, _, _, _, _, _, _, _, _, _, _, _, _, _, _, _, _, _, _, _, _, _, _, _, _, _, _, _], defers := _ } _
        refine alongK_read (.agg (heC V H B S M)) rfl rfl (fun wx hS => ex_loadrow rfl rfl wx 25 (row_up R8.out hS) Try.underlying25 rfl info_he) ?_
        refine alongK_read (.agg (heC V H B S M)) rfl rfl (fun wx hS => ex_loadrow rfl rfl wx 25 (row_up RA.out hS) Try.underlying25 rfl info_he) ?_
        change AlongK _ _ _ _ _ { tmps := #[.agg #[.int .i64 V, .int .i64 H, .string B, .int .i64 S, .int .i64 T], .int .i64 N, .pointer (some ⟨D0, 0, none⟩), _, _, .int .i64 F, .slice a j c, .int .i64 M, .pointer (some ⟨D8, 0, none⟩), .slice a5 j c5, .pointer (some ⟨D8 + 1, 0, none⟩), _, _, _, _, _, _, _, _, _, _, _, _, _, _, _, _, _, _, _, _, _, _, _, _, _, _, _, _, _, _, _, _, _, _, _, _, _, _, _, _, _, _, _, _, _, _, _, _, _, _, _, _, _, _, _, _, _, _, _, _, .agg (heC V H B S T), .int .i64 N, .int .i64 F, .int .i64 F, .bool true, .bool true, .slice a5 j c5, .slice a j c, .bool true, .bool true, .bool true, .agg (heC V H B S M), .agg (heC V H B S M), _, _, _, _, _, _, _, _, _, _, _, _, _, _, _, _, _, _, _, _, _, _, _, _, _], defers := _ } _
        refine alongK_read (.bool true) rfl rfl (fun wx hS => ex_bin rfl rfl rfl wx (he_eql V H B S M _ _ wx)) ?_
        refine alongK_read (.bool true) rfl rfl (fun wx hS => ex_pickt rfl (by rfl) (by rfl) wx) ?_
        change AlongK _ _ _ _ _ { tmps := #[.agg #[.int .i64 V, .int .i64 H, .string B, .int .i64 S, .int .i64 T], .int .i64 N, .pointer (some ⟨D0, 0, none⟩), _, _, .int .i64 F, .slice a j c, .int .i64 M, .pointer (some ⟨D8, 0, none⟩), .slice a5 j c5, .pointer (some ⟨D8 + 1, 0, none⟩), _, _, _, _, _, _, _, _, _, _, _, _, _, _, _, _, _, _, _, _, _, _, _, _, _, _, _, _, _, _, _, _, _, _, _, _, _, _, _, _, _, _, _, _, _, _, _, _, _, _, _, _, _, _, _, _, _, _, _, _, .agg (heC V H B S T), .int .i64 N, .int .i64 F, .int .i64 F, .bool true, .bool true, .slice a5 j c5, .slice a j c, .bool true, .bool true, .bool true, .agg (heC V H B S M), .agg (heC V H B S M), .bool true, .bool true, _, _, _, _, _, _, _, _, _, _, _, _, _, _, _, _, _, _, _, _, _, _, _], defers := _ } _
        refine alongK_read (.bool true) rfl rfl (fun wx hS => ex_move (by rfl) (by rfl) wx) ?_
        refine alongK_read (.agg (heC V H B S T)) rfl rfl (fun wx hS => ex_loadrow rfl rfl wx 25 (row_up RB.out hS) Try.underlying25 rfl info_he) ?_
        change AlongK _ _ _ _ _ { tmps := #[.agg #[.int .i64 V, .int .i64 H, .string B, .int .i64 S, .int .i64 T], .int .i64 N, .pointer (some ⟨D0, 0, none⟩), _, _, .int .i64 F, .slice a j c, .int .i64 M, .pointer (some ⟨D8, 0, none⟩), .slice a5 j c5, .pointer (some ⟨D8 + 1, 0, none⟩), _, _, _, _, _, _, _, _, _, _, _, _, _, _, _, _, _, _, _, _, _, _, _, _, _, _, _, _, _, _, _, _, _, _, _, _, _, _, _, _, _, _, _, _, _, _, _, _, _, _, _, _, _, _, _, _, _, _, _, _, .agg (heC V H B S T), .int .i64 N, .int .i64 F, .int .i64 F, .bool true, .bool true, .slice a5 j c5, .slice a j c, .bool true, .bool true, .bool true, .agg (heC V H B S M), .agg (heC V H B S M), .bool true, .bool true, .bool true, .agg (heC V H B S T), _, _, _, _, _, _, _, _, _, _, _, _, _, _, _, _, _, _, _, _, _], defers := _ } _
        refine alongK_read (.pointer (some ⟨D0, 0, none⟩)) rfl rfl (fun wx hS => ex_field rfl rfl wx (by simp [go_sem])) ?_
        refine alongK_read (.pointer (some ⟨D0, 2, none⟩)) rfl rfl (fun wx hS => ex_field rfl rfl wx (by simp [go_sem])) ?_
        change AlongK _ _ _ _ _ { tmps := #[.agg #[.int .i64 V, .int .i64 H, .string B, .int .i64 S, .int .i64 T], .int .i64 N, .pointer (some ⟨D0, 0, none⟩), _, _, .int .i64 F, .slice a j c, .int .i64 M, .pointer (some ⟨D8, 0, none⟩), .slice a5 j c5, .pointer (some ⟨D8 + 1, 0, none⟩), _, _, _, _, _, _, _, _, _, _, _, _, _, _, _, _, _, _, _, _, _, _, _, _, _, _, _, _, _, _, _, _, _, _, _, _, _, _, _, _, _, _, _, _, _, _, _, _, _, _, _, _, _, _, _, _, _, _, _, _, .agg (heC V H B S T), .int .i64 N, .int .i64 F, .int .i64 F, .bool true, .bool true, .slice a5 j c5, .slice a j c, .bool true, .bool true, .bool true, .agg (heC V H B S M), .agg (heC V H B S M), .bool true, .bool true, .bool true, .agg (heC V H B S T), _, .pointer (some ⟨D0, 0, none⟩), .pointer (some ⟨D0, 2, none⟩), _, _, _, _, _, _, _, _, _, _, _, _, _, _, _, _, _, _], defers := _ } _
        refine alongK_read (.string B) rfl rfl (fun wx hS => ex_load Try.isAgg9 rfl rfl wx ((tx_cells (row_up RB.out hS)).2.2.1)) ?_
        refine alongK_read (.bool (runs B)) rfl rfl (fun wx hS => ex_bin rfl rfl rfl wx (str_runs B _ _ wx)) ?_
        change AlongK _ _ _ _ _ { tmps := #[.agg #[.int .i64 V, .int .i64 H, .string B, .int .i64 S, .int .i64 T], .int .i64 N, .pointer (some ⟨D0, 0, none⟩), _, _, .int .i64 F, .slice a j c, .int .i64 M, .pointer (some ⟨D8, 0, none⟩), .slice a5 j c5, .pointer (some ⟨D8 + 1, 0, none⟩), _, _, _, _, _, _, _, _, _, _, _, _, _, _, _, _, _, _, _, _, _, _, _, _, _, _, _, _, _, _, _, _, _, _, _, _, _, _, _, _, _, _, _, _, _, _, _, _, _, _, _, _, _, _, _, _, _, _, _, _, .agg (heC V H B S T), .int .i64 N, .int .i64 F, .int .i64 F, .bool true, .bool true, .slice a5 j c5, .slice a j c, .bool true, .bool true, .bool true, .agg (heC V H B S M), .agg (heC V H B S M), .bool true, .bool true, .bool true, .agg (heC V H B S T), _, .pointer (some ⟨D0, 0, none⟩), .pointer (some ⟨D0, 2, none⟩), .string B, .bool (runs B), _, _, _, _, _, _, _, _, _, _, _, _, _, _, _, _], defers := _ } _
        refine alongK_step ?_
        refine opK_call (vs := [.agg (heC V H B S T)]) rfl rfl rfl (enters_of Try.func9 (by kernel_rfl) rfl) rfl ?_
        with_reducible refine Calls.mono (HRu.out _) ?_
        rintro e y17 ⟨rfl, hy17⟩
        refine ⟨_, rfl, (fun x => Up w8 x), (fun _ h => h), (Up.trans (Up.trans (Up.trans (Up.drew1 w8) hy2) hy8) hy17), ?_⟩
        change AlongK _ _ _ _ _ { tmps := #[.agg #[.int .i64 V, .int .i64 H, .string B, .int .i64 S, .int .i64 T], .int .i64 N, .pointer (some ⟨D0, 0, none⟩), _, _, .int .i64 F, .slice a j c, .int .i64 M, .pointer (some ⟨D8, 0, none⟩), .slice a5 j c5, .pointer (some ⟨D8 + 1, 0, none⟩), _, _, _, _, _, _, _, _, _, _, _, _, _, _, _, _, _, _, _, _, _, _, _, _, _, _, _, _, _, _, _, _, _, _, _, _, _, _, _, _, _, _, _, _, _, _, _, _, _, _, _, _, _, _, _, _, _, _, _, _, .agg (heC V H B S T), .int .i64 N, .int .i64 F, .int .i64 F, .bool true, .bool true, .slice a5 j c5, .slice a j c, .bool true, .bool true, .bool true, .agg (heC V H B S M), .agg (heC V H B S M), .bool true, .bool true, .bool true, .agg (heC V H B S T), .bool (runs B), .pointer (some ⟨D0, 0, none⟩), .pointer (some ⟨D0, 2, none⟩), .string B, .bool (runs B), _, _, _, _, _, _, _, _, _, _, _, _, _, _, _, _], defers := _ } _
        refine alongK_read (.bool true) rfl rfl (fun wx hS => ex_bin rfl rfl rfl wx (bool_eql (runs B) _ _ wx)) ?_
        refine alongK_read (.bool true) rfl rfl (fun wx hS => ex_pickt rfl (by rfl) (by rfl) wx) ?_
        change AlongK _ _ _ _ _ { tmps := #[.agg #[.int .i64 V, .int .i64 H, .string B, .int .i64 S, .int .i64 T], .int .i64 N, .pointer (some ⟨D0, 0, none⟩), _, _, .int .i64 F, .slice a j c, .int .i64 M, .pointer (some ⟨D8, 0, none⟩), .slice a5 j c5, .pointer (some ⟨D8 + 1, 0, none⟩), _, _, _, _, _, _, _, _, _, _, _, _, _, _, _, _, _, _, _, _, _, _, _, _, _, _, _, _, _, _, _, _, _, _, _, _, _, _, _, _, _, _, _, _, _, _, _, _, _, _, _, _, _, _, _, _, _, _, _, _, .agg (heC V H B S T), .int .i64 N, .int .i64 F, .int .i64 F, .bool true, .bool true, .slice a5 j c5, .slice a j c, .bool true, .bool true, .bool true, .agg (heC V H B S M), .agg (heC V H B S M), .bool true, .bool true, .bool true, .agg (heC V H B S T), .bool (runs B), .pointer (some ⟨D0, 0, none⟩), .pointer (some ⟨D0, 2, none⟩), .string B, .bool (runs B), .bool true, .bool true, _, _, _, _, _, _, _, _, _, _, _, _, _, _], defers := _ } _
        refine alongK_read (.bool true) rfl rfl (fun wx hS => ex_move (by rfl) (by rfl) wx) ?_
        refine alongK_read (.pointer (some ⟨D0, 0, none⟩)) rfl rfl (fun wx hS => ex_field rfl rfl wx (by simp [go_sem])) ?_
        change AlongK _ _ _ _ _ { tmps := #[.agg #[.int .i64 V, .int .i64 H, .string B, .int .i64 S, .int .i64 T], .int .i64 N, .pointer (some ⟨D0, 0, none⟩), _, _, .int .i64 F, .slice a j c, .int .i64 M, .pointer (some ⟨D8, 0, none⟩), .slice a5 j c5, .pointer (some ⟨D8 + 1, 0, none⟩), _, _, _, _, _, _, _, _, _, _, _, _, _, _, _, _, _, _, _, _, _, _, _, _, _, _, _, _, _, _, _, _, _, _, _, _, _, _, _, _, _, _, _, _, _, _, _, _, _, _, _, _, _, _, _, _, _, _, _, _, .agg (heC V H B S T), .int .i64 N, .int .i64 F, .int .i64 F, .bool true, .bool true, .slice a5 j c5, .slice a j c, .bool true, .bool true, .bool true, .agg (heC V H B S M), .agg (heC V H B S M), .bool true, .bool true, .bool true, .agg (heC V H B S T), .bool (runs B), .pointer (some ⟨D0, 0, none⟩), .pointer (some ⟨D0, 2, none⟩), .string B, .bool (runs B), .bool true, .bool true, .bool true, .pointer (some ⟨D0, 0, none⟩), _, _, _, _, _, _, _, _, _, _, _, _], defers := _ } _
        refine alongK_read (.agg (mkC V H B)) rfl rfl (fun wx hS => ex_ldG rfl rfl (he_mark (row_up RB.out hS))) ?_
        refine alongK_read (.int .i64 N) rfl rfl (fun wx hS => ex_move (by rfl) (by rfl) wx) ?_
        change AlongK _ _ _ _ _ { tmps := #[.agg #[.int .i64 V, .int .i64 H, .string B, .int .i64 S, .int .i64 T], .int .i64 N, .pointer (some ⟨D0, 0, none⟩), _, _, .int .i64 F, .slice a j c, .int .i64 M, .pointer (some ⟨D8, 0, none⟩), .slice a5 j c5, .pointer (some ⟨D8 + 1, 0, none⟩), _, _, _, _, _, _, _, _, _, _, _, _, _, _, _, _, _, _, _, _, _, _, _, _, _, _, _, _, _, _, _, _, _, _, _, _, _, _, _, _, _, _, _, _, _, _, _, _, _, _, _, _, _, _, _, _, _, _, _, _, .agg (heC V H B S T), .int .i64 N, .int .i64 F, .int .i64 F, .bool true, .bool true, .slice a5 j c5, .slice a j c, .bool true, .bool true, .bool true, .agg (heC V H B S M), .agg (heC V H B S M), .bool true, .bool true, .bool true, .agg (heC V H B S T), .bool (runs B), .pointer (some ⟨D0, 0, none⟩), .pointer (some ⟨D0, 2, none⟩), .string B, .bool (runs B), .bool true, .bool true, .bool true, .pointer (some ⟨D0, 0, none⟩), .agg (mkC V H B), .int .i64 N, _, _, _, _, _, _, _, _, _, _], defers := _ } _
        refine alongK_read (.pointer (some ⟨D0, 0, none⟩)) rfl rfl (fun wx hS => ex_field rfl rfl wx (by simp [go_sem])) ?_
        refine alongK_read (.agg (mkC V H B)) rfl rfl (fun wx hS => ex_ldG rfl rfl (he_mark (row_up RB.out hS))) ?_
        change AlongK _ _ _ _ _ { tmps := #[.agg #[.int .i64 V, .int .i64 H, .string B, .int .i64 S, .int .i64 T], .int .i64 N, .pointer (some ⟨D0, 0, none⟩), _, _, .int .i64 F, .slice a j c, .int .i64 M, .pointer (some ⟨D8, 0, none⟩), .slice a5 j c5, .pointer (some ⟨D8 + 1, 0, none⟩), _, _, _, _, _, _, _, _, _, _, _, _, _, _, _, _, _, _, _, _, _, _, _, _, _, _, _, _, _, _, _, _, _, _, _, _, _, _, _, _, _, _, _, _, _, _, _, _, _, _, _, _, _, _, _, _, _, _, _, _, .agg (heC V H B S T), .int .i64 N, .int .i64 F, .int .i64 F, .bool true, .bool true, .slice a5 j c5, .slice a j c, .bool true, .bool true, .bool true, .agg (heC V H B S M), .agg (heC V H B S M), .bool true, .bool true, .bool true, .agg (heC V H B S T), .bool (runs B), .pointer (some ⟨D0, 0, none⟩), .pointer (some ⟨D0, 2, none⟩), .string B, .bool (runs B), .bool true, .bool true, .bool true, .pointer (some ⟨D0, 0, none⟩), .agg (mkC V H B), .int .i64 N, _, .pointer (some ⟨D0, 0, none⟩), .agg (mkC V H B), _, _, _, _, _, _, _], defers := _ } _
        refine alongK_read (.int .i64 N) rfl rfl (fun wx hS => ex_move (by rfl) (by rfl) wx) ?_
        refine alongK_read (.agg (heC V H B N 0)) rfl rfl (fun wx hS => ex_build2 wx wx (he_build V H B N wx) rfl (by rfl) (by rfl)) ?_
        change AlongK _ _ _ _ _ { tmps := #[.agg #[.int .i64 V, .int .i64 H, .string B, .int .i64 S, .int .i64 T], .int .i64 N, .pointer (some ⟨D0, 0, none⟩), _, _, .int .i64 F, .slice a j c, .int .i64 M, .pointer (some ⟨D8, 0, none⟩), .slice a5 j c5, .pointer (some ⟨D8 + 1, 0, none⟩), _, _, _, _, _, _, _, _, _, _, _, _, _, _, _, _, _, _, _, _, _, _, _, _, _, _, _, _, _, _, _, _, _, _, _, _, _, _, _, _, _, _, _, _, _, _, _, _, _, _, _, _, _, _, _, _, _, _, _, _, .agg (heC V H B S T), .int .i64 N, .int .i64 F, .int .i64 F, .bool true, .bool true, .slice a5 j c5, .slice a j c, .bool true, .bool true, .bool true, .agg (heC V H B S M), .agg (heC V H B S M), .bool true, .bool true, .bool true, .agg (heC V H B S T), .bool (runs B), .pointer (some ⟨D0, 0, none⟩), .pointer (some ⟨D0, 2, none⟩), .string B, .bool (runs B), .bool true, .bool true, .bool true, .pointer (some ⟨D0, 0, none⟩), .agg (mkC V H B), .int .i64 N, _, .pointer (some ⟨D0, 0, none⟩), .agg (mkC V H B), .int .i64 N, .agg (heC V H B N 0), _, _, _, _, _], defers := _ } _
        refine alongK_step ?_
        refine opK_call (vs := [.agg (mkC V H B), .int .i64 N]) rfl rfl rfl (enters_of Try.func10 (by kernel_rfl) rfl) rfl ?_
        with_reducible refine Calls.mono (HSt.out _) ?_
        rintro e y28 ⟨rfl, hy28⟩
        refine ⟨_, rfl, (fun x => Up w8 x), (fun _ h => h), (Up.trans (Up.trans (Up.trans (Up.trans (Up.drew1 w8) hy2) hy8) hy17) hy28), ?_⟩
        change AlongK _ _ _ _ _ { tmps := #[.agg #[.int .i64 V, .int .i64 H, .string B, .int .i64 S, .int .i64 T], .int .i64 N, .pointer (some ⟨D0, 0, none⟩), _, _, .int .i64 F, .slice a j c, .int .i64 M, .pointer (some ⟨D8, 0, none⟩), .slice a5 j c5, .pointer (some ⟨D8 + 1, 0, none⟩), _, _, _, _, _, _, _, _, _, _, _, _, _, _, _, _, _, _, _, _, _, _, _, _, _, _, _, _, _, _, _, _, _, _, _, _, _, _, _, _, _, _, _, _, _, _, _, _, _, _, _, _, _, _, _, _, _, _, _, _, .agg (heC V H B S T), .int .i64 N, .int .i64 F, .int .i64 F, .bool true, .bool true, .slice a5 j c5, .slice a j c, .bool true, .bool true, .bool true, .agg (heC V H B S M), .agg (heC V H B S M), .bool true, .bool true, .bool true, .agg (heC V H B S T), .bool (runs B), .pointer (some ⟨D0, 0, none⟩), .pointer (some ⟨D0, 2, none⟩), .string B, .bool (runs B), .bool true, .bool true, .bool true, .pointer (some ⟨D0, 0, none⟩), .agg (mkC V H B), .int .i64 N, .agg (heC V H B N 0), .pointer (some ⟨D0, 0, none⟩), .agg (mkC V H B), .int .i64 N, .agg (heC V H B N 0), _, _, _, _, _], defers := _ } _
        refine alongK_read (.bool true) rfl rfl (fun wx hS => ex_bin rfl rfl rfl wx (he_eql V H B N 0 _ _ wx)) ?_
        refine alongK_read (.bool true) rfl rfl (fun wx hS => ex_pickt rfl (by rfl) (by rfl) wx) ?_
        change AlongK _ _ _ _ _ { tmps := #[.agg #[.int .i64 V, .int .i64 H, .string B, .int .i64 S, .int .i64 T], .int .i64 N, .pointer (some ⟨D0, 0, none⟩), _, _, .int .i64 F, .slice a j c, .int .i64 M, .pointer (some ⟨D8, 0, none⟩), .slice a5 j c5, .pointer (some ⟨D8 + 1, 0, none⟩), _, _, _, _, _, _, _, _, _, _, _, _, _, _, _, _, _, _, _, _, _, _, _, _, _, _, _, _, _, _, _, _, _, _, _, _, _, _, _, _, _, _, _, _, _, _, _, _, _, _, _, _, _, _, _, _, _, _, _, _, .agg (heC V H B S T), .int .i64 N, .int .i64 F, .int .i64 F, .bool true, .bool true, .slice a5 j c5, .slice a j c, .bool true, .bool true, .bool true, .agg (heC V H B S M), .agg (heC V H B S M), .bool true, .bool true, .bool true, .agg (heC V H B S T), .bool (runs B), .pointer (some ⟨D0, 0, none⟩), .pointer (some ⟨D0, 2, none⟩), .string B, .bool (runs B), .bool true, .bool true, .bool true, .pointer (some ⟨D0, 0, none⟩), .agg (mkC V H B), .int .i64 N, .agg (heC V H B N 0), .pointer (some ⟨D0, 0, none⟩), .agg (mkC V H B), .int .i64 N, .agg (heC V H B N 0), .bool true, .bool true, _, _, _], defers := _ } _
        refine alongK_read (.bool true) rfl rfl (fun wx hS => ex_move (by rfl) (by rfl) wx) ?_
        change AlongK _ _ _ _ _ { tmps := #[.agg #[.int .i64 V, .int .i64 H, .string B, .int .i64 S, .int .i64 T], .int .i64 N, .pointer (some ⟨D0, 0, none⟩), _, _, .int .i64 F, .slice a j c, .int .i64 M, .pointer (some ⟨D8, 0, none⟩), .slice a5 j c5, .pointer (some ⟨D8 + 1, 0, none⟩), _, _, _, _, _, _, _, _, _, _, _, _, _, _, _, _, _, _, _, _, _, _, _, _, _, _, _, _, _, _, _, _, _, _, _, _, _, _, _, _, _, _, _, _, _, _, _, _, _, _, _, _, _, _, _, _, _, _, _, _, .agg (heC V H B S T), .int .i64 N, .int .i64 F, .int .i64 F, .bool true, .bool true, .slice a5 j c5, .slice a j c, .bool true, .bool true, .bool true, .agg (heC V H B S M), .agg (heC V H B S M), .bool true, .bool true, .bool true, .agg (heC V H B S T), .bool (runs B), .pointer (some ⟨D0, 0, none⟩), .pointer (some ⟨D0, 2, none⟩), .string B, .bool (runs B), .bool true, .bool true, .bool true, .pointer (some ⟨D0, 0, none⟩), .agg (mkC V H B), .int .i64 N, .agg (heC V H B N 0), .pointer (some ⟨D0, 0, none⟩), .agg (mkC V H B), .int .i64 N, .agg (heC V H B N 0), .bool true, .bool true, .bool true, _, _], defers := _ } _
        refine alongK_step ?_
        refine opK_call (vs := []) rfl rfl rfl (enters_of Try.func11 (by kernel_rfl) rfl) rfl ?_
        with_reducible refine Calls.mono (HAl.out _) ?_
        rintro e y36 ⟨rfl, hy36⟩
        refine ⟨_, rfl, (fun x => Up w8 x), (fun _ h => h), (Up.trans (Up.trans (Up.trans (Up.trans (Up.trans (Up.drew1 w8) hy2) hy8) hy17) hy28) hy36), ?_⟩
        change AlongK _ _ _ _ _ { tmps := #[.agg #[.int .i64 V, .int .i64 H, .string B, .int .i64 S, .int .i64 T], .int .i64 N, .pointer (some ⟨D0, 0, none⟩), _, _, .int .i64 F, .slice a j c, .int .i64 M, .pointer (some ⟨D8, 0, none⟩), .slice a5 j c5, .pointer (some ⟨D8 + 1, 0, none⟩), _, _, _, _, _, _, _, _, _, _, _, _, _, _, _, _, _, _, _, _, _, _, _, _, _, _, _, _, _, _, _, _, _, _, _, _, _, _, _, _, _, _, _, _, _, _, _, _, _, _, _, _, _, _, _, _, _, _, _, _, .agg (heC V H B S T), .int .i64 N, .int .i64 F, .int .i64 F, .bool true, .bool true, .slice a5 j c5, .slice a j c, .bool true, .bool true, .bool true, .agg (heC V H B S M), .agg (heC V H B S M), .bool true, .bool true, .bool true, .agg (heC V H B S T), .bool (runs B), .pointer (some ⟨D0, 0, none⟩), .pointer (some ⟨D0, 2, none⟩), .string B, .bool (runs B), .bool true, .bool true, .bool true, .pointer (some ⟨D0, 0, none⟩), .agg (mkC V H B), .int .i64 N, .agg (heC V H B N 0), .pointer (some ⟨D0, 0, none⟩), .agg (mkC V H B), .int .i64 N, .agg (heC V H B N 0), .bool true, .bool true, .bool true, .bool true, _], defers := _ } _
        refine alongK_read (.bool true) rfl rfl (fun wx hS => ex_pickt rfl (by rfl) (by rfl) wx) ?_
        refine alongK_read (.bool true) rfl rfl (fun wx hS => ex_assign (by rfl) (by rfl) wx) ?_
        change AlongK _ _ _ _ _ { tmps := #[.agg #[.int .i64 V, .int .i64 H, .string B, .int .i64 S, .int .i64 T], .int .i64 N, .pointer (some ⟨D0, 0, none⟩), _, .bool true, .int .i64 F, .slice a j c, .int .i64 M, .pointer (some ⟨D8, 0, none⟩), .slice a5 j c5, .pointer (some ⟨D8 + 1, 0, none⟩), _, _, _, _, _, _, _, _, _, _, _, _, _, _, _, _, _, _, _, _, _, _, _, _, _, _, _, _, _, _, _, _, _, _, _, _, _, _, _, _, _, _, _, _, _, _, _, _, _, _, _, _, _, _, _, _, _, _, _, _, .agg (heC V H B S T), .int .i64 N, .int .i64 F, .int .i64 F, .bool true, .bool true, .slice a5 j c5, .slice a j c, .bool true, .bool true, .bool true, .agg (heC V H B S M), .agg (heC V H B S M), .bool true, .bool true, .bool true, .agg (heC V H B S T), .bool (runs B), .pointer (some ⟨D0, 0, none⟩), .pointer (some ⟨D0, 2, none⟩), .string B, .bool (runs B), .bool true, .bool true, .bool true, .pointer (some ⟨D0, 0, none⟩), .agg (mkC V H B), .int .i64 N, .agg (heC V H B N 0), .pointer (some ⟨D0, 0, none⟩), .agg (mkC V H B), .int .i64 N, .agg (heC V H B N 0), .bool true, .bool true, .bool true, .bool true, .bool true], defers := _ } _
        refine alongK_done ?_
        have HEND := Lib.hid (HUw.out.trans (Up.trans (Up.trans (Up.trans (Up.trans (Up.trans (Up.drew1 w8) hy2) hy8) hy17) hy28) hy36))
        go_wp2
        go_ret
        exact ⟨rfl, HEND.out⟩
end Go.Proofs.Ytmjcjbiengcigaa
