import Derived.Test.YtnnjoeppcbbblaaCtCheck
/-
  CertRanks: the walk returns true.
-/
namespace Go.Proofs.Ytnnjoeppcbbblaa
set_option maxRecDepth 100000
section
set_option linter.unusedVariables false
open Go.RowKit

set_option maxHeartbeats 4000000 in
theorem lawCertRanks_any (V1 H1 : Int) (B1 : ByteArray) (V2 H2 : Int) (B2 : ByteArray) (V3 H3 : Int) (B3 : ByteArray) (w : World) :
    Calls Try.prog 4 #[.agg (mkC V1 H1 B1), .agg (mkC V2 H2 B2), .agg (mkC V3 H3 B3)] w fun e w' => e = .returned (.bool true) ∧ Up w w' := by
  unfold mkC
  have Hxy := Lib.hid (fun wx => higher_any V1 H1 B1 V2 H2 B2 wx)
  have Hyx := Lib.hid (fun wx => higher_any V2 H2 B2 V1 H1 B1 wx)
  have Hyz := Lib.hid (fun wx => higher_any V2 H2 B2 V3 H3 B3 wx)
  have Hxz := Lib.hid (fun wx => higher_any V1 H1 B1 V3 H3 B3 wx)
  have F1 : ¬ (hiB V1 H1 V2 H2 = true ∧ hiB V2 H2 V1 H1 = true) := by simp only [hiB, decide_eq_true_eq]; omega
  have F2 : hiB V1 H1 V2 H2 = true ∨ hiB V2 H2 V1 H1 = true ∨ (V1 = V2 ∧ H1 = H2) := by simp only [hiB, decide_eq_true_eq]; omega
  have F3 : (hiB V1 H1 V2 H2 = true ∨ hiB V2 H2 V1 H1 = true) → ¬ (V1 = V2 ∧ H1 = H2) := by simp only [hiB, decide_eq_true_eq]; omega
  have F4 : hiB V1 H1 V2 H2 = true → hiB V2 H2 V3 H3 = true → hiB V1 H1 V3 H3 = true := by simp only [hiB, decide_eq_true_eq]; omega
  generalize hiB V1 H1 V2 H2 = X at Hxy F1 F2 F3 F4
  generalize hiB V2 H2 V1 H1 = Y at Hyx F1 F2 F3
  generalize hiB V2 H2 V3 H3 = YZ at Hyz F4
  generalize hiB V1 H1 V3 H3 = XZ at Hxz F4
  unfold mkC at Hxy Hyx Hyz Hxz
  have h0 := heap_alloc_new w (.cells #[.int .i64 V1, .int .i64 H1, .string B1] 24)
  have h1 := heap_alloc_new (w.alloc (.cells #[.int .i64 V1, .int .i64 H1, .string B1] 24)) (.cells #[.int .i64 V2, .int .i64 H2, .string B2] 24)
  have h2 := heap_alloc_new ((w.alloc (.cells #[.int .i64 V1, .int .i64 H1, .string B1] 24)).alloc (.cells #[.int .i64 V2, .int .i64 H2, .string B2] 24)) (.cells #[.int .i64 V3, .int .i64 H3, .string B3] 24)
  have u1 := Up.alloc (Up.refl (w.alloc (.cells #[.int .i64 V1, .int .i64 H1, .string B1] 24))) (.cells #[.int .i64 V2, .int .i64 H2, .string B2] 24)
  have u2 := Up.alloc (Up.refl ((w.alloc (.cells #[.int .i64 V1, .int .i64 H1, .string B1] 24)).alloc (.cells #[.int .i64 V2, .int .i64 H2, .string B2] 24))) (.cells #[.int .i64 V3, .int .i64 H3, .string B3] 24)
  have HA0 := Lib.hid (((Up.trans u1 u2).block _ (lt_of_block h0)).trans h0)
  have hB0 := (u2.block _ (lt_of_block h1)).trans h1
  rw [show (w.alloc (.cells #[.int .i64 V1, .int .i64 H1, .string B1] 24)).heap.size = w.heap.size + 1 by simp] at hB0
  rw [show ((w.alloc (.cells #[.int .i64 V1, .int .i64 H1, .string B1] 24)).alloc (.cells #[.int .i64 V2, .int .i64 H2, .string B2] 24)).heap.size = w.heap.size + 1 + 1 by simp] at h2
  have HB0 := Lib.hid hB0
  have HC0 := Lib.hid h2
  have HUz := Lib.hid (Up.trans (Up.alloc (Up.refl w) (.cells #[.int .i64 V1, .int .i64 H1, .string B1] 24)) (Up.trans u1 u2))
  clear h0 h1 h2 u1 u2 hB0
  go_enter Try.func4, Try.ntmps4
  go_wp2_with fail
  generalize w.heap.size + 1 + 1 = CB at HC0 ⊢
  generalize w.heap.size + 1 = BB at HB0 ⊢
  generalize w.heap.size = AB at HA0 ⊢
  generalize ((w.alloc (.cells #[.int .i64 V1, .int .i64 H1, .string B1] 24)).alloc (.cells #[.int .i64 V2, .int .i64 H2, .string B2] 24)).alloc (.cells #[.int .i64 V3, .int .i64 H3, .string B3] 24) = wy at HA0 HB0 HC0 HUz ⊢
  with_reducible refine Calls.mono (ctAlive_any _) ?_
  rintro e wz ⟨rfl, hUz⟩
  have HA : Hid (∀ wx, Up wz wx → wx.heap[AB]? = some (.cells #[.int .i64 V1, .int .i64 H1, .string B1] 24 (0, 0))) := fun wx hu => ((Up.trans hUz hu).block _ (lt_of_block HA0.out)).trans HA0.out
  have HB : Hid (∀ wx, Up wz wx → wx.heap[BB]? = some (.cells #[.int .i64 V2, .int .i64 H2, .string B2] 24 (0, 0))) := fun wx hu => ((Up.trans hUz hu).block _ (lt_of_block HB0.out)).trans HB0.out
  have HC : Hid (∀ wx, Up wz wx → wx.heap[CB]? = some (.cells #[.int .i64 V3, .int .i64 H3, .string B3] 24 (0, 0))) := fun wx hu => ((Up.trans hUz hu).block _ (lt_of_block HC0.out)).trans HC0.out
  have HUw := Lib.hid (Up.trans HUz.out hUz)
  clear hUz HA0 HB0 HC0 HUz
  go_wp2_with fail
  have hU0 := Up.drew1 wz
  refine region_alongK (fun x => Up wz.drew x) (.read 0 (.read 1 (.read 3 (.read 4 (.step 2 (.step 5 (.read 6 (.read 7 (.nil))))))))) (by kernel_rfl) rfl (by kernel_rfl) (by kernel_rfl) (fun c a d v w h => by cases d <;> exact h) (Up.refl _) ?_
  refine alongK_read (.agg #[.int .i64 V1, .int .i64 H1, .string B1]) rfl rfl (fun wx hS => ex_loadrow rfl rfl wx 24 (HA.out wx (Up.trans hU0 hS)) Try.underlying24 rfl info_mk) ?_
  change AlongK _ _ _ _ _ { tmps := #[.agg #[.int .i64 V1, .int .i64 H1, .string B1], .agg #[.int .i64 V2, .int .i64 H2, .string B2], .agg #[.int .i64 V3, .int .i64 H3, .string B3], .pointer (some ⟨AB, 0, none⟩), .pointer (some ⟨BB, 0, none⟩), .pointer (some ⟨CB, 0, none⟩), .bool false, _, _, _, .bool true, .bool false, .agg #[.int .i64 V1, .int .i64 H1, .string B1], _, _, _, _, _, _, _, _, _, _, _, _, _, _, _, _, _, _, _, _, _, _, _, _, _, _, _, _, _, _, _, _, _, _, _, _, _, _, _, _, _, _], defers := _ } _
  refine alongK_read (.agg #[.int .i64 V2, .int .i64 H2, .string B2]) rfl rfl (fun wx hS => ex_loadrow rfl rfl wx 24 (HB.out wx (Up.trans hU0 hS)) Try.underlying24 rfl info_mk) ?_
  change AlongK _ _ _ _ _ { tmps := #[.agg #[.int .i64 V1, .int .i64 H1, .string B1], .agg #[.int .i64 V2, .int .i64 H2, .string B2], .agg #[.int .i64 V3, .int .i64 H3, .string B3], .pointer (some ⟨AB, 0, none⟩), .pointer (some ⟨BB, 0, none⟩), .pointer (some ⟨CB, 0, none⟩), .bool false, _, _, _, .bool true, .bool false, .agg #[.int .i64 V1, .int .i64 H1, .string B1], .agg #[.int .i64 V2, .int .i64 H2, .string B2], _, _, _, _, _, _, _, _, _, _, _, _, _, _, _, _, _, _, _, _, _, _, _, _, _, _, _, _, _, _, _, _, _, _, _, _, _, _, _, _, _], defers := _ } _
  refine alongK_read (.agg #[.int .i64 V2, .int .i64 H2, .string B2]) rfl rfl (fun wx hS => ex_loadrow rfl rfl wx 24 (HB.out wx (Up.trans hU0 hS)) Try.underlying24 rfl info_mk) ?_
  change AlongK _ _ _ _ _ { tmps := #[.agg #[.int .i64 V1, .int .i64 H1, .string B1], .agg #[.int .i64 V2, .int .i64 H2, .string B2], .agg #[.int .i64 V3, .int .i64 H3, .string B3], .pointer (some ⟨AB, 0, none⟩), .pointer (some ⟨BB, 0, none⟩), .pointer (some ⟨CB, 0, none⟩), .bool false, _, _, _, .bool true, .bool false, .agg #[.int .i64 V1, .int .i64 H1, .string B1], .agg #[.int .i64 V2, .int .i64 H2, .string B2], _, .agg #[.int .i64 V2, .int .i64 H2, .string B2], _, _, _, _, _, _, _, _, _, _, _, _, _, _, _, _, _, _, _, _, _, _, _, _, _, _, _, _, _, _, _, _, _, _, _, _, _, _, _], defers := _ } _
  refine alongK_read (.agg #[.int .i64 V1, .int .i64 H1, .string B1]) rfl rfl (fun wx hS => ex_loadrow rfl rfl wx 24 (HA.out wx (Up.trans hU0 hS)) Try.underlying24 rfl info_mk) ?_
  change AlongK _ _ _ _ _ { tmps := #[.agg #[.int .i64 V1, .int .i64 H1, .string B1], .agg #[.int .i64 V2, .int .i64 H2, .string B2], .agg #[.int .i64 V3, .int .i64 H3, .string B3], .pointer (some ⟨AB, 0, none⟩), .pointer (some ⟨BB, 0, none⟩), .pointer (some ⟨CB, 0, none⟩), .bool false, _, _, _, .bool true, .bool false, .agg #[.int .i64 V1, .int .i64 H1, .string B1], .agg #[.int .i64 V2, .int .i64 H2, .string B2], _, .agg #[.int .i64 V2, .int .i64 H2, .string B2], .agg #[.int .i64 V1, .int .i64 H1, .string B1], _, _, _, _, _, _, _, _, _, _, _, _, _, _, _, _, _, _, _, _, _, _, _, _, _, _, _, _, _, _, _, _, _, _, _, _, _, _], defers := _ } _
  refine alongK_step ?_
  refine opK_call (vs := [.agg #[.int .i64 V1, .int .i64 H1, .string B1], .agg #[.int .i64 V2, .int .i64 H2, .string B2]]) rfl rfl rfl (enters_of Try.func9 (by kernel_rfl) rfl) rfl ?_
  with_reducible refine Calls.mono (Hxy.out _) ?_
  rintro e w2 ⟨rfl, hU2⟩
  have hU0 := Up.trans hU0 hU2
  refine ⟨_, rfl, (fun x => Up w2 x), (fun x hx => Up.trans hU2 hx), (Up.refl w2), ?_⟩
  change AlongK _ _ _ _ _ { tmps := #[.agg #[.int .i64 V1, .int .i64 H1, .string B1], .agg #[.int .i64 V2, .int .i64 H2, .string B2], .agg #[.int .i64 V3, .int .i64 H3, .string B3], .pointer (some ⟨AB, 0, none⟩), .pointer (some ⟨BB, 0, none⟩), .pointer (some ⟨CB, 0, none⟩), .bool false, _, _, _, .bool true, .bool false, .agg #[.int .i64 V1, .int .i64 H1, .string B1], .agg #[.int .i64 V2, .int .i64 H2, .string B2], .bool X, .agg #[.int .i64 V2, .int .i64 H2, .string B2], .agg #[.int .i64 V1, .int .i64 H1, .string B1], _, _, _, _, _, _, _, _, _, _, _, _, _, _, _, _, _, _, _, _, _, _, _, _, _, _, _, _, _, _, _, _, _, _, _, _, _, _], defers := _ } _
  refine alongK_step ?_
  refine opK_call (vs := [.agg #[.int .i64 V2, .int .i64 H2, .string B2], .agg #[.int .i64 V1, .int .i64 H1, .string B1]]) rfl rfl rfl (enters_of Try.func9 (by kernel_rfl) rfl) rfl ?_
  with_reducible refine Calls.mono (Hyx.out _) ?_
  rintro e w5 ⟨rfl, hU5⟩
  have hU0 := Up.trans hU0 hU5
  refine ⟨_, rfl, (fun x => Up w5 x), (fun x hx => Up.trans hU5 hx), (Up.refl w5), ?_⟩
  change AlongK _ _ _ _ _ { tmps := #[.agg #[.int .i64 V1, .int .i64 H1, .string B1], .agg #[.int .i64 V2, .int .i64 H2, .string B2], .agg #[.int .i64 V3, .int .i64 H3, .string B3], .pointer (some ⟨AB, 0, none⟩), .pointer (some ⟨BB, 0, none⟩), .pointer (some ⟨CB, 0, none⟩), .bool false, _, _, _, .bool true, .bool false, .agg #[.int .i64 V1, .int .i64 H1, .string B1], .agg #[.int .i64 V2, .int .i64 H2, .string B2], .bool X, .agg #[.int .i64 V2, .int .i64 H2, .string B2], .agg #[.int .i64 V1, .int .i64 H1, .string B1], .bool Y, _, _, _, _, _, _, _, _, _, _, _, _, _, _, _, _, _, _, _, _, _, _, _, _, _, _, _, _, _, _, _, _, _, _, _, _, _], defers := _ } _
  refine alongK_read (.bool X) rfl rfl (fun wx hS => ex_assign (by rfl) (by rfl) wx) ?_
  change AlongK _ _ _ _ _ { tmps := #[.agg #[.int .i64 V1, .int .i64 H1, .string B1], .agg #[.int .i64 V2, .int .i64 H2, .string B2], .agg #[.int .i64 V3, .int .i64 H3, .string B3], .pointer (some ⟨AB, 0, none⟩), .pointer (some ⟨BB, 0, none⟩), .pointer (some ⟨CB, 0, none⟩), .bool false, .bool X, _, _, .bool true, .bool false, .agg #[.int .i64 V1, .int .i64 H1, .string B1], .agg #[.int .i64 V2, .int .i64 H2, .string B2], .bool X, .agg #[.int .i64 V2, .int .i64 H2, .string B2], .agg #[.int .i64 V1, .int .i64 H1, .string B1], .bool Y, _, _, _, _, _, _, _, _, _, _, _, _, _, _, _, _, _, _, _, _, _, _, _, _, _, _, _, _, _, _, _, _, _, _, _, _, _], defers := _ } _
  refine alongK_read (.bool Y) rfl rfl (fun wx hS => ex_assign (by rfl) (by rfl) wx) ?_
  change AlongK _ _ _ _ _ { tmps := #[.agg #[.int .i64 V1, .int .i64 H1, .string B1], .agg #[.int .i64 V2, .int .i64 H2, .string B2], .agg #[.int .i64 V3, .int .i64 H3, .string B3], .pointer (some ⟨AB, 0, none⟩), .pointer (some ⟨BB, 0, none⟩), .pointer (some ⟨CB, 0, none⟩), .bool false, .bool X, .bool Y, _, .bool true, .bool false, .agg #[.int .i64 V1, .int .i64 H1, .string B1], .agg #[.int .i64 V2, .int .i64 H2, .string B2], .bool X, .agg #[.int .i64 V2, .int .i64 H2, .string B2], .agg #[.int .i64 V1, .int .i64 H1, .string B1], .bool Y, _, _, _, _, _, _, _, _, _, _, _, _, _, _, _, _, _, _, _, _, _, _, _, _, _, _, _, _, _, _, _, _, _, _, _, _, _], defers := _ } _
  refine alongK_done ?_
  have HW5 := Lib.hid hU0
  clear hU0 hU2 hU5
  have ha := HA.out w5 HW5.out
  have hb := HB.out w5 HW5.out
  have hc := HC.out w5 HW5.out
  obtain ⟨a0, a1, a2⟩ := mk_cells ha
  obtain ⟨b0, b1, b2⟩ := mk_cells hb
  obtain ⟨c0, c1, c2⟩ := mk_cells hc
  clear ha hb hc
  by_cases hX : X = true
  · subst hX
    have hY : Y = false := by cases Y with | false => rfl | true => exact absurd ⟨rfl, rfl⟩ F1
    subst hY
    have hne := F3 (.inl rfl)
    have finish : ∀ (wx : World), Up w5 wx → Up w wx := fun wx hu => Up.trans HUw.out (Up.trans HW5.out hu)
    have FIN := Lib.hid finish
    clear F1 F2 F3 finish
    by_cases hv : V1 = V2
    · have e1 : (H1 == H2) = false := by rw [beq_eq_false_iff_ne]; exact fun h => hne ⟨hv, h⟩
      subst hv
      clear hne
      cases YZ with
      | false =>
        go_wp2_with fail
        with_reducible refine Calls.mono (Hyz.out _) ?_
        rintro e w6 ⟨rfl, hU6⟩
        go_wp2
        go_ret
        exact ⟨rfl, FIN.out _ hU6⟩
      | true =>
        have hz := F4 rfl rfl
        subst hz
        go_wp2_with fail
        with_reducible refine Calls.mono (Hyz.out _) ?_
        rintro e w6 ⟨rfl, hU6⟩
        have HU6 := Lib.hid hU6
        have ha := (hU6.block _ (lt_of_block (HA.out w5 HW5.out))).trans (HA.out w5 HW5.out)
        have hc := (hU6.block _ (lt_of_block (HC.out w5 HW5.out))).trans (HC.out w5 HW5.out)
        clear a0 a1 a2 b0 b1 b2 c0 c1 c2 hU6
        obtain ⟨a0, a1, a2⟩ := mk_cells ha
        obtain ⟨c0, c1, c2⟩ := mk_cells hc
        clear ha hc
        go_wp2_with fail
        with_reducible refine Calls.mono (Hxz.out _) ?_
        rintro e w7 ⟨rfl, hU7⟩
        go_wp2
        go_ret
        exact ⟨rfl, FIN.out _ (Up.trans HU6.out hU7)⟩
    · have e1 : (V1 == V2) = false := by rw [beq_eq_false_iff_ne]; exact hv
      clear hne
      cases YZ with
      | false =>
        go_wp2_with fail
        with_reducible refine Calls.mono (Hyz.out _) ?_
        rintro e w6 ⟨rfl, hU6⟩
        go_wp2
        go_ret
        exact ⟨rfl, FIN.out _ hU6⟩
      | true =>
        have hz := F4 rfl rfl
        subst hz
        go_wp2_with fail
        with_reducible refine Calls.mono (Hyz.out _) ?_
        rintro e w6 ⟨rfl, hU6⟩
        have HU6 := Lib.hid hU6
        have ha := (hU6.block _ (lt_of_block (HA.out w5 HW5.out))).trans (HA.out w5 HW5.out)
        have hc := (hU6.block _ (lt_of_block (HC.out w5 HW5.out))).trans (HC.out w5 HW5.out)
        clear a0 a1 a2 b0 b1 b2 c0 c1 c2 hU6
        obtain ⟨a0, a1, a2⟩ := mk_cells ha
        obtain ⟨c0, c1, c2⟩ := mk_cells hc
        clear ha hc
        go_wp2_with fail
        with_reducible refine Calls.mono (Hxz.out _) ?_
        rintro e w7 ⟨rfl, hU7⟩
        go_wp2
        go_ret
        exact ⟨rfl, FIN.out _ (Up.trans HU6.out hU7)⟩
  · have hX : X = false := by simpa using hX
    subst hX
    cases Y with
    | true =>
      have hne := F3 (.inr rfl)
      clear F1 F2 F3 F4
      by_cases hv : V1 = V2
      · have e1 : (H1 == H2) = false := by rw [beq_eq_false_iff_ne]; exact fun h => hne ⟨hv, h⟩
        subst hv
        clear hne
        go_wp2
        go_ret
        exact ⟨rfl, Up.trans HUw.out HW5.out⟩
      · have e1 : (V1 == V2) = false := by rw [beq_eq_false_iff_ne]; exact hv
        clear hne
        go_wp2
        go_ret
        exact ⟨rfl, Up.trans HUw.out HW5.out⟩
    | false =>
      have hs : V1 = V2 ∧ H1 = H2 := by rcases F2 with h | h | h; · cases h
                                        · cases h
                                        · exact h
      obtain ⟨rfl, rfl⟩ := hs
      clear F1 F2 F3 F4
      go_wp2
      go_ret
      exact ⟨rfl, Up.trans HUw.out HW5.out⟩
end
end Go.Proofs.Ytnnjoeppcbbblaa
