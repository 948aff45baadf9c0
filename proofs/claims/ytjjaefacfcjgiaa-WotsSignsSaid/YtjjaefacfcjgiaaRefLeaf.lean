import Derived.Test.YtjjaefacfcjgiaaRefSecret
import Derived.Test.YtjjaefacfcjgiaaGrowS
/-
  The reference: Leaf, Sign.
-/
namespace Go.Proofs.Ytjjaefacfcjgiaa
set_option linter.unusedVariables false
open Go.RowKit

theorem upTo_flat_succ (f : Nat → List Int) (k : Nat) : (upTo f (k + 1)).flatten = (upTo f k).flatten ++ f k := by rw [upTo_succ, List.flatten_append]; simp

set_option maxHeartbeats 1000000 in
theorem refLeaf_any (zs : List Int) (leaf : Int) (w : World) (hu : U8s zs) (hl : zs.length ≤ 140737488355100) (hleaf : -9223372036854775808 ≤ leaf ∧ leaf ≤ 9223372036854775807) :
    Calls Try.prog 16 #[.string (strOfNums zs), .int .i64 leaf] w fun e w' => e = .returned (.string (strOfNums (leafB zs leaf))) ∧ Up w w' := by
  obtain ⟨i0, hi, hz0, hz1, hz2⟩ := info_parts info_u8
  have Hsec : Hid (∀ (k : Nat) wx, k < 11 → Calls Try.prog 14 #[.string (strOfNums zs), .int .i64 leaf, .int .i64 k] wx fun e w' => e = .returned (.string (strOfNums (secretB zs leaf k))) ∧ Up wx w') := fun k wx hk => refSecret_any zs leaf k wx hu hl hleaf (by omega)
  have Hend : Hid (∀ k : Nat, chainB (secretB zs leaf k) (stepsN 3) = leafEnd zs leaf k) := fun k => rfl
  have Hs8 : Hid (∀ k : Nat, (secretB zs leaf k).length = 8) := fun k => secretB_length _ _ _
  have Hsu : Hid (∀ k : Nat, U8s (secretB zs leaf k)) := fun k => secretB_u8s _ _ _
  have HE8 : Hid (∀ k : Nat, (leafEnd zs leaf k).length = 8) := fun k => leafEnd_8 _ _ _
  have HEu : Hid (∀ k : Nat, U8s (leafEnd zs leaf k)) := fun k => leafEnd_u8s _ _ _
  have H8 : Hid ((upTo (leafEnd zs leaf) 11).flatten.length = 88) := upTo_flat _ 11 fun i _ => leafEnd_8 _ _ _
  have H8u : Hid (U8s (upTo (leafEnd zs leaf) 11).flatten) := upTo_u8s _ 11 fun i _ => leafEnd_u8s _ _ _
  rw [← leafB_eq]
  clear hu hl hleaf
  generalize leafEnd zs leaf = E at Hend H8 H8u HE8 HEu ⊢
  obtain ⟨Y, hY⟩ : ∃ Y, shortB (upTo E 11).flatten = Y := ⟨_, rfl⟩
  rw [hY]
  have HY := Lib.hid hY
  clear hY
  go_enter Try.func16, Try.ntmps16
  go_wp2
  go_loopw [5, 6] (fun o i wr => ∃ k m : Nat, k ≤ 11 ∧ m = 8 * k ∧ i = .int .i64 k ∧ wr.ownsRow w.heap.size 5 1 o m ((upTo E k).flatten.map (Value.int .u8)) ∧ Up w wr)
    (fun _ i _ => 11 - (intOf i).toNat)
  case atStart => exact ⟨0, 0, Nat.zero_le _, rfl, rfl, World.ownsRow_nil _ _ _ _, Up.refl w⟩
  case round =>
    obtain ⟨k, m, hk, hm, rfl, hrow, hB⟩ := hrel
    by_cases hlt : k < 11
    · have hs := upTo_flat_succ E k
      have Hs := Lib.hid hs
      have Hrow := Lib.hid hrow
      have Hm := Lib.hid hm
      have hm2 : m ≤ 88 := by omega
      clear hs hrow hm
      go_wp2_with fail
      with_reducible refine Calls.mono (Hsec.out k _ hlt) ?_
      rintro e w1 ⟨rfl, hU1⟩
      have Hch := Lib.hid (refChain_any (secretB zs leaf k) 3 w1 (Hsu.out k) (by rw [Hs8.out k]; omega))
      rw [Hend.out k] at Hch
      go_wp2_with fail
      with_reducible refine Calls.mono Hch.out ?_
      rintro e w2 ⟨rfl, hU2⟩
      have hB2 := Up.trans (Up.trans hB hU1) hU2
      have hrow := ownsRow_up Hrow.out (Up.trans hU1 hU2)
      have hx8 : (strOfNums (E k)).size = 8 := by rw [strOfNums_size]; exact HE8.out k
      have hxc := strCells_of (E k) (HEu.out k)
      have Hxc := Lib.hid hxc
      clear Hch hU1 hU2 hxc
      generalize E k = X at Hs Hxc hx8 ⊢
      go_wp2_with (at_builtin; refine Lib.wpList_append_own_string _ rfl (.tmp 11) (.tmp 16) 22 9 rfl w.heap.size 5 i0 Try.underlying22 Try.underlying9 hi hz0 hz1 hz2 _ m _ rfl hrow (strOfNums X) rfl (by rw [hx8]; unfold maxLen; omega) (by rw [hx8]; omega) hB2.size ?_; intro v3 w3 hr3 hg3 _; rw [Hxc.out, hx8] at hr3)
      go_roundw
      case rel => exact ⟨k + 1, m + 8, by omega, by have := Hm.out; omega, by go_num, by rw [Hs.out, List.map_append]; exact hr3, Below.grown hB2 hg3 hB2.size (fun q e => (hrow.lt q e).1)⟩
      case measure => simp [intOf]; omega
    · obtain rfl : k = 11 := by omega
      have Hj := Lib.hid (refShort_any _ _ wr (Ints.of_row hrow) H8u.out (by rw [H8.out]; omega))
      rw [HY.out] at Hj
      clear hrow hm
      go_wp2_with fail
      with_reducible refine Calls.mono Hj.out ?_
      rintro e w2 ⟨rfl, hU2⟩
      have hB2 := Up.trans hB hU2
      go_wp2
      go_ret
      exact ⟨rfl, hB2⟩

set_option maxHeartbeats 1000000 in
theorem refSign_any (zs : List Int) (leaf : Int) (v : Value) (bs : List Int) (w : World) (hu : U8s zs) (hl : zs.length ≤ 140737488355100) (hleaf : -9223372036854775808 ≤ leaf ∧ leaf ≤ 9223372036854775807) (hv : Ints .u8 w v bs) (hub : U8s bs) (hlb : bs.length ≤ 140737488355200) :
    Calls Try.prog 20 #[.string (strOfNums zs), .int .i64 leaf, v] w fun e w' => ∃ r, e = .returned r ∧ w'.ownsRow w.heap.size 9 1 r 11 (strVs (signB zs leaf bs)) ∧ Up w w' := by
  obtain ⟨i0, hi, hz0, hz1, hz2⟩ := info_parts info_strg
  have Hpa := Lib.hid (refParts_any v bs w hv hub hlb)
  have Hsec : Hid (∀ (k : Nat) wx, k < 11 → Calls Try.prog 14 #[.string (strOfNums zs), .int .i64 leaf, .int .i64 k] wx fun e w' => e = .returned (.string (strOfNums (secretB zs leaf k))) ∧ Up wx w') := fun k wx hk => refSecret_any zs leaf k wx hu hl hleaf (by omega)
  have Hs8 : Hid (∀ k : Nat, (secretB zs leaf k).length = 8) := fun k => secretB_length _ _ _
  have Hsu : Hid (∀ k : Nat, U8s (secretB zs leaf k)) := fun k => secretB_u8s _ _ _
  have Hpl := Lib.hid (partsB_length bs)
  have Hend : Hid (∀ k : Nat, chainB (secretB zs leaf k) (stepsN ((partsB bs)[k]?.getD 0)) = signEnd zs leaf (partsB bs) k) := fun k => rfl
  rw [← signB_eq]
  obtain ⟨a, cap, rfl, _, _, _⟩ := hv
  clear hu hl hleaf hub hlb
  generalize signEnd zs leaf (partsB bs) = E at Hend ⊢
  generalize partsB bs = D at Hpa Hend Hpl
  go_enter Try.func20, Try.ntmps20
  go_wp2_with fail
  with_reducible refine Calls.mono Hpa.out ?_
  rintro e w1 ⟨r1, rfl, hr1, hB1⟩
  obtain ⟨g1, c1, rfl, hc1⟩ := row_slice hr1 (by omega)
  have HI1 := Lib.hid (Ints.of_row hr1)
  clear hr1 Hpa
  go_wp2
  go_loopw [8, 9] (fun o i wr => ∃ k : Nat, k ≤ 11 ∧ i = .int .i64 k ∧ wr.ownsRow w1.heap.size 9 1 o k (strVs (upTo E k)) ∧ Up w1 wr)
    (fun _ i _ => 11 - (intOf i).toNat)
  case atStart => exact ⟨0, Nat.zero_le _, rfl, World.ownsRow_nil _ _ _ _, Up.refl w1⟩
  case round =>
    obtain ⟨k, hk, rfl, hrow, hB⟩ := hrel
    by_cases hlt : k < 11
    · have hs := upTo_succ E k
      have Hs := Lib.hid hs
      have Hrow := Lib.hid hrow
      have hck : ∀ w', Up w1 w' → w'.cell? ⟨g1, 0 + k, none⟩ = some (.int .i64 (D[k]?.getD 0)) := fun w' h => by rw [Nat.zero_add]; exact (HI1.out.up h).at0 k (by rw [Hpl.out]; exact hlt)
      have hend := Hend.out k
      generalize D[k]?.getD 0 = d at hck hend
      have Hck := Lib.hid hck
      have Hd := Lib.hid hend
      clear hs hrow hck hend
      go_wp2
      refine region_alongS (S := Up w1) [(0, true), (1, true), (2, true), (3, true), (5, true), (6, true), (7, true), (8, true), (4, false), (9, false), (10, false), (11, false), (12, true)] (by kernel_rfl) rfl (by kernel_rfl) (by kernel_rfl) (fun c a d v w h => by cases d <;> exact h) (Up.drew hB) ?_
      refine alongS_move (u8) rfl rfl rfl rfl ?_
      change AlongS _ _ _ _ _ { tmps := #[.string (strOfNums zs), .int .i64 leaf, _, _, _, _, _, .slice (some ⟨g1, 0, none⟩) 11 c1, u8, .int .i64 k, _, _, _, _, _, _, u8, _, _, _, _, _, _, _, _, _, _, _, _], defers := _ } _
      refine alongS_move (.string (strOfNums zs)) rfl rfl rfl rfl ?_
      change AlongS _ _ _ _ _ { tmps := #[.string (strOfNums zs), .int .i64 leaf, _, _, _, _, _, .slice (some ⟨g1, 0, none⟩) 11 c1, u8, .int .i64 k, _, _, _, _, _, _, u8, .string (strOfNums zs), _, _, _, _, _, _, _, _, _, _, _], defers := _ } _
      refine alongS_move (.int .i64 leaf) rfl rfl rfl rfl ?_
      change AlongS _ _ _ _ _ { tmps := #[.string (strOfNums zs), .int .i64 leaf, _, _, _, _, _, .slice (some ⟨g1, 0, none⟩) 11 c1, u8, .int .i64 k, _, _, _, _, _, _, u8, .string (strOfNums zs), .int .i64 leaf, _, _, _, _, _, _, _, _, _, _], defers := _ } _
      refine alongS_move (.int .i64 k) rfl rfl rfl rfl ?_
      change AlongS _ _ _ _ _ { tmps := #[.string (strOfNums zs), .int .i64 leaf, _, _, _, _, _, .slice (some ⟨g1, 0, none⟩) 11 c1, u8, .int .i64 k, _, _, _, _, _, _, u8, .string (strOfNums zs), .int .i64 leaf, .int .i64 k, _, _, _, _, _, _, _, _, _], defers := _ } _
      refine alongS_move (.slice (some ⟨g1, 0, none⟩) 11 c1) rfl rfl rfl rfl ?_
      change AlongS _ _ _ _ _ { tmps := #[.string (strOfNums zs), .int .i64 leaf, _, _, _, _, _, .slice (some ⟨g1, 0, none⟩) 11 c1, u8, .int .i64 k, _, _, _, _, _, _, u8, .string (strOfNums zs), .int .i64 leaf, .int .i64 k, _, .slice (some ⟨g1, 0, none⟩) 11 c1, _, _, _, _, _, _, _], defers := _ } _
      refine alongS_move (.int .i64 k) rfl rfl rfl rfl ?_
      change AlongS _ _ _ _ _ { tmps := #[.string (strOfNums zs), .int .i64 leaf, _, _, _, _, _, .slice (some ⟨g1, 0, none⟩) 11 c1, u8, .int .i64 k, _, _, _, _, _, _, u8, .string (strOfNums zs), .int .i64 leaf, .int .i64 k, _, .slice (some ⟨g1, 0, none⟩) 11 c1, .int .i64 k, _, _, _, _, _, _], defers := _ } _
      refine alongS_index Try.underlying24 Try.sizeOf3 rfl rfl rfl rfl hlt rfl ?_
      change AlongS _ _ _ _ _ { tmps := #[.string (strOfNums zs), .int .i64 leaf, _, _, _, _, _, .slice (some ⟨g1, 0, none⟩) 11 c1, u8, .int .i64 k, _, _, _, _, _, _, u8, .string (strOfNums zs), .int .i64 leaf, .int .i64 k, _, .slice (some ⟨g1, 0, none⟩) 11 c1, .int .i64 k, .pointer (some ⟨g1, 0 + k, none⟩), _, _, _, _, _], defers := _ } _
      refine alongS_load (.int .i64 d) Try.isAgg3 rfl rfl rfl Hck.out rfl ?_
      change AlongS _ _ _ _ _ { tmps := #[.string (strOfNums zs), .int .i64 leaf, _, _, _, _, _, .slice (some ⟨g1, 0, none⟩) 11 c1, u8, .int .i64 k, _, _, _, _, _, _, u8, .string (strOfNums zs), .int .i64 leaf, .int .i64 k, _, .slice (some ⟨g1, 0, none⟩) 11 c1, .int .i64 k, .pointer (some ⟨g1, 0 + k, none⟩), .int .i64 d, _, _, _, _], defers := _ } _
      refine alongS_call (vs := [.string (strOfNums zs), .int .i64 leaf, .int .i64 k]) rfl rfl rfl (enters_of Try.func14 (by kernel_rfl) rfl) rfl ?_
      with_reducible refine Calls.mono (Hsec.out k _ hlt) ?_
      rintro e w2 ⟨rfl, hU2⟩
      have hB2 : Up w1 w2 := Up.trans (Up.drew hB) hU2
      refine ⟨_, rfl, hB2, ?_⟩
      change AlongS _ _ _ _ _ { tmps := #[.string (strOfNums zs), .int .i64 leaf, _, _, _, _, _, .slice (some ⟨g1, 0, none⟩) 11 c1, u8, .int .i64 k, _, _, _, _, _, _, u8, .string (strOfNums zs), .int .i64 leaf, .int .i64 k, .string (strOfNums (secretB zs leaf k)), .slice (some ⟨g1, 0, none⟩) 11 c1, .int .i64 k, .pointer (some ⟨g1, 0 + k, none⟩), .int .i64 d, _, _, _, _], defers := _ } _
      refine alongS_call (vs := [.string (strOfNums (secretB zs leaf k)), .int .i64 d]) rfl rfl rfl (enters_of Try.func12 (by kernel_rfl) rfl) rfl ?_
      have Hch := Lib.hid (refChain_any (secretB zs leaf k) d w2 (Hsu.out k) (by rw [Hs8.out k]; omega))
      rw [Hd.out] at Hch
      with_reducible refine Calls.mono Hch.out ?_
      rintro e w3 ⟨rfl, hU3⟩
      have hB3 : Up w1 w3 := Up.trans hB2 hU3
      have hrow := ownsRow_up Hrow.out (Up.trans (Up.trans (Up.drew1 wr) hU2) hU3)
      refine ⟨_, rfl, hB3, ?_⟩
      generalize E k = X at Hs ⊢
      change AlongS _ _ _ _ _ { tmps := #[.string (strOfNums zs), .int .i64 leaf, _, _, _, _, _, .slice (some ⟨g1, 0, none⟩) 11 c1, u8, .int .i64 k, _, _, _, _, _, _, u8, .string (strOfNums zs), .int .i64 leaf, .int .i64 k, .string (strOfNums (secretB zs leaf k)), .slice (some ⟨g1, 0, none⟩) 11 c1, .int .i64 k, .pointer (some ⟨g1, 0 + k, none⟩), .int .i64 d, .string (strOfNums X), _, _, _], defers := _ } _
      refine alongS_one Try.underlying30 Try.sizeOf9 Try.zeroValue9 rfl rfl rfl rfl (Up.alloc hB3 _) ?_
      change AlongS _ _ _ _ _ { tmps := #[.string (strOfNums zs), .int .i64 leaf, _, _, _, _, _, .slice (some ⟨g1, 0, none⟩) 11 c1, u8, .int .i64 k, _, _, _, _, _, _, u8, .string (strOfNums zs), .int .i64 leaf, .int .i64 k, .string (strOfNums (secretB zs leaf k)), .slice (some ⟨g1, 0, none⟩) 11 c1, .int .i64 k, .pointer (some ⟨g1, 0 + k, none⟩), .int .i64 d, .string (strOfNums X), .slice (some ⟨w3.heap.size, 0, none⟩) 1 1, _, _], defers := _ } _
      refine alongS_append rfl rfl rfl w1.heap.size 9 i0 (.string ⟨#[]⟩) 1 16 Try.underlying30 hi hz0 hz1 hz2 rfl (by decide) u8 k _ rfl (hrow.alloc _) ⟨w3.heap.size, 0, none⟩ 1 1 [.string (strOfNums X)] rfl rfl (cell_one_new _ _ _) (by simp [Value.oneCell']) (by unfold maxLen; omega) (by omega) (by have := hB3.size; simp; omega) ?_
      intro v4 w4 hown' hgrow
      have hB4 : Up w1 w4 := (Up.alloc hB3 _).grown hgrow (by have := hB3.size; simp; omega) (fun q e => (hrow.lt q e).1)
      refine ⟨hB4, ?_⟩
      change AlongS _ _ _ _ _ { tmps := #[.string (strOfNums zs), .int .i64 leaf, _, _, _, _, _, .slice (some ⟨g1, 0, none⟩) 11 c1, u8, .int .i64 k, _, _, _, _, _, _, u8, .string (strOfNums zs), .int .i64 leaf, .int .i64 k, .string (strOfNums (secretB zs leaf k)), .slice (some ⟨g1, 0, none⟩) 11 c1, .int .i64 k, .pointer (some ⟨g1, 0 + k, none⟩), .int .i64 d, .string (strOfNums X), .slice (some ⟨w3.heap.size, 0, none⟩) 1 1, v4, _], defers := _ } _
      refine alongS_assign (v4) rfl rfl rfl rfl ?_
      change AlongS _ _ _ _ _ { tmps := #[.string (strOfNums zs), .int .i64 leaf, _, _, _, _, _, .slice (some ⟨g1, 0, none⟩) 11 c1, v4, .int .i64 k, _, _, _, _, _, _, u8, .string (strOfNums zs), .int .i64 leaf, .int .i64 k, .string (strOfNums (secretB zs leaf k)), .slice (some ⟨g1, 0, none⟩) 11 c1, .int .i64 k, .pointer (some ⟨g1, 0 + k, none⟩), .int .i64 d, .string (strOfNums X), .slice (some ⟨w3.heap.size, 0, none⟩) 1 1, v4, _], defers := _ } _
      refine alongS_done ?_
      go_wp2
      go_roundw
      case rel => exact ⟨k + 1, by omega, by go_num, by rw [Hs.out, strVs_snoc]; exact hown', hB4⟩
      case measure => simp [intOf]; omega
    · obtain rfl : k = 11 := by omega
      have hB4 := Up.trans hB1 hB
      have hrow := ownsRow_base hrow hB1.size
      go_wp2
      go_ret
      exact ⟨_, rfl, hrow, hB4⟩
end Go.Proofs.Ytjjaefacfcjgiaa
