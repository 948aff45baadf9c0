import Derived.Deep.QuietTactic
import Derived.BigQuiet
import Derived.IntWalk
import Derived.Test.YtbdjbmgeelleiaaDoorRefShort
import Derived.Test.YtbdjbmgeelleiaaDoorWots
import Derived.Test.YtbdjbmgeelleiaaDoorWotsSigs
import Derived.Test.YtbdjbmgeelleiaaDoorRefPut
import Derived.Test.YtbdjbmgeelleiaaDoorGrowth
import Derived.Test.YtbdjbmgeelleiaaDoorRefWots
import Derived.Test.YtbdjbmgeelleiaaDoorWotsSign
namespace Go.Proofs.YtbdjbmgeelleiaaDoor
set_option maxRecDepth 100000
/-
  The reference: Sign.
-/
section
set_option linter.unusedVariables false
open Go.RowKit

set_option maxHeartbeats 1000000 in
theorem refSign_any (zs : List Int) (leaf : Int) (v : Value) (bs : List Int) (w : World) (hu : U8s zs) (hl : zs.length ≤ 140737488355100) (hleaf : -9223372036854775808 ≤ leaf ∧ leaf ≤ 9223372036854775807) (hv : Ints .u8 w v bs) (hub : U8s bs) (hlb : bs.length ≤ 140737488355200) :
    Calls Tryd.prog 26 #[.string (strOfNums zs), .int .i64 leaf, v] w fun e w' => ∃ r, e = .returned r ∧ w'.ownsRow w.heap.size 9 1 r 11 (strVs (signB zs leaf bs)) ∧ Up w w' := by
  obtain ⟨i0, hi, hz0, hz1, hz2⟩ := info_parts info_strg
  have Hpa := Lib.hid (refParts_any v bs w hv hub hlb)
  have Hsec : Hid (∀ (k : Nat) wx, k < 11 → Calls Tryd.prog 46 #[.string (strOfNums zs), .int .i64 leaf, .int .i64 k] wx fun e w' => e = .returned (.string (strOfNums (secretB zs leaf k))) ∧ Up wx w') := fun k wx hk => refSecret_any zs leaf k wx hu hl hleaf (by omega)
  have Hs8 : Hid (∀ k : Nat, (secretB zs leaf k).length = 8) := fun k => secretB_length _ _ _
  have Hsu : Hid (∀ k : Nat, U8s (secretB zs leaf k)) := fun k => secretB_u8s _ _ _
  have Hpl := Lib.hid (partsB_length bs)
  have Hend : Hid (∀ k : Nat, chainB (secretB zs leaf k) (stepsN ((partsB bs)[k]?.getD 0)) = signEnd zs leaf (partsB bs) k) := fun k => rfl
  rw [← signB_eq]
  obtain ⟨a, cap, rfl, _, _, _⟩ := hv
  clear hu hl hleaf hub hlb
  generalize signEnd zs leaf (partsB bs) = E at Hend ⊢
  generalize partsB bs = D at Hpa Hend Hpl
  go_enter Tryd.func26, Tryd.ntmps26
  go_wp2_with fail
  with_reducible refine Calls.mono Hpa.out ?_
  rintro e w1 ⟨r1, rfl, hr1, hB1⟩
  obtain ⟨g1, c1, rfl, hc1⟩ := row_slice hr1 (by omega)
  have HI1 := Lib.hid (Ints.of_row hr1)
  clear hr1 Hpa
  go_wp2
  go_loopw [8, 9] (fun o i wr => ∃ k : Nat, k ≤ 11 ∧ i = .int .i64 k ∧ wr.ownsRow w1.heap.size 9 1 o k (strVs (upTo E k)) ∧ Up w1 wr)
    (fun _ i _ => 11 - (intOf i).toNat)
  case atStart => exact ⟨0, Nat.zero_le _, rfl, World.ownsRow_nil _ _ _ _, Up.refl w1⟩
  case round =>
    obtain ⟨k, hk, rfl, hrow, hB⟩ := hrel
    by_cases hlt : k < 11
    · have hs := upTo_succ E k
      have Hs := Lib.hid hs
      have Hrow := Lib.hid hrow
      have hck : ∀ w', Up w1 w' → w'.cell? ⟨g1, 0 + k, none⟩ = some (.int .i64 (D[k]?.getD 0)) := fun w' h => by rw [Nat.zero_add]; exact (HI1.out.up h).at0 k (by rw [Hpl.out]; exact hlt)
      have hend := Hend.out k
      generalize D[k]?.getD 0 = d at hck hend
      have Hck := Lib.hid hck
      have Hd := Lib.hid hend
      clear hs hrow hck hend
      go_wp2
      refine region_alongS (S := Up w1) [(0, true), (1, true), (2, true), (3, true), (5, true), (6, true), (7, true), (8, true), (4, false), (9, false), (10, false), (11, false), (12, true)] (by kernel_rfl) rfl (by kernel_rfl) (by kernel_rfl) (fun c a d v w h => by cases d <;> exact h) (Up.drew hB) ?_
      refine alongS_move (u8) rfl rfl rfl rfl ?_
      change AlongS _ _ _ _ _ { tmps := #[.string (strOfNums zs), .int .i64 leaf, _, _, _, _, _, .slice (some ⟨g1, 0, none⟩) 11 c1, u8, .int .i64 k, _, _, _, _, _, _, u8, _, _, _, _, _, _, _, _, _, _, _, _], defers := _ } _
      refine alongS_move (.string (strOfNums zs)) rfl rfl rfl rfl ?_
      change AlongS _ _ _ _ _ { tmps := #[.string (strOfNums zs), .int .i64 leaf, _, _, _, _, _, .slice (some ⟨g1, 0, none⟩) 11 c1, u8, .int .i64 k, _, _, _, _, _, _, u8, .string (strOfNums zs), _, _, _, _, _, _, _, _, _, _, _], defers := _ } _
      refine alongS_move (.int .i64 leaf) rfl rfl rfl rfl ?_
      change AlongS _ _ _ _ _ { tmps := #[.string (strOfNums zs), .int .i64 leaf, _, _, _, _, _, .slice (some ⟨g1, 0, none⟩) 11 c1, u8, .int .i64 k, _, _, _, _, _, _, u8, .string (strOfNums zs), .int .i64 leaf, _, _, _, _, _, _, _, _, _, _], defers := _ } _
      refine alongS_move (.int .i64 k) rfl rfl rfl rfl ?_
      change AlongS _ _ _ _ _ { tmps := #[.string (strOfNums zs), .int .i64 leaf, _, _, _, _, _, .slice (some ⟨g1, 0, none⟩) 11 c1, u8, .int .i64 k, _, _, _, _, _, _, u8, .string (strOfNums zs), .int .i64 leaf, .int .i64 k, _, _, _, _, _, _, _, _, _], defers := _ } _
      refine alongS_move (.slice (some ⟨g1, 0, none⟩) 11 c1) rfl rfl rfl rfl ?_
      change AlongS _ _ _ _ _ { tmps := #[.string (strOfNums zs), .int .i64 leaf, _, _, _, _, _, .slice (some ⟨g1, 0, none⟩) 11 c1, u8, .int .i64 k, _, _, _, _, _, _, u8, .string (strOfNums zs), .int .i64 leaf, .int .i64 k, _, .slice (some ⟨g1, 0, none⟩) 11 c1, _, _, _, _, _, _, _], defers := _ } _
      refine alongS_move (.int .i64 k) rfl rfl rfl rfl ?_
      change AlongS _ _ _ _ _ { tmps := #[.string (strOfNums zs), .int .i64 leaf, _, _, _, _, _, .slice (some ⟨g1, 0, none⟩) 11 c1, u8, .int .i64 k, _, _, _, _, _, _, u8, .string (strOfNums zs), .int .i64 leaf, .int .i64 k, _, .slice (some ⟨g1, 0, none⟩) 11 c1, .int .i64 k, _, _, _, _, _, _], defers := _ } _
      refine alongS_index Tryd.underlying66 Tryd.sizeOf3 rfl rfl rfl rfl hlt rfl ?_
      change AlongS _ _ _ _ _ { tmps := #[.string (strOfNums zs), .int .i64 leaf, _, _, _, _, _, .slice (some ⟨g1, 0, none⟩) 11 c1, u8, .int .i64 k, _, _, _, _, _, _, u8, .string (strOfNums zs), .int .i64 leaf, .int .i64 k, _, .slice (some ⟨g1, 0, none⟩) 11 c1, .int .i64 k, .pointer (some ⟨g1, 0 + k, none⟩), _, _, _, _, _], defers := _ } _
      refine alongS_load (.int .i64 d) Tryd.isAgg3 rfl rfl rfl Hck.out rfl ?_
      change AlongS _ _ _ _ _ { tmps := #[.string (strOfNums zs), .int .i64 leaf, _, _, _, _, _, .slice (some ⟨g1, 0, none⟩) 11 c1, u8, .int .i64 k, _, _, _, _, _, _, u8, .string (strOfNums zs), .int .i64 leaf, .int .i64 k, _, .slice (some ⟨g1, 0, none⟩) 11 c1, .int .i64 k, .pointer (some ⟨g1, 0 + k, none⟩), .int .i64 d, _, _, _, _], defers := _ } _
      refine alongS_call (vs := [.string (strOfNums zs), .int .i64 leaf, .int .i64 k]) rfl rfl rfl (enters_of Tryd.func46 (by kernel_rfl) rfl) rfl ?_
      with_reducible refine Calls.mono (Hsec.out k _ hlt) ?_
      rintro e w2 ⟨rfl, hU2⟩
      have hB2 : Up w1 w2 := Up.trans (Up.drew hB) hU2
      refine ⟨_, rfl, hB2, ?_⟩
      change AlongS _ _ _ _ _ { tmps := #[.string (strOfNums zs), .int .i64 leaf, _, _, _, _, _, .slice (some ⟨g1, 0, none⟩) 11 c1, u8, .int .i64 k, _, _, _, _, _, _, u8, .string (strOfNums zs), .int .i64 leaf, .int .i64 k, .string (strOfNums (secretB zs leaf k)), .slice (some ⟨g1, 0, none⟩) 11 c1, .int .i64 k, .pointer (some ⟨g1, 0 + k, none⟩), .int .i64 d, _, _, _, _], defers := _ } _
      refine alongS_call (vs := [.string (strOfNums (secretB zs leaf k)), .int .i64 d]) rfl rfl rfl (enters_of Tryd.func45 (by kernel_rfl) rfl) rfl ?_
      have Hch := Lib.hid (refChain_any (secretB zs leaf k) d w2 (Hsu.out k) (by rw [Hs8.out k]; omega))
      rw [Hd.out] at Hch
      with_reducible refine Calls.mono Hch.out ?_
      rintro e w3 ⟨rfl, hU3⟩
      have hB3 : Up w1 w3 := Up.trans hB2 hU3
      have hrow := ownsRow_up Hrow.out (Up.trans (Up.trans (Up.drew1 wr) hU2) hU3)
      refine ⟨_, rfl, hB3, ?_⟩
      generalize E k = X at Hs ⊢
      change AlongS _ _ _ _ _ { tmps := #[.string (strOfNums zs), .int .i64 leaf, _, _, _, _, _, .slice (some ⟨g1, 0, none⟩) 11 c1, u8, .int .i64 k, _, _, _, _, _, _, u8, .string (strOfNums zs), .int .i64 leaf, .int .i64 k, .string (strOfNums (secretB zs leaf k)), .slice (some ⟨g1, 0, none⟩) 11 c1, .int .i64 k, .pointer (some ⟨g1, 0 + k, none⟩), .int .i64 d, .string (strOfNums X), _, _, _], defers := _ } _
      refine alongS_one Tryd.underlying22 Tryd.sizeOf9 Tryd.zeroValue9 rfl rfl rfl rfl (Up.alloc hB3 _) ?_
      change AlongS _ _ _ _ _ { tmps := #[.string (strOfNums zs), .int .i64 leaf, _, _, _, _, _, .slice (some ⟨g1, 0, none⟩) 11 c1, u8, .int .i64 k, _, _, _, _, _, _, u8, .string (strOfNums zs), .int .i64 leaf, .int .i64 k, .string (strOfNums (secretB zs leaf k)), .slice (some ⟨g1, 0, none⟩) 11 c1, .int .i64 k, .pointer (some ⟨g1, 0 + k, none⟩), .int .i64 d, .string (strOfNums X), .slice (some ⟨w3.heap.size, 0, none⟩) 1 1, _, _], defers := _ } _
      refine alongS_append rfl rfl rfl w1.heap.size 9 i0 (.string ⟨#[]⟩) 1 16 Tryd.underlying22 hi hz0 hz1 hz2 rfl (by decide) u8 k _ rfl (hrow.alloc _) ⟨w3.heap.size, 0, none⟩ 1 1 [.string (strOfNums X)] rfl rfl (cell_one_new _ _ _) (by simp [Value.oneCell']) (by unfold maxLen; omega) (by omega) (by have := hB3.size; simp; omega) ?_
      intro v4 w4 hown' hgrow
      have hB4 : Up w1 w4 := (Up.alloc hB3 _).grown hgrow (by have := hB3.size; simp; omega) (fun q e => (hrow.lt q e).1)
      refine ⟨hB4, ?_⟩
      change AlongS _ _ _ _ _ { tmps := #[.string (strOfNums zs), .int .i64 leaf, _, _, _, _, _, .slice (some ⟨g1, 0, none⟩) 11 c1, u8, .int .i64 k, _, _, _, _, _, _, u8, .string (strOfNums zs), .int .i64 leaf, .int .i64 k, .string (strOfNums (secretB zs leaf k)), .slice (some ⟨g1, 0, none⟩) 11 c1, .int .i64 k, .pointer (some ⟨g1, 0 + k, none⟩), .int .i64 d, .string (strOfNums X), .slice (some ⟨w3.heap.size, 0, none⟩) 1 1, v4, _], defers := _ } _
      refine alongS_assign (v4) rfl rfl rfl rfl ?_
      change AlongS _ _ _ _ _ { tmps := #[.string (strOfNums zs), .int .i64 leaf, _, _, _, _, _, .slice (some ⟨g1, 0, none⟩) 11 c1, v4, .int .i64 k, _, _, _, _, _, _, u8, .string (strOfNums zs), .int .i64 leaf, .int .i64 k, .string (strOfNums (secretB zs leaf k)), .slice (some ⟨g1, 0, none⟩) 11 c1, .int .i64 k, .pointer (some ⟨g1, 0 + k, none⟩), .int .i64 d, .string (strOfNums X), .slice (some ⟨w3.heap.size, 0, none⟩) 1 1, v4, _], defers := _ } _
      refine alongS_done ?_
      go_wp2
      go_roundw
      case rel => exact ⟨k + 1, by omega, by go_num, by rw [Hs.out, strVs_snoc]; exact hown', hB4⟩
      case measure => simp [intOf]; omega
    · obtain rfl : k = 11 := by omega
      have hB4 := Up.trans hB1 hB
      have hrow := ownsRow_base hrow hB1.size
      go_wp2
      go_ret
      exact ⟨_, rfl, hrow, hB4⟩
end
end Go.Proofs.YtbdjbmgeelleiaaDoor
