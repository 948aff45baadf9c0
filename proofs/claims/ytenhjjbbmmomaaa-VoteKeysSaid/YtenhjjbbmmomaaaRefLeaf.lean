import Derived.Deep.QuietTactic
import Derived.BigQuiet
import Derived.IntWalk
import Derived.Test.YtenhjjbbmmomaaaRefShort
import Derived.Test.YtenhjjbbmmomaaaWots
import Derived.Test.YtenhjjbbmmomaaaWotsSigs
import Derived.Test.YtenhjjbbmmomaaaRefPut
import Derived.Test.YtenhjjbbmmomaaaGrowth
import Derived.Test.YtenhjjbbmmomaaaRefWots
namespace Go.Proofs.Ytenhjjbbmmomaaa
set_option maxRecDepth 100000
/-
  The reference: Leaf.
-/
section
set_option linter.unusedVariables false
open Go.RowKit

set_option maxHeartbeats 1000000 in
theorem refLeaf_any (zs : List Int) (leaf : Int) (w : World) (hu : U8s zs) (hl : zs.length ≤ 140737488355100) (hleaf : -9223372036854775808 ≤ leaf ∧ leaf ≤ 9223372036854775807) :
    Calls Try.prog 7 #[.string (strOfNums zs), .int .i64 leaf] w fun e w' => e = .returned (.string (strOfNums (leafB zs leaf))) ∧ Up w w' := by
  obtain ⟨i0, hi, hz0, hz1, hz2⟩ := info_parts info_u8
  have Hsec : Hid (∀ (k : Nat) wx, k < 11 → Calls Try.prog 12 #[.string (strOfNums zs), .int .i64 leaf, .int .i64 k] wx fun e w' => e = .returned (.string (strOfNums (secretB zs leaf k))) ∧ Up wx w') := fun k wx hk => refSecret_any zs leaf k wx hu hl hleaf (by omega)
  have Hend : Hid (∀ k : Nat, chainB (secretB zs leaf k) (stepsN 3) = leafEnd zs leaf k) := fun k => rfl
  have Hs8 : Hid (∀ k : Nat, (secretB zs leaf k).length = 8) := fun k => secretB_length _ _ _
  have Hsu : Hid (∀ k : Nat, U8s (secretB zs leaf k)) := fun k => secretB_u8s _ _ _
  have HE8 : Hid (∀ k : Nat, (leafEnd zs leaf k).length = 8) := fun k => leafEnd_8 _ _ _
  have HEu : Hid (∀ k : Nat, U8s (leafEnd zs leaf k)) := fun k => leafEnd_u8s _ _ _
  have H8 : Hid ((upTo (leafEnd zs leaf) 11).flatten.length = 88) := upTo_flat _ 11 fun i _ => leafEnd_8 _ _ _
  have H8u : Hid (U8s (upTo (leafEnd zs leaf) 11).flatten) := upTo_u8s _ 11 fun i _ => leafEnd_u8s _ _ _
  rw [← leafB_eq]
  clear hu hl hleaf
  generalize leafEnd zs leaf = E at Hend H8 H8u HE8 HEu ⊢
  obtain ⟨Y, hY⟩ : ∃ Y, shortB (upTo E 11).flatten = Y := ⟨_, rfl⟩
  rw [hY]
  have HY := Lib.hid hY
  clear hY
  go_enter Try.func7, Try.ntmps7
  go_wp2
  go_loopw [5, 6] (fun o i wr => ∃ k m : Nat, k ≤ 11 ∧ m = 8 * k ∧ i = .int .i64 k ∧ wr.ownsRow w.heap.size 5 1 o m ((upTo E k).flatten.map (Value.int .u8)) ∧ Up w wr)
    (fun _ i _ => 11 - (intOf i).toNat)
  case atStart => exact ⟨0, 0, Nat.zero_le _, rfl, rfl, World.ownsRow_nil _ _ _ _, Up.refl w⟩
  case round =>
    obtain ⟨k, m, hk, hm, rfl, hrow, hB⟩ := hrel
    by_cases hlt : k < 11
    · have hs := upTo_flat_succ E k
      have Hs := Lib.hid hs
      have Hrow := Lib.hid hrow
      have Hm := Lib.hid hm
      have hm2 : m ≤ 88 := by omega
      clear hs hrow hm
      go_wp2_with fail
      with_reducible refine Calls.mono (Hsec.out k _ hlt) ?_
      rintro e w1 ⟨rfl, hU1⟩
      have Hch := Lib.hid (refChain_any (secretB zs leaf k) 3 w1 (Hsu.out k) (by rw [Hs8.out k]; omega))
      rw [Hend.out k] at Hch
      go_wp2_with fail
      with_reducible refine Calls.mono Hch.out ?_
      rintro e w2 ⟨rfl, hU2⟩
      have hB2 := Up.trans (Up.trans hB hU1) hU2
      have hrow := ownsRow_up Hrow.out (Up.trans hU1 hU2)
      have hx8 : (strOfNums (E k)).size = 8 := by rw [strOfNums_size]; exact HE8.out k
      have hxc := strCells_of (E k) (HEu.out k)
      have Hxc := Lib.hid hxc
      clear Hch hU1 hU2 hxc
      generalize E k = X at Hs Hxc hx8 ⊢
      go_wp2_with (at_builtin; refine Lib.wpList_append_own_string _ rfl (.tmp 11) (.tmp 16) 28 9 rfl w.heap.size 5 i0 Try.underlying28 Try.underlying9 hi hz0 hz1 hz2 _ m _ rfl hrow (strOfNums X) rfl (by rw [hx8]; unfold maxLen; omega) (by rw [hx8]; omega) hB2.size ?_; intro v3 w3 hr3 hg3 _; rw [Hxc.out, hx8] at hr3)
      go_roundw
      case rel => exact ⟨k + 1, m + 8, by omega, by have := Hm.out; omega, by go_num, by rw [Hs.out, List.map_append]; exact hr3, Below.grown hB2 hg3 hB2.size (fun q e => (hrow.lt q e).1)⟩
      case measure => simp [intOf]; omega
    · obtain rfl : k = 11 := by omega
      have Hj := Lib.hid (refShort_any _ _ wr (Ints.of_row hrow) H8u.out (by rw [H8.out]; omega))
      rw [HY.out] at Hj
      clear hrow hm
      go_wp2_with fail
      with_reducible refine Calls.mono Hj.out ?_
      rintro e w2 ⟨rfl, hU2⟩
      have hB2 := Up.trans hB hU2
      go_wp2
      go_ret
      exact ⟨rfl, hB2⟩

end
end Go.Proofs.Ytenhjjbbmmomaaa
