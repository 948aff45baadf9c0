import Derived.Deep.QuietTactic
import Derived.BigQuiet
import Derived.IntWalk
import Derived.Test.YtenhjjbbmmomaaaRefShort
import Derived.Test.YtenhjjbbmmomaaaWots
import Derived.Test.YtenhjjbbmmomaaaWotsSigs
import Derived.Test.YtenhjjbbmmomaaaRefPut
import Derived.Test.YtenhjjbbmmomaaaGrowth
namespace Go.Proofs.Ytenhjjbbmmomaaa
set_option maxRecDepth 100000
/-
  The reference: Parts, Chain.
-/
section
set_option linter.unusedVariables false
open Go.RowKit

set_option maxHeartbeats 1000000 in
theorem refChain_any (zs : List Int) (n : Int) (w : World) (hu : U8s zs) (hl : zs.length ≤ 140737488355200) :
    Calls Try.prog 11 #[.string (strOfNums zs), .int .i64 n] w fun e w' => e = .returned (.string (strOfNums (chainB zs (stepsN n)))) ∧ Up w w' := by
  obtain ⟨K, hK⟩ : ∃ K, stepsN n = K := ⟨_, rfl⟩
  have hLK : ∀ k : Nat, k < K ↔ ((k : Int) < n ∧ k < 3) := by
    intro k; rw [← hK]; unfold stepsN; omega
  have HLK := Lib.hid hLK
  have hK3 : K ≤ 3 := by rw [← hK]; exact stepsN_le n
  rw [hK]
  clear hK hLK
  go_enter Try.func11, Try.ntmps11
  go_wp2
  go_loopw [0, 5] (fun s i wr => ∃ k : Nat, k ≤ K ∧ i = .int .i64 k ∧ s = .string (strOfNums (chainB zs k)) ∧ Up w wr)
    (fun _ i _ => K - (intOf i).toNat)
  case atStart => exact ⟨0, Nat.zero_le _, rfl, rfl, Up.refl w⟩
  case round =>
    obtain ⟨k, hk, rfl, rfl, hB⟩ := hrel
    by_cases hlt : k < K
    · obtain ⟨hd1, hd2⟩ := (HLK.out k).1 hlt
      have hux := chainB_u8s zs hu k
      have hlx := chainB_le zs 140737488355200 (by omega) hl k
      have hs : chainB zs (k + 1) = shortB (chainB zs k) := rfl
      generalize chainB zs k = x at hux hlx hs ⊢
      have Hs := Lib.hid hs
      obtain ⟨a, c, w1, hconv, hI, hU1⟩ := conv_str x hux wr
      have HI := Lib.hid hI
      have Hux := Lib.hid hux
      clear hs hI hux
      go_wp2_with (go_at_call 13; (with_reducible refine Calls.mono (refShort_any _ x _ HI.out Hux.out hlx) ?_); rintro e w2 ⟨rfl, hU2⟩)
      go_roundw
      case rel => exact ⟨k + 1, by omega, by go_num, by rw [Hs.out], Up.trans (Up.trans hB hU1) hU2⟩
      case measure => simp [intOf]; omega
    · obtain rfl : k = K := by omega
      by_cases hd : (k : Int) < n
      · have hd3 : ¬ k < 3 := fun h => hlt ((HLK.out k).2 ⟨hd, h⟩)
        go_wp2
        go_ret
        exact ⟨rfl, hB⟩
      · go_wp2
        go_ret
        exact ⟨rfl, hB⟩

end

/-
  The reference: Secret, Leaf.
-/
section
set_option linter.unusedVariables false
open Go.RowKit

theorem refPut_own (n : Int) (hn : -9223372036854775808 ≤ n ∧ n ≤ 9223372036854775807) (k : Nat) (hk : 0 < k ∧ k ≤ 8) (w : World) :
    Calls Try.prog 21 #[.int .i64 n, .int .i64 k] w fun e w' => ∃ g c, e = .returned (.slice (some ⟨g, 0, none⟩) k c) ∧ (∀ j u, ((octAll (IntKind.u64.wrap n) k).map (Value.int .u8))[j]? = some u → w'.cell? ((⟨g, 0, none⟩ : Addr).add j) = some u) ∧ Up w w' := by
  refine (refPut_any n k hn (by omega) k (by omega) w).mono ?_
  rintro e w' ⟨v, rfl, hr, hU⟩
  obtain ⟨g, c, rfl, _⟩ := row_slice hr hk.1
  exact ⟨g, c, rfl, row_cells hr, hU⟩

theorem seed_so_far (zs : List Int) (leaf place : Int) : ((((wotsB ++ octAll (IntKind.u64.wrap zs.length) 2) ++ zs) ++ octAll (IntKind.u64.wrap leaf) 4) ++ octAll (IntKind.u64.wrap place) 1) = seedB zs leaf place := by
  simp [seedB]

set_option maxHeartbeats 2000000 in
theorem refSecret_any (zs : List Int) (leaf place : Int) (w : World) (hu : U8s zs) (hl : zs.length ≤ 140737488355100) (hleaf : -9223372036854775808 ≤ leaf ∧ leaf ≤ 9223372036854775807) (hplace : -9223372036854775808 ≤ place ∧ place ≤ 9223372036854775807) :
    Calls Try.prog 12 #[.string (strOfNums zs), .int .i64 leaf, .int .i64 place] w fun e w' => e = .returned (.string (strOfNums (secretB zs leaf place))) ∧ Up w w' := by
  obtain ⟨i0, hi, hz0, hz1, hz2⟩ := info_parts info_u8
  have hsz := strOfNums_size zs
  have Hu := Lib.hid hu
  have Hsu := Lib.hid (seedB_u8s zs hu leaf place)
  have hsl : (seedB zs leaf place).length ≤ 140737488355200 := by rw [seedB_length]; omega
  have Hsl := Lib.hid hsl
  have Hf := Lib.hid (seed_so_far zs leaf place)
  have Hp1 := Lib.hid (fun wx => refPut_own zs.length (by omega) 2 (by omega) wx)
  have Hp2 := Lib.hid (fun wx => refPut_own leaf hleaf 4 (by omega) wx)
  have Hp3 := Lib.hid (fun wx => refPut_own place hplace 1 (by omega) wx)
  have Hl1 := Lib.hid (octAll_length (IntKind.u64.wrap zs.length) 2)
  have Hl2 := Lib.hid (octAll_length (IntKind.u64.wrap leaf) 4)
  have Hl3 := Lib.hid (octAll_length (IntKind.u64.wrap place) 1)
  have hcw : Lib.strCells ⟨#[119, 111, 116, 115]⟩ = wotsB.map (Value.int .u8) := rfl
  have Hcz := Lib.hid (strCells_of zs hu)
  show Calls _ _ _ w fun e w' => e = .returned (.string (strOfNums (shortB (seedB zs leaf place)))) ∧ _
  generalize seedB zs leaf place = X at Hsu Hsl Hf ⊢
  generalize octAll (IntKind.u64.wrap zs.length) 2 = P1 at Hf Hp1 Hl1
  generalize octAll (IntKind.u64.wrap leaf) 4 = P2 at Hf Hp2 Hl2
  generalize octAll (IntKind.u64.wrap place) 1 = P3 at Hf Hp3 Hl3
  have Hone : Hid (∀ (zs : List Int), ∀ u ∈ zs.map (Value.int .u8), u.oneCell' = true) := fun zs => ints_oneCell .u8 zs
  have Hcw := Lib.hid hcw
  clear hsl hu hcw
  go_enter Try.func12, Try.ntmps12
  go_wp2_with (at_builtin; refine Lib.wpList_append_own_string _ rfl (.tmp 8) (.const (.string ⟨#[119, 111, 116, 115]⟩)) 28 9 rfl w.heap.size 5 i0 Try.underlying28 Try.underlying9 hi hz0 hz1 hz2 (.slice none 0 0) 0 [] rfl (World.ownsRow_nil _ _ _ _) ⟨#[119, 111, 116, 115]⟩ rfl (by decide) (by decide) (Nat.le_refl _) ?_; intro v1 w1 hr1 hg1 _; rw [Hcw.out, List.nil_append, show 0 + ByteArray.size ⟨#[119, 111, 116, 115]⟩ = 4 from rfl] at hr1)
  have hB1 : Up w w1 := (Below.refl _ w).grown hg1 (Nat.le_refl _) (fun k e => by simp [Value.ownBlock] at e)
  clear hg1
  with_reducible refine Calls.mono (Hp1.out _) ?_
  rintro e w2 ⟨g2, c2, rfl, hc2, hU2⟩
  have hr1 := ownsRow_up hr1 hU2
  have hB2 := Up.trans hB1 hU2
  have Hc2 := Lib.hid hc2
  have Hl1' : Hid ((P1.map (Value.int .u8)).length = 2 * 1) := by show _ = _; rw [List.length_map, Hl1.out]
  clear hc2 hU2 hB1
  go_wp2_with (first | (at_builtin; refine wpList_append_own _ rfl (.tmp 10) (.tmp 13) 28 rfl w.heap.size 5 i0 (.int .u8 0) 1 1 Try.underlying28 hi hz0 hz1 hz2 rfl (by decide) v1 4 _ rfl hr1 ⟨g2, 0, none⟩ 2 c2 (P1.map (Value.int .u8)) rfl Hl1'.out Hc2.out (Hone.out _) (by unfold maxLen; omega) (by omega) hB2.size ?_; intro v3 w3 hr3 hg3 _; have hB3 : Up w w3 := Below.grown hB2 hg3 hB2.size (fun k e => (hr1.lt k e).1); clear hg3) | (at_builtin; refine Lib.wpList_append_own_string _ rfl (.tmp 15) (.tmp 16) 28 9 rfl w.heap.size 5 i0 Try.underlying28 Try.underlying9 hi hz0 hz1 hz2 v3 6 _ rfl hr3 (strOfNums zs) rfl (by rw [hsz]; unfold maxLen; omega) (by rw [hsz]; omega) hB3.size ?_; intro v4 w4 hr4 hg4 _; rw [Hcz.out, hsz] at hr4; have hB4 : Up w w4 := Below.grown hB3 hg4 hB3.size (fun k e => (hr3.lt k e).1); clear hg4))
  with_reducible refine Calls.mono (Hp2.out _) ?_
  rintro e w5 ⟨g5, c5, rfl, hc5, hU5⟩
  have hr4 := ownsRow_up hr4 hU5
  have hB5 := Up.trans hB4 hU5
  have Hc5 := Lib.hid hc5
  have Hl2' : Hid ((P2.map (Value.int .u8)).length = 4 * 1) := by show _ = _; rw [List.length_map, Hl2.out]
  clear hc5 hU5 hB4 hB3 hB2 hr3 hr1
  go_wp2_with (at_builtin; refine wpList_append_own _ rfl (.tmp 18) (.tmp 20) 28 rfl w.heap.size 5 i0 (.int .u8 0) 1 1 Try.underlying28 hi hz0 hz1 hz2 rfl (by decide) v4 (6 + zs.length) _ rfl hr4 ⟨g5, 0, none⟩ 4 c5 (P2.map (Value.int .u8)) rfl Hl2'.out Hc5.out (Hone.out _) (by unfold maxLen; omega) (by omega) hB5.size ?_; intro v6 w6 hr6 hg6 _; have hB6 : Up w w6 := Below.grown hB5 hg6 hB5.size (fun k e => (hr4.lt k e).1); clear hg6)
  with_reducible refine Calls.mono (Hp3.out _) ?_
  rintro e w7 ⟨g7, c7, rfl, hc7, hU7⟩
  have hr6 := ownsRow_up hr6 hU7
  have hB7 := Up.trans hB6 hU7
  have Hc7 := Lib.hid hc7
  have Hl3' : Hid ((P3.map (Value.int .u8)).length = 1 * 1) := by show _ = _; rw [List.length_map, Hl3.out]
  clear hc7 hU7 hB6 hB5 hr4
  go_wp2_with (at_builtin; refine wpList_append_own _ rfl (.tmp 22) (.tmp 24) 28 rfl w.heap.size 5 i0 (.int .u8 0) 1 1 Try.underlying28 hi hz0 hz1 hz2 rfl (by decide) v6 (6 + zs.length + 4) _ rfl hr6 ⟨g7, 0, none⟩ 1 c7 (P3.map (Value.int .u8)) rfl Hl3'.out Hc7.out (Hone.out _) (by unfold maxLen; omega) (by omega) hB7.size ?_; intro v8 w8 hr8 hg8 _; have hB8 : Up w w8 := Below.grown hB7 hg8 hB7.size (fun k e => (hr6.lt k e).1); clear hg8)
  rw [← List.map_append, ← List.map_append, ← List.map_append, ← List.map_append, Hf.out] at hr8
  have hI8 := Ints.of_row hr8
  with_reducible refine Calls.mono (refShort_any _ X _ hI8 Hsu.out Hsl.out) ?_
  rintro e w9 ⟨rfl, hU9⟩
  have hB9 := Up.trans hB8 hU9
  go_wp2
  go_ret
  exact ⟨rfl, hB9⟩
end

section
set_option linter.unusedVariables false
open Go.RowKit

theorem upTo_flat_succ (f : Nat → List Int) (k : Nat) : (upTo f (k + 1)).flatten = (upTo f k).flatten ++ f k := by rw [upTo_succ, List.flatten_append]; simp

end
end Go.Proofs.Ytenhjjbbmmomaaa
