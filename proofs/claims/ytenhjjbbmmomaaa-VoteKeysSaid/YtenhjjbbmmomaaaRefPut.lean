import Derived.OwnWalk
import Derived.Maps.AppendAt
import Derived.RangeFuncBox
import Derived.Test.YtenhjjbbmmomaaaBase
import Derived.Test.YtenhjjbbmmomaaaOct
/-
  What the pages say of octets, as the reference's functions reckon it.
-/
namespace Go.Proofs.Ytenhjjbbmmomaaa
set_option linter.unusedVariables false
open Go.RowKit

theorem wrapped_range (n : Int) : 0 ≤ IntKind.u64.wrap n ∧ IntKind.u64.wrap n < 18446744073709551616 := wrap_u64_range n

set_option maxRecDepth 100000 in
set_option maxHeartbeats 400000 in
theorem refPut_lt (n sz : Int) (hn : -9223372036854775808 ≤ n ∧ n ≤ 9223372036854775807) (hs : sz < 0) (hs0 : -9223372036854775808 ≤ sz) (w : World) :
    Calls Try.prog 21 #[.int .i64 n, .int .i64 sz] w fun e w' => ∃ v, e = .returned v ∧ w'.ownsRow w.heap.size 5 1 v 0 ((octAll (IntKind.u64.wrap n) 0).map (Value.int .u8)) ∧ Below w.heap.size w w' := by
  obtain ⟨i0, hi, hz0, hz1, hz2⟩ := info_parts info_u8
  have hx := wrapped_range n
  go_enter Try.func21, Try.ntmps21
  go_wp2
  go_loopw [5, 6] (fun o i wr => ∃ j : Nat, j ≤ 0 ∧ i = .int .i64 j ∧ wr.ownsRow w.heap.size 5 1 o j ((octs (IntKind.u64.wrap n) 0 j).map (Value.int .u8)) ∧ Below w.heap.size w wr)
    (fun _ i _ => 0 - (intOf i).toNat)
  case atStart => exact ⟨0, Nat.zero_le _, rfl, World.ownsRow_nil _ _ _ _, Below.refl _ _⟩
  case round =>
    obtain ⟨j, hj, rfl, hrow, hB⟩ := hrel
    obtain rfl : j = 0 := by omega
    go_wp2
    go_ret
    exact ⟨_, rfl, hrow, hB⟩

set_option maxRecDepth 100000 in
set_option maxHeartbeats 400000 in
theorem refPut_mid (n sz : Int) (hn : -9223372036854775808 ≤ n ∧ n ≤ 9223372036854775807) (k : Nat) (hk : (k : Int) = sz) (hs : sz < 8) (w : World) :
    Calls Try.prog 21 #[.int .i64 n, .int .i64 sz] w fun e w' => ∃ v, e = .returned v ∧ w'.ownsRow w.heap.size 5 1 v k ((octAll (IntKind.u64.wrap n) k).map (Value.int .u8)) ∧ Below w.heap.size w w' := by
  obtain ⟨i0, hi, hz0, hz1, hz2⟩ := info_parts info_u8
  have hx := wrapped_range n
  subst hk
  go_enter Try.func21, Try.ntmps21
  go_wp2
  go_loopw [5, 6] (fun o i wr => ∃ j : Nat, j ≤ k ∧ i = .int .i64 j ∧ wr.ownsRow w.heap.size 5 1 o j ((octs (IntKind.u64.wrap n) k j).map (Value.int .u8)) ∧ Below w.heap.size w wr)
    (fun _ i _ => k - (intOf i).toNat)
  case atStart => exact ⟨0, Nat.zero_le _, rfl, World.ownsRow_nil _ _ _ _, Below.refl _ _⟩
  case round =>
    obtain ⟨j, hj, rfl, hrow, hB⟩ := hrel
    by_cases hlt : j < k
    · have hs1 := octs_succ (IntKind.u64.wrap n) k j
      have Hs1 := Lib.hid hs1
      clear hs1
      obtain ⟨x, hxx⟩ : ∃ x, IntKind.u64.wrap n = x := ⟨_, rfl⟩
      rw [hxx] at hx hrow Hs1 ⊢
      go_wp2_with (at_builtin; refine wpList_append_own _ rfl (.tmp 15) (.tmp 26) 28 rfl w.heap.size 5 i0 (.int .u8 0) 1 1 Try.underlying28 hi hz0 hz1 hz2 rfl (by decide) _ _ _ rfl (hrow.alloc _) ⟨wr.heap.size, 0, none⟩ 1 1 [.int .u8 (octAt x k j)] rfl rfl (cell_one_new _ _ _) (by simp [Value.oneCell']) (by unfold maxLen; omega) (by omega) (by have := hB.size; simp; omega) ?_; intro v' w1 hown' hgrow _)
      go_roundw
      case rel => exact ⟨j + 1, by omega, by go_num, by rw [Hs1.out, List.map_append]; exact hown', (hB.alloc hB.size _).grown hgrow (by have := hB.size; simp; omega) (fun q e => (hrow.lt q e).1)⟩
      case measure => simp [intOf]; omega
    · obtain rfl : j = k := by omega
      go_wp2
      go_ret
      exact ⟨_, rfl, hrow, hB⟩

set_option maxRecDepth 100000 in
set_option maxHeartbeats 400000 in
theorem refPut_eq (n : Int) (hn : -9223372036854775808 ≤ n ∧ n ≤ 9223372036854775807)  (w : World) :
    Calls Try.prog 21 #[.int .i64 n, .int .i64 8] w fun e w' => ∃ v, e = .returned v ∧ w'.ownsRow w.heap.size 5 1 v 8 ((octAll (IntKind.u64.wrap n) 8).map (Value.int .u8)) ∧ Below w.heap.size w w' := by
  obtain ⟨i0, hi, hz0, hz1, hz2⟩ := info_parts info_u8
  have hx := wrapped_range n
  go_enter Try.func21, Try.ntmps21
  go_wp2
  go_loopw [5, 6] (fun o i wr => ∃ j : Nat, j ≤ 8 ∧ i = .int .i64 j ∧ wr.ownsRow w.heap.size 5 1 o j ((octs (IntKind.u64.wrap n) 8 j).map (Value.int .u8)) ∧ Below w.heap.size w wr)
    (fun _ i _ => 8 - (intOf i).toNat)
  case atStart => exact ⟨0, Nat.zero_le _, rfl, World.ownsRow_nil _ _ _ _, Below.refl _ _⟩
  case round =>
    obtain ⟨j, hj, rfl, hrow, hB⟩ := hrel
    by_cases hlt : j < 8
    · have hs1 := octs_succ (IntKind.u64.wrap n) 8 j
      have Hs1 := Lib.hid hs1
      clear hs1
      obtain ⟨x, hxx⟩ : ∃ x, IntKind.u64.wrap n = x := ⟨_, rfl⟩
      rw [hxx] at hx hrow Hs1 ⊢
      go_wp2_with (at_builtin; refine wpList_append_own _ rfl (.tmp 15) (.tmp 26) 28 rfl w.heap.size 5 i0 (.int .u8 0) 1 1 Try.underlying28 hi hz0 hz1 hz2 rfl (by decide) _ _ _ rfl (hrow.alloc _) ⟨wr.heap.size, 0, none⟩ 1 1 [.int .u8 (octAt x 8 j)] rfl rfl (cell_one_new _ _ _) (by simp [Value.oneCell']) (by unfold maxLen; omega) (by omega) (by have := hB.size; simp; omega) ?_; intro v' w1 hown' hgrow _)
      go_roundw
      case rel => exact ⟨j + 1, by omega, by go_num, by rw [Hs1.out, List.map_append]; exact hown', (hB.alloc hB.size _).grown hgrow (by have := hB.size; simp; omega) (fun q e => (hrow.lt q e).1)⟩
      case measure => simp [intOf]; omega
    · obtain rfl : j = 8 := by omega
      go_wp2
      go_ret
      exact ⟨_, rfl, hrow, hB⟩

set_option maxRecDepth 100000 in
set_option maxHeartbeats 400000 in
theorem refPut_gt (n sz : Int) (hn : -9223372036854775808 ≤ n ∧ n ≤ 9223372036854775807) (hs : 8 < sz) (hs0 : sz ≤ 9223372036854775807) (w : World) :
    Calls Try.prog 21 #[.int .i64 n, .int .i64 sz] w fun e w' => ∃ v, e = .returned v ∧ w'.ownsRow w.heap.size 5 1 v 8 ((octAll (IntKind.u64.wrap n) 8).map (Value.int .u8)) ∧ Below w.heap.size w w' := by
  obtain ⟨i0, hi, hz0, hz1, hz2⟩ := info_parts info_u8
  have hx := wrapped_range n
  go_enter Try.func21, Try.ntmps21
  go_wp2
  go_loopw [5, 6] (fun o i wr => ∃ j : Nat, j ≤ 8 ∧ i = .int .i64 j ∧ wr.ownsRow w.heap.size 5 1 o j ((octs (IntKind.u64.wrap n) 8 j).map (Value.int .u8)) ∧ Below w.heap.size w wr)
    (fun _ i _ => 8 - (intOf i).toNat)
  case atStart => exact ⟨0, Nat.zero_le _, rfl, World.ownsRow_nil _ _ _ _, Below.refl _ _⟩
  case round =>
    obtain ⟨j, hj, rfl, hrow, hB⟩ := hrel
    by_cases hlt : j < 8
    · have hs1 := octs_succ (IntKind.u64.wrap n) 8 j
      have Hs1 := Lib.hid hs1
      clear hs1
      obtain ⟨x, hxx⟩ : ∃ x, IntKind.u64.wrap n = x := ⟨_, rfl⟩
      rw [hxx] at hx hrow Hs1 ⊢
      go_wp2_with (at_builtin; refine wpList_append_own _ rfl (.tmp 15) (.tmp 26) 28 rfl w.heap.size 5 i0 (.int .u8 0) 1 1 Try.underlying28 hi hz0 hz1 hz2 rfl (by decide) _ _ _ rfl (hrow.alloc _) ⟨wr.heap.size, 0, none⟩ 1 1 [.int .u8 (octAt x 8 j)] rfl rfl (cell_one_new _ _ _) (by simp [Value.oneCell']) (by unfold maxLen; omega) (by omega) (by have := hB.size; simp; omega) ?_; intro v' w1 hown' hgrow _)
      go_roundw
      case rel => exact ⟨j + 1, by omega, by go_num, by rw [Hs1.out, List.map_append]; exact hown', (hB.alloc hB.size _).grown hgrow (by have := hB.size; simp; omega) (fun q e => (hrow.lt q e).1)⟩
      case measure => simp [intOf]; omega
    · obtain rfl : j = 8 := by omega
      go_wp2
      go_ret
      exact ⟨_, rfl, hrow, hB⟩

theorem refPut_any (n sz : Int) (hn : -9223372036854775808 ≤ n ∧ n ≤ 9223372036854775807) (hsz : -9223372036854775808 ≤ sz ∧ sz ≤ 9223372036854775807) (k : Nat) (hk : (k : Int) = max 0 (min sz 8)) (w : World) :
    Calls Try.prog 21 #[.int .i64 n, .int .i64 sz] w fun e w' => ∃ v, e = .returned v ∧ w'.ownsRow w.heap.size 5 1 v k ((octAll (IntKind.u64.wrap n) k).map (Value.int .u8)) ∧ Below w.heap.size w w' := by
  have h : (sz < 0 ∧ k = 0) ∨ (sz < 8 ∧ (k : Int) = sz) ∨ (sz = 8 ∧ k = 8) ∨ (8 < sz ∧ k = 8) := by omega
  rcases h with ⟨h, rfl⟩ | ⟨h, h2⟩ | ⟨rfl, rfl⟩ | ⟨h, rfl⟩
  · exact refPut_lt n sz hn h hsz.1 w
  · exact refPut_mid n sz hn k h2 h w
  · exact refPut_eq n hn w
  · exact refPut_gt n sz hn h hsz.2 w
end Go.Proofs.Ytenhjjbbmmomaaa
