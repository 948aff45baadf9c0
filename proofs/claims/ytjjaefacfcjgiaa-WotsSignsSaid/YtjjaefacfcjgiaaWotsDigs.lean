import Derived.OwnWalk
import Derived.Laws.BitsLemmas
import Derived.Maps.AppendAt
import Derived.Laws.ShiftsVarLaws
import Derived.Laws.Bits64
import Derived.IntWalk
import Derived.Test.YtjjaefacfcjgiaaOctWalk
import Derived.Test.YtjjaefacfcjgiaaWotsPlain
/-
  digits and left.
-/
namespace Go.Proofs.Ytjjaefacfcjgiaa
set_option linter.unusedVariables false
open Go.RowKit

theorem info_int : (Try.prog.info? 3).map (fun i => (i.zero, i.size, i.bytes)) = some (some (.int .i64 0), 1, 8) := by kernel_rfl
theorem make_int (K : Int) (k : Nat) (hK : K = k) (hk : k ≤ 1048576) (u : World) : (Instr.makeSlice 24 (.int .i64 0) (.int .i64 K)).run Try.prog u =
      .ok (.slice (some ⟨u.heap.size, 0, none⟩) 0 k) (u.alloc (.cells (madeCells #[.int .i64 0] k) 3)) := by
  subst hK
  obtain ⟨i0, hi, hz0, hz1, hz2⟩ := info_parts info_int
  have h := run_make (P := Try.prog) u 24 3 i0 (.int .i64 0) Try.underlying24 hi hz0 .i64 .i64 0 (k : Int) (by omega) (by omega) (by rw [hz2]; omega) (by omega)
  simpa [hz1, Value.cells] using h
theorem i64_and3 (n : Int) : bits .and .i64 n 3 = n % 4 := by
  have h3 : (BitVec.ofInt 64 3).toNat = 2 ^ 2 - 1 := by decide
  have key : (BitVec.ofInt 64 n &&& BitVec.ofInt 64 3).toNat = (n % ((2 ^ 64 : Nat) : Int)).toNat % 2 ^ 2 := by
    rw [BitVec.toNat_and, BitVec.toNat_ofInt, h3, Nat.and_two_pow_sub_one_eq_mod]
  show IntKind.i64.wrap ((BitVec.ofInt 64 n &&& BitVec.ofInt 64 3).toNat : Nat) = n % 4
  rw [key, IntKind.wrap_i64]
  omega
theorem two_four (x : Int) (k : Nat) : x / 2 ^ (2 * k) = x / 4 ^ k := by
  rw [Int.pow_mul]; rfl

set_option maxHeartbeats 1000000 in
theorem digits_any (x : Int) (c : Nat) (hx : 0 ≤ x ∧ x < 65536) (hc : 0 < c ∧ c ≤ 8) (w : World) :
    Calls Try.prog 23 #[.int .i64 x, .int .i64 c] w fun e w' => ∃ v, e = .returned v ∧ w'.ownsRow w.heap.size 3 1 v c ((digsB x c).map (Value.int .i64)) ∧ Up w w' := by
  obtain ⟨i0, hi, hz0, hz1, hz2⟩ := info_parts info_int
  have hmk := make_int (c : Int) c rfl (by omega)
  go_enter Try.func23, Try.ntmps23
  go_wp2
  clear hmk
  have r0 := World.ownsRow_made (base := w.heap.size) (e := 3) (size := 1) w (madeCells #[.int .i64 0] c) c (Nat.le_refl _) (by unfold maxLen; omega) (by first | (rw [size_madeCells]; done) | (rw [size_madeCells]; omega))
  have hB0 : Up w (w.alloc (.cells (madeCells #[Value.int .i64 0] c) 3)) := Up.alloc (Up.refl w) _
  go_loopw [5, 10] (fun o i wr => ∃ k : Nat, k ≤ c ∧ i = .int .i64 k ∧ wr.ownsRow w.heap.size 3 1 o k ((digsTo x c k).map (Value.int .i64)) ∧ Up w wr)
    (fun _ i _ => c - (intOf i).toNat)
  case atStart => exact ⟨0, Nat.zero_le _, rfl, r0, hB0⟩
  case round =>
    obtain ⟨k, hk, rfl, hrow, hB⟩ := hrel
    clear r0 hB0
    by_cases hlt : k < c
    · have hs := digsTo_succ x c k
      obtain ⟨m, hm⟩ : ∃ m : Nat, c - 1 - k = m := ⟨_, rfl⟩
      have hm2 : (c : Int) - 1 - (k : Int) = m := by omega
      have hm3 : m < 8 := by omega
      rw [hm] at hs
      have hd : bits .and .i64 (x / 2 ^ (2 * m)) 3 = x / 4 ^ m % 4 := by rw [i64_and3, two_four]
      rw [← hd] at hs
      have Hs := Lib.hid hs
      clear hs hm hd
      go_wp2_with (at_builtin; refine wpList_append_own _ rfl (.tmp 13) (.tmp 22) 24 rfl w.heap.size 3 i0 (.int .i64 0) 1 8 Try.underlying24 hi hz0 hz1 hz2 rfl (by decide) _ k _ rfl (hrow.alloc _) ⟨wr.heap.size, 0, none⟩ 1 1 [.int .i64 (bits .and .i64 (x / 2 ^ (2 * m)) 3)] rfl rfl (cell_one_new _ _ _) (by simp [Value.oneCell']) (by unfold maxLen; omega) (by omega) (by have := hB.size; simp; omega) ?_; intro v' w1 hown' hgrow _)
      go_roundw
      case rel => exact ⟨k + 1, by omega, by go_num, by rw [Hs.out, List.map_append]; exact hown', (Up.alloc hB _).grown hgrow (by have := hB.size; simp; omega) (fun q e => (hrow.lt q e).1)⟩
      case measure => simp [intOf]; omega
    · obtain rfl : k = c := by omega
      have e := digsTo_all x k
      have He := Lib.hid e
      clear e
      go_wp2
      go_ret
      exact ⟨_, rfl, by rw [← He.out]; exact hrow, hB⟩

set_option maxHeartbeats 1000000 in
theorem left_any (v : Value) (ds : List Int) (w : World) (hv : Ints .i64 w v ds) (hd : ∀ j : Nat, 0 ≤ ds[j]?.getD 0 ∧ ds[j]?.getD 0 ≤ 3) (hl : ds.length ≤ 100) :
    Calls Try.prog 26 #[v] w fun e w' => e = .returned (.int .i64 (leftB ds)) ∧ w = w' := by
  obtain ⟨a, cap, rfl, hcap, hnil, hcell⟩ := hv
  go_enter Try.func26, Try.ntmps26
  go_wp2
  go_loop [3, 8] (fun s i => ∃ k : Nat, k ≤ ds.length ∧ i = .int .i64 k ∧ s = .int .i64 (leftB (ds.take k))) (fun _ i => ds.length - (intOf i).toNat)
  case atStart => exact ⟨0, Nat.zero_le _, rfl, rfl⟩
  case round =>
    obtain ⟨k, hk, rfl, rfl⟩ := hrel
    by_cases hlt : k < ds.length
    · rcases hcell with rfl | ⟨b, off, rfl, hc⟩
      · simp at hlt
      have hck := hc k hlt
      have hdk := hd k
      have hr := leftB_range (ds.take k) (fun j => by
        by_cases h : j < k
        · rw [List.getElem?_take, if_pos h]; exact hd j
        · rw [List.getElem?_eq_none (by rw [List.length_take]; omega)]; decide)
      have hr2 : (ds.take k).length ≤ 100 := by rw [List.length_take]; omega
      have hs : leftB (ds.take (k + 1)) = leftB (ds.take k) + (3 - ds[k]?.getD 0) := by rw [take_snoc ds k hlt, leftB_snoc]
      obtain ⟨o, ho⟩ : ∃ o, ds[k]?.getD 0 = o := ⟨_, rfl⟩
      obtain ⟨s, hs2⟩ : ∃ s, leftB (ds.take k) = s := ⟨_, rfl⟩
      rw [ho] at hck hdk hs
      rw [hs2] at hr hs ⊢
      have Hs := Lib.hid hs
      clear hc ho hs hs2
      go_wp2
      go_round
      case rel => exact ⟨k + 1, by omega, by go_num, by rw [Hs.out]⟩
      case measure => simp [intOf]; omega
    · obtain rfl : k = ds.length := by omega
      have ht : ds.take ds.length = ds := List.take_length
      rw [ht]
      clear ht
      go_wp2
      go_ret
      exact ⟨rfl, rfl⟩
end Go.Proofs.Ytjjaefacfcjgiaa
