import Derived.OwnWalk
import Derived.Test.YtjjaefacfcjgiaaOctWalk
import Derived.Test.YtjjaefacfcjgiaaPreds
namespace Go.Proofs.Ytjjaefacfcjgiaa
set_option linter.unusedVariables false
open Go.RowKit

set_option maxHeartbeats 1000000 in
theorem join_any (v : Value) (ls : List (List Int)) (w : World) (hv : Rows8 w v ls) (hlen : ls.length ≤ 9223372036854775807) (hsum : ls.flatten.length ≤ 281474976710656) :
    Calls Try.prog 37 #[v] w fun e w' => e = .returned (.slice (some ⟨w.heap.size, 0, none⟩) ls.flatten.length ls.flatten.length) ∧ w'.ownsRow w.heap.size 5 1 (.slice (some ⟨w.heap.size, 0, none⟩) ls.flatten.length ls.flatten.length) ls.flatten.length (ls.flatten.map (Value.int .u8)) ∧ Below w.heap.size w w' := by
  obtain ⟨i0, hi, hz0, hz1, hz2⟩ := info_parts info_u8
  obtain ⟨a, cap, rfl, hcap, hnil, hcell⟩ := hv
  clear hnil
  have Hcell := Lib.hid hcell
  clear hcell
  go_enter Try.func37, Try.ntmps37
  go_wp2
  go_loop [3, 11] (fun n i => ∃ k : Nat, k ≤ ls.length ∧ i = .int .i64 k ∧ n = .int .i64 ((ls.take k).flatten.length : Int)) (fun _ i => ls.length - (intOf i).toNat)
  case atStart => exact ⟨0, Nat.zero_le _, rfl, rfl⟩
  case round =>
    obtain ⟨k, hk, rfl, rfl⟩ := hrel
    by_cases hlt : k < ls.length
    · rcases Hcell.out with rfl | ⟨b, off, rfl, hc⟩
      · simp at hlt
      obtain ⟨u, hu, a1, c1, rfl, hc1, _, _⟩ := hc k hlt
      have hs := flat_snoc ls k hlt
      have hle := flat_le ls (k + 1)
      obtain ⟨x, hx⟩ : ∃ x, ls[k]?.getD [] = x := ⟨_, rfl⟩
      rw [hx] at hu hs
      have e1 : (ls.take (k + 1)).flatten.length = (ls.take k).flatten.length + x.length := by rw [hs, List.length_append]
      have hle2 : (ls.take k).flatten.length + x.length ≤ 281474976710656 := by omega
      have He := Lib.hid e1
      obtain ⟨m, hm⟩ : ∃ m, (ls.take k).flatten.length = m := ⟨_, rfl⟩
      obtain ⟨xl, hxl⟩ : ∃ xl, x.length = xl := ⟨_, rfl⟩
      rw [hm] at hle2 He ⊢
      rw [hxl] at hu hle2 He
      clear hc hs hx e1 hm hxl hc1 hle
      go_wp2
      go_round
      case rel => exact ⟨k + 1, by omega, by go_num, by rw [He.out]; go_num⟩
      case measure => simp [intOf]; omega
    · obtain rfl : k = ls.length := by omega
      have ht : ls.take ls.length = ls := List.take_length
      rw [ht]
      clear ht
      have hmk := make_u8 (ls.flatten.length : Int) ls.flatten.length rfl (by omega)
      obtain ⟨T, hT⟩ : ∃ T, ls.flatten.length = T := ⟨_, rfl⟩
      have HT := Lib.hid hT
      rw [hT] at hmk hsum ⊢
      clear hT
      go_wp2
      clear hmk
      have r0 := World.ownsRow_made (base := w.heap.size) (e := 5) (size := 1) w (madeCells #[.int .u8 0] T) T (Nat.le_refl _) (by unfold maxLen; omega) (by first | (rw [size_madeCells]; done) | (rw [size_madeCells]; omega))
      have hB0 : Below w.heap.size w (w.alloc (.cells (madeCells #[Value.int .u8 0] T) 5)) := (Below.refl _ w).alloc (Nat.le_refl _) _
      go_loopw [6, 24] (fun o i wr => ∃ k m : Nat, k ≤ ls.length ∧ i = .int .i64 k ∧ o = .slice (some ⟨w.heap.size, 0, none⟩) m T ∧ m = (ls.take k).flatten.length ∧ wr.ownsRow w.heap.size 5 1 (.slice (some ⟨w.heap.size, 0, none⟩) m T) m ((ls.take k).flatten.map (Value.int .u8)) ∧ Below w.heap.size w wr)
        (fun _ i _ => ls.length - (intOf i).toNat)
      case atStart => exact ⟨0, 0, Nat.zero_le _, rfl, rfl, rfl, r0, hB0⟩
      case round =>
        obtain ⟨k, m, hk, rfl, rfl, hm, hrow, hB⟩ := hrel
        clear r0 hB0
        by_cases hlt : k < ls.length
        · rcases Hcell.out with rfl | ⟨b, off, rfl, hc⟩
          · simp at hlt
          obtain ⟨u, hu, hi8⟩ := hc k hlt
          have hu := (hB.cell (p := ⟨b, off + k, none⟩) (World.block_lt_of_cell? w _ hu)).trans hu
          obtain ⟨a1, c1, rfl, hc1, hn1, hcs⟩ := hi8.kept hB
          have hs := flat_snoc ls k hlt
          have hle := flat_le ls (k + 1)
          obtain ⟨x, hx⟩ : ∃ x, ls[k]?.getD [] = x := ⟨_, rfl⟩
          rw [hx] at hu hs hcs hc1
          have e1 : (ls.take (k + 1)).flatten.length = (ls.take k).flatten.length + x.length := by rw [hs, List.length_append]
          have hle2 : m + x.length ≤ T := by rw [hm]; have := HT.out; omega
          have hnews := cells_all (k := .u8) hcs
          have Hx : Hid (∀ u ∈ x.map (Value.int .u8), u.oneCell' = true) := ints_oneCell .u8 x
          have Hs := Lib.hid hs
          have Hm := Lib.hid hm
          have He := Lib.hid e1
          have Hn1 : Hid (a1 = none → x.length = 0 ∧ c1 = 0) := fun h => ⟨by have := hn1 h; omega, hn1 h⟩
          have Hnews := Lib.hid hnews
          clear hc hs hx e1 hm hcs hnews hn1 hle
          go_wp2_with (at_builtin; refine wpList_append_fits_any _ rfl _ _ 22 rfl w.heap.size 5 i0 1 Try.underlying22 hi hz1 w.heap.size m T _ rfl hrow a1 x.length c1 (x.map (Value.int .u8)) rfl (by simp) Hn1.out Hnews.out Hx.out hle2 ?_; intro w1 hrow1 hgrow1)
          go_roundw
          case rel => exact ⟨k + 1, m + x.length, by omega, by go_num, rfl, by rw [He.out, ← Hm.out], by rw [Hs.out, List.map_append]; exact hrow1, hB.grown hgrow1 hB.size (fun j e => by cases e; exact Nat.le_refl _)⟩
          case measure => simp [intOf]; omega
        · obtain rfl : k = ls.length := by omega
          have ht : ls.take ls.length = ls := List.take_length
          rw [ht] at hrow hm
          clear ht
          obtain rfl : m = T := hm.trans HT.out
          clear hm
          go_wp2
          go_ret
          rw [HT.out]
          exact ⟨rfl, hrow, hB⟩
end Go.Proofs.Ytjjaefacfcjgiaa
