import Derived.Deep.RegionWith
import Derived.Test.YtjjaefacfcjgiaaShaStart
import Derived.Test.YtjjaefacfcjgiaaOctJoin
import Derived.Test.YtjjaefacfcjgiaaUps
/-
  The padding.
-/
namespace Go.Proofs.Ytjjaefacfcjgiaa
set_option linter.unusedVariables false
open Go.RowKit

theorem made_u8 (k : Nat) (hk : k ≤ 281474976710656) (u : World) : (Instr.makeSlice 22 (.int .i64 k) (.int .i64 k)).run Try.prog u =
      .ok (.slice (some ⟨u.heap.size, 0, none⟩) k k) (u.alloc (.cells (((List.replicate k (0 : Int)).map (Value.int .u8)).toArray) 5)) := by
  obtain ⟨i0, hi, hz0, hz1, hz2⟩ := info_parts info_u8
  have h := run_make (P := Try.prog) (w := u) 22 5 i0 (.int .u8 0) Try.underlying22 hi hz0 .i64 .i64 (k : Int) (k : Int) (by omega) (by omega) (by rw [hz2]; omega) (by omega)
  rw [h, hz1]
  simp only [Int.toNat_natCast, Nat.mul_one]
  congr 3
  apply Array.ext_getElem?
  intro j
  simp [madeCells, Value.cells, Array.getElem?_map]
  by_cases hj : j < k <;> simp [hj, Nat.mod_one]

/-- Join: what it makes lies behind what was there -/
theorem join_own {w wx : World} {vs : Value} {ls : List (List Int)} (xs : List Int) (hr : Rows8 wx vs ls) (hu : Up w wx) (hf : ls.flatten = xs) (hl : ls.length ≤ 1000) (hx : xs.length ≤ 281474976710656) :
    Calls Try.prog 37 #[vs] wx fun e w' => ∃ g, e = .returned (.slice (some ⟨g, 0, none⟩) xs.length xs.length) ∧ w'.ownsRow w.heap.size 5 1 (.slice (some ⟨g, 0, none⟩) xs.length xs.length) xs.length (xs.map (Value.int .u8)) ∧ Up w w' ∧ wx.heap.size ≤ g := by
  subst hf
  refine (join_any vs _ wx hr (by omega) hx).mono ?_
  rintro e w' ⟨rfl, hrow, hb⟩
  exact ⟨wx.heap.size, rfl, ownsRow_base hrow hu.size, hu.trans hb, Nat.le_refl _⟩

/-- one of the parts, in whatever world it is asked for -/
theorem pad_flat (n z : Nat) (h : zerosOf n = z) : [[(128 : Int)], List.replicate z 0, octAll (8 * n) 8].flatten = padTail n := by
  unfold padTail; rw [h]; simp

set_option maxRecDepth 100000 in
set_option maxHeartbeats 1000000 in
theorem padding_any (n : Nat) (hn : n ≤ 281474976710656) (w : World) :
    Calls Try.prog 38 #[.int .i64 n] w fun e w' => ∃ v, e = .returned v ∧ w'.ownsRow w.heap.size 5 1 v (padTail n).length ((padTail n).map (Value.int .u8)) ∧ Below w.heap.size w w' := by
  obtain ⟨z, hz⟩ : ∃ z, zerosOf n = z := ⟨_, rfl⟩
  have hzl : z < 64 := by rw [← hz]; unfold zerosOf; omega
  have hz1 : (55 - (n : Int) % 64 + 64) % 64 = (z : Int) := by rw [← hz]; unfold zerosOf; omega
  have Hpl := Lib.hid (padTail_length n)
  have Hf := Lib.hid (pad_flat n z hz)
  have Hput : Hid (∀ wx, Calls Try.prog 30 #[.int .i64 (8 * (n : Int)), .int .i64 8] wx fun e w' => ∃ g cap, e = .returned (.slice (some ⟨g, 0, none⟩) 8 cap) ∧ Ints .u8 w' (.slice (some ⟨g, 0, none⟩) 8 cap) (octAll (8 * n) 8) ∧ Up wx w') := by
    intro wx
    refine (put_any (8 * n) 8 (by omega) (by omega) 8 (by decide) wx).mono ?_
    rintro e w' ⟨v, rfl, hr, hb⟩
    have e8 : IntKind.u64.wrap (8 * (n : Int)) = 8 * n := by rw [IntKind.wrap_u64]; omega
    rw [e8] at hr
    obtain ⟨g, cap, rfl⟩ := ownsRow_succ hr
    exact ⟨g, cap, rfl, Ints.of_row hr, hb⟩
  have Hjoin : Hid (∀ wx vs, Rows8 wx vs [[128], List.replicate z 0, octAll (8 * n) 8] → Up w wx → Calls Try.prog 37 #[vs] wx fun e w' => ∃ v, e = .returned v ∧ w'.ownsRow w.heap.size 5 1 v (padTail n).length ((padTail n).map (Value.int .u8)) ∧ Up w w') := by
    intro wx vs hr hu
    refine (join_any vs _ wx hr (by simp) (by rw [Hf.out, Hpl.out]; unfold zerosOf; omega)).mono ?_
    rintro e w' ⟨rfl, hrow, hb⟩
    rw [Hf.out] at hrow
    exact ⟨_, by rw [Hf.out], ownsRow_base hrow hu.size, hu.trans hb⟩
  have Hmk := made_u8 z (by omega)
  have h8 : IntKind.i64.wrap (8 * (n : Int)) = 8 * n := IntWalk.i64_in _ (by omega)
  go_enter Try.func38, Try.ntmps38
  go_wp2
  generalize hzz : (55 - (n : Int) % 64 + 64) % 64 = zz
  obtain rfl : zz = z := hzz.symm.trans hz1
  clear hzz hz1 hz
  go_region_with ((first | (go_at_call 30; refine (Hput.out _).mono ?_; rintro e w1 ⟨g1, c1, rfl, hI1, hB1⟩) | (go_at_call 37; refine (Hjoin.out _ _ ?_ ?_).mono ?_; (focus (refine Rows8.new3 _ _ _ _ _ _ _ _ _ (by simp) ?_ ?_ ?_ <;> (repeat (first | (with_reducible exact hI1) | ((with_reducible refine Ints.newc _ _ _ _ _ _ _ ?_ ?_ ?_) <;> (simp; done)) | (with_reducible refine Ints.alloc ?_ _) | (with_reducible refine Ints.drew ?_) | (with_reducible refine Ints.up ?_ hB1))))); (focus (repeat (first | (with_reducible exact Up.refl _) | (with_reducible refine Up.drew ?_) | (with_reducible refine Up.alloc ?_ _) | (with_reducible refine Up.trans ?_ hB1)))); rintro e w2 ⟨v2, rfl, hr2, hB2⟩)))
  all_goals
    go_wp2
    go_ret
    exact ⟨_, rfl, hr2, hB2⟩
end Go.Proofs.Ytjjaefacfcjgiaa
