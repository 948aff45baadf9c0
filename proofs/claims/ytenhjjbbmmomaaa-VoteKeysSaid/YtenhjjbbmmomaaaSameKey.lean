import Derived.Deep.QuietTactic
import Derived.BigQuiet
import Derived.Test.YtenhjjbbmmomaaaRefKey
import Derived.Test.YtenhjjbbmmomaaaSgCheck
/-
  The reference: SameKey of keys that are one.
-/
namespace Go.Proofs.Ytenhjjbbmmomaaa
set_option maxRecDepth 100000
section
set_option linter.unusedVariables false
open Go.RowKit

set_option maxHeartbeats 2000000 in
theorem sameKey_any (seed : List Int) (v u : Value) (ls : List (List Int)) (next : Int) (w : World) (hv : Strs w v ls) (hu : Strs w u ls) (hl : ls.length ≤ 9223372036854775807) :
    Calls Try.prog 5 #[keyV seed v next, keyV seed u next] w fun e w' => e = .returned (.bool true) ∧ Up w w' := by
  obtain ⟨a1, c1, rfl, _, _, h1⟩ := hv
  obtain ⟨a2, c2, rfl, _, _, h2⟩ := hu
  have H1 : Hid (∀ k, k < ls.length → ∀ wx, Up w wx → ∃ b off, a1 = some ⟨b, off, none⟩ ∧ wx.cell? ⟨b, off + k, none⟩ = some (.string (strOfNums (ls[k]?.getD [])))) := by
    intro k hk wx hx
    rcases h1 with h0 | ⟨b, off, rfl, hc⟩
    · rw [h0] at hk; simp at hk
    · exact ⟨b, off, rfl, later_cellX (hc k hk) hx⟩
  have H2 : Hid (∀ k, k < ls.length → ∀ wx, Up w wx → ∃ b off, a2 = some ⟨b, off, none⟩ ∧ wx.cell? ⟨b, off + k, none⟩ = some (.string (strOfNums (ls[k]?.getD [])))) := by
    intro k hk wx hx
    rcases h2 with h0 | ⟨b, off, rfl, hc⟩
    · rw [h0] at hk; simp at hk
    · exact ⟨b, off, rfl, later_cellX (hc k hk) hx⟩
  clear h1 h2
  unfold keyV
  have hA : ((w.alloc (.cells #[.string (strOfNums seed), .slice a1 ls.length c1, .int .i64 next] 24)).alloc (.cells #[.string (strOfNums seed), .slice a2 ls.length c2, .int .i64 next] 24)).heap[w.heap.size]? = _ := heap_alloc2_old w _ _
  have hB : ((w.alloc (.cells #[.string (strOfNums seed), .slice a1 ls.length c1, .int .i64 next] 24)).alloc (.cells #[.string (strOfNums seed), .slice a2 ls.length c2, .int .i64 next] 24)).heap[w.heap.size + 1]? = _ := heap_alloc2_new w _ _
  have HU0 := Lib.hid (Up.alloc (Up.alloc (Up.refl w) (.cells #[.string (strOfNums seed), .slice a1 ls.length c1, .int .i64 next] 24)) (.cells #[.string (strOfNums seed), .slice a2 ls.length c2, .int .i64 next] 24))
  have HA := Lib.hid hA
  have HB := Lib.hid hB
  clear hA hB
  go_enter Try.func5, Try.ntmps5
  go_wp2
  generalize hw2 : (w.alloc (.cells #[.string (strOfNums seed), .slice a1 ls.length c1, .int .i64 next] 24)).alloc (.cells #[.string (strOfNums seed), .slice a2 ls.length c2, .int .i64 next] 24) = w2 at HA HB HU0
  clear hw2
  go_loopw [5] (fun i wr => ∃ k : Nat, k ≤ ls.length ∧ i = .int .i64 k ∧ Up w2 wr) (fun i _ => ls.length - (intOf i).toNat)
  case atStart => exact ⟨0, Nat.zero_le _, rfl, Up.refl w2⟩
  case round =>
    obtain ⟨k, hk, rfl, hU⟩ := hrel
    have HU := Lib.hid hU
    have hk1 : wr.cell? ⟨w.heap.size, 1, none⟩ = some (.slice a1 ls.length c1) := later_cellX (cell_of_row _ _ 1 _ _ _ HA.out) hU
    have hk2 : wr.cell? ⟨w.heap.size + 1, 1, none⟩ = some (.slice a2 ls.length c2) := later_cellX (cell_of_row _ _ 1 _ _ _ HB.out) hU
    clear hU
    by_cases hlt : k < ls.length
    · obtain ⟨b1, o1, rfl, d1⟩ := H1.out k hlt wr (Up.trans HU0.out HU.out)
      obtain ⟨b2, o2, rfl, d2⟩ := H2.out k hlt wr (Up.trans HU0.out HU.out)
      generalize strOfNums (ls[k]?.getD []) = d at d1 d2
      go_wp2
      go_quiet (fail)
      have hB2 := Up.drewN HU.out nq
      generalize wr.drewN nq = w3 at hB2 ⊢
      clear d1 d2 hk1 hk2
      go_wp2
      go_roundw
      case rel => exact ⟨k + 1, by omega, by go_num, hB2⟩
      case measure => simp [intOf]; omega
    · obtain rfl : k = ls.length := by omega
      go_wp2
      go_ret
      exact ⟨rfl, Up.trans HU0.out HU.out⟩
end
end Go.Proofs.Ytenhjjbbmmomaaa
