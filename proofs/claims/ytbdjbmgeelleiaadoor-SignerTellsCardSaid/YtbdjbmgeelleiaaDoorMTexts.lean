import Derived.Deep.QuietTactic
import Derived.BigQuiet
import Derived.Test.YtbdjbmgeelleiaaDoorRefKey
/-
  mootplain.Texts: two slices of the same texts are the same.
-/
namespace Go.Proofs.YtbdjbmgeelleiaaDoor
section
set_option linter.unusedVariables false
open Go.RowKit

theorem Strs.allW {W : World} {v : Value} {ls : List (List Int)} (h : Strs W v ls) (h0 : 0 < ls.length) : ∃ b off c, v = .slice (some ⟨b, off, none⟩) ls.length c ∧ ∀ W', Up W W' → ∀ j, j < ls.length → W'.cell? ⟨b, off + j, none⟩ = some (.string (strOfNums (ls[j]?.getD []))) := by
  obtain ⟨a, c, rfl, hc, hn, hcell⟩ := id h
  rcases hcell with rfl | ⟨b, off, rfl, hcs⟩
  · simp at h0
  · refine ⟨b, off, c, rfl, fun W' hu j hj => ?_⟩
    exact (hu.cell (p := ⟨b, off + j, none⟩) (World.block_lt_of_cell? W _ (hcs j hj))).trans (hcs j hj)

set_option maxHeartbeats 1000000 in
theorem texts_any (v u : Value) (ls : List (List Int)) (w : World) (hv : Strs w v ls) (hu : Strs w u ls) (hl : ls.length ≤ 1048576) :
    Calls Tryd.prog 17 #[v, u] w fun e w' => e = .returned (.bool true) ∧ Up w w' := by
  rcases Nat.eq_zero_or_pos ls.length with h0 | h0
  · obtain ⟨a1, c1, rfl, _⟩ := hv
    obtain ⟨a2, c2, rfl, _⟩ := hu
    rw [h0]
    clear h0 hl
    go_enter Tryd.func17, Tryd.ntmps17
    go_wp2
    refine wp_loop_once ?_
    go_wp2
    go_ret
    exact ⟨rfl, Up.refl _⟩
  · obtain ⟨b1, o1, c1, rfl, H1⟩ := hv.allW h0
    obtain ⟨b2, o2, c2, rfl, H2⟩ := hu.allW h0
    have H1 := Lib.hid H1
    have H2 := Lib.hid H2
    clear hv hu h0
    go_enter Tryd.func17, Tryd.ntmps17
    go_wp2
    go_loopw [5] (fun i wr => ∃ k : Nat, k ≤ ls.length ∧ i = .int .i64 k ∧ Up w wr) (fun i _ => ls.length - (intOf i).toNat)
    case atStart => exact ⟨0, Nat.zero_le _, rfl, Up.refl w⟩
    case round =>
      obtain ⟨k, hk, rfl, hB⟩ := hrel
      by_cases hlt : k < ls.length
      · have c1 := H1.out wr hB k hlt
        have c2 := H2.out wr hB k hlt
        generalize strOfNums (ls[k]?.getD []) = d at c1 c2
        go_wp2
        go_quiet (fail)
        have hB2 := Up.drewN hB nq
        generalize wr.drewN nq = w2 at hB2 ⊢
        clear c1 c2
        go_wp2
        go_roundw
        case rel => exact ⟨k + 1, by omega, by go_num, hB2⟩
        case measure => simp [intOf]; omega
      · obtain rfl : k = ls.length := by omega
        go_wp2
        go_ret
        exact ⟨rfl, hB⟩

end
end Go.Proofs.YtbdjbmgeelleiaaDoor
