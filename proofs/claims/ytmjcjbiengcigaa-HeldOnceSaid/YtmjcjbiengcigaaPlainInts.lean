import Derived.Deep.QuietTactic
import Derived.BigQuiet
import Derived.Deep.RegionWith
import Derived.Test.YtmjcjbiengcigaaUps
/-
  Are two slices of numbers alike?
-/
namespace Go.Proofs.Ytmjcjbiengcigaa
set_option linter.unusedVariables false
open Go.RowKit

theorem Ints.all {k : IntKind} {W : World} {v : Value} {zs : List Int} (h : Ints k W v zs) (h0 : 0 < zs.length) : ∃ b off c, v = .slice (some ⟨b, off, none⟩) zs.length c ∧ ∀ W', Up W W' → ∀ j, j < zs.length → W'.cell? ⟨b, off + j, none⟩ = some (.int k (zs[j]?.getD 0)) := by
  obtain ⟨a, c, rfl, hc, hn, hcell⟩ := id h
  rcases hcell with rfl | ⟨b, off, rfl, hcs⟩
  · simp at h0
  · refine ⟨b, off, c, rfl, fun W' hu j hj => ?_⟩
    exact (hu.cell (p := ⟨b, off + j, none⟩) (World.block_lt_of_cell? W _ (hcs j hj))).trans (hcs j hj)
set_option maxHeartbeats 1000000 in
theorem sameInts_any (v u : Value) (zs : List Int) (w : World) (hv : Ints .i64 w v zs) (hu : Ints .i64 w u zs) (h0 : 0 < zs.length) (hl : zs.length ≤ 1000) :
    Calls Try.prog 8 #[v, u] w fun e w' => e = .returned (.bool true) ∧ Up w w' := by
  obtain ⟨b1, o1, c1, rfl, H1⟩ := hv.all h0
  obtain ⟨b2, o2, c2, rfl, H2⟩ := hu.all h0
  have H1 := Lib.hid H1
  have H2 := Lib.hid H2
  clear hv hu h0
  go_enter Try.func8, Try.ntmps8
  go_wp2
  go_loopw [5] (fun i wr => ∃ k : Nat, k ≤ zs.length ∧ i = .int .i64 k ∧ Up w wr) (fun i _ => zs.length - (intOf i).toNat)
  case atStart => exact ⟨0, Nat.zero_le _, rfl, Up.refl w⟩
  case round =>
    obtain ⟨k, hk, rfl, hB⟩ := hrel
    by_cases hlt : k < zs.length
    · have c1 := H1.out wr hB k hlt
      have c2 := H2.out wr hB k hlt
      generalize zs[k]?.getD 0 = d at c1 c2
      go_wp2
      go_quiet (fail)
      have hB2 := Up.drewN hB nq
      generalize wr.drewN nq = w2 at hB2 ⊢
      clear c1 c2
      go_wp2
      go_roundw
      case rel => exact ⟨k + 1, by omega, by go_num, hB2⟩
      case measure => simp [intOf]; omega
    · obtain rfl : k = zs.length := by omega
      go_wp2
      go_ret
      exact ⟨rfl, hB⟩


/-- empty ones, too -/
theorem sameInts0_any (v u : Value) (zs : List Int) (w : World) (hv : Ints .i64 w v zs) (hu : Ints .i64 w u zs) (hl : zs.length ≤ 1000) :
    Calls Try.prog 8 #[v, u] w fun e w' => e = .returned (.bool true) ∧ Up w w' := by
  by_cases h0 : 0 < zs.length
  · exact sameInts_any v u zs w hv hu h0 hl
  · obtain rfl : zs = [] := by cases zs <;> simp_all
    obtain ⟨a, c, rfl, _⟩ := hv
    obtain ⟨a2, c2, rfl, _⟩ := hu
    simp only [List.length_nil]
    go_enter Try.func8, Try.ntmps8
    go_wp2
    go_loopw [5] (fun i wr => i = .int .i64 0 ∧ Up w wr) (fun i _ => 0)
    case atStart => exact ⟨rfl, Up.refl w⟩
    case round =>
      obtain ⟨rfl, hB⟩ := hrel
      go_wp2
      go_ret
      exact ⟨rfl, hB⟩
end Go.Proofs.Ytmjcjbiengcigaa
