import Derived.Test.YtpofehagmpdgeaaDoorMk6
/-
  The page's example; MerkleRows: the walk.
-/
namespace Go.Proofs.YtpofehagmpdgeaaDoor
section
set_option linter.unusedVariables false
open Go.RowKit

/-- a slice of strings that was just laid -/
theorem strs_new (w : World) (t : TypeId) (c : Array Value) (ls : List (List Int)) (b n : Nat) (hb : b = w.heap.size) (hn : n = ls.length) (hc : c.toList = strVs ls) : Strs (w.alloc (.cells c t)) (.slice (some ⟨b, 0, none⟩) n n) ls := by
  subst hn; subst hb
  refine ⟨_, _, rfl, Nat.le_refl _, by simp, .inr ⟨w.heap.size, 0, rfl, fun j hj => ?_⟩⟩
  rw [Nat.zero_add, cell_of_row _ _ j c t (0, 0) (heap_alloc_new w _), ← Array.getElem?_toList, hc]
  simp [strVs, hj]
theorem fits_ab : Fits [[97], [98]] := by
  intro k
  match k with
  | 0 => exact ⟨fun j hj => by match j, hj with | 0, _ => decide, by decide⟩
  | 1 => exact ⟨fun j hj => by match j, hj with | 0, _ => decide, by decide⟩
  | k + 2 => exact ⟨fun j hj => by simp at hj, by simp⟩
theorem fits_a : Fits [[97]] := by
  intro k
  match k with
  | 0 => exact ⟨fun j hj => by match j, hj with | 0, _ => decide, by decide⟩
  | k + 1 => exact ⟨fun j hj => by simp at hj, by simp⟩

theorem row_shape {W : World} {base : Nat} {e : TypeId} {v : Value} {n : Nat} {xs : List Value} (h : W.ownsRow base e 1 v n xs) (hn : 0 < n) : ∃ g cap, v = .slice (some ⟨g, 0, none⟩) n cap ∧ n ≤ cap ∧ ∀ j u, xs[j]? = some u → W.cell? ⟨g, j, none⟩ = some u := by
  obtain ⟨g, cap, rfl, hle⟩ := row_slice h hn
  refine ⟨g, cap, rfl, hle, fun j u hj => ?_⟩
  have hl : xs.length = n := by have := h.1; omega
  have hj' : j < n := by have := (List.getElem?_eq_some_iff.1 hj).1; omega
  rw [h.cellAt j (by omega)]
  exact hj

set_option maxHeartbeats 1000000 in
theorem mkAlive_any (w : World) (hT : Tab64 w) : Calls Tryd.prog 17 #[] w fun e w' => e = .returned (.bool true) ∧ Up w w' := by
  have hS := strs_new w 9 #[.string ⟨#[97]⟩, .string ⟨#[98]⟩] [[97], [98]] w.heap.size 2 rfl rfl rfl
  have Hp := Lib.hid (path_pow _ [[97], [98]] 1 1 _ hS fits_ab (by decide) rfl (by decide) (hT.up (Up.alloc (Up.refl w) _)))
  have hpb : strVs (pathB [[97], [98]] 1 1) = [.string ⟨#[97]⟩] := rfl
  rw [hpb] at Hp
  have Hr : Hid (∀ wx : World, Calls Tryd.prog 12 #[.slice (some ⟨wx.heap.size, 0, none⟩) 1 1] (wx.alloc (.cells #[.string ⟨#[97]⟩] 9)) fun e w' => e = .returned (.string ⟨#[97]⟩) ∧ Up (wx.alloc (.cells #[.string ⟨#[97]⟩] 9)) w') := fun wx =>
    root_any _ [[97]] _ (strs_new wx 9 #[.string ⟨#[97]⟩] [[97]] wx.heap.size 1 rfl rfl rfl) fits_a (by decide)
  clear hS hpb
  go_enter Tryd.func17, Tryd.ntmps17
  go_wp2_with fail
  with_reducible refine Calls.mono Hp.out ?_
  rintro e w1 ⟨r1, rfl, hr1, hU1⟩
  obtain ⟨g1, c1, rfl, hle1, hc1⟩ := row_shape hr1 (by omega)
  have hcell := hc1 0 _ rfl
  have HU1 := Lib.hid (Up.trans (Up.alloc (Up.refl w) _) hU1)
  have hlt := World.block_lt_of_cell? w1 _ hcell
  clear hr1 hc1 hU1 Hp
  go_wp2_with fail
  with_reducible refine Calls.mono (Hr.out _) ?_
  rintro e w2 ⟨rfl, hU2⟩
  have hU3 := Up.trans (Up.alloc (Up.refl w1) _) hU2
  have hcell2 := (hU3.cell (p := ⟨g1, 0, none⟩) hlt).trans hcell
  have HU := Lib.hid (Up.trans HU1.out hU3)
  clear hU2 hU3 hcell
  go_wp2
  go_ret
  exact ⟨rfl, HU.out⟩
end
end Go.Proofs.YtpofehagmpdgeaaDoor
