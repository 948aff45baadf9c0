import Derived.Test.YtbdjbmgeelleiaaDoorRefKey
/-
  signer: Height, told exactly.
-/
namespace Go.Proofs.YtbdjbmgeelleiaaDoor
set_option maxRecDepth 100000
section
set_option linter.unusedVariables false
open Go.RowKit

/-- the five places of the table that powers of two up to 16 lead to -/
def TabS (W : World) : Prop := ∀ i : Nat, i < 5 → W.cell? ⟨1, 2 ^ i - 1, none⟩ = some (.int .u8 (i : Int))
theorem TabS.up {W W' : World} (h : TabS W) (hu : Up W W') : TabS W' := fun i hi => later_cellX (h i hi) hu

set_option maxHeartbeats 1000000 in
theorem tz64_at (x i : Nat) (k : Nat) (w : World) (hx : 0 < x) (hk : k < 64) (key : IntKind.u64.wrap (bits BinOp.and IntKind.u64 (x : Int) (IntKind.u64.wrap (-(x : Int))) * 285870213051353865) / 288230376151711744 = (i : Int)) (hi : i < 64) (hc : w.cell? ⟨1, i, none⟩ = some (.int .u8 k)) :
    Calls Tryd.prog 51 #[.int .u64 (x : Int)] w fun e w' => e = .returned (.int .i64 k) ∧ w = w' := by
  have hx0 : ((x : Int) == 0) = false := by simp; omega
  have Hx := Lib.hid hx
  clear hx
  go_enter Tryd.func51, Tryd.ntmps51
  go_wp2_with (simp only [key])
  go_ret
  exact ⟨rfl, rfl⟩
theorem tz_pow (K : Nat) (w : World) (hK : K ≤ 4) (hT : TabS w) :
    Calls Tryd.prog 32 #[.int .u64 ((2 ^ K : Nat) : Int)] w fun e w' => e = .returned (.int .i64 K) ∧ w = w' := by
  have H : Hid (Calls Tryd.prog 51 #[.int .u64 ((2 ^ K : Nat) : Int)] w fun e w' => e = .returned (.int .i64 K) ∧ w = w') := by
    have hc : K = 0 ∨ K = 1 ∨ K = 2 ∨ K = 3 ∨ K = 4 := by omega
    rcases hc with rfl | rfl | rfl | rfl | rfl
    · exact tz64_at 1 0 0 w (by omega) (by omega) (by decide +kernel) (by omega) (hT 0 (by omega))
    · exact tz64_at 2 1 1 w (by omega) (by omega) (by decide +kernel) (by omega) (hT 1 (by omega))
    · exact tz64_at 4 3 2 w (by omega) (by omega) (by decide +kernel) (by omega) (hT 2 (by omega))
    · exact tz64_at 8 7 3 w (by omega) (by omega) (by decide +kernel) (by omega) (hT 3 (by omega))
    · exact tz64_at 16 15 4 w (by omega) (by omega) (by decide +kernel) (by omega) (hT 4 (by omega))
  have hn : 0 < 2 ^ K := Nat.two_pow_pos K
  generalize 2 ^ K = n at H hn ⊢
  clear hT hK
  go_enter Tryd.func32, Tryd.ntmps32
  go_wp2_with fail
  with_reducible refine Calls.mono H.out ?_
  rintro e w1 ⟨rfl, rfl⟩
  go_wp2
  go_ret
  exact ⟨rfl, rfl⟩

set_option maxHeartbeats 1000000 in
theorem height_ok (seed : List Int) (lv : Value) (ls : List (List Int)) (next : Int) (K : Nat) (w : World) (hs : Strs w lv ls) (hk : KeyOk seed ls next) (hK : ls.length = 2 ^ K) (hK4 : K ≤ 4) (hT : TabS w) :
    Calls Tryd.prog 11 #[keyV seed lv next] w fun e w' => e = .returned (.int .i64 K) ∧ Up w w' := by
  have Hck : Hid (∀ wx, Up w wx → Calls Tryd.prog 9 #[keyV seed lv next] wx fun e w' => e = .returned (.int .i64 0) ∧ Up wx w') := fun wx hx => check_ok seed lv ls next wx (hs.up hx) hk
  have Htz : Hid (∀ wx, Up w wx → Calls Tryd.prog 32 #[.int .u64 (ls.length : Int)] wx fun e w' => e = .returned (.int .i64 K) ∧ wx = w') := fun wx hx => by
    have h := tz_pow K wx hK4 (hT.up hx)
    rw [← hK] at h
    exact h
  have hl16 : ls.length ≤ 16 := by have := hk.pow; omega
  have hwu : IntKind.u64.wrap (ls.length : Int) = (ls.length : Int) := by rw [IntKind.wrap_u64]; omega
  obtain ⟨a, cap, rfl, _, _, _⟩ := hs
  clear hk hK hK4 hT
  unfold keyV at Hck ⊢
  go_enter Tryd.func11, Tryd.ntmps11
  go_wp2_with fail
  with_reducible refine Calls.mono (Hck.out _ (Up.alloc (Up.refl w) _)) ?_
  rintro e w1 ⟨rfl, hU1⟩
  have hk1 := (hU1.block w.heap.size (by simp)).trans (heap_alloc_new w _)
  have hc1 := cell_of_row _ _ 1 _ _ _ hk1
  simp only [List.getElem?_toArray, List.getElem?_cons_zero, List.getElem?_cons_succ] at hc1
  have HU1 := Lib.hid (Up.trans (Up.alloc (Up.refl w) _) hU1)
  clear hk1 hU1 Hck
  go_wp2_with fail
  with_reducible refine Calls.mono (Htz.out _ HU1.out) ?_
  rintro e w2 ⟨rfl, rfl⟩
  go_wp2
  go_ret
  exact ⟨rfl, HU1.out⟩

set_option maxHeartbeats 1000000 in
theorem height_bad (seed : List Int) (lv : Value) (ls : List (List Int)) (next : Int) (w : World) (hs : Strs w lv ls) (hl : ls.length ≤ 8796093022208) (h8x : ∀ k : Nat, (ls[k]?.getD []).length ≤ 9223372036854775807) (hsl : seed.length ≤ 9223372036854775807) (hn : -9223372036854775808 ≤ next ∧ next ≤ 9223372036854775807) (hk : ¬ KeyOk seed ls next) :
    Calls Tryd.prog 11 #[keyV seed lv next] w fun e w' => e = .returned (.int .i64 0) ∧ Up w w' := by
  have Hck : Hid (∀ wx, Up w wx → Calls Tryd.prog 9 #[keyV seed lv next] wx fun e w' => e = .returned (.int .i64 9) ∧ Up wx w') := fun wx hx => check_bad seed lv ls next wx (hs.up hx) hl h8x hsl hn hk
  obtain ⟨a, cap, rfl, _, _, _⟩ := hs
  clear hk hl h8x hsl hn
  unfold keyV at Hck ⊢
  go_enter Tryd.func11, Tryd.ntmps11
  go_wp2_with fail
  with_reducible refine Calls.mono (Hck.out _ (Up.alloc (Up.refl w) _)) ?_
  rintro e w1 ⟨rfl, hU1⟩
  have HU1 := Lib.hid (Up.trans (Up.alloc (Up.refl w) _) hU1)
  clear hU1
  go_wp2
  go_ret
  exact ⟨rfl, HU1.out⟩
end
end Go.Proofs.YtbdjbmgeelleiaaDoor
