import Derived.Test.YtbdjbmgeelleiaaDoorRefKey
import Derived.Test.YtbdjbmgeelleiaaDoorSgNew
/-
  The reference: Height; num.
-/
namespace Go.Proofs.YtbdjbmgeelleiaaDoor
set_option maxRecDepth 100000
section
set_option linter.unusedVariables false
open Go.RowKit

theorem sgNum_any (n : Int) (w : World) : Calls Tryd.prog 8 #[.int .i64 n] w fun e w' => e = .returned (.int .i64 n) ∧ w = w' := by
  go_enter Tryd.func8, Tryd.ntmps8
  go_wp2
  go_ret
  exact ⟨rfl, rfl⟩

set_option maxHeartbeats 1000000 in
theorem refHeight_ok (seed : List Int) (lv : Value) (ls : List (List Int)) (next : Int) (K : Nat) (w : World) (hs : Strs w lv ls) (hk : KeyOk seed ls next) (hf : ∀ k : Nat, (ls[k]?.getD []).length ≤ 9223372036854775807) (hK : ls.length = 2 ^ K) (hK4 : K ≤ 4) :
    Calls Tryd.prog 12 #[keyV seed lv next] w fun e w' => e = .returned (.int .i64 K) ∧ Up w w' := by
  have hl16 : ls.length ≤ 16 := by have := hk.pow; omega
  have Hck : Hid (∀ wx, Up w wx → Calls Tryd.prog 10 #[keyV seed lv next] wx fun e w' => e = .returned (.int .i64 0) ∧ Up wx w') := fun wx hx => by
    have h := refKey_any seed lv ls next wx (hs.up hx) (by omega) (by have := hk.seed; omega) hf
    rw [keyE_ok hk] at h
    exact h
  have Hstep : Hid (∀ h p : Nat, h < K → p = 2 ^ (K - h) → 1 < p ∧ p / 2 = 2 ^ (K - (h + 1))) := by
    intro h p hh hp
    rw [show K - h = (K - (h + 1)) + 1 from by omega, Nat.pow_succ] at hp
    have := Nat.two_pow_pos (K - (h + 1))
    constructor <;> omega
  obtain ⟨a, cap, rfl, _, _, _⟩ := hs
  have HK := Lib.hid hK
  clear hk hf hK
  unfold keyV at Hck ⊢
  go_enter Tryd.func12, Tryd.ntmps12
  go_wp2_with fail
  with_reducible refine Calls.mono (Hck.out _ (Up.alloc (Up.refl w) _)) ?_
  rintro e w1 ⟨rfl, hU1⟩
  have hk1 := (hU1.block w.heap.size (by simp)).trans (heap_alloc_new w _)
  have hc1 := cell_of_row _ _ 1 _ _ _ hk1
  simp only [List.getElem?_toArray, List.getElem?_cons_zero, List.getElem?_cons_succ] at hc1
  have HU1 := Lib.hid (Up.trans (Up.alloc (Up.refl w) _) hU1)
  clear hk1 hU1 Hck
  go_wp2
  clear hc1
  go_loop [3, 4] (fun hh nn => ∃ h p : Nat, h ≤ K ∧ p ≤ 16 ∧ p = 2 ^ (K - h) ∧ hh = .int .i64 h ∧ nn = .int .i64 p) (fun _ nn => (intOf nn).toNat)
  case atStart => exact ⟨0, ls.length, Nat.zero_le _, hl16, HK.out, rfl, rfl⟩
  case round =>
    obtain ⟨h, p, hh, hp16, hp, rfl, rfl⟩ := hrel
    by_cases hlt : h < K
    · obtain ⟨h1, h2⟩ := Hstep.out h p hlt hp
      have Hp2 := Lib.hid h2
      have h3 : (1 : Int) < (p : Int) := by omega
      clear h2 hp
      go_wp2
      go_round
      case rel => exact ⟨h + 1, p / 2, by omega, by omega, Hp2.out, by go_num, by go_num⟩
      case measure => simp [intOf]; omega
    · obtain rfl : h = K := by omega
      rw [Nat.sub_self] at hp
      obtain rfl : p = 1 := hp
      go_wp2
      go_ret
      exact ⟨rfl, HU1.out⟩

set_option maxHeartbeats 1000000 in
theorem refHeight_bad (seed : List Int) (lv : Value) (ls : List (List Int)) (next : Int) (w : World) (hs : Strs w lv ls) (hl : ls.length ≤ 9223372036854775807) (h8x : ∀ k : Nat, (ls[k]?.getD []).length ≤ 9223372036854775807) (hsl : seed.length ≤ 9223372036854775807) (hk : ¬ KeyOk seed ls next) :
    Calls Tryd.prog 12 #[keyV seed lv next] w fun e w' => e = .returned (.int .i64 0) ∧ Up w w' := by
  have Hck : Hid (∀ wx, Up w wx → Calls Tryd.prog 10 #[keyV seed lv next] wx fun e w' => e = .returned (.int .i64 9) ∧ Up wx w') := fun wx hx => by
    have h := refKey_any seed lv ls next wx (hs.up hx) hl hsl h8x
    rw [keyE_bad hk] at h
    exact h
  obtain ⟨a, cap, rfl, _, _, _⟩ := hs
  clear hk hl h8x hsl
  unfold keyV at Hck ⊢
  go_enter Tryd.func12, Tryd.ntmps12
  go_wp2_with fail
  with_reducible refine Calls.mono (Hck.out _ (Up.alloc (Up.refl w) _)) ?_
  rintro e w1 ⟨rfl, hU1⟩
  have HU1 := Lib.hid (Up.trans (Up.alloc (Up.refl w) _) hU1)
  clear hU1
  go_wp2
  go_ret
  exact ⟨rfl, HU1.out⟩
end
end Go.Proofs.YtbdjbmgeelleiaaDoor
