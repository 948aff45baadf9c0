import Derived.Test.YtaepdmmlejdifaaDisk
namespace Go.Proofs.Ytaepdmmlejdifaa
/-
  disk: Crash.
-/
section
set_option maxRecDepth 100000
section
set_option linter.unusedVariables false
open Go.RowKit
section
variable {b0 g : Nat} {o : Value} {room fl : Nat} {bs : List Int}
/-- Crash: how many stay -/
def dkKeep (keep : Int) (fl : Nat) (bs : List Int) : Nat := (fl + min (max keep 0) ((bs.length : Int) - fl)).toNat
set_option maxHeartbeats 1000000 in
theorem dkCrash_any (keep : Int) (w : World) (h : Dk w b0 g o room fl bs) :
    Calls Try.prog 16 #[.pointer (some ⟨g, 0, none⟩), .int .i64 keep] w fun e w' => e = .returned (.tuple #[]) ∧ ∃ o', Dk w' b0 g o' room (dkKeep keep fl bs) (bs.take (dkKeep keep fl bs)) ∧ WrStep g o o' w w' := by
  have Hm := Lib.hid (dkMade_any g _ _ _ w h.box)
  have hfl := h.fl
  have hln := h.len
  have hro := h.room
  have Ho : Hid (∀ wx, Up w wx → Calls Try.prog 19 #[.pointer (some ⟨g, 0, none⟩)] wx fun e w' => e = .returned (.int .i64 ((bs.length : Int) - fl)) ∧ Up wx w') := Lib.hid fun wx hx => dkLoose_any wx (h.up hx)
  have Hl : Hid (∀ wx (x : Int), Up w wx → x = fl + min (max keep 0) ((bs.length : Int) - fl) → Calls Try.prog 29 #[.pointer (some ⟨g, 0, none⟩), .int .i64 x] wx fun e w' => e = .returned (.tuple #[]) ∧ ∃ o', Dk w' b0 g o' room (dkKeep keep fl bs) (bs.take (dkKeep keep fl bs)) ∧ WrStep g o o' w w') := Lib.hid fun wx x hx e => (dkLeave_any x wx (h.up hx) (by omega) (by omega)).mono fun e' w' ⟨h1, o', h2, h3⟩ => by
    rw [show x.toNat = dkKeep keep fl bs by rw [e]; rfl] at h2
    exact ⟨h1, o', h2, (KeptBut.of_up hx).trans h3.1 (fun _ _ e => e), fun k hk => (h3.2 k hk).imp id (Nat.le_trans hx.size)⟩
  obtain ⟨c0, c1, c2, c3⟩ := h.cells
  obtain ⟨a, c, rfl⟩ := h.row.shape
  have hL0 : 0 ≤ (bs.length : Int) - fl := by omega
  have hL1 : fl + ((bs.length : Int) - fl) ≤ 262144 := by omega
  generalize (bs.length : Int) - fl = L at Ho Hl hL0 hL1
  clear h hln hro hfl
  go_enter Try.func16, Try.ntmps16
  go_wp2_with fail
  with_reducible refine Calls.mono Hm.out ?_
  rintro e w1 ⟨rfl, rfl⟩
  go_wp2
  go_region_with (first | (go_at_call 19; refine (Ho.out _ (by exact (Below.refl _ _).drew)).mono ?_; rintro e w4 ⟨rfl, hu4⟩; have c34 := later_cellF c3 (Up.trans (Up.drew1 w) hu4); have Hu4 := Lib.hid hu4; clear hu4) | (go_at_call 29; refine (Hl.out w4 _ (by exact Up.trans (Up.drew1 w) Hu4.out) (by rw [IntWalk.i64_in _ (by omega)])).mono ?_; rintro e w5 ⟨rfl, o', h1, h2⟩; have H1 := Lib.hid h1; have H2 := Lib.hid h2; clear h1 h2))
  all_goals
    go_wp2
    go_end0
    exact ⟨rfl, o', H1.out, H2.out⟩
end
end
end
end Go.Proofs.Ytaepdmmlejdifaa
