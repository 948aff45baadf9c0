import Derived.IntWalk
import Derived.Test.YtpofehagmpdgeaaDoorGrowth
import Derived.Test.YtpofehagmpdgeaaDoorUps
/-
  bits.TrailingZeros: its table is where the row says; what it answers is from 0 to 63.
-/
namespace Go.Proofs.YtpofehagmpdgeaaDoor
section
set_option linter.unusedVariables false
open Go.RowKit

/-- the table of TrailingZeros64 holds numbers below 64 -/
def Tab64 (W : World) : Prop := ∀ j, j < 64 → ∃ k : Nat, k < 64 ∧ W.cell? ⟨1, j, none⟩ = some (.int .u8 k)
theorem Tab64.up {W W' : World} (h : Tab64 W) (hu : Up W W') : Tab64 W' := fun j hj => by
  obtain ⟨k, hk, hc⟩ := h j hj
  exact ⟨k, hk, (hu.cell (World.block_lt_of_cell? W _ hc)).trans hc⟩

set_option maxHeartbeats 1000000 in
theorem tz64_any (x : Nat) (w : World) (hx : 0 < x) (hT : Tab64 w) :
    Calls Tryd.prog 27 #[.int .u64 (x : Int)] w fun e w' => ∃ k : Nat, k < 64 ∧ e = .returned (.int .i64 k) ∧ w = w' := by
  obtain ⟨i, hi, key⟩ : ∃ i : Nat, i < 64 ∧ IntKind.u64.wrap (bits BinOp.and IntKind.u64 (x : Int) (IntKind.u64.wrap (-(x : Int))) * 285870213051353865) / 288230376151711744 = (i : Int) := by
    generalize bits BinOp.and IntKind.u64 (x : Int) (IntKind.u64.wrap (-(x : Int))) * 285870213051353865 = q
    rw [IntKind.wrap_u64]
    exact ⟨(q % 18446744073709551616 / 288230376151711744).toNat, by omega, by omega⟩
  obtain ⟨k, hk, hc⟩ := hT i hi
  have hx0 : ((x : Int) == 0) = false := by simp; omega
  have Hx := Lib.hid hx
  clear hx
  go_enter Tryd.func27, Tryd.ntmps27
  go_wp2_with (simp only [key])
  go_ret
  exact ⟨k, hk, rfl, rfl⟩
theorem tz_any (x : Nat) (w : World) (hx : 0 < x) (hT : Tab64 w) :
    Calls Tryd.prog 19 #[.int .u64 (x : Int)] w fun e w' => ∃ k : Nat, k < 64 ∧ e = .returned (.int .i64 k) ∧ w = w' := by
  have H := Lib.hid (tz64_any x w hx hT)
  have Hx := Lib.hid hx
  clear hx hT
  go_enter Tryd.func19, Tryd.ntmps19
  go_wp2_with fail
  with_reducible refine Calls.mono H.out ?_
  rintro e w1 ⟨k, hk, rfl, rfl⟩
  have Hk := Lib.hid hk
  clear hk
  go_wp2
  go_ret
  exact ⟨k, Hk.out, rfl, rfl⟩
end
end Go.Proofs.YtpofehagmpdgeaaDoor
