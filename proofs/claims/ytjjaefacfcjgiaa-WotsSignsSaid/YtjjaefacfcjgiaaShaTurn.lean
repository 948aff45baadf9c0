import Derived.IntWalk
import Derived.Test.YtjjaefacfcjgiaaShaFns
/-
  turned and shifted.
-/
namespace Go.Proofs.Ytjjaefacfcjgiaa
set_option linter.unusedVariables false
open Go.RowKit

set_option maxHeartbeats 400000 in
theorem turned_any (x : Int) (i j k : Nat) (hx : 0 ≤ x ∧ x < 4294967296) (hi : 0 < i ∧ i < 32) (hj : 0 < j ∧ j < 32) (hk : 0 < k ∧ k < 32) (w : World) :
    Calls Try.prog 51 #[.int .u32 x, .int .i64 i, .int .i64 j, .int .i64 k] w fun e w' => e = .returned (.int .u32 (big x i j k)) ∧ w = w' := by
  go_enter Try.func51, Try.ntmps51
  go_wp2_with fail
  refine (rotl_any x i hx hi _).mono ?_
  rintro e w' ⟨rfl, rfl⟩
  go_wp2_with fail
  refine (rotl_any x j hx hj _).mono ?_
  rintro e w' ⟨rfl, rfl⟩
  go_wp2_with fail
  refine (rotl_any x k hx hk _).mono ?_
  rintro e w' ⟨rfl, rfl⟩
  go_wp2
  go_ret
  exact ⟨rfl, rfl⟩

theorem rotl_quiet (x : Int) (n : Nat) (hx : 0 ≤ x ∧ x < 4294967296) (hn : 0 < n ∧ n < 32) (w : World) (q : Nat) :
    Calls Try.prog 56 #[.int .u32 x, .int .i64 (-(n : Int))] (w.drewN q) fun e w'' => e = .returned (.int .u32 (rotr x n)) ∧ ∃ m, w'' = w.drewN m :=
  (rotl_any x n hx hn (w.drewN q)).mono fun _ _ ⟨he, hm⟩ => ⟨he, q, hm.symm⟩

set_option maxHeartbeats 400000 in
theorem shifted_any (x : Int) (i j k : Nat) (hx : 0 ≤ x ∧ x < 4294967296) (hi : 0 < i ∧ i < 32) (hj : 0 < j ∧ j < 32) (hk : 0 < k ∧ k < 32) (w : World) :
    Calls Try.prog 55 #[.int .u32 x, .int .i64 i, .int .i64 j, .int .i64 k] w fun e w' => e = .returned (.int .u32 (sml x i j k)) ∧ ∃ n, w' = w.drewN n := by
  have wi : IntKind.i64.wrap (-(i : Int)) = -(i : Int) := IntWalk.i64_in _ (by omega)
  have wj : IntKind.i64.wrap (-(j : Int)) = -(j : Int) := IntWalk.i64_in _ (by omega)
  go_enter Try.func55, Try.ntmps55
  go_wp2
  go_quiet ((with_reducible (first | exact rotl_quiet x i hx hi _ _ | exact rotl_quiet x j hx hj _ _)))
  clear wi wj
  go_wp2
  go_ret
  exact ⟨rfl, _, rfl⟩
end Go.Proofs.Ytjjaefacfcjgiaa
