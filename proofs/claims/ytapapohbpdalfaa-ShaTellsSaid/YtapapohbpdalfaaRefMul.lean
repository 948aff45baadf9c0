import Derived.WalkKit
import Derived.Laws.Rows
import Derived.Laws.Tables
import Derived.Test.YtapapohbpdalfaaPreds
/-
  Wide numbers of the reference; primes.
-/
namespace Go.Proofs.Ytapapohbpdalfaa
set_option linter.unusedVariables false
open Go.RowKit

def lowHalf (a : Int) : Int := bits .and .u64 a 4294967295
def mulMid (a b : Int) : Int := IntKind.u64.wrap (IntKind.u64.wrap (a / 4294967296 * lowHalf b) + IntKind.u64.wrap (lowHalf a * lowHalf b) / 4294967296)
def mulRest (a b : Int) : Int := IntKind.u64.wrap (IntKind.u64.wrap (lowHalf a * (b / 4294967296)) + lowHalf (mulMid a b))
/-- a product's two halves, as the reference reckons them -/
def mulHi (a b : Int) : Int := IntKind.u64.wrap (IntKind.u64.wrap (IntKind.u64.wrap (a / 4294967296 * (b / 4294967296)) + mulMid a b / 4294967296) + mulRest a b / 4294967296)
def mulLo (a b : Int) : Int := IntKind.u64.wrap (a * b)

set_option maxHeartbeats 1000000 in
theorem mul_any (a b : Int) (ha : 0 ≤ a ∧ a < 18446744073709551616) (hb : 0 ≤ b ∧ b < 18446744073709551616) (w : World) :
    Calls Try.prog 31 #[.int .u64 a, .int .u64 b] w fun e w' => e = .returned (.agg #[.int .u64 (mulHi a b), .int .u64 (mulLo a b)]) ∧ Below w.heap.size w w' := by
  go_enter Try.func31, Try.ntmps31
  go_wp2
  exact bodyPost_ret (v := .agg #[.int .u64 (mulHi a b), .int .u64 (mulLo a b)]) (by simp [results, Try.results31, go_sem]; exact ⟨rfl, rfl⟩) rfl ⟨rfl, (Below.refl _ w).alloc (Nat.le_refl _) _⟩

def aboveB (a b c d : Int) : Bool := decide (c < a) || (decide (a = c) && decide (d < b))
set_option maxHeartbeats 1000000 in
theorem above_any (a b c d : Int) (w : World) :
    Calls Try.prog 30 #[.agg #[.int .u64 a, .int .u64 b], .agg #[.int .u64 c, .int .u64 d]] w fun e w' => e = .returned (.bool (aboveB a b c d)) ∧ Below w.heap.size w w' := by
  have hr : ∀ x y : Bool, x = y → Ending.returned (.bool x) = Ending.returned (.bool y) := fun x y h => by rw [h]
  have Hr := Lib.hid hr
  clear hr
  go_enter Try.func30, Try.ntmps30
  go_wp2
  all_goals
    go_ret
    refine ⟨Hr.out _ _ ?_, ((Below.refl _ w).alloc (Nat.le_refl _) _).alloc (by simp) _⟩
    unfold aboveB
  · subst_vars
    simp
  · rename_i h1 h2
    simp only [h2, decide_false, Bool.false_and, Bool.or_false]
  · rename_i h1
    simp [h1]

def primeB (n : Nat) : Bool := (List.range n).all fun d => decide (d < 2) || decide (n < d * d) || n % d != 0

theorem ret_bool {a b : Bool} (h : a = b) : Ending.returned (.bool a) = .returned (.bool b) := by rw [h]
theorem prime_yes (n d : Nat) (h : n < d * d) (hall : ∀ j, 2 ≤ j → j < d → n % j ≠ 0) : primeB n = true := by
  unfold primeB
  rw [List.all_eq_true]
  intro j hj
  by_cases h2 : j < 2
  · simp [h2]
  · by_cases hjd : j < d
    · have := hall j (by omega) hjd
      simp [this]
    · have : d * d ≤ j * j := Nat.mul_le_mul (by omega) (by omega)
      have : n < j * j := by omega
      simp [this]
theorem prime_no (n d : Nat) (hd : 2 ≤ d) (hn : 0 < n) (h : d * d ≤ n) (h0 : n % d = 0) : primeB n = false := by
  have hlt : d < n := by
    have : d * 2 ≤ d * d := Nat.mul_le_mul_left _ hd
    omega
  cases he : primeB n with
  | false => rfl
  | true =>
    unfold primeB at he
    rw [List.all_eq_true] at he
    have := he d (List.mem_range.2 hlt)
    simp [h0] at this
    omega

set_option maxHeartbeats 1000000 in
theorem prime_any (n : Nat) (hn2 : 2 ≤ n) (hn : n < 400) (w : World) :
    Calls Try.prog 29 #[.int .i64 n] w fun e w' => e = .returned (.bool (primeB n)) ∧ w = w' := by
  go_enter Try.func29, Try.ntmps29
  go_wp2
  go_loop [3] (fun d => ∃ k : Nat, 2 ≤ k ∧ k ≤ 20 ∧ Hid (∀ j, 2 ≤ j → j < k → n % j ≠ 0) ∧ d = .int .i64 k) (fun d => 20 - (intOf d).toNat)
  case atStart => exact ⟨2, Nat.le_refl _, by omega, fun j h1 h2 => by omega, rfl⟩
  case round =>
    obtain ⟨k, hk2, hk, hall, rfl⟩ := hrel
    obtain ⟨q, hq⟩ : ∃ q, k * k = q := ⟨_, rfl⟩
    have hqi : (k : Int) * (k : Int) = (q : Int) := by rw [← hq]; simp
    have hq400 : q ≤ 400 := by rw [← hq]; exact Nat.mul_le_mul hk hk
    have hyes : Hid (n < q → primeB n = true) := fun h => prime_yes n k (by omega) hall.out
    have hno : Hid (q ≤ n → n % k = 0 → primeB n = false) := fun h h0 => prime_no n k hk2 (by omega) (by omega) h0
    have hstep : Hid (q ≤ n → k + 1 ≤ 20) := fun h => by
      have : ¬ k = 20 := fun e => by subst e; omega
      omega
    obtain ⟨r, hr⟩ : ∃ r, n % k = r := ⟨_, rfl⟩
    have hri : (n : Int) % (k : Int) = (r : Int) := by rw [← hr]; simp
    have Hq := Lib.hid hq
    have Hr := Lib.hid hr
    clear hq hr
    by_cases hlt : q ≤ n
    · by_cases h0 : r = 0
      · subst h0
        go_wp2
        go_ret
        exact ⟨ret_bool (hno.out hlt Hr.out).symm, rfl⟩
      · have hne : ((r : Int) == 0) = false := by simp; omega
        go_wp2
        go_round
        case rel =>
          refine ⟨k + 1, by omega, hstep.out hlt, fun j h1 h2 => ?_, by go_num⟩
          by_cases hj : j < k
          · exact hall.out j h1 hj
          · obtain rfl : j = k := by omega
            rw [Hr.out]; exact h0
        case measure => have := hstep.out hlt; simp [intOf]; omega
    · have hy := hyes.out (by omega)
      go_wp2
      go_ret
      exact ⟨ret_bool (show decide (2 ≤ (n : Int)) = true by simp; omega), rfl⟩
end Go.Proofs.Ytapapohbpdalfaa
