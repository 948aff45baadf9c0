import Derived.Deep.QuietTactic
import Derived.BigQuiet
import Derived.Test.YtpapkilhigicgaaOctAlive
/-
  OctetsBack: for every number and every size the walk returns true.
-/
namespace Go.Proofs.Ytpapkilhigicgaa
set_option linter.unusedVariables false
open Go.RowKit

theorem below_drewN {B : Nat} {a w : World} (h : Below B a w) (q : Nat) : Below B a (w.drewN q) := ⟨h.os, h.tape, h.output, h.size, h.block⟩

set_option maxHeartbeats 400000 in
theorem back_mid_a (n sz : Int) (h1 : 0 ≤ n) (h2 : n < 4611686018427387904) (k : Nat) (hk : (k : Int) = sz) (hk8 : sz < 8) (w : World) :
    Calls Try.prog 4 #[.int .i64 n, .int .i64 sz] w fun e w' => e = .returned (.bool true) ∧ Below w.heap.size w w' := by
  subst hk
  go_enter Try.func4, Try.ntmps4
  go_wp2_with fail
  refine (alive_any w).mono ?_
  rintro e w1 ⟨rfl, hB1⟩
  go_wp2_with fail
  refine (put_any n k (by omega) (by omega) k (by omega) _).mono ?_
  rintro e w2 ⟨v, rfl, hrow, hB2⟩
  have hI := Ints.of_row hrow
  have hI2 := hI
  obtain ⟨a, cap, hv, _⟩ := hI2
  rw [octAll_length] at hv
  subst hv
  have hwr : IntKind.u64.wrap n = n := by rw [IntKind.wrap_u64]; omega
  rw [hwr] at hI
  have Hq : Hid (∀ q, Calls Try.prog 9 #[.slice a k cap] (w2.drewN q) fun e w'' => e = .returned (.int .i64 (n % 2 ^ (8 * k))) ∧ ∃ m, w'' = w2.drewN m) :=
    fun q => get_quiet _ _ _ hI (octAll_u8s n k) (by rw [octAll_length]; omega) _ (getB_back n k (by omega)) q
  have hp := pow8_bounds k (by omega)
  clear hI hrow hwr
  go_wp2
  go_quiet ((go_at_call 9; exact Hq.out _))
  go_wp2
  go_ret
  exact ⟨rfl, below_drewN (hB1.trans (hB2.mono hB1.size)) _⟩

set_option maxHeartbeats 400000 in
theorem back_low_a (n sz : Int) (h1 : 0 ≤ n) (h2 : n < 4611686018427387904) (hk : sz < 0) (hk0 : -9223372036854775808 ≤ sz) (w : World) :
    Calls Try.prog 4 #[.int .i64 n, .int .i64 sz] w fun e w' => e = .returned (.bool true) ∧ Below w.heap.size w w' := by
  go_enter Try.func4, Try.ntmps4
  go_wp2_with fail
  refine (alive_any w).mono ?_
  rintro e w1 ⟨rfl, hB1⟩
  go_wp2_with fail
  refine (put_any n sz (by omega) (by omega) 0 (by omega) _).mono ?_
  rintro e w2 ⟨v, rfl, hrow, hB2⟩
  have hI := Ints.of_row hrow
  have hI2 := hI
  obtain ⟨a, cap, hv, _⟩ := hI2
  rw [octAll_length] at hv
  subst hv
  have hwr : IntKind.u64.wrap n = n := by rw [IntKind.wrap_u64]; omega
  rw [hwr] at hI
  have Hq : Hid (∀ q, Calls Try.prog 9 #[.slice a 0 cap] (w2.drewN q) fun e w'' => e = .returned (.int .i64 0) ∧ ∃ m, w'' = w2.drewN m) :=
    fun q => get_quiet _ _ _ hI (octAll_u8s n 0) (by rw [octAll_length]; omega) _ rfl q
  clear hI hrow hwr
  go_wp2
  go_quiet ((go_at_call 9; exact Hq.out _))
  go_wp2
  go_ret
  exact ⟨by simp, below_drewN (hB1.trans (hB2.mono hB1.size)) _⟩

set_option maxHeartbeats 400000 in
theorem back_high_a (n sz : Int) (h1 : 0 ≤ n) (h2 : n < 4611686018427387904) (hk : 8 < sz) (hk0 : sz ≤ 9223372036854775807) (w : World) :
    Calls Try.prog 4 #[.int .i64 n, .int .i64 sz] w fun e w' => e = .returned (.bool true) ∧ Below w.heap.size w w' := by
  go_enter Try.func4, Try.ntmps4
  go_wp2_with fail
  refine (alive_any w).mono ?_
  rintro e w1 ⟨rfl, hB1⟩
  go_wp2_with fail
  refine (put_any n sz (by omega) (by omega) 8 (by omega) _).mono ?_
  rintro e w2 ⟨v, rfl, hrow, hB2⟩
  have hI := Ints.of_row hrow
  have hI2 := hI
  obtain ⟨a, cap, hv, _⟩ := hI2
  rw [octAll_length] at hv
  subst hv
  have hwr : IntKind.u64.wrap n = n := by rw [IntKind.wrap_u64]; omega
  rw [hwr] at hI
  have Hq : Hid (Calls Try.prog 9 #[.slice a 8 cap] w2 fun e w'' => e = .returned (.int .i64 n) ∧ w2 = w'') :=
    (get_any _ _ _ hI (octAll_u8s n 8) (by rw [octAll_length]; omega)).mono fun e w3 ⟨he, hw⟩ => ⟨by rw [he, getB_back8 n (by omega) (by omega)], hw⟩
  clear hI hrow hwr
  go_wp2_with (go_at_call 9; refine Hq.out.mono ?_; rintro e w3 ⟨rfl, rfl⟩)
  go_ret
  exact ⟨rfl, hB1.trans (hB2.mono hB1.size)⟩

set_option maxHeartbeats 400000 in
theorem back_mid_b (n sz : Int) (h1 : n < 0) (h0 : -9223372036854775808 ≤ n) (k : Nat) (hk : (k : Int) = sz) (hk8 : sz < 8) (w : World) :
    Calls Try.prog 4 #[.int .i64 n, .int .i64 sz] w fun e w' => e = .returned (.bool true) ∧ Below w.heap.size w w' := by
  subst hk
  go_enter Try.func4, Try.ntmps4
  go_wp2_with fail
  refine (alive_any w).mono ?_
  rintro e w1 ⟨rfl, hB1⟩
  go_wp2_with fail
  refine (put_any 0 k (by omega) (by omega) k (by omega) _).mono ?_
  rintro e w2 ⟨v, rfl, hrow, hB2⟩
  have hI := Ints.of_row hrow
  have hI2 := hI
  obtain ⟨a, cap, hv, _⟩ := hI2
  rw [octAll_length] at hv
  subst hv
  have hwr : IntKind.u64.wrap 0 = 0 := by decide
  rw [hwr] at hI
  have Hq : Hid (∀ q, Calls Try.prog 9 #[.slice a k cap] (w2.drewN q) fun e w'' => e = .returned (.int .i64 (0)) ∧ ∃ m, w'' = w2.drewN m) :=
    fun q => get_quiet _ _ _ hI (octAll_u8s 0 k) (by rw [octAll_length]; omega) _ ((getB_back 0 k (by omega)).trans (Int.zero_emod _)) q
  have hp := pow8_bounds k (by omega)
  clear hI hrow hwr
  go_wp2
  go_quiet ((go_at_call 9; exact Hq.out _))
  go_wp2
  go_ret
  exact ⟨rfl, below_drewN (hB1.trans (hB2.mono hB1.size)) _⟩

set_option maxHeartbeats 400000 in
theorem back_low_b (n sz : Int) (h1 : n < 0) (h0 : -9223372036854775808 ≤ n) (hk : sz < 0) (hk0 : -9223372036854775808 ≤ sz) (w : World) :
    Calls Try.prog 4 #[.int .i64 n, .int .i64 sz] w fun e w' => e = .returned (.bool true) ∧ Below w.heap.size w w' := by
  go_enter Try.func4, Try.ntmps4
  go_wp2_with fail
  refine (alive_any w).mono ?_
  rintro e w1 ⟨rfl, hB1⟩
  go_wp2_with fail
  refine (put_any 0 sz (by omega) (by omega) 0 (by omega) _).mono ?_
  rintro e w2 ⟨v, rfl, hrow, hB2⟩
  have hI := Ints.of_row hrow
  have hI2 := hI
  obtain ⟨a, cap, hv, _⟩ := hI2
  rw [octAll_length] at hv
  subst hv
  have hwr : IntKind.u64.wrap 0 = 0 := by decide
  rw [hwr] at hI
  have Hq : Hid (∀ q, Calls Try.prog 9 #[.slice a 0 cap] (w2.drewN q) fun e w'' => e = .returned (.int .i64 0) ∧ ∃ m, w'' = w2.drewN m) :=
    fun q => get_quiet _ _ _ hI (octAll_u8s 0 0) (by rw [octAll_length]; omega) _ rfl q
  clear hI hrow hwr
  go_wp2
  go_quiet ((go_at_call 9; exact Hq.out _))
  go_wp2
  go_ret
  exact ⟨rfl, below_drewN (hB1.trans (hB2.mono hB1.size)) _⟩

set_option maxHeartbeats 400000 in
theorem back_high_b (n sz : Int) (h1 : n < 0) (h0 : -9223372036854775808 ≤ n) (hk : 8 < sz) (hk0 : sz ≤ 9223372036854775807) (w : World) :
    Calls Try.prog 4 #[.int .i64 n, .int .i64 sz] w fun e w' => e = .returned (.bool true) ∧ Below w.heap.size w w' := by
  go_enter Try.func4, Try.ntmps4
  go_wp2_with fail
  refine (alive_any w).mono ?_
  rintro e w1 ⟨rfl, hB1⟩
  go_wp2_with fail
  refine (put_any 0 sz (by omega) (by omega) 8 (by omega) _).mono ?_
  rintro e w2 ⟨v, rfl, hrow, hB2⟩
  have hI := Ints.of_row hrow
  have hI2 := hI
  obtain ⟨a, cap, hv, _⟩ := hI2
  rw [octAll_length] at hv
  subst hv
  have hwr : IntKind.u64.wrap 0 = 0 := by decide
  rw [hwr] at hI
  have Hq : Hid (Calls Try.prog 9 #[.slice a 8 cap] w2 fun e w'' => e = .returned (.int .i64 0) ∧ w2 = w'') :=
    (get_any _ _ _ hI (octAll_u8s 0 8) (by rw [octAll_length]; omega)).mono fun e w3 ⟨he, hw⟩ => ⟨by rw [he, getB_back8 0 (by omega) (by omega)], hw⟩
  clear hI hrow hwr
  go_wp2_with (go_at_call 9; refine Hq.out.mono ?_; rintro e w3 ⟨rfl, rfl⟩)
  go_ret
  exact ⟨rfl, hB1.trans (hB2.mono hB1.size)⟩

set_option maxHeartbeats 400000 in
theorem back_mid_c (n sz : Int) (h1 : 4611686018427387904 ≤ n) (h0 : n ≤ 9223372036854775807) (k : Nat) (hk : (k : Int) = sz) (hk8 : sz < 8) (w : World) :
    Calls Try.prog 4 #[.int .i64 n, .int .i64 sz] w fun e w' => e = .returned (.bool true) ∧ Below w.heap.size w w' := by
  subst hk
  go_enter Try.func4, Try.ntmps4
  go_wp2_with fail
  refine (alive_any w).mono ?_
  rintro e w1 ⟨rfl, hB1⟩
  go_wp2_with fail
  refine (put_any 0 k (by omega) (by omega) k (by omega) _).mono ?_
  rintro e w2 ⟨v, rfl, hrow, hB2⟩
  have hI := Ints.of_row hrow
  have hI2 := hI
  obtain ⟨a, cap, hv, _⟩ := hI2
  rw [octAll_length] at hv
  subst hv
  have hwr : IntKind.u64.wrap 0 = 0 := by decide
  rw [hwr] at hI
  have Hq : Hid (∀ q, Calls Try.prog 9 #[.slice a k cap] (w2.drewN q) fun e w'' => e = .returned (.int .i64 (0)) ∧ ∃ m, w'' = w2.drewN m) :=
    fun q => get_quiet _ _ _ hI (octAll_u8s 0 k) (by rw [octAll_length]; omega) _ ((getB_back 0 k (by omega)).trans (Int.zero_emod _)) q
  have hp := pow8_bounds k (by omega)
  clear hI hrow hwr
  go_wp2
  go_quiet ((go_at_call 9; exact Hq.out _))
  go_wp2
  go_ret
  exact ⟨rfl, below_drewN (hB1.trans (hB2.mono hB1.size)) _⟩

set_option maxHeartbeats 400000 in
theorem back_low_c (n sz : Int) (h1 : 4611686018427387904 ≤ n) (h0 : n ≤ 9223372036854775807) (hk : sz < 0) (hk0 : -9223372036854775808 ≤ sz) (w : World) :
    Calls Try.prog 4 #[.int .i64 n, .int .i64 sz] w fun e w' => e = .returned (.bool true) ∧ Below w.heap.size w w' := by
  go_enter Try.func4, Try.ntmps4
  go_wp2_with fail
  refine (alive_any w).mono ?_
  rintro e w1 ⟨rfl, hB1⟩
  go_wp2_with fail
  refine (put_any 0 sz (by omega) (by omega) 0 (by omega) _).mono ?_
  rintro e w2 ⟨v, rfl, hrow, hB2⟩
  have hI := Ints.of_row hrow
  have hI2 := hI
  obtain ⟨a, cap, hv, _⟩ := hI2
  rw [octAll_length] at hv
  subst hv
  have hwr : IntKind.u64.wrap 0 = 0 := by decide
  rw [hwr] at hI
  have Hq : Hid (∀ q, Calls Try.prog 9 #[.slice a 0 cap] (w2.drewN q) fun e w'' => e = .returned (.int .i64 0) ∧ ∃ m, w'' = w2.drewN m) :=
    fun q => get_quiet _ _ _ hI (octAll_u8s 0 0) (by rw [octAll_length]; omega) _ rfl q
  clear hI hrow hwr
  go_wp2
  go_quiet ((go_at_call 9; exact Hq.out _))
  go_wp2
  go_ret
  exact ⟨rfl, below_drewN (hB1.trans (hB2.mono hB1.size)) _⟩

set_option maxHeartbeats 400000 in
theorem back_high_c (n sz : Int) (h1 : 4611686018427387904 ≤ n) (h0 : n ≤ 9223372036854775807) (hk : 8 < sz) (hk0 : sz ≤ 9223372036854775807) (w : World) :
    Calls Try.prog 4 #[.int .i64 n, .int .i64 sz] w fun e w' => e = .returned (.bool true) ∧ Below w.heap.size w w' := by
  go_enter Try.func4, Try.ntmps4
  go_wp2_with fail
  refine (alive_any w).mono ?_
  rintro e w1 ⟨rfl, hB1⟩
  go_wp2_with fail
  refine (put_any 0 sz (by omega) (by omega) 8 (by omega) _).mono ?_
  rintro e w2 ⟨v, rfl, hrow, hB2⟩
  have hI := Ints.of_row hrow
  have hI2 := hI
  obtain ⟨a, cap, hv, _⟩ := hI2
  rw [octAll_length] at hv
  subst hv
  have hwr : IntKind.u64.wrap 0 = 0 := by decide
  rw [hwr] at hI
  have Hq : Hid (Calls Try.prog 9 #[.slice a 8 cap] w2 fun e w'' => e = .returned (.int .i64 0) ∧ w2 = w'') :=
    (get_any _ _ _ hI (octAll_u8s 0 8) (by rw [octAll_length]; omega)).mono fun e w3 ⟨he, hw⟩ => ⟨by rw [he, getB_back8 0 (by omega) (by omega)], hw⟩
  clear hI hrow hwr
  go_wp2_with (go_at_call 9; refine Hq.out.mono ?_; rintro e w3 ⟨rfl, rfl⟩)
  go_ret
  exact ⟨rfl, hB1.trans (hB2.mono hB1.size)⟩

set_option maxHeartbeats 400000 in
theorem back_eight_a (n : Int) (h1 : 0 ≤ n) (h2 : n < 4611686018427387904) (w : World) :
    Calls Try.prog 4 #[.int .i64 n, .int .i64 8] w fun e w' => e = .returned (.bool true) ∧ Below w.heap.size w w' := by
  go_enter Try.func4, Try.ntmps4
  go_wp2_with fail
  refine (alive_any w).mono ?_
  rintro e w1 ⟨rfl, hB1⟩
  go_wp2_with fail
  refine (put_any n 8 (by omega) (by omega) 8 (by omega) _).mono ?_
  rintro e w2 ⟨v, rfl, hrow, hB2⟩
  have hI := Ints.of_row hrow
  have hI2 := hI
  obtain ⟨a, cap, hv, _⟩ := hI2
  rw [octAll_length] at hv
  subst hv
  have hwr : IntKind.u64.wrap n = n := by rw [IntKind.wrap_u64]; omega
  rw [hwr] at hI
  have Hq : Hid (Calls Try.prog 9 #[.slice a 8 cap] w2 fun e w'' => e = .returned (.int .i64 n) ∧ w2 = w'') :=
    (get_any _ _ _ hI (octAll_u8s n 8) (by rw [octAll_length]; omega)).mono fun e w3 ⟨he, hw⟩ => ⟨by rw [he, getB_back8 n (by omega) (by omega)], hw⟩
  clear hI hrow hwr
  go_wp2_with (go_at_call 9; refine Hq.out.mono ?_; rintro e w3 ⟨rfl, rfl⟩)
  go_ret
  exact ⟨rfl, hB1.trans (hB2.mono hB1.size)⟩

set_option maxHeartbeats 400000 in
theorem back_eight_b (n : Int) (h1 : n < 0) (h0 : -9223372036854775808 ≤ n) (w : World) :
    Calls Try.prog 4 #[.int .i64 n, .int .i64 8] w fun e w' => e = .returned (.bool true) ∧ Below w.heap.size w w' := by
  go_enter Try.func4, Try.ntmps4
  go_wp2_with fail
  refine (alive_any w).mono ?_
  rintro e w1 ⟨rfl, hB1⟩
  go_wp2_with fail
  refine (put_any 0 8 (by omega) (by omega) 8 (by omega) _).mono ?_
  rintro e w2 ⟨v, rfl, hrow, hB2⟩
  have hI := Ints.of_row hrow
  have hI2 := hI
  obtain ⟨a, cap, hv, _⟩ := hI2
  rw [octAll_length] at hv
  subst hv
  have hwr : IntKind.u64.wrap 0 = 0 := by decide
  rw [hwr] at hI
  have Hq : Hid (Calls Try.prog 9 #[.slice a 8 cap] w2 fun e w'' => e = .returned (.int .i64 0) ∧ w2 = w'') :=
    (get_any _ _ _ hI (octAll_u8s 0 8) (by rw [octAll_length]; omega)).mono fun e w3 ⟨he, hw⟩ => ⟨by rw [he, getB_back8 0 (by omega) (by omega)], hw⟩
  clear hI hrow hwr
  go_wp2_with (go_at_call 9; refine Hq.out.mono ?_; rintro e w3 ⟨rfl, rfl⟩)
  go_ret
  exact ⟨rfl, hB1.trans (hB2.mono hB1.size)⟩

set_option maxHeartbeats 400000 in
theorem back_eight_c (n : Int) (h1 : 4611686018427387904 ≤ n) (h0 : n ≤ 9223372036854775807) (w : World) :
    Calls Try.prog 4 #[.int .i64 n, .int .i64 8] w fun e w' => e = .returned (.bool true) ∧ Below w.heap.size w w' := by
  go_enter Try.func4, Try.ntmps4
  go_wp2_with fail
  refine (alive_any w).mono ?_
  rintro e w1 ⟨rfl, hB1⟩
  go_wp2_with fail
  refine (put_any 0 8 (by omega) (by omega) 8 (by omega) _).mono ?_
  rintro e w2 ⟨v, rfl, hrow, hB2⟩
  have hI := Ints.of_row hrow
  have hI2 := hI
  obtain ⟨a, cap, hv, _⟩ := hI2
  rw [octAll_length] at hv
  subst hv
  have hwr : IntKind.u64.wrap 0 = 0 := by decide
  rw [hwr] at hI
  have Hq : Hid (Calls Try.prog 9 #[.slice a 8 cap] w2 fun e w'' => e = .returned (.int .i64 0) ∧ w2 = w'') :=
    (get_any _ _ _ hI (octAll_u8s 0 8) (by rw [octAll_length]; omega)).mono fun e w3 ⟨he, hw⟩ => ⟨by rw [he, getB_back8 0 (by omega) (by omega)], hw⟩
  clear hI hrow hwr
  go_wp2_with (go_at_call 9; refine Hq.out.mono ?_; rintro e w3 ⟨rfl, rfl⟩)
  go_ret
  exact ⟨rfl, hB1.trans (hB2.mono hB1.size)⟩

theorem back_any (n sz : Int) (hn : -9223372036854775808 ≤ n ∧ n ≤ 9223372036854775807) (hs : -9223372036854775808 ≤ sz ∧ sz ≤ 9223372036854775807) (w : World) :
    Calls Try.prog 4 #[.int .i64 n, .int .i64 sz] w fun e w' => e = .returned (.bool true) ∧ Below w.heap.size w w' := by
  have h1 : n < 0 ∨ (0 ≤ n ∧ n < 4611686018427387904) ∨ 4611686018427387904 ≤ n := by omega
  have h2 : sz < 0 ∨ (0 ≤ sz ∧ sz < 8) ∨ sz = 8 ∨ 8 < sz := by omega
  rcases h2 with h2 | ⟨h2, h3⟩ | rfl | h2
  · rcases h1 with h1 | ⟨h1, h4⟩ | h1
    · exact back_low_b n sz h1 hn.1 h2 hs.1 w
    · exact back_low_a n sz h1 h4 h2 hs.1 w
    · exact back_low_c n sz h1 hn.2 h2 hs.1 w
  · obtain ⟨k, hk⟩ : ∃ k : Nat, (k : Int) = sz := ⟨sz.toNat, by omega⟩
    rcases h1 with h1 | ⟨h1, h4⟩ | h1
    · exact back_mid_b n sz h1 hn.1 k hk h3 w
    · exact back_mid_a n sz h1 h4 k hk h3 w
    · exact back_mid_c n sz h1 hn.2 k hk h3 w
  · rcases h1 with h1 | ⟨h1, h4⟩ | h1
    · exact back_eight_b n h1 hn.1 w
    · exact back_eight_a n h1 h4 w
    · exact back_eight_c n h1 hn.2 w
  · rcases h1 with h1 | ⟨h1, h4⟩ | h1
    · exact back_high_b n sz h1 hn.1 h2 hs.2 w
    · exact back_high_a n sz h1 h4 h2 hs.2 w
    · exact back_high_c n sz h1 hn.2 h2 hs.2 w
end Go.Proofs.Ytpapkilhigicgaa
