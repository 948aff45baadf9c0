import Derived.Lib.SlBytesConst
import Derived.Test.YtapapohbpdalfaaShaSum
/-
  The page's example; Long and Short.
-/
namespace Go.Proofs.Ytapapohbpdalfaa
set_option linter.unusedVariables false
open Go.RowKit

theorem abc_at (j : Nat) (hj : j < 4) : (sumB [97, 98, 99])[j]?.getD 0 = octAt 0xba7816bf 4 j := by
  have h := wordsB_at (sumSt [97, 98, 99]).list 0 j (by rw [St.len]; omega) hj
  rw [Nat.mul_zero, Nat.zero_add] at h
  have e : (sumSt [97, 98, 99]).list[0]?.getD 0 = 0xba7816bf := abc_a
  rw [e] at h
  exact h

/-- a slice that a call made, by its cells -/
theorem row_slice {W : World} {base : Nat} {e : TypeId} {v : Value} {n : Nat} {xs : List Value} (h : W.ownsRow base e 1 v n xs) (hn : 0 < n) : ∃ g cap, v = .slice (some ⟨g, 0, none⟩) n cap ∧ n ≤ cap := by
  rcases h.2 with ⟨_, h0⟩ | ⟨g, cap, cur, rfl, _, _, hle, _⟩
  · omega
  · exact ⟨g, cap, rfl, hle⟩

set_option maxHeartbeats 1000000 in
theorem alive_any (w : World) : Calls Try.prog 6 #[] w fun e w' => e = .returned (.bool true) ∧ Below w.heap.size w w' := by
  have hI : Ints .u8 (w.alloc (.cells #[.int .u8 97, .int .u8 98, .int .u8 99] 5 (3, 4))) (.slice (some ⟨w.heap.size, 0, none⟩) 3 3) [97, 98, 99] := Ints.newf w .u8 5 _ _ [97, 98, 99] _ _ rfl rfl rfl
  have hs := sum_any _ [97, 98, 99] _ hI (fun j hj => by match j, hj with | 0, _ => decide | 1, _ => decide | 2, _ => decide) (by decide)
  have Hs := Lib.hid hs
  clear hI hs
  have kc := fun (w : World) (C : Array Value) (n c : Nat) => Lib.run_convert_bytes_const (P := Try.prog) w 22 5 C n c Try.underlying22 Try.underlying5
  go_enter Try.func6, Try.ntmps6
  go_wp2_with fail
  with_reducible refine Calls.mono Hs.out ?_
  rintro e w1 ⟨r, rfl, hr, hB⟩
  have hU : Up w w1 := Up.trans (Up.alloc (Up.refl w) _) hB
  obtain ⟨g, cap, rfl, hcap⟩ := row_slice hr (by omega)
  have hl := sumB_length [97, 98, 99]
  obtain ⟨_, _, he, _, _, hc⟩ := Ints.of_row hr
  rw [hl] at he hc
  simp only [Value.slice.injEq, true_and] at he
  obtain ⟨rfl, rfl⟩ := he
  rcases hc with hc | ⟨b, off, he, hc⟩
  · rw [hc] at hl; simp at hl
  simp only [Option.some.injEq, Addr.mk.injEq, and_true] at he
  obtain ⟨rfl, rfl⟩ := he
  have c0 := hc 0 (by omega)
  have c1 := hc 1 (by omega)
  have c2 := hc 2 (by omega)
  have c3 := hc 3 (by omega)
  rw [abc_at 0 (by omega), show octAt 3128432319 4 0 = 186 from by decide] at c0
  rw [abc_at 1 (by omega), show octAt 3128432319 4 1 = 120 from by decide] at c1
  rw [abc_at 2 (by omega), show octAt 3128432319 4 2 = 22 from by decide] at c2
  rw [abc_at 3 (by omega), show octAt 3128432319 4 3 = 191 from by decide] at c3
  clear hc hl hr hB
  go_wp2
  go_ret
  exact ⟨rfl, hU⟩
end Go.Proofs.Ytapapohbpdalfaa
