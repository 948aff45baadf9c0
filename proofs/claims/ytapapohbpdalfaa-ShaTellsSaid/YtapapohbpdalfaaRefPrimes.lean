import Derived.Test.YtapapohbpdalfaaOctWalk
import Derived.Test.YtapapohbpdalfaaRefRoot
import Derived.Test.YtapapohbpdalfaaShaPlain
/-
  What comes out of the first 64 primes.
-/
namespace Go.Proofs.Ytapapohbpdalfaa
set_option linter.unusedVariables false
open Go.RowKit

def pB (n : Nat) : Bool := decide (2 ≤ n) && primeB n
def primesTo (n : Nat) : List Nat := (List.range n).filter pB
theorem primesTo_succ (n : Nat) : primesTo (n + 1) = primesTo n ++ (if pB n then [n] else []) := by
  unfold primesTo; rw [List.range_succ, List.filter_append]; simp [List.filter_cons]
theorem primesTo_mono (n m : Nat) (h : n ≤ m) : (primesTo n).length ≤ (primesTo m).length := by
  induction m with
  | zero => obtain rfl : n = 0 := by omega
            exact Nat.le_refl _
  | succ m ih =>
    by_cases e : n = m + 1
    · rw [e]; exact Nat.le_refl _
    · rw [primesTo_succ, List.length_append]; have := ih (by omega); omega
/-- the first 64 primes -/
def pL : List Nat := [2, 3, 5, 7, 11, 13, 17, 19, 23, 29, 31, 37, 41, 43, 47, 53, 59, 61, 67, 71, 73, 79, 83, 89, 97, 101, 103, 107, 109, 113, 127, 131, 137, 139, 149, 151, 157, 163, 167, 173, 179, 181, 191, 193, 197, 199, 211, 223, 227, 229, 233, 239, 241, 251, 257, 263, 269, 271, 277, 281, 283, 293, 307, 311]
theorem primesTo_312 : primesTo 312 = pL := by decide +kernel
theorem primesTo_311 : (primesTo 311).length = 63 := by decide +kernel
theorem pL_small : ∀ j, j < 64 → (pL[j]?.getD 0) < 400 := by decide +kernel
theorem squares : (pL.take 8).map (fun p : Nat => sqB (p : Int)) = hSt.list := by decide +kernel
theorem cubes : pL.map (fun p : Nat => cbB (p : Int)) = kL := by decide +kernel

def intsOf (l : List Nat) : List Int := l.map fun p : Nat => (p : Int)
theorem info_int : (Try.prog.info? 3).map (fun i => (i.zero, i.size, i.bytes)) = some (some (.int .i64 0), 1, 8) := by kernel_rfl
theorem info_u32 : (Try.prog.info? 36).map (fun i => (i.zero, i.size, i.bytes)) = some (some (.int .u32 0), 1, 4) := by kernel_rfl

set_option maxRecDepth 100000 in
set_option maxHeartbeats 1000000 in
theorem primes_any (w : World) :
    Calls Try.prog 16 #[] w fun e w' => ∃ v, e = .returned v ∧ w'.ownsRow w.heap.size 3 1 v 64 ((intsOf pL).map (Value.int .i64)) ∧ Below w.heap.size w w' := by
  obtain ⟨i0, hi, hz0, hz1, hz2⟩ := info_parts info_int
  go_enter Try.func16, Try.ntmps16
  go_wp2
  go_loopw [1, 2] (fun o i wr => ∃ n m : Nat, 2 ≤ n ∧ n ≤ 312 ∧ i = .int .i64 n ∧ m = (primesTo n).length ∧ (∃ a c, o = .slice a m c) ∧ wr.ownsRow w.heap.size 3 1 o m ((intsOf (primesTo n)).map (Value.int .i64)) ∧ Below w.heap.size w wr)
    (fun _ i _ => 312 - (intOf i).toNat)
  case atStart => exact ⟨2, 0, by omega, by omega, rfl, by decide, ⟨_, _, rfl⟩, by rw [show primesTo 2 = [] from by decide]; exact World.ownsRow_nil _ _ _ _, Below.refl _ _⟩
  case round =>
    obtain ⟨n, m, hn2, hn, rfl, hm, ⟨a, c, rfl⟩, hrow, hB⟩ := hrel
    by_cases hlt : n < 312
    · have hm64 : m < 64 := by
        have := primesTo_mono n 311 (by omega)
        rw [primesTo_311] at this; omega
      have hs := primesTo_succ n
      have hp2 : pB n = primeB n := by unfold pB; simp; omega
      rw [hp2] at hs
      have Hs := Lib.hid hs
      have Hm := Lib.hid hm
      have Hp := Lib.hid (fun wx => prime_any n hn2 (by omega) wx)
      obtain ⟨b, hb⟩ : ∃ b, primeB n = b := ⟨_, rfl⟩
      rw [hb] at Hs Hp
      clear hs hm hp2 hb
      cases b
      · go_wp2_with fail
        with_reducible refine Calls.mono (Hp.out _) ?_
        rintro e w1 ⟨rfl, rfl⟩
        go_wp2
        go_roundw
        case rel =>
          have e : primesTo (n + 1) = primesTo n := by rw [Hs.out]; simp
          exact ⟨n + 1, m, by omega, by omega, by go_num, by rw [e]; exact Hm.out, ⟨_, _, rfl⟩, by rw [e]; exact hrow, hB⟩
        case measure => simp [intOf]; omega
      · go_wp2_with fail
        with_reducible refine Calls.mono (Hp.out _) ?_
        rintro e w1 ⟨rfl, rfl⟩
        go_wp2_with (at_builtin; refine wpList_append_own _ rfl (.tmp 14) (.tmp 16) 34 rfl w.heap.size 3 i0 (.int .i64 0) 1 8 Try.underlying34 hi hz0 hz1 hz2 rfl (by decide) _ m _ rfl (hrow.alloc _) ⟨wr.heap.size, 0, none⟩ 1 1 [.int .i64 n] rfl rfl (cell_one_new _ _ _) (by simp [Value.oneCell']) (by unfold maxLen; omega) (by omega) (by have := hB.size; simp; omega) ?_; intro v3 w3 hr3 hg3 _; obtain ⟨g3, c3, rfl⟩ := ownsRow_succ hr3)
        go_roundw
        case rel =>
          have e : primesTo (n + 1) = primesTo n ++ [n] := by rw [Hs.out]; simp
          refine ⟨n + 1, m + 1, by omega, by omega, by go_num, by rw [e, List.length_append, ← Hm.out]; rfl, ⟨_, _, rfl⟩, ?_, (hB.alloc hB.size _).grown hg3 (by have := hB.size; simp; omega) (fun q e => (hrow.lt q e).1)⟩
          rw [e]; unfold intsOf; rw [List.map_append, List.map_append]; exact hr3
        case measure => simp [intOf]; omega
    · obtain rfl : n = 312 := by omega
      rw [primesTo_312] at hm hrow
      have hm' : m = 64 := hm
      clear hm
      subst hm'
      go_wp2
      go_ret
      exact ⟨_, rfl, hrow, hB⟩
end Go.Proofs.Ytapapohbpdalfaa
