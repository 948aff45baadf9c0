import Derived.Laws.ShiftsVarLaws
import Derived.OwnWalk
import Derived.Lib.Hide
import Derived.Test.YtapapohbpdalfaaRefMul
import Derived.Test.YtapapohbpdalfaaUps
/-
  Roots of the reference.
-/
namespace Go.Proofs.Ytapapohbpdalfaa
set_option linter.unusedVariables false
open Go.RowKit

theorem mulHi_range (a b : Int) : 0 ≤ mulHi a b ∧ mulHi a b < 18446744073709551616 := by unfold mulHi; rw [IntKind.wrap_u64]; omega
theorem mulLo_range (a b : Int) : 0 ≤ mulLo a b ∧ mulLo a b < 18446744073709551616 := by unfold mulLo; rw [IntKind.wrap_u64]; omega
/-- what is tried -/
def rootT (s : Int) (b : Nat) : Int := IntKind.u64.wrap (s + IntKind.u64.wrap (2 ^ b))
theorem rootT_range (s : Int) (b : Nat) : 0 ≤ rootT s b ∧ rootT s b < 18446744073709551616 := by unfold rootT; rw [IntKind.wrap_u64]; omega
def sqStep (n : Int) (s : Int) (b : Nat) : Int := if aboveB (mulHi (rootT s b) (rootT s b)) (mulLo (rootT s b) (rootT s b)) n 0 then s else rootT s b
def sqGo (n : Int) : Nat → Int
  | 0 => 0
  | j + 1 => sqStep n (sqGo n j) (36 - j)
theorem sqGo_range (n : Int) (j : Nat) : 0 ≤ sqGo n j ∧ sqGo n j < 18446744073709551616 := by
  induction j with
  | zero => show 0 ≤ (0 : Int) ∧ (0 : Int) < _; omega
  | succ j ih => unfold sqGo sqStep; split; exact ih; exact rootT_range _ _
def sqB (n : Int) : Int := sqGo n 37 % 4294967296

set_option maxRecDepth 100000 in
set_option maxHeartbeats 1000000 in
theorem square_any (n : Nat) (hn : n < 400) (w : World) :
    Calls Try.prog 17 #[.int .i64 n] w fun e w' => e = .returned (.int .u32 (sqB n)) ∧ Below w.heap.size w w' := by
  have hN : IntKind.u64.wrap (n : Int) = n := by rw [IntKind.wrap_u64]; omega
  go_enter Try.func17, Try.ntmps17
  go_wp2
  go_loopw [3, 4] (fun r i wr => ∃ (k : Nat) (x s : Int), k ≤ 37 ∧ x = (k : Int) - 1 ∧ i = .int .i64 x ∧ r = .int .u64 s ∧ s = sqGo n (37 - k) ∧ Below w.heap.size w wr)
    (fun _ i _ => (intOf i + 1).toNat)
  case atStart => exact ⟨37, 36, 0, by omega, by omega, rfl, rfl, rfl, Below.refl _ _⟩
  case round =>
    obtain ⟨k, x, s, hk, hx, rfl, rfl, hs, hB⟩ := hrel
    have hsr : 0 ≤ s ∧ s < 18446744073709551616 := by rw [hs]; exact sqGo_range _ _
    by_cases hk0 : 0 < k
    · obtain ⟨b, rfl⟩ : ∃ b : Nat, x = (b : Int) := ⟨k - 1, by omega⟩
      have hb : b < 37 := by omega
      have hstep : sqGo n (37 - b) = sqStep n s b := by
        rw [show 37 - b = (36 - b) + 1 from by omega]
        show sqStep n (sqGo n (36 - b)) (36 - (36 - b)) = _
        rw [hs, show 36 - (36 - b) = b from by omega, show 37 - k = 36 - b from by omega]
      have hstep2 : sqStep n s b = if aboveB (mulHi (rootT s b) (rootT s b)) (mulLo (rootT s b) (rootT s b)) n 0 then s else rootT s b := rfl
      rw [hstep2] at hstep
      have ht := rootT_range s b
      have hT : IntKind.u64.wrap (s + IntKind.u64.wrap (2 ^ b)) = rootT s b := rfl
      obtain ⟨t, htt⟩ : ∃ t, rootT s b = t := ⟨_, rfl⟩
      rw [htt] at ht hT hstep
      have Hmul := Lib.hid (fun wx => mul_any t t ht ht wx)
      have Habove := Lib.hid (fun wx => above_any (mulHi t t) (mulLo t t) n 0 wx)
      obtain ⟨A, hA⟩ : ∃ A, aboveB (mulHi t t) (mulLo t t) n 0 = A := ⟨_, rfl⟩
      rw [hA] at hstep Habove
      have Hstep := Lib.hid hstep
      clear hx hs htt hA hstep hstep2 hk0
      cases A
      all_goals
        go_wp2_with fail
        with_reducible refine Calls.mono (Hmul.out _) ?_
        rintro e w1 ⟨rfl, hB1⟩
        go_wp2_with fail
        with_reducible refine Calls.mono (Habove.out _) ?_
        rintro e w2 ⟨rfl, hB2⟩
        have hU := Up.trans (Up.trans hB hB1) hB2
        clear hB hB1 hB2
        go_wp2
        go_roundw
        case rel => exact ⟨b, (b : Int) - 1, _, by omega, rfl, by go_num, rfl, Hstep.out.symm, hU⟩
        case measure => simp [intOf]
    · obtain rfl : x = -1 := by omega
      obtain rfl : k = 0 := by omega
      have Hs := Lib.hid hs
      clear hs hx hk0 hk
      go_wp2
      go_ret
      exact ⟨by rw [Hs.out]; rfl, hB⟩

/-- is the number's cube not too great? -/
def cubeOk (n t : Int) : Bool :=
  decide (IntKind.u64.wrap (IntKind.u64.wrap (mulHi t t * t) + mulHi (mulLo t t) t) < n * 4294967296) ||
    (decide (IntKind.u64.wrap (IntKind.u64.wrap (mulHi t t * t) + mulHi (mulLo t t) t) = n * 4294967296) && decide (mulLo (mulLo t t) t = 0))
def cbStep (n : Int) (s : Int) (b : Nat) : Int := if cubeOk n (rootT s b) then rootT s b else s
def cbGo (n : Int) : Nat → Int
  | 0 => 0
  | j + 1 => cbStep n (cbGo n j) (35 - j)
theorem cbGo_range (n : Int) (j : Nat) : 0 ≤ cbGo n j ∧ cbGo n j < 18446744073709551616 := by
  induction j with
  | zero => show 0 ≤ (0 : Int) ∧ (0 : Int) < _; omega
  | succ j ih => unfold cbGo cbStep; split; exact rootT_range _ _; exact ih
def cbB (n : Int) : Int := cbGo n 36 % 4294967296

set_option maxRecDepth 100000 in
set_option maxHeartbeats 1000000 in
theorem cube_any (n : Nat) (hn : n < 400) (w : World) :
    Calls Try.prog 18 #[.int .i64 n] w fun e w' => e = .returned (.int .u32 (cbB n)) ∧ Below w.heap.size w w' := by
  have hN : IntKind.u64.wrap (n : Int) = n := by rw [IntKind.wrap_u64]; omega
  go_enter Try.func18, Try.ntmps18
  go_wp2
  go_loopw [3, 4] (fun r i wr => ∃ (k : Nat) (x s : Int), k ≤ 36 ∧ x = (k : Int) - 1 ∧ i = .int .i64 x ∧ r = .int .u64 s ∧ s = cbGo n (36 - k) ∧ Below w.heap.size w wr)
    (fun _ i _ => (intOf i + 1).toNat)
  case atStart => exact ⟨36, 35, 0, by omega, by omega, rfl, rfl, rfl, Below.refl _ _⟩
  case round =>
    obtain ⟨k, x, s, hk, hx, rfl, rfl, hs, hB⟩ := hrel
    have hsr : 0 ≤ s ∧ s < 18446744073709551616 := by rw [hs]; exact cbGo_range _ _
    by_cases hk0 : 0 < k
    · obtain ⟨b, rfl⟩ : ∃ b : Nat, x = (b : Int) := ⟨k - 1, by omega⟩
      have hb : b < 36 := by omega
      have hstep : cbGo n (36 - b) = cbStep n s b := by
        rw [show 36 - b = (35 - b) + 1 from by omega]
        show cbStep n (cbGo n (35 - b)) (35 - (35 - b)) = _
        rw [hs, show 35 - (35 - b) = b from by omega, show 36 - k = 35 - b from by omega]
      have hstep2 : cbStep n s b = if cubeOk n (rootT s b) then rootT s b else s := rfl
      rw [hstep2] at hstep
      have ht := rootT_range s b
      have hT : IntKind.u64.wrap (s + IntKind.u64.wrap (2 ^ b)) = rootT s b := rfl
      obtain ⟨t, htt⟩ : ∃ t, rootT s b = t := ⟨_, rfl⟩
      rw [htt] at ht hT hstep
      have Hmul := Lib.hid (fun wx => mul_any t t ht ht wx)
      have Hmul2 := Lib.hid (fun wx => mul_any (mulLo t t) t (mulLo_range _ _) ht wx)
      have Hstep := Lib.hid hstep
      clear hx hs htt hstep hstep2 hk0
      go_wp2_with fail
      with_reducible refine Calls.mono (Hmul.out _) ?_
      rintro e w1 ⟨rfl, hB1⟩
      go_wp2_with fail
      with_reducible refine Calls.mono (Hmul2.out _) ?_
      rintro e w2 ⟨rfl, hB2⟩
      have hU := Up.trans (Up.trans hB (Up.alloc hB1 _)) hB2
      have q0 : w2.cell? ⟨w1.heap.size, 0, none⟩ = some (.int .u64 (mulHi t t)) := (hB2.cell (p := ⟨w1.heap.size, 0, none⟩) (by simp)).trans (by rw [World.cell?_alloc_new]; rfl)
      have q1 : w2.cell? ⟨w1.heap.size, 1, none⟩ = some (.int .u64 (mulLo t t)) := (hB2.cell (p := ⟨w1.heap.size, 1, none⟩) (by simp)).trans (by rw [World.cell?_alloc_new]; rfl)
      have hz : w1.heap.size < w2.heap.size := by have := hB2.size; simp at this; omega
      obtain ⟨H, hH⟩ : ∃ H, IntKind.u64.wrap (IntKind.u64.wrap (mulHi t t * t) + mulHi (mulLo t t) t) = H := ⟨_, rfl⟩
      obtain ⟨L, hL⟩ : ∃ L, mulLo (mulLo t t) t = L := ⟨_, rfl⟩
      have hok : cubeOk n t = (decide (H < n * 4294967296) || (decide (H = n * 4294967296) && decide (L = 0))) := by rw [← hH, ← hL]; rfl
      have Hok := Lib.hid hok
      clear hB hB1 hB2 hok
      by_cases c1 : H < n * 4294967296
      · have hd1 : decide (H < n * 4294967296) = true := by simp [c1]
        have Hs2 : Hid (cbGo n (36 - b) = t) := by show _ = _; rw [Hstep.out, Hok.out]; simp [c1]
        go_wp2
        go_roundw
        case rel => exact ⟨b, (b : Int) - 1, _, by omega, rfl, by go_num, rfl, Hs2.out.symm, Up.alloc hU _⟩
        case measure => simp [intOf]
      · have hd1 : decide (H < n * 4294967296) = false := by simp; omega
        by_cases c2 : H = n * 4294967296
        · by_cases c3 : L = 0
          · have Hs2 : Hid (cbGo n (36 - b) = t) := by show _ = _; rw [Hstep.out, Hok.out]; simp [c2, c3]
            have hd2 : (H == n * 4294967296) = true := by simp [c2]
            have hd3 : (L == 0) = true := by simp [c3]
            have Hc2 := Lib.hid c2
            have Hc3 := Lib.hid c3
            clear c2 c3
            go_wp2
            go_roundw
            case rel => exact ⟨b, (b : Int) - 1, _, by omega, rfl, by go_num, rfl, Hs2.out.symm, Up.alloc hU _⟩
            case measure => simp [intOf]
          · have Hs2 : Hid (cbGo n (36 - b) = s) := by show _ = _; rw [Hstep.out, Hok.out]; simp [c2, c3]
            have hd2 : (H == n * 4294967296) = true := by simp [c2]
            have hd3 : (L == 0) = false := by simp [c3]
            have Hc2 := Lib.hid c2
            clear c2
            go_wp2
            go_roundw
            case rel => exact ⟨b, (b : Int) - 1, _, by omega, rfl, by go_num, rfl, Hs2.out.symm, Up.alloc hU _⟩
            case measure => simp [intOf]
        · have Hs2 : Hid (cbGo n (36 - b) = s) := by show _ = _; rw [Hstep.out, Hok.out]; simp [c1, c2]
          have hd2 : (H == n * 4294967296) = false := by simp [c2]
          go_wp2
          go_roundw
          case rel => exact ⟨b, (b : Int) - 1, _, by omega, rfl, by go_num, rfl, Hs2.out.symm, Up.alloc hU _⟩
          case measure => simp [intOf]
    · obtain rfl : x = -1 := by omega
      obtain rfl : k = 0 := by omega
      have Hs := Lib.hid hs
      clear hs hx hk0 hk
      go_wp2
      go_ret
      exact ⟨by rw [Hs.out]; rfl, hB⟩
end Go.Proofs.Ytapapohbpdalfaa
