import Derived.Test.YtnnjoeppcbbblaaStSwap
/-
  The sort of statements: two stretches, the one behind the other, change places.
-/
namespace Go.Proofs.Ytnnjoeppcbbblaa
set_option maxRecDepth 100000
section
set_option linter.unusedVariables false
open Go.RowKit Go.Sort Go.Lib

/-- where a rotation is -/
def Rot (P U V T : List Vs) (m i j : Nat) (dk : Array Vs) : Prop :=
  ∃ L U' V' R', U'.length = i ∧ V'.length = j ∧ dk.toList = P ++ (L ++ (U' ++ (V' ++ (R' ++ T)))) ∧ P.length + (L.length + i) = m ∧ L ++ (V' ++ (U' ++ R')) = V ++ U
theorem Rot.len {P U V T : List Vs} {m i j : Nat} {dk : Array Vs} (h : Rot P U V T m i j dk) : dk.size = P.length + (U.length + (V.length + T.length)) ∧ i ≤ m ∧ m + j ≤ dk.size := by
  obtain ⟨L, U', V', R', h1, h2, h3, h4, h5⟩ := h
  have a := congrArg List.length h3
  have b := congrArg List.length h5
  simp only [Array.length_toList, List.length_append] at a b
  omega

/-- one call of swapRange, on a rotation's way -/
theorem rot_swap {w0 : World} {blk off : Nat} {d0 : Array Vs} (R : RowK vsC 7 w0 blk off d0) (n cap : Nat) (fv : Value) (hn : n = d0.size) (hsz : n < 4611686018427387904) {P U V T : List Vs} {m i j : Nat} {dk : Array Vs} (h : Rot P U V T m i j dk) (hdn : dk.size = n) (w : World) (S : SW w0 blk off dk w) :
    (j < i → Calls Try.prog 70 #[.slice (some ⟨blk, off, none⟩) n cap, .int .i64 ((m : Int) - i), .int .i64 m, .int .i64 j, fv] w fun e w' => e = .returned (.tuple #[]) ∧ ∃ d' : Array Vs, SW w0 blk off d' w' ∧ Rot P U V T m (i - j) j d') ∧
    (i < j → Calls Try.prog 70 #[.slice (some ⟨blk, off, none⟩) n cap, .int .i64 ((m : Int) - i), .int .i64 ((m : Int) + j - i), .int .i64 i, fv] w fun e w' => e = .returned (.tuple #[]) ∧ ∃ d' : Array Vs, SW w0 blk off d' w' ∧ Rot P U V T m i (j - i) d') ∧
    (i = j → Calls Try.prog 70 #[.slice (some ⟨blk, off, none⟩) n cap, .int .i64 ((m : Int) - i), .int .i64 m, .int .i64 i, fv] w fun e w' => e = .returned (.tuple #[]) ∧ ∃ d' : Array Vs, SW w0 blk off d' w' ∧ d'.toList = P ++ (V ++ (U ++ T))) := by
  obtain ⟨L, U', V', R', h1, h2, h3, h4, h5⟩ := h
  have e1 : (m : Int) - i = ((m - i : Nat) : Int) := by omega
  rw [e1]
  refine ⟨fun hij => ?_, fun hij => ?_, fun hij => ?_⟩
  · refine (swapRange_any R n cap j (m - i) m fv (P ++ L) (U'.take j) (U'.drop j) V' (R' ++ T) hn hsz (by simp; omega) (by simp; omega) h2 (by simp; omega) dk (by rw [h3]; simp [← List.append_assoc (U'.take j)]) hdn w S).mono ?_
    rintro e w' ⟨rfl, d', hS, hl⟩
    refine ⟨rfl, d', hS, L ++ V', U'.drop j, U'.take j, R', by simp; omega, by simp; omega, by rw [hl]; simp, by simp; omega, ?_⟩
    rw [← h5]
    simp [← List.append_assoc (U'.take j)]
  · have e2 : (m : Int) + j - i = ((m + j - i : Nat) : Int) := by omega
    rw [e2]
    refine (swapRange_any R n cap i (m - i) (m + j - i) fv (P ++ L) U' (V'.take (j - i)) (V'.drop (j - i)) (R' ++ T) hn hsz (by simp; omega) h1 (by simp; omega) (by simp; omega) dk (by rw [h3]; simp [← List.append_assoc (V'.take (j - i))]) hdn w S).mono ?_
    rintro e w' ⟨rfl, d', hS, hl⟩
    refine ⟨rfl, d', hS, L, V'.drop (j - i), V'.take (j - i), U' ++ R', by simp; omega, by simp; omega, by rw [hl]; simp, by omega, ?_⟩
    rw [← h5]
    simp [← List.append_assoc (V'.take (j - i))]
  · subst hij
    refine (swapRange_any R n cap i (m - i) m fv (P ++ L) U' [] V' (R' ++ T) hn hsz (by simp; omega) h1 h2 (by simp; omega) dk (by rw [h3]; simp) hdn w S).mono ?_
    rintro e w' ⟨rfl, d', hS, hl⟩
    refine ⟨rfl, d', hS, ?_⟩
    rw [hl]
    have : P ++ (V ++ (U ++ T)) = P ++ ((V ++ U) ++ T) := by simp
    rw [this, ← h5]
    simp

set_option maxHeartbeats 1000000 in
theorem rotate_any {w0 : World} {blk off : Nat} {d0 : Array Vs} (R : RowK vsC 7 w0 blk off d0) (n cap a m b : Nat) (fv : Value) (P U V T : List Vs) (hn : n = d0.size) (hsz : n < 4611686018427387904)
    (ha : a = P.length) (hm : m = P.length + U.length) (hb : b = P.length + (U.length + V.length)) (hU : 0 < U.length) (hV : 0 < V.length) (d : Array Vs) (hd : d.toList = P ++ (U ++ (V ++ T))) (hdn : d.size = n) (w : World) (S : SW w0 blk off d w) :
    Calls Try.prog 52 #[.slice (some ⟨blk, off, none⟩) n cap, .int .i64 (a : Nat), .int .i64 (m : Nat), .int .i64 (b : Nat), fv] w fun e w' => e = .returned (.tuple #[]) ∧ ∃ d' : Array Vs, SW w0 blk off d' w' ∧ d'.toList = P ++ (V ++ (U ++ T)) := by
  have hlen : P.length + (U.length + (V.length + T.length)) = n := by
    have := congrArg List.length hd
    simp at this
    omega
  obtain ⟨ui, hui⟩ : ∃ k, U.length = k := ⟨_, rfl⟩
  obtain ⟨vj, hvj⟩ : ∃ k, V.length = k := ⟨_, rfl⟩
  have h0 : Rot P U V T m ui vj d := ⟨[], U, V, [], hui, hvj, by simpa using hd, by simp; omega, by simp⟩
  have e1 : (m : Int) - a = ui := by omega
  have e2 : (b : Int) - m = vj := by omega
  have b1 : (m : Int) ≤ n := by omega
  have b2 : (b : Int) ≤ n := by omega
  have HS0 := Lib.hid S
  have H0 := Lib.hid h0
  have HL : Hid (∀ (i j : Nat) (dk : Array Vs), Rot P U V T m i j dk → dk.size = n ∧ i ≤ m ∧ m + j ≤ n) := fun i j dk h => by
    have := h.len
    omega
  have HC := Lib.hid (fun i j dk (h : Rot P U V T m i j dk) hdn w S => rot_swap R n cap fv hn hsz h hdn w S)
  have hu0 : 0 < ui := by omega
  have hv0 : 0 < vj := by omega
  have HE := Lib.hid (And.intro e1 e2)
  have w1 : IntKind.i64.wrap ((m : Int) - a) = ui := by rw [IntKind.wrap_i64]; omega
  have w2 : IntKind.i64.wrap ((b : Int) - m) = vj := by rw [IntKind.wrap_i64]; omega
  clear h0 hd hdn S hU hV hb hm ha hlen hui hvj e1 e2 hn
  go_enter Try.func52, Try.ntmps52
  go_wp2
  have HW : Hid (∀ (i j : Nat), i ≤ m → m + j ≤ n → IntKind.i64.wrap ((m : Int) - i) = (m : Int) - i ∧ IntKind.i64.wrap ((m : Int) + j) = (m : Int) + j ∧ IntKind.i64.wrap ((m : Int) + j - i) = (m : Int) + j - i ∧ (j ≤ i → IntKind.i64.wrap ((i : Int) - j) = (i : Int) - j) ∧ (i ≤ j → IntKind.i64.wrap ((j : Int) - i) = (j : Int) - i)) := fun i j h1 h2 => by
    refine ⟨?_, ?_, ?_, fun h => ?_, fun h => ?_⟩ <;> (rw [IntKind.wrap_i64]; omega)
  clear w1 w2
  go_loopw [10, 11] (fun vi vj wr => ∃ i j : Nat, ∃ dk : Array Vs, vi = .int .i64 (i : Nat) ∧ vj = .int .i64 (j : Nat) ∧ 0 < i ∧ 0 < j ∧ Hid (SW w0 blk off dk wr) ∧ Hid (Rot P U V T m i j dk))
    (fun vi vj _ => (intOf vi).toNat + (intOf vj).toNat)
  case atStart => exact ⟨ui, vj, d, rfl, rfl, hu0, hv0, HS0, H0⟩
  case round =>
    obtain ⟨i, j, dk, rfl, rfl, hi, hj, HS, HR⟩ := hrel
    obtain ⟨hdn, him, hjn⟩ := HL.out _ _ _ HR.out
    have Hc := Lib.hid (HC.out _ _ _ HR.out hdn wr HS.out)
    obtain ⟨x1, x2, x3, x4, x5⟩ := HW.out i j him hjn
    clear hdn
    by_cases h : i = j
    · subst h
      have e1 : ((i : Int) != (i : Int)) = false := by simp
      have Hc3 := Lib.hid (Hc.out.2.2 rfl)
      clear Hc
      go_wp2_with fail
      with_reducible refine Calls.mono Hc3.out ?_
      rintro e w1 ⟨rfl, d', hS, hl⟩
      go_wp2
      go_end0
      exact ⟨rfl, d', hS, hl⟩
    · have e1 : ((i : Int) != (j : Int)) = true := by simp; omega
      by_cases hlt : j < i
      · have hz : (j : Int) < (i : Int) := by omega
        have x6 := x4 (by omega)
        have Hc3 := Lib.hid (Hc.out.1 hlt)
        clear Hc
        clear x3 x4 x5
        go_wp2_with fail
        with_reducible refine Calls.mono Hc3.out ?_
        rintro e w1 ⟨rfl, d', hS, hl⟩
        have HS1 := Lib.hid hS
        have HL1 := Lib.hid hl
        clear hS hl
        go_wp2
        go_roundw
        case rel => exact ⟨i - j, j, d', by congr 1; omega, rfl, by omega, hj, HS1, HL1⟩
        case measure => simp [intOf]; omega
      · have hz : ¬ (j : Int) < (i : Int) := by omega
        have x6 := x5 (by omega)
        have Hc3 := Lib.hid (Hc.out.2.1 (by omega))
        clear Hc
        clear x4 x5
        go_wp2_with fail
        with_reducible refine Calls.mono Hc3.out ?_
        rintro e w1 ⟨rfl, d', hS, hl⟩
        have HS1 := Lib.hid hS
        have HL1 := Lib.hid hl
        clear hS hl
        go_wp2
        go_roundw
        case rel => exact ⟨i, j - i, d', rfl, by congr 1; omega, hi, by omega, HS1, HL1⟩
        case measure => simp [intOf]; omega
end
end Go.Proofs.Ytnnjoeppcbbblaa
