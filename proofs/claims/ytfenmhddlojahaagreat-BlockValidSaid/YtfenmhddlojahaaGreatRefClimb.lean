import Derived.Test.YtfenmhddlojahaaGreatMkPlain
import Derived.Test.YtfenmhddlojahaaGreatRefSha
import Derived.Test.YtfenmhddlojahaaGreatAlong
namespace Go.Proofs.YtfenmhddlojahaaGreat
set_option maxRecDepth 100000
section
set_option linter.unusedVariables false
open Go.RowKit

set_option maxHeartbeats 1000000 in
theorem refClimb_from (leaf : List Int) (at_ : Int) (m : Nat) (pv : Value) (path : List (List Int)) (w : World) (hle : U8s leaf ∧ leaf.length ≤ 1048576) (hp : Strs w pv path) (hf : Tiny path) (hl : path.length ≤ 1048576) (hat : (at_ < 0 ∧ m = 0) ∨ at_ = m) (hm : (m : Int) ≤ 9223372036854775807) :
    Calls Tryz.prog 64 #[.string (strOfNums leaf), .int .i64 at_, pv] w fun e w' => e = .returned (.string (strOfNums (climbB leaf m path))) ∧ Up w w' := by
  obtain ⟨a, cap, rfl, hcap, _, _⟩ := id hp
  have HP := Lib.hid hp
  have HF := Lib.hid hf
  have HLe := Lib.hid hle
  have hstart : (at_ < 0 ∧ Hid (m = 0)) ∨ (at_ = 0 ∧ Hid (m = 0)) ∨ ((0 : Int) < m ∧ at_ = m) := by
    rcases hat with ⟨h1, h2⟩ | h
    · exact .inl ⟨h1, h2⟩
    · rcases Nat.eq_zero_or_pos m with e | e
      · exact .inr (.inl ⟨by omega, e⟩)
      · exact .inr (.inr ⟨by omega, h⟩)
  clear hp hf hle hat
  show Calls _ _ _ w fun e w' => e = .returned (.string (strOfNums (climbN leaf m path path.length))) ∧ _
  rcases hstart with ⟨h1, h2⟩ | ⟨rfl, h2⟩ | ⟨h1, rfl⟩
  all_goals
    go_enter Tryz.func64, Tryz.ntmps64
    go_wp2
    go_loopw [0, 1, 7] (fun t i c wr => ∃ k : Nat, k ≤ path.length ∧ c = .int .i64 k ∧ i = .int .i64 ((m / 2 ^ k : Nat) : Int) ∧ t = .string (strOfNums (climbN leaf m path k)) ∧ Up w wr) (fun _ _ c _ => path.length - (intOf c).toNat)
    case atStart => exact ⟨0, Nat.zero_le _, rfl, by first | (rw [h2.out]; simp; done) | (simp; done), rfl, Up.refl w⟩
    case round =>
      obtain ⟨k, hk, rfl, rfl, rfl, hB⟩ := hrel
      by_cases hlt : k < path.length
      · obtain ⟨_, _, he, _, _, hcell⟩ := HP.out.up hB
        simp only [Value.slice.injEq] at he
        obtain ⟨rfl, _, rfl⟩ := he
        rcases hcell with hx | ⟨b, off, rfl, hc⟩
        · rw [hx] at hlt; simp at hlt
        have hck := hc k hlt
        have HX := HF.out k
        have HT := climbN_fits leaf m path 1048576 (by omega) HLe.out k
        have Hs : Hid (climbN leaf m path (k + 1) = stepB (m / 2 ^ k) (path[k]?.getD []) (climbN leaf m path k)) := rfl
        have Hh : Hid (m / 2 ^ k / 2 = m / 2 ^ (k + 1)) := half_step _ _
        have hjm : m / 2 ^ k ≤ m := Nat.div_le_self _ _
        generalize path[k]?.getD [] = X at hck HX Hs
        generalize climbN leaf m path k = T at HT Hs ⊢
        generalize m / 2 ^ k = j at Hs Hh hjm ⊢
        clear hc
        by_cases hj : j % 2 = 1
        · have hji : (j : Int) % 2 = 1 := by omega
          obtain ⟨Z, hZ⟩ : ∃ Z, X ++ T = Z := ⟨_, rfl⟩
          have Hst : Hid (stepB j X T = shortB Z) := by show _ = _; unfold stepB bothB; rw [if_pos hj, hZ]
          have HZ : Hid (U8s Z ∧ Z.length ≤ 2097152) := by show _ ∧ _; rw [← hZ, List.length_append]; exact ⟨HX.1.append HT.1, by have := HX.2; have := HT.2; omega⟩
          have hcat : strOfNums X ++ strOfNums T = strOfNums Z := by rw [strOfNums_append, hZ]
          have hsz : (strOfNums X).size + (strOfNums T).size ≤ 9223372036854775807 := by rw [strOfNums_size, strOfNums_size]; have := HX.2; have := HT.2; omega
          obtain ⟨za, zc, w1, hconv, hI, hU1⟩ := conv_str Z HZ.out.1 wr
          have HI := Lib.hid hI
          clear hj hZ hI HX HT
          go_wp2_with fail
          with_reducible refine Calls.mono (refShort_any _ Z w1 HI.out HZ.out.1 (by have := HZ.out.2; omega)) ?_
          rintro e w2 ⟨rfl, hU2⟩
          have hB2 := Up.trans (Up.trans hB hU1) hU2
          clear hck hconv hcat
          go_wp2
          go_roundw
          case rel => exact ⟨k + 1, by omega, by go_num, by rw [← Hh.out]; go_num, by rw [Hs.out, Hst.out], hB2⟩
          case measure => simp [intOf]; omega
        · have hji : ¬ (j : Int) % 2 = 1 := by omega
          obtain ⟨Z, hZ⟩ : ∃ Z, T ++ X = Z := ⟨_, rfl⟩
          have Hst : Hid (stepB j X T = shortB Z) := by show _ = _; unfold stepB bothB; rw [if_neg hj, hZ]
          have HZ : Hid (U8s Z ∧ Z.length ≤ 2097152) := by show _ ∧ _; rw [← hZ, List.length_append]; exact ⟨HT.1.append HX.1, by have := HX.2; have := HT.2; omega⟩
          have hcat : strOfNums T ++ strOfNums X = strOfNums Z := by rw [strOfNums_append, hZ]
          have hsz : (strOfNums T).size + (strOfNums X).size ≤ 9223372036854775807 := by rw [strOfNums_size, strOfNums_size]; have := HX.2; have := HT.2; omega
          obtain ⟨za, zc, w1, hconv, hI, hU1⟩ := conv_str Z HZ.out.1 wr
          have HI := Lib.hid hI
          clear hj hZ hI HX HT
          go_wp2_with fail
          with_reducible refine Calls.mono (refShort_any _ Z w1 HI.out HZ.out.1 (by have := HZ.out.2; omega)) ?_
          rintro e w2 ⟨rfl, hU2⟩
          have hB2 := Up.trans (Up.trans hB hU1) hU2
          clear hck hconv hcat
          go_wp2
          go_roundw
          case rel => exact ⟨k + 1, by omega, by go_num, by rw [← Hh.out]; go_num, by rw [Hs.out, Hst.out], hB2⟩
          case measure => simp [intOf]; omega
      · obtain rfl : k = path.length := by omega
        go_wp2
        go_ret
        exact ⟨rfl, hB⟩

end
end Go.Proofs.YtfenmhddlojahaaGreat
