import Derived.WalkKit
import Derived.Outline
import Derived.Deep.QuietTactic
import Derived.BigQuiet
import Derived.Test.YtgmicppfiapilaaDoorMkPlain
namespace Go.Proofs.YtgmicppfiapilaaDoor
section
set_option linter.unusedVariables false
open Go.RowKit

set_option maxHeartbeats 1000000 in
theorem climb_from (leaf : List Int) (at_ : Int) (m : Nat) (pv : Value) (path : List (List Int)) (w : World) (hle : U8s leaf ∧ leaf.length ≤ 140737488351232) (hp : Strs w pv path) (hf : Fits path) (hl : path.length ≤ 8796093022208) (hat : (at_ < 0 ∧ m = 0) ∨ at_ = m) (hm : (m : Int) ≤ 9223372036854775807) :
    Calls Tryd.prog 55 #[.string (strOfNums leaf), .int .i64 at_, pv] w fun e w' => e = .returned (.string (strOfNums (climbB leaf m path))) ∧ Up w w' := by
  obtain ⟨a, cap, rfl, hcap, _, _⟩ := id hp
  have HP := Lib.hid hp
  have HF := Lib.hid hf
  have HLe := Lib.hid hle
  have hstart : (at_ < 0 ∧ Hid (m = 0)) ∨ (at_ = 0 ∧ Hid (m = 0)) ∨ ((0 : Int) < m ∧ at_ = m) := by
    rcases hat with ⟨h1, h2⟩ | h
    · exact .inl ⟨h1, h2⟩
    · rcases Nat.eq_zero_or_pos m with e | e
      · exact .inr (.inl ⟨by omega, e⟩)
      · exact .inr (.inr ⟨by omega, h⟩)
  clear hp hf hle hat
  show Calls _ _ _ w fun e w' => e = .returned (.string (strOfNums (climbN leaf m path path.length))) ∧ _
  rcases hstart with ⟨h1, h2⟩ | ⟨rfl, h2⟩ | ⟨h1, rfl⟩
  all_goals
    go_enter Tryd.func55, Tryd.ntmps55
    go_wp2
    go_loopw [1, 7, 15] (fun i t c wr => ∃ k : Nat, k ≤ path.length ∧ c = .int .i64 k ∧ i = .int .i64 ((m / 2 ^ k : Nat) : Int) ∧ t = .string (strOfNums (climbN leaf m path k)) ∧ Up w wr) (fun _ _ c _ => path.length - (intOf c).toNat)
    case atStart => exact ⟨0, Nat.zero_le _, rfl, by first | (rw [h2.out]; simp; done) | (simp; done), rfl, Up.refl w⟩
    case round =>
      obtain ⟨k, hk, rfl, rfl, rfl, hB⟩ := hrel
      by_cases hlt : k < path.length
      · obtain ⟨_, _, he, _, _, hcell⟩ := HP.out.up hB
        simp only [Value.slice.injEq] at he
        obtain ⟨rfl, _, rfl⟩ := he
        rcases hcell with hx | ⟨b, off, rfl, hc⟩
        · rw [hx] at hlt; simp at hlt
        have hck := hc k hlt
        have HX := Lib.hid (HF.out k)
        have HT := Lib.hid (climbN_fits leaf m path 140737488351232 (by omega) HLe.out k)
        have Hs : Hid (climbN leaf m path (k + 1) = stepB (m / 2 ^ k) (path[k]?.getD []) (climbN leaf m path k)) := rfl
        have Hh : Hid (m / 2 ^ k / 2 = m / 2 ^ (k + 1)) := half_step _ _
        have hjm : m / 2 ^ k ≤ m := Nat.div_le_self _ _
        generalize path[k]?.getD [] = X at hck HX Hs
        generalize climbN leaf m path k = T at HT Hs ⊢
        generalize m / 2 ^ k = j at Hs Hh hjm ⊢
        clear hc
        by_cases hj : j % 2 = 1
        · have hji : (j : Int) % 2 = 1 := by omega
          have Hst : Hid (stepB j X T = bothB X T) := by show _ = _; unfold stepB; rw [if_pos hj]
          clear hj
          go_wp2_with fail
          with_reducible refine Calls.mono (both_any X T _ HX.out HT.out) ?_
          rintro e w2 ⟨rfl, hU2⟩
          have hB2 := Up.trans hB hU2
          clear hck
          go_wp2
          go_roundw
          case rel => exact ⟨k + 1, by omega, by go_num, by rw [← Hh.out]; go_num, by rw [Hs.out, Hst.out], hB2⟩
          case measure => simp [intOf]; omega
        · have hji : ¬ (j : Int) % 2 = 1 := by omega
          have Hst : Hid (stepB j X T = bothB T X) := by show _ = _; unfold stepB; rw [if_neg hj]
          clear hj
          go_wp2_with fail
          with_reducible refine Calls.mono (both_any T X _ HT.out HX.out) ?_
          rintro e w2 ⟨rfl, hU2⟩
          have hB2 := Up.trans hB hU2
          clear hck
          go_wp2
          go_roundw
          case rel => exact ⟨k + 1, by omega, by go_num, by rw [← Hh.out]; go_num, by rw [Hs.out, Hst.out], hB2⟩
          case measure => simp [intOf]; omega
      · obtain rfl : k = path.length := by omega
        go_wp2
        go_ret
        exact ⟨rfl, hB⟩
theorem climb_any (leaf : List Int) (at_ : Int) (pv : Value) (path : List (List Int)) (w : World) (hle : U8s leaf ∧ leaf.length ≤ 140737488351232) (hp : Strs w pv path) (hf : Fits path) (hl : path.length ≤ 8796093022208) (hat : -9223372036854775808 ≤ at_ ∧ at_ ≤ 9223372036854775807) :
    Calls Tryd.prog 55 #[.string (strOfNums leaf), .int .i64 at_, pv] w fun e w' => e = .returned (.string (strOfNums (climbB leaf at_.toNat path))) ∧ Up w w' :=
  climb_from leaf at_ at_.toNat pv path w hle hp hf hl (by omega) (by omega)
end
end Go.Proofs.YtgmicppfiapilaaDoor
