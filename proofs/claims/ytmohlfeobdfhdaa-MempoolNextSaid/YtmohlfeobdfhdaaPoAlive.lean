import Derived.Test.YtmohlfeobdfhdaaPoAdd
/-
  mootlaw15.alive: the page's example.
-/
namespace Go.Proofs.Ytmohlfeobdfhdaa
set_option maxRecDepth 100000
section
set_option linter.unusedVariables false
open Go.RowKit Go.Sort Go.Lib

def poA : Ts := (⟨0, 1, 1, 0⟩, ⟨#[]⟩)
def poB : Ts := (⟨0, 2, 3, 0⟩, ⟨#[]⟩)
theorem poA_ok : TsOk poA := ⟨by decide, by decide, by decide, by decide, Nat.zero_le _⟩
theorem poB_ok : TsOk poB := ⟨by decide, by decide, by decide, by decide, Nat.zero_le _⟩
theorem targ_none (W : World) : TArg W (.slice none 0 0) [] := ⟨none, 0, rfl, Nat.le_refl _, fun _ => rfl, .inl rfl⟩
theorem poAlive_any (w : World) : Calls Try.prog 6 #[] w fun e w' => e = .returned (.bool true) ∧ Up w w' := by
  have Ha : Hid (Calls Try.prog 12 #[.slice none 0 0, .agg #[.int .i64 0, .int .i64 1, .int .i64 1, .int .i64 0, .string ⟨#[]⟩]] w fun e w' => ∃ a c, e = .returned (.tuple #[.slice a 1 c, .bool true]) ∧ TArg w' (.slice a 1 c) [poA] ∧ Up w w') := Lib.hid (by
    refine (add_any _ [] poA w (targ_none w) (fun j x h => by simp at h) (by simp) poA_ok).mono fun e w' h => ?_
    rcases h with ⟨h, _⟩ | ⟨_, r, he, hr, hu⟩
    · exfalso
      rcases h with h | h | h
      · exact h rfl
      · simp at h
      · simp [metS] at h
    · obtain ⟨a, c, rfl⟩ := row_shape hr
      exact ⟨a, c, he, targ_of_own hr rfl, hu⟩)
  go_enter Try.func6, Try.ntmps6
  go_wp2_with fail
  with_reducible refine Calls.mono Ha.out ?_
  rintro e w1 ⟨a, c, rfl, ht, hU⟩
  have HU1 := Lib.hid hU
  have Hb : Hid (Calls Try.prog 12 #[.slice a 1 c, .agg #[.int .i64 0, .int .i64 2, .int .i64 3, .int .i64 0, .string ⟨#[]⟩]] w1 fun e w' => e = .returned (.tuple #[.slice none 0 0, .bool false]) ∧ Up w1 w') := Lib.hid (by
    refine (add_any _ [poA] poB w1 ht (fun j x h => by
      have := List.mem_of_getElem? h
      simp at this
      rw [this]; exact poA_ok) (by simp) poB_ok).mono fun e w' h => ?_
    rcases h with ⟨_, he, hu⟩ | ⟨⟨_, _, h⟩, _⟩
    · exact ⟨he, hu⟩
    · simp [metS, poA, poB] at h)
  clear hU ht Ha
  go_wp2_with fail
  with_reducible refine Calls.mono Hb.out ?_
  rintro e w2 ⟨rfl, hU2⟩
  have HU2 := Lib.hid (Up.trans HU1.out hU2)
  clear hU2 Hb
  go_wp2
  go_ret
  exact ⟨rfl, HU2.out⟩
end
end Go.Proofs.Ytmohlfeobdfhdaa
