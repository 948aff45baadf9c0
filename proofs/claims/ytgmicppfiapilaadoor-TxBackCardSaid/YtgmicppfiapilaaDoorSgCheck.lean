import Derived.Test.YtgmicppfiapilaaDoorSgNew
import Derived.Test.YtgmicppfiapilaaDoorPow2
/-
  signer: which keys may be; Check.
-/
namespace Go.Proofs.YtgmicppfiapilaaDoor
set_option maxRecDepth 100000
section
set_option linter.unusedVariables false
open Go.RowKit

/-- each text has eight octets -/
def All8 (ls : List (List Int)) : Prop := ∀ k, k < ls.length → (ls[k]?.getD []).length = 8
/-- A KEY MAY BE. -/
structure KeyOk (seed : List Int) (ls : List (List Int)) (next : Int) : Prop where
  seed : seed.length ≤ 64
  pow : ls.length = 1 ∨ ls.length = 2 ∨ ls.length = 4 ∨ ls.length = 8 ∨ ls.length = 16
  eight : All8 ls
  lo : 0 ≤ next
  hi : next ≤ ls.length

theorem pow16 (n : Nat) (h : n ≤ 16) : (∃ K, n = 2 ^ K) ↔ (n = 1 ∨ n = 2 ∨ n = 4 ∨ n = 8 ∨ n = 16) := by
  constructor
  · rintro ⟨K, rfl⟩
    have hK : K ≤ 4 := by
      rcases Nat.lt_or_ge 4 K with h5 | h5
      · have := Nat.pow_le_pow_right (n := 2) (by omega) h5; omega
      · exact h5
    have : K = 0 ∨ K = 1 ∨ K = 2 ∨ K = 3 ∨ K = 4 := by omega
    rcases this with rfl | rfl | rfl | rfl | rfl <;> decide
  · rintro (rfl | rfl | rfl | rfl | rfl)
    · exact ⟨0, rfl⟩
    · exact ⟨1, rfl⟩
    · exact ⟨2, rfl⟩
    · exact ⟨3, rfl⟩
    · exact ⟨4, rfl⟩

theorem isNone_no (l : List Int) (w : World) (h : l.length = 8) : Calls Tryd.prog 41 #[.string (strOfNums l)] w fun e w' => e = .returned (.bool false) ∧ w = w' := by
  have h1 : ((l.length : Int) == 8) = true := by rw [beq_iff_eq]; omega
  have h2 : ((l.length : Int) != 8) = false := by rw [bne, h1]; rfl
  have h3 : ((strOfNums l).size : Int) = 8 := by rw [strOfNums_size]; omega
  clear h
  go_enter Tryd.func41, Tryd.ntmps41
  go_wp2
  go_ret
  exact ⟨rfl, rfl⟩
theorem isNone_yes (l : List Int) (w : World) (h : l.length ≠ 8) (hl : l.length ≤ 9223372036854775807) : Calls Tryd.prog 41 #[.string (strOfNums l)] w fun e w' => e = .returned (.bool true) ∧ w = w' := by
  have h1 : ((l.length : Int) == 8) = false := by rw [beq_eq_false_iff_ne]; omega
  have h2 : ((l.length : Int) != 8) = true := by rw [bne, h1]; rfl
  have h3 : ((strOfNums l).size : Int) = l.length := by rw [strOfNums_size]
  clear h
  go_enter Tryd.func41, Tryd.ntmps41
  go_wp2
  go_ret
  exact ⟨rfl, rfl⟩

/-- what IndexFunc answers -/
def Found (ls : List (List Int)) (w : World) (e : Ending) (w' : World) : Prop := (∃ r : Int, e = .returned (.int .i64 r) ∧ ((All8 ls ∧ r = -1) ∨ (¬ All8 ls ∧ 0 ≤ r))) ∧ w = w'

set_option maxHeartbeats 1000000 in
theorem index_any (v : Value) (ls : List (List Int)) (w : World) (hs : Strs w v ls) (hl : ls.length ≤ 9223372036854775807) (hx : ∀ k : Nat, (ls[k]?.getD []).length ≤ 9223372036854775807) :
    Calls Tryd.prog 69 #[v, .func (.func 41) #[] #[]] w (Found ls w) := by
  obtain ⟨a, cap, rfl, hcap, _, hcell⟩ := hs
  have Hc : Hid (∀ k, k < ls.length → ∃ b off, a = some ⟨b, off, none⟩ ∧ w.cell? ⟨b, off + k, none⟩ = some (.string (strOfNums (ls[k]?.getD [])))) := by
    intro k hk
    rcases hcell with rfl | ⟨b, off, rfl, hc⟩
    · simp at hk
    · exact ⟨b, off, rfl, hc k hk⟩
  have Hx := Lib.hid hx
  clear hcell hx
  go_enter Tryd.func69, Tryd.ntmps69
  go_wp2
  go_loop [8] (fun i => ∃ k : Nat, k ≤ ls.length ∧ i = .int .i64 k ∧ ∀ j, j < k → (ls[j]?.getD []).length = 8) (fun i => ls.length - (intOf i).toNat)
  case atStart => exact ⟨0, Nat.zero_le _, rfl, fun j hj => by omega⟩
  case round =>
    obtain ⟨k, hk, rfl, h8⟩ := hrel
    have H8 := Lib.hid h8
    clear h8
    by_cases hlt : k < ls.length
    · obtain ⟨b, off, rfl, hcell⟩ := Hc.out k hlt
      by_cases he : (ls[k]?.getD []).length = 8
      · have Hn := Lib.hid (isNone_no (ls[k]?.getD []) w he)
        have He := Lib.hid he
        clear he
        generalize ls[k]?.getD [] = X at hcell Hn
        go_wp2_with fail
        with_reducible refine Calls.mono Hn.out ?_
        rintro e w1 ⟨rfl, rfl⟩
        go_wp2
        go_round
        case rel => exact ⟨k + 1, by omega, by go_num, fun j hj => by
          by_cases e : j = k
          · rw [e]; exact He.out
          · exact H8.out j (by omega)⟩
        case measure => simp [intOf]; omega
      · have Hn := Lib.hid (isNone_yes (ls[k]?.getD []) w he (Hx.out k))
        have He := Lib.hid he
        clear he
        generalize ls[k]?.getD [] = X at hcell Hn
        go_wp2_with fail
        with_reducible refine Calls.mono Hn.out ?_
        rintro e w1 ⟨rfl, rfl⟩
        go_wp2
        go_ret
        exact ⟨⟨_, rfl, .inr ⟨fun h => He.out (h k hlt), by omega⟩⟩, rfl⟩
    · obtain rfl : k = ls.length := by omega
      go_wp2
      go_ret
      exact ⟨⟨_, rfl, .inl ⟨fun j hj => H8.out j hj, rfl⟩⟩, rfl⟩

theorem contains_no (v : Value) (ls : List (List Int)) (w : World) (hs : Strs w v ls) (hl : ls.length ≤ 9223372036854775807) (hx : ∀ k : Nat, (ls[k]?.getD []).length ≤ 9223372036854775807) (h8 : All8 ls) :
    Calls Tryd.prog 43 #[v, .func (.func 41) #[] #[]] w fun e w' => e = .returned (.bool false) ∧ w = w' := by
  have H := Lib.hid (index_any v ls w hs hl hx)
  have H8 := Lib.hid h8
  clear hs hl hx h8
  go_enter Tryd.func43, Tryd.ntmps43
  go_wp2_with fail
  with_reducible refine Calls.mono H.out ?_
  rintro e w1 ⟨⟨r, rfl, hr⟩, rfl⟩
  obtain rfl : r = -1 := by
    rcases hr with ⟨_, h⟩ | ⟨h, _⟩
    · exact h
    · exact absurd H8.out h
  clear hr
  go_wp2
  go_ret
  exact ⟨rfl, rfl⟩
theorem contains_yes (v : Value) (ls : List (List Int)) (w : World) (hs : Strs w v ls) (hl : ls.length ≤ 9223372036854775807) (hx : ∀ k : Nat, (ls[k]?.getD []).length ≤ 9223372036854775807) (h8 : ¬ All8 ls) :
    Calls Tryd.prog 43 #[v, .func (.func 41) #[] #[]] w fun e w' => e = .returned (.bool true) ∧ w = w' := by
  have H := Lib.hid (index_any v ls w hs hl hx)
  have H8 := Lib.hid h8
  clear hs hl hx h8
  go_enter Tryd.func43, Tryd.ntmps43
  go_wp2_with fail
  with_reducible refine Calls.mono H.out ?_
  rintro e w1 ⟨⟨r, rfl, hr⟩, rfl⟩
  have h0 : 0 ≤ r := by
    rcases hr with ⟨h, _⟩ | ⟨_, h⟩
    · exact absurd h H8.out
    · exact h
  clear hr
  go_wp2
  go_ret
  exact ⟨rfl, rfl⟩
end
end Go.Proofs.YtgmicppfiapilaaDoor
