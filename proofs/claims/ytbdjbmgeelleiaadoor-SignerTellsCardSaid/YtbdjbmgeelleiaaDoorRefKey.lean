import Derived.Test.YtbdjbmgeelleiaaDoorSgCheckK
/-
  The reference: which keys may be.
-/
namespace Go.Proofs.YtbdjbmgeelleiaaDoor
set_option maxRecDepth 100000
section
set_option linter.unusedVariables false
open Go.RowKit

open Classical in
/-- the error of a key: none, or that of state -/
noncomputable def keyE (seed : List Int) (ls : List (List Int)) (next : Int) : Int := if KeyOk seed ls next then 0 else 9
theorem keyE_ok {seed : List Int} {ls : List (List Int)} {next : Int} (h : KeyOk seed ls next) : keyE seed ls next = 0 := if_pos h
theorem keyE_bad {seed : List Int} {ls : List (List Int)} {next : Int} (h : ¬ KeyOk seed ls next) : keyE seed ls next = 9 := if_neg h

theorem later_cellX {w w' : World} {ad : Addr} {v : Value} (h : w.cell? ad = some v) (hu : Up w w') : w'.cell? ad = some v := (hu.cell (p := ad) (World.block_lt_of_cell? w _ h)).trans h

set_option maxHeartbeats 1000000 in
theorem refKey_seed (seed : List Int) (lv : Value) (ls : List (List Int)) (next : Int) (w : World) (hs : Strs w lv ls) (h64 : 64 < seed.length) (hl : ls.length ≤ 9223372036854775807) (hsl : seed.length ≤ 9223372036854775807) :
    Calls Tryd.prog 10 #[keyV seed lv next] w fun e w' => e = .returned (.int .i64 9) ∧ Up w w' := by
  have h2 : (64 : Int) < ((strOfNums seed).size : Int) := by rw [strOfNums_size]; omega
  obtain ⟨a, cap, rfl, _, _, _⟩ := hs
  clear h64
  unfold keyV
  go_enter Tryd.func10, Tryd.ntmps10
  go_wp2
  go_ret
  exact ⟨rfl, Up.alloc (Up.refl w) _⟩

set_option maxHeartbeats 1000000 in
theorem refKey_count (seed : List Int) (lv : Value) (ls : List (List Int)) (next : Int) (w : World) (hs : Strs w lv ls) (h64 : ¬ 64 < seed.length) (hl : ls.length ≤ 9223372036854775807) (hc : ¬ (ls.length = 1 ∨ ls.length = 2 ∨ ls.length = 4 ∨ ls.length = 8 ∨ ls.length = 16)) :
    Calls Tryd.prog 10 #[keyV seed lv next] w fun e w' => e = .returned (.int .i64 9) ∧ Up w w' := by
  have h2 : ¬ (64 : Int) < ((strOfNums seed).size : Int) := by rw [strOfNums_size]; omega
  have e1 : ((ls.length : Int) == 1) = false := by rw [beq_eq_false_iff_ne]; omega
  have f1 : ((ls.length : Int) != 1) = true := by rw [bne, e1]; rfl
  have g1 : ¬ ls.length = 1 := by omega
  have e2 : ((ls.length : Int) == 2) = false := by rw [beq_eq_false_iff_ne]; omega
  have f2 : ((ls.length : Int) != 2) = true := by rw [bne, e2]; rfl
  have g2 : ¬ ls.length = 2 := by omega
  have e4 : ((ls.length : Int) == 4) = false := by rw [beq_eq_false_iff_ne]; omega
  have f4 : ((ls.length : Int) != 4) = true := by rw [bne, e4]; rfl
  have g4 : ¬ ls.length = 4 := by omega
  have e8 : ((ls.length : Int) == 8) = false := by rw [beq_eq_false_iff_ne]; omega
  have f8 : ((ls.length : Int) != 8) = true := by rw [bne, e8]; rfl
  have g8 : ¬ ls.length = 8 := by omega
  have e16 : ((ls.length : Int) == 16) = false := by rw [beq_eq_false_iff_ne]; omega
  have f16 : ((ls.length : Int) != 16) = true := by rw [bne, e16]; rfl
  have g16 : ¬ ls.length = 16 := by omega
  obtain ⟨a, cap, rfl, _, _, _⟩ := hs
  clear h64 hc
  unfold keyV
  go_enter Tryd.func10, Tryd.ntmps10
  go_wp2
  go_ret
  exact ⟨rfl, Up.alloc (Up.refl w) _⟩

set_option maxHeartbeats 2000000 in
theorem refKey_1 (seed : List Int) (lv : Value) (ls : List (List Int)) (next : Int) (w : World) (hs : Strs w lv ls) (h64 : ¬ 64 < seed.length) (hn : ls.length = 1) (hx : ∀ k : Nat, (ls[k]?.getD []).length ≤ 9223372036854775807) :
    Calls Tryd.prog 10 #[keyV seed lv next] w fun e w' => e = .returned (.int .i64 (keyE seed ls next)) ∧ Up w w' := by
  have h2 : ¬ (64 : Int) < ((strOfNums seed).size : Int) := by rw [strOfNums_size]; omega
  have hU0 : ∀ o : Obj, Up w (w.alloc o) := fun o => Up.alloc (Up.refl w) o
  have Hok : Hid (0 ≤ next → next ≤ 1 → All8 ls → keyE seed ls next = 0) := fun h3 h4 h5 => keyE_ok ⟨by omega, by omega, h5, h3, by omega⟩
  have Hbad : Hid ((next < 0 ∨ 1 < next ∨ ¬ All8 ls) → keyE seed ls next = 9) := fun h => keyE_bad fun hk => by
    rcases h with h | h | h
    · have := hk.lo; omega
    · have := hk.hi; omega
    · exact h hk.eight
  generalize keyE seed ls next = E at *
  obtain ⟨a, cap, rfl, hcap, _, hcell⟩ := hs
  have Hc : Hid (∀ k, k < 1 → ∀ o : Obj, ∃ b off, a = some ⟨b, off, none⟩ ∧ (w.alloc o).cell? ⟨b, off + k, none⟩ = some (.string (strOfNums (ls[k]?.getD [])))) := by
    intro k hk o
    rcases hcell with h0 | ⟨b, off, rfl, hc⟩
    · rw [h0] at hn; simp at hn
    · exact ⟨b, off, rfl, later_cellX (hc k (by omega)) (hU0 o)⟩
  have Hx := Lib.hid hx
  have Hn := Lib.hid hn
  rw [hn]
  clear hcell hx hcap h64 hn
  unfold keyV
  by_cases c1 : next < 0
  · rw [Hbad.out (.inl c1)]
    go_enter Tryd.func10, Tryd.ntmps10
    go_wp2
    go_ret
    exact ⟨rfl, hU0 _⟩
  by_cases c2 : 1 < next
  · rw [Hbad.out (.inr (.inl c2))]
    go_enter Tryd.func10, Tryd.ntmps10
    go_wp2
    go_ret
    exact ⟨rfl, hU0 _⟩
  have c3 : next ≤ 1 := by omega
  have c4 : 0 ≤ next := by omega
  go_enter Tryd.func10, Tryd.ntmps10
  go_wp2
  go_loop [4] (fun i => ∃ k : Nat, k ≤ 1 ∧ i = .int .i64 k ∧ ∀ j, j < k → (ls[j]?.getD []).length = 8) (fun i => 1 - (intOf i).toNat)
  case atStart => exact ⟨0, Nat.zero_le _, rfl, fun j hj => by omega⟩
  case round =>
    obtain ⟨k, hk, rfl, h8⟩ := hrel
    have H8 := Lib.hid h8
    clear h8
    by_cases hlt : k < 1
    · obtain ⟨b, off, rfl, hcell⟩ := Hc.out k hlt (.cells #[.string (strOfNums seed), .slice a 1 cap, .int .i64 next] 24)
      have Hlx := Lib.hid (Hx.out k)
      have H9 := Lib.hid (fun (h : ¬ (ls[k]?.getD []).length = 8) => Hbad.out (.inr (.inr fun h8 => h (h8 k (by rw [Hn.out]; exact hlt)))))
      have H10 : Hid ((ls[k]?.getD []).length = 8 → ∀ j, j < k + 1 → (ls[j]?.getD []).length = 8) := fun h j hj => by
        by_cases e : j = k
        · rw [e]; exact h
        · exact H8.out j (by omega)
      generalize ls[k]?.getD [] = X at hcell Hlx H9 H10
      by_cases he : X.length = 8
      · have He := Lib.hid (H10.out he)
        have e1 : (((strOfNums X).size : Int) == 8) = true := by rw [strOfNums_size, beq_iff_eq]; omega
        have e2 : (((strOfNums X).size : Int) != 8) = false := by rw [bne, e1]; rfl
        have e3 : (strOfNums X).size = 8 := by rw [strOfNums_size]; exact he
        clear he
        go_wp2
        go_round
        case rel => exact ⟨k + 1, by omega, by go_num, He.out⟩
        case measure => simp [intOf]; omega
      · have He := Lib.hid (H9.out he)
        have e1 : (((strOfNums X).size : Int) == 8) = false := by rw [strOfNums_size, beq_eq_false_iff_ne]; omega
        have e2 : (((strOfNums X).size : Int) != 8) = true := by rw [bne, e1]; rfl
        have e3 : ¬ (strOfNums X).size = 8 := by rw [strOfNums_size]; exact he
        clear he
        go_wp2
        go_ret
        exact ⟨ret_int He.out.symm, hU0 _⟩
    · obtain rfl : k = 1 := by omega
      have He := Lib.hid (Hok.out c4 c3 (fun j hj => H8.out j (by rw [Hn.out] at hj; exact hj)))
      go_wp2
      go_ret
      exact ⟨ret_int He.out.symm, hU0 _⟩

set_option maxHeartbeats 2000000 in
theorem refKey_2 (seed : List Int) (lv : Value) (ls : List (List Int)) (next : Int) (w : World) (hs : Strs w lv ls) (h64 : ¬ 64 < seed.length) (hn : ls.length = 2) (hx : ∀ k : Nat, (ls[k]?.getD []).length ≤ 9223372036854775807) :
    Calls Tryd.prog 10 #[keyV seed lv next] w fun e w' => e = .returned (.int .i64 (keyE seed ls next)) ∧ Up w w' := by
  have h2 : ¬ (64 : Int) < ((strOfNums seed).size : Int) := by rw [strOfNums_size]; omega
  have hU0 : ∀ o : Obj, Up w (w.alloc o) := fun o => Up.alloc (Up.refl w) o
  have Hok : Hid (0 ≤ next → next ≤ 2 → All8 ls → keyE seed ls next = 0) := fun h3 h4 h5 => keyE_ok ⟨by omega, by omega, h5, h3, by omega⟩
  have Hbad : Hid ((next < 0 ∨ 2 < next ∨ ¬ All8 ls) → keyE seed ls next = 9) := fun h => keyE_bad fun hk => by
    rcases h with h | h | h
    · have := hk.lo; omega
    · have := hk.hi; omega
    · exact h hk.eight
  generalize keyE seed ls next = E at *
  obtain ⟨a, cap, rfl, hcap, _, hcell⟩ := hs
  have Hc : Hid (∀ k, k < 2 → ∀ o : Obj, ∃ b off, a = some ⟨b, off, none⟩ ∧ (w.alloc o).cell? ⟨b, off + k, none⟩ = some (.string (strOfNums (ls[k]?.getD [])))) := by
    intro k hk o
    rcases hcell with h0 | ⟨b, off, rfl, hc⟩
    · rw [h0] at hn; simp at hn
    · exact ⟨b, off, rfl, later_cellX (hc k (by omega)) (hU0 o)⟩
  have Hx := Lib.hid hx
  have Hn := Lib.hid hn
  rw [hn]
  clear hcell hx hcap h64 hn
  unfold keyV
  by_cases c1 : next < 0
  · rw [Hbad.out (.inl c1)]
    go_enter Tryd.func10, Tryd.ntmps10
    go_wp2
    go_ret
    exact ⟨rfl, hU0 _⟩
  by_cases c2 : 2 < next
  · rw [Hbad.out (.inr (.inl c2))]
    go_enter Tryd.func10, Tryd.ntmps10
    go_wp2
    go_ret
    exact ⟨rfl, hU0 _⟩
  have c3 : next ≤ 2 := by omega
  have c4 : 0 ≤ next := by omega
  go_enter Tryd.func10, Tryd.ntmps10
  go_wp2
  go_loop [4] (fun i => ∃ k : Nat, k ≤ 2 ∧ i = .int .i64 k ∧ ∀ j, j < k → (ls[j]?.getD []).length = 8) (fun i => 2 - (intOf i).toNat)
  case atStart => exact ⟨0, Nat.zero_le _, rfl, fun j hj => by omega⟩
  case round =>
    obtain ⟨k, hk, rfl, h8⟩ := hrel
    have H8 := Lib.hid h8
    clear h8
    by_cases hlt : k < 2
    · obtain ⟨b, off, rfl, hcell⟩ := Hc.out k hlt (.cells #[.string (strOfNums seed), .slice a 2 cap, .int .i64 next] 24)
      have Hlx := Lib.hid (Hx.out k)
      have H9 := Lib.hid (fun (h : ¬ (ls[k]?.getD []).length = 8) => Hbad.out (.inr (.inr fun h8 => h (h8 k (by rw [Hn.out]; exact hlt)))))
      have H10 : Hid ((ls[k]?.getD []).length = 8 → ∀ j, j < k + 1 → (ls[j]?.getD []).length = 8) := fun h j hj => by
        by_cases e : j = k
        · rw [e]; exact h
        · exact H8.out j (by omega)
      generalize ls[k]?.getD [] = X at hcell Hlx H9 H10
      by_cases he : X.length = 8
      · have He := Lib.hid (H10.out he)
        have e1 : (((strOfNums X).size : Int) == 8) = true := by rw [strOfNums_size, beq_iff_eq]; omega
        have e2 : (((strOfNums X).size : Int) != 8) = false := by rw [bne, e1]; rfl
        have e3 : (strOfNums X).size = 8 := by rw [strOfNums_size]; exact he
        clear he
        go_wp2
        go_round
        case rel => exact ⟨k + 1, by omega, by go_num, He.out⟩
        case measure => simp [intOf]; omega
      · have He := Lib.hid (H9.out he)
        have e1 : (((strOfNums X).size : Int) == 8) = false := by rw [strOfNums_size, beq_eq_false_iff_ne]; omega
        have e2 : (((strOfNums X).size : Int) != 8) = true := by rw [bne, e1]; rfl
        have e3 : ¬ (strOfNums X).size = 8 := by rw [strOfNums_size]; exact he
        clear he
        go_wp2
        go_ret
        exact ⟨ret_int He.out.symm, hU0 _⟩
    · obtain rfl : k = 2 := by omega
      have He := Lib.hid (Hok.out c4 c3 (fun j hj => H8.out j (by rw [Hn.out] at hj; exact hj)))
      go_wp2
      go_ret
      exact ⟨ret_int He.out.symm, hU0 _⟩

set_option maxHeartbeats 2000000 in
theorem refKey_4 (seed : List Int) (lv : Value) (ls : List (List Int)) (next : Int) (w : World) (hs : Strs w lv ls) (h64 : ¬ 64 < seed.length) (hn : ls.length = 4) (hx : ∀ k : Nat, (ls[k]?.getD []).length ≤ 9223372036854775807) :
    Calls Tryd.prog 10 #[keyV seed lv next] w fun e w' => e = .returned (.int .i64 (keyE seed ls next)) ∧ Up w w' := by
  have h2 : ¬ (64 : Int) < ((strOfNums seed).size : Int) := by rw [strOfNums_size]; omega
  have hU0 : ∀ o : Obj, Up w (w.alloc o) := fun o => Up.alloc (Up.refl w) o
  have Hok : Hid (0 ≤ next → next ≤ 4 → All8 ls → keyE seed ls next = 0) := fun h3 h4 h5 => keyE_ok ⟨by omega, by omega, h5, h3, by omega⟩
  have Hbad : Hid ((next < 0 ∨ 4 < next ∨ ¬ All8 ls) → keyE seed ls next = 9) := fun h => keyE_bad fun hk => by
    rcases h with h | h | h
    · have := hk.lo; omega
    · have := hk.hi; omega
    · exact h hk.eight
  generalize keyE seed ls next = E at *
  obtain ⟨a, cap, rfl, hcap, _, hcell⟩ := hs
  have Hc : Hid (∀ k, k < 4 → ∀ o : Obj, ∃ b off, a = some ⟨b, off, none⟩ ∧ (w.alloc o).cell? ⟨b, off + k, none⟩ = some (.string (strOfNums (ls[k]?.getD [])))) := by
    intro k hk o
    rcases hcell with h0 | ⟨b, off, rfl, hc⟩
    · rw [h0] at hn; simp at hn
    · exact ⟨b, off, rfl, later_cellX (hc k (by omega)) (hU0 o)⟩
  have Hx := Lib.hid hx
  have Hn := Lib.hid hn
  rw [hn]
  clear hcell hx hcap h64 hn
  unfold keyV
  by_cases c1 : next < 0
  · rw [Hbad.out (.inl c1)]
    go_enter Tryd.func10, Tryd.ntmps10
    go_wp2
    go_ret
    exact ⟨rfl, hU0 _⟩
  by_cases c2 : 4 < next
  · rw [Hbad.out (.inr (.inl c2))]
    go_enter Tryd.func10, Tryd.ntmps10
    go_wp2
    go_ret
    exact ⟨rfl, hU0 _⟩
  have c3 : next ≤ 4 := by omega
  have c4 : 0 ≤ next := by omega
  go_enter Tryd.func10, Tryd.ntmps10
  go_wp2
  go_loop [4] (fun i => ∃ k : Nat, k ≤ 4 ∧ i = .int .i64 k ∧ ∀ j, j < k → (ls[j]?.getD []).length = 8) (fun i => 4 - (intOf i).toNat)
  case atStart => exact ⟨0, Nat.zero_le _, rfl, fun j hj => by omega⟩
  case round =>
    obtain ⟨k, hk, rfl, h8⟩ := hrel
    have H8 := Lib.hid h8
    clear h8
    by_cases hlt : k < 4
    · obtain ⟨b, off, rfl, hcell⟩ := Hc.out k hlt (.cells #[.string (strOfNums seed), .slice a 4 cap, .int .i64 next] 24)
      have Hlx := Lib.hid (Hx.out k)
      have H9 := Lib.hid (fun (h : ¬ (ls[k]?.getD []).length = 8) => Hbad.out (.inr (.inr fun h8 => h (h8 k (by rw [Hn.out]; exact hlt)))))
      have H10 : Hid ((ls[k]?.getD []).length = 8 → ∀ j, j < k + 1 → (ls[j]?.getD []).length = 8) := fun h j hj => by
        by_cases e : j = k
        · rw [e]; exact h
        · exact H8.out j (by omega)
      generalize ls[k]?.getD [] = X at hcell Hlx H9 H10
      by_cases he : X.length = 8
      · have He := Lib.hid (H10.out he)
        have e1 : (((strOfNums X).size : Int) == 8) = true := by rw [strOfNums_size, beq_iff_eq]; omega
        have e2 : (((strOfNums X).size : Int) != 8) = false := by rw [bne, e1]; rfl
        have e3 : (strOfNums X).size = 8 := by rw [strOfNums_size]; exact he
        clear he
        go_wp2
        go_round
        case rel => exact ⟨k + 1, by omega, by go_num, He.out⟩
        case measure => simp [intOf]; omega
      · have He := Lib.hid (H9.out he)
        have e1 : (((strOfNums X).size : Int) == 8) = false := by rw [strOfNums_size, beq_eq_false_iff_ne]; omega
        have e2 : (((strOfNums X).size : Int) != 8) = true := by rw [bne, e1]; rfl
        have e3 : ¬ (strOfNums X).size = 8 := by rw [strOfNums_size]; exact he
        clear he
        go_wp2
        go_ret
        exact ⟨ret_int He.out.symm, hU0 _⟩
    · obtain rfl : k = 4 := by omega
      have He := Lib.hid (Hok.out c4 c3 (fun j hj => H8.out j (by rw [Hn.out] at hj; exact hj)))
      go_wp2
      go_ret
      exact ⟨ret_int He.out.symm, hU0 _⟩

set_option maxHeartbeats 2000000 in
theorem refKey_8 (seed : List Int) (lv : Value) (ls : List (List Int)) (next : Int) (w : World) (hs : Strs w lv ls) (h64 : ¬ 64 < seed.length) (hn : ls.length = 8) (hx : ∀ k : Nat, (ls[k]?.getD []).length ≤ 9223372036854775807) :
    Calls Tryd.prog 10 #[keyV seed lv next] w fun e w' => e = .returned (.int .i64 (keyE seed ls next)) ∧ Up w w' := by
  have h2 : ¬ (64 : Int) < ((strOfNums seed).size : Int) := by rw [strOfNums_size]; omega
  have hU0 : ∀ o : Obj, Up w (w.alloc o) := fun o => Up.alloc (Up.refl w) o
  have Hok : Hid (0 ≤ next → next ≤ 8 → All8 ls → keyE seed ls next = 0) := fun h3 h4 h5 => keyE_ok ⟨by omega, by omega, h5, h3, by omega⟩
  have Hbad : Hid ((next < 0 ∨ 8 < next ∨ ¬ All8 ls) → keyE seed ls next = 9) := fun h => keyE_bad fun hk => by
    rcases h with h | h | h
    · have := hk.lo; omega
    · have := hk.hi; omega
    · exact h hk.eight
  generalize keyE seed ls next = E at *
  obtain ⟨a, cap, rfl, hcap, _, hcell⟩ := hs
  have Hc : Hid (∀ k, k < 8 → ∀ o : Obj, ∃ b off, a = some ⟨b, off, none⟩ ∧ (w.alloc o).cell? ⟨b, off + k, none⟩ = some (.string (strOfNums (ls[k]?.getD [])))) := by
    intro k hk o
    rcases hcell with h0 | ⟨b, off, rfl, hc⟩
    · rw [h0] at hn; simp at hn
    · exact ⟨b, off, rfl, later_cellX (hc k (by omega)) (hU0 o)⟩
  have Hx := Lib.hid hx
  have Hn := Lib.hid hn
  rw [hn]
  clear hcell hx hcap h64 hn
  unfold keyV
  by_cases c1 : next < 0
  · rw [Hbad.out (.inl c1)]
    go_enter Tryd.func10, Tryd.ntmps10
    go_wp2
    go_ret
    exact ⟨rfl, hU0 _⟩
  by_cases c2 : 8 < next
  · rw [Hbad.out (.inr (.inl c2))]
    go_enter Tryd.func10, Tryd.ntmps10
    go_wp2
    go_ret
    exact ⟨rfl, hU0 _⟩
  have c3 : next ≤ 8 := by omega
  have c4 : 0 ≤ next := by omega
  go_enter Tryd.func10, Tryd.ntmps10
  go_wp2
  go_loop [4] (fun i => ∃ k : Nat, k ≤ 8 ∧ i = .int .i64 k ∧ ∀ j, j < k → (ls[j]?.getD []).length = 8) (fun i => 8 - (intOf i).toNat)
  case atStart => exact ⟨0, Nat.zero_le _, rfl, fun j hj => by omega⟩
  case round =>
    obtain ⟨k, hk, rfl, h8⟩ := hrel
    have H8 := Lib.hid h8
    clear h8
    by_cases hlt : k < 8
    · obtain ⟨b, off, rfl, hcell⟩ := Hc.out k hlt (.cells #[.string (strOfNums seed), .slice a 8 cap, .int .i64 next] 24)
      have Hlx := Lib.hid (Hx.out k)
      have H9 := Lib.hid (fun (h : ¬ (ls[k]?.getD []).length = 8) => Hbad.out (.inr (.inr fun h8 => h (h8 k (by rw [Hn.out]; exact hlt)))))
      have H10 : Hid ((ls[k]?.getD []).length = 8 → ∀ j, j < k + 1 → (ls[j]?.getD []).length = 8) := fun h j hj => by
        by_cases e : j = k
        · rw [e]; exact h
        · exact H8.out j (by omega)
      generalize ls[k]?.getD [] = X at hcell Hlx H9 H10
      by_cases he : X.length = 8
      · have He := Lib.hid (H10.out he)
        have e1 : (((strOfNums X).size : Int) == 8) = true := by rw [strOfNums_size, beq_iff_eq]; omega
        have e2 : (((strOfNums X).size : Int) != 8) = false := by rw [bne, e1]; rfl
        have e3 : (strOfNums X).size = 8 := by rw [strOfNums_size]; exact he
        clear he
        go_wp2
        go_round
        case rel => exact ⟨k + 1, by omega, by go_num, He.out⟩
        case measure => simp [intOf]; omega
      · have He := Lib.hid (H9.out he)
        have e1 : (((strOfNums X).size : Int) == 8) = false := by rw [strOfNums_size, beq_eq_false_iff_ne]; omega
        have e2 : (((strOfNums X).size : Int) != 8) = true := by rw [bne, e1]; rfl
        have e3 : ¬ (strOfNums X).size = 8 := by rw [strOfNums_size]; exact he
        clear he
        go_wp2
        go_ret
        exact ⟨ret_int He.out.symm, hU0 _⟩
    · obtain rfl : k = 8 := by omega
      have He := Lib.hid (Hok.out c4 c3 (fun j hj => H8.out j (by rw [Hn.out] at hj; exact hj)))
      go_wp2
      go_ret
      exact ⟨ret_int He.out.symm, hU0 _⟩

set_option maxHeartbeats 2000000 in
theorem refKey_16 (seed : List Int) (lv : Value) (ls : List (List Int)) (next : Int) (w : World) (hs : Strs w lv ls) (h64 : ¬ 64 < seed.length) (hn : ls.length = 16) (hx : ∀ k : Nat, (ls[k]?.getD []).length ≤ 9223372036854775807) :
    Calls Tryd.prog 10 #[keyV seed lv next] w fun e w' => e = .returned (.int .i64 (keyE seed ls next)) ∧ Up w w' := by
  have h2 : ¬ (64 : Int) < ((strOfNums seed).size : Int) := by rw [strOfNums_size]; omega
  have hU0 : ∀ o : Obj, Up w (w.alloc o) := fun o => Up.alloc (Up.refl w) o
  have Hok : Hid (0 ≤ next → next ≤ 16 → All8 ls → keyE seed ls next = 0) := fun h3 h4 h5 => keyE_ok ⟨by omega, by omega, h5, h3, by omega⟩
  have Hbad : Hid ((next < 0 ∨ 16 < next ∨ ¬ All8 ls) → keyE seed ls next = 9) := fun h => keyE_bad fun hk => by
    rcases h with h | h | h
    · have := hk.lo; omega
    · have := hk.hi; omega
    · exact h hk.eight
  generalize keyE seed ls next = E at *
  obtain ⟨a, cap, rfl, hcap, _, hcell⟩ := hs
  have Hc : Hid (∀ k, k < 16 → ∀ o : Obj, ∃ b off, a = some ⟨b, off, none⟩ ∧ (w.alloc o).cell? ⟨b, off + k, none⟩ = some (.string (strOfNums (ls[k]?.getD [])))) := by
    intro k hk o
    rcases hcell with h0 | ⟨b, off, rfl, hc⟩
    · rw [h0] at hn; simp at hn
    · exact ⟨b, off, rfl, later_cellX (hc k (by omega)) (hU0 o)⟩
  have Hx := Lib.hid hx
  have Hn := Lib.hid hn
  rw [hn]
  clear hcell hx hcap h64 hn
  unfold keyV
  by_cases c1 : next < 0
  · rw [Hbad.out (.inl c1)]
    go_enter Tryd.func10, Tryd.ntmps10
    go_wp2
    go_ret
    exact ⟨rfl, hU0 _⟩
  by_cases c2 : 16 < next
  · rw [Hbad.out (.inr (.inl c2))]
    go_enter Tryd.func10, Tryd.ntmps10
    go_wp2
    go_ret
    exact ⟨rfl, hU0 _⟩
  have c3 : next ≤ 16 := by omega
  have c4 : 0 ≤ next := by omega
  go_enter Tryd.func10, Tryd.ntmps10
  go_wp2
  go_loop [4] (fun i => ∃ k : Nat, k ≤ 16 ∧ i = .int .i64 k ∧ ∀ j, j < k → (ls[j]?.getD []).length = 8) (fun i => 16 - (intOf i).toNat)
  case atStart => exact ⟨0, Nat.zero_le _, rfl, fun j hj => by omega⟩
  case round =>
    obtain ⟨k, hk, rfl, h8⟩ := hrel
    have H8 := Lib.hid h8
    clear h8
    by_cases hlt : k < 16
    · obtain ⟨b, off, rfl, hcell⟩ := Hc.out k hlt (.cells #[.string (strOfNums seed), .slice a 16 cap, .int .i64 next] 24)
      have Hlx := Lib.hid (Hx.out k)
      have H9 := Lib.hid (fun (h : ¬ (ls[k]?.getD []).length = 8) => Hbad.out (.inr (.inr fun h8 => h (h8 k (by rw [Hn.out]; exact hlt)))))
      have H10 : Hid ((ls[k]?.getD []).length = 8 → ∀ j, j < k + 1 → (ls[j]?.getD []).length = 8) := fun h j hj => by
        by_cases e : j = k
        · rw [e]; exact h
        · exact H8.out j (by omega)
      generalize ls[k]?.getD [] = X at hcell Hlx H9 H10
      by_cases he : X.length = 8
      · have He := Lib.hid (H10.out he)
        have e1 : (((strOfNums X).size : Int) == 8) = true := by rw [strOfNums_size, beq_iff_eq]; omega
        have e2 : (((strOfNums X).size : Int) != 8) = false := by rw [bne, e1]; rfl
        have e3 : (strOfNums X).size = 8 := by rw [strOfNums_size]; exact he
        clear he
        go_wp2
        go_round
        case rel => exact ⟨k + 1, by omega, by go_num, He.out⟩
        case measure => simp [intOf]; omega
      · have He := Lib.hid (H9.out he)
        have e1 : (((strOfNums X).size : Int) == 8) = false := by rw [strOfNums_size, beq_eq_false_iff_ne]; omega
        have e2 : (((strOfNums X).size : Int) != 8) = true := by rw [bne, e1]; rfl
        have e3 : ¬ (strOfNums X).size = 8 := by rw [strOfNums_size]; exact he
        clear he
        go_wp2
        go_ret
        exact ⟨ret_int He.out.symm, hU0 _⟩
    · obtain rfl : k = 16 := by omega
      have He := Lib.hid (Hok.out c4 c3 (fun j hj => H8.out j (by rw [Hn.out] at hj; exact hj)))
      go_wp2
      go_ret
      exact ⟨ret_int He.out.symm, hU0 _⟩

theorem refKey_any (seed : List Int) (lv : Value) (ls : List (List Int)) (next : Int) (w : World) (hs : Strs w lv ls) (hl : ls.length ≤ 9223372036854775807) (hsl : seed.length ≤ 9223372036854775807) (hx : ∀ k : Nat, (ls[k]?.getD []).length ≤ 9223372036854775807) :
    Calls Tryd.prog 10 #[keyV seed lv next] w fun e w' => e = .returned (.int .i64 (keyE seed ls next)) ∧ Up w w' := by
  by_cases h64 : 64 < seed.length
  · rw [keyE_bad fun hk => by have := hk.seed; omega]; exact refKey_seed seed lv ls next w hs h64 hl hsl
  by_cases hc : ls.length = 1 ∨ ls.length = 2 ∨ ls.length = 4 ∨ ls.length = 8 ∨ ls.length = 16
  · rcases hc with hc | hc | hc | hc | hc
    · exact refKey_1 seed lv ls next w hs h64 hc hx
    · exact refKey_2 seed lv ls next w hs h64 hc hx
    · exact refKey_4 seed lv ls next w hs h64 hc hx
    · exact refKey_8 seed lv ls next w hs h64 hc hx
    · exact refKey_16 seed lv ls next w hs h64 hc hx
  · rw [keyE_bad fun hk => hc hk.pow]; exact refKey_count seed lv ls next w hs h64 hl hc
end
end Go.Proofs.YtbdjbmgeelleiaaDoor
