import Derived.WalkKit
import Derived.Test.YtenhjjbbmmomaaaDoorSgNew
import Derived.Test.YtenhjjbbmmomaaaDoorPow2
namespace Go.Proofs.YtenhjjbbmmomaaaDoor
/-
  signer: which keys may be; Check.
-/
section
set_option maxRecDepth 100000
section
set_option linter.unusedVariables false
open Go.RowKit

/-- each text has eight octets -/
def All8 (ls : List (List Int)) : Prop := ∀ k, k < ls.length → (ls[k]?.getD []).length = 8
/-- A KEY MAY BE. -/
structure KeyOk (seed : List Int) (ls : List (List Int)) (next : Int) : Prop where
  seed : seed.length ≤ 64
  pow : ls.length = 1 ∨ ls.length = 2 ∨ ls.length = 4 ∨ ls.length = 8 ∨ ls.length = 16
  eight : All8 ls
  lo : 0 ≤ next
  hi : next ≤ ls.length

theorem pow16 (n : Nat) (h : n ≤ 16) : (∃ K, n = 2 ^ K) ↔ (n = 1 ∨ n = 2 ∨ n = 4 ∨ n = 8 ∨ n = 16) := by
  constructor
  · rintro ⟨K, rfl⟩
    have hK : K ≤ 4 := by
      rcases Nat.lt_or_ge 4 K with h5 | h5
      · have := Nat.pow_le_pow_right (n := 2) (by omega) h5; omega
      · exact h5
    have : K = 0 ∨ K = 1 ∨ K = 2 ∨ K = 3 ∨ K = 4 := by omega
    rcases this with rfl | rfl | rfl | rfl | rfl <;> decide
  · rintro (rfl | rfl | rfl | rfl | rfl)
    · exact ⟨0, rfl⟩
    · exact ⟨1, rfl⟩
    · exact ⟨2, rfl⟩
    · exact ⟨3, rfl⟩
    · exact ⟨4, rfl⟩

theorem isNone_no (l : List Int) (w : World) (h : l.length = 8) : Calls Tryd.prog 43 #[.string (strOfNums l)] w fun e w' => e = .returned (.bool false) ∧ w = w' := by
  have h1 : ((l.length : Int) == 8) = true := by rw [beq_iff_eq]; omega
  have h2 : ((l.length : Int) != 8) = false := by rw [bne, h1]; rfl
  have h3 : ((strOfNums l).size : Int) = 8 := by rw [strOfNums_size]; omega
  clear h
  go_enter Tryd.func43, Tryd.ntmps43
  go_wp2
  go_ret
  exact ⟨rfl, rfl⟩
theorem isNone_yes (l : List Int) (w : World) (h : l.length ≠ 8) (hl : l.length ≤ 9223372036854775807) : Calls Tryd.prog 43 #[.string (strOfNums l)] w fun e w' => e = .returned (.bool true) ∧ w = w' := by
  have h1 : ((l.length : Int) == 8) = false := by rw [beq_eq_false_iff_ne]; omega
  have h2 : ((l.length : Int) != 8) = true := by rw [bne, h1]; rfl
  have h3 : ((strOfNums l).size : Int) = l.length := by rw [strOfNums_size]
  clear h
  go_enter Tryd.func43, Tryd.ntmps43
  go_wp2
  go_ret
  exact ⟨rfl, rfl⟩

/-- what IndexFunc answers -/
def Found (ls : List (List Int)) (w : World) (e : Ending) (w' : World) : Prop := (∃ r : Int, e = .returned (.int .i64 r) ∧ ((All8 ls ∧ r = -1) ∨ (¬ All8 ls ∧ 0 ≤ r))) ∧ w = w'

set_option maxHeartbeats 1000000 in
theorem index_any (v : Value) (ls : List (List Int)) (w : World) (hs : Strs w v ls) (hl : ls.length ≤ 9223372036854775807) (hx : ∀ k : Nat, (ls[k]?.getD []).length ≤ 9223372036854775807) :
    Calls Tryd.prog 71 #[v, .func (.func 43) #[] #[]] w (Found ls w) := by
  obtain ⟨a, cap, rfl, hcap, _, hcell⟩ := hs
  have Hc : Hid (∀ k, k < ls.length → ∃ b off, a = some ⟨b, off, none⟩ ∧ w.cell? ⟨b, off + k, none⟩ = some (.string (strOfNums (ls[k]?.getD [])))) := by
    intro k hk
    rcases hcell with rfl | ⟨b, off, rfl, hc⟩
    · simp at hk
    · exact ⟨b, off, rfl, hc k hk⟩
  have Hx := Lib.hid hx
  clear hcell hx
  go_enter Tryd.func71, Tryd.ntmps71
  go_wp2
  go_loop [8] (fun i => ∃ k : Nat, k ≤ ls.length ∧ i = .int .i64 k ∧ ∀ j, j < k → (ls[j]?.getD []).length = 8) (fun i => ls.length - (intOf i).toNat)
  case atStart => exact ⟨0, Nat.zero_le _, rfl, fun j hj => by omega⟩
  case round =>
    obtain ⟨k, hk, rfl, h8⟩ := hrel
    have H8 := Lib.hid h8
    clear h8
    by_cases hlt : k < ls.length
    · obtain ⟨b, off, rfl, hcell⟩ := Hc.out k hlt
      by_cases he : (ls[k]?.getD []).length = 8
      · have Hn := Lib.hid (isNone_no (ls[k]?.getD []) w he)
        have He := Lib.hid he
        clear he
        generalize ls[k]?.getD [] = X at hcell Hn
        go_wp2_with fail
        with_reducible refine Calls.mono Hn.out ?_
        rintro e w1 ⟨rfl, rfl⟩
        go_wp2
        go_round
        case rel => exact ⟨k + 1, by omega, by go_num, fun j hj => by
          by_cases e : j = k
          · rw [e]; exact He.out
          · exact H8.out j (by omega)⟩
        case measure => simp [intOf]; omega
      · have Hn := Lib.hid (isNone_yes (ls[k]?.getD []) w he (Hx.out k))
        have He := Lib.hid he
        clear he
        generalize ls[k]?.getD [] = X at hcell Hn
        go_wp2_with fail
        with_reducible refine Calls.mono Hn.out ?_
        rintro e w1 ⟨rfl, rfl⟩
        go_wp2
        go_ret
        exact ⟨⟨_, rfl, .inr ⟨fun h => He.out (h k hlt), by omega⟩⟩, rfl⟩
    · obtain rfl : k = ls.length := by omega
      go_wp2
      go_ret
      exact ⟨⟨_, rfl, .inl ⟨fun j hj => H8.out j hj, rfl⟩⟩, rfl⟩

theorem contains_no (v : Value) (ls : List (List Int)) (w : World) (hs : Strs w v ls) (hl : ls.length ≤ 9223372036854775807) (hx : ∀ k : Nat, (ls[k]?.getD []).length ≤ 9223372036854775807) (h8 : All8 ls) :
    Calls Tryd.prog 45 #[v, .func (.func 43) #[] #[]] w fun e w' => e = .returned (.bool false) ∧ w = w' := by
  have H := Lib.hid (index_any v ls w hs hl hx)
  have H8 := Lib.hid h8
  clear hs hl hx h8
  go_enter Tryd.func45, Tryd.ntmps45
  go_wp2_with fail
  with_reducible refine Calls.mono H.out ?_
  rintro e w1 ⟨⟨r, rfl, hr⟩, rfl⟩
  obtain rfl : r = -1 := by
    rcases hr with ⟨_, h⟩ | ⟨h, _⟩
    · exact h
    · exact absurd H8.out h
  clear hr
  go_wp2
  go_ret
  exact ⟨rfl, rfl⟩
theorem contains_yes (v : Value) (ls : List (List Int)) (w : World) (hs : Strs w v ls) (hl : ls.length ≤ 9223372036854775807) (hx : ∀ k : Nat, (ls[k]?.getD []).length ≤ 9223372036854775807) (h8 : ¬ All8 ls) :
    Calls Tryd.prog 45 #[v, .func (.func 43) #[] #[]] w fun e w' => e = .returned (.bool true) ∧ w = w' := by
  have H := Lib.hid (index_any v ls w hs hl hx)
  have H8 := Lib.hid h8
  clear hs hl hx h8
  go_enter Tryd.func45, Tryd.ntmps45
  go_wp2_with fail
  with_reducible refine Calls.mono H.out ?_
  rintro e w1 ⟨⟨r, rfl, hr⟩, rfl⟩
  have h0 : 0 ≤ r := by
    rcases hr with ⟨h, _⟩ | ⟨_, h⟩
    · exact absurd h H8.out
    · exact h
  clear hr
  go_wp2
  go_ret
  exact ⟨rfl, rfl⟩
end
end

/-
  signer: Check.
-/
section
set_option maxRecDepth 100000
section
set_option linter.unusedVariables false
open Go.RowKit

theorem leaves16 (w : World) : Calls Tryd.prog 34 #[.int .i64 4] w fun e w' => e = .returned (.int .i64 16) ∧ w = w' :=
  leavesOf_any 4 w (Nat.le_refl _)

/-- the world in which a key is boxed -/
def boxKey (w : World) (seed : List Int) (lv : Value) (next : Int) : World := w.alloc (.cells #[.string (strOfNums seed), lv, .int .i64 next] 27)
theorem Strs.alloc {W : World} {v : Value} {ls : List (List Int)} (h : Strs W v ls) (o : Obj) : Strs (W.alloc o) v ls := h.up (Up.alloc (Up.refl W) o)

set_option maxHeartbeats 1000000 in
theorem check_ok (seed : List Int) (lv : Value) (ls : List (List Int)) (next : Int) (w : World) (hs : Strs w lv ls) (hk : KeyOk seed ls next) :
    Calls Tryd.prog 20 #[keyV seed lv next] w fun e w' => e = .returned (.int .i64 0) ∧ Up w w' := by
  have hl : ls.length ≤ 16 := by have := hk.pow; omega
  have h8x : ∀ k : Nat, (ls[k]?.getD []).length ≤ 9223372036854775807 := fun k => by
    by_cases h : k < ls.length
    · rw [hk.eight k h]; omega
    · rw [List.getElem?_eq_none (by omega)]; simp
  obtain ⟨a, cap, rfl, hcap, _, _⟩ := id hs
  have Hct := Lib.hid (contains_no _ ls _ (hs.alloc (.cells #[.string (strOfNums seed), .slice a ls.length cap, .int .i64 next] 27)) (by omega) h8x hk.eight)
  have hone : cnt ls.length = 1 := (cnt_one ls.length (by omega)).2 ((pow16 _ hl).2 hk.pow)
  have Ho := Lib.hid (ones_any ls.length (w.alloc (.cells #[.string (strOfNums seed), .slice a ls.length cap, .int .i64 next] 27)) (by omega))
  rw [hone] at Ho
  have hwu : IntKind.u64.wrap (ls.length : Int) = (ls.length : Int) := by rw [IntKind.wrap_u64]; omega
  have h1 : ¬ (16 : Int) < (ls.length : Int) := by omega
  have h2 : ¬ (64 : Int) < ((strOfNums seed).size : Int) := by rw [strOfNums_size]; have := hk.seed; omega
  have h3 : ¬ next < 0 := by have := hk.lo; omega
  have h4 : ¬ (ls.length : Int) < next := by have := hk.hi; omega
  have hU0 : Up w (w.alloc (.cells #[.string (strOfNums seed), .slice a ls.length cap, .int .i64 next] 27)) := Up.alloc (Up.refl w) _
  clear hk h8x hone hs
  unfold keyV
  go_enter Tryd.func20, Tryd.ntmps20
  go_wp2_with fail
  with_reducible refine Calls.mono (leaves16 _) ?_
  rintro e w1 ⟨rfl, rfl⟩
  go_wp2_with fail
  with_reducible refine Calls.mono Ho.out ?_
  rintro e w1 ⟨rfl, rfl⟩
  go_wp2_with fail
  with_reducible refine Calls.mono Hct.out ?_
  rintro e w1 ⟨rfl, rfl⟩
  go_wp2
  go_ret
  exact ⟨rfl, hU0⟩

set_option maxHeartbeats 4000000 in
theorem check_bad (seed : List Int) (lv : Value) (ls : List (List Int)) (next : Int) (w : World) (hs : Strs w lv ls) (hl : ls.length ≤ 8796093022208) (h8x : ∀ k : Nat, (ls[k]?.getD []).length ≤ 9223372036854775807) (hsl : seed.length ≤ 9223372036854775807) (hn : -9223372036854775808 ≤ next ∧ next ≤ 9223372036854775807) (hk : ¬ KeyOk seed ls next) :
    Calls Tryd.prog 20 #[keyV seed lv next] w fun e w' => e = .returned (.int .i64 9) ∧ Up w w' := by
  obtain ⟨a, cap, rfl, hcap, _, _⟩ := id hs
  have hU0 : Up w (w.alloc (.cells #[.string (strOfNums seed), .slice a ls.length cap, .int .i64 next] 27)) := Up.alloc (Up.refl w) _
  have Hs := Lib.hid (hs.alloc (.cells #[.string (strOfNums seed), .slice a ls.length cap, .int .i64 next] 27))
  have H8x := Lib.hid h8x
  have Hk := Lib.hid hk
  clear hs h8x hk
  by_cases c1 : 16 < ls.length
  · have h1 : (16 : Int) < (ls.length : Int) := by omega
    unfold keyV
    go_enter Tryd.func20, Tryd.ntmps20
    go_wp2_with fail
    with_reducible refine Calls.mono (leaves16 _) ?_
    rintro e w1 ⟨rfl, rfl⟩
    go_wp2
    go_ret
    exact ⟨rfl, hU0⟩
  have h1 : ¬ (16 : Int) < (ls.length : Int) := by omega
  have hwu : IntKind.u64.wrap (ls.length : Int) = (ls.length : Int) := by rw [IntKind.wrap_u64]; omega
  by_cases c2 : ls.length = 1 ∨ ls.length = 2 ∨ ls.length = 4 ∨ ls.length = 8 ∨ ls.length = 16
  · have hone : cnt ls.length = 1 := (cnt_one ls.length (by omega)).2 ((pow16 _ (by omega)).2 c2)
    have Ho := Lib.hid (ones_any ls.length (w.alloc (.cells #[.string (strOfNums seed), .slice a ls.length cap, .int .i64 next] 27)) (by omega))
    rw [hone] at Ho
    have C2 := Lib.hid c2
    clear hone c1 c2
    by_cases c3 : All8 ls
    · have Hct := Lib.hid (contains_no _ ls _ Hs.out (by omega) H8x.out c3)
      have C3 := Lib.hid c3
      clear c3
      by_cases c4 : 64 < seed.length
      · have h2 : (64 : Int) < ((strOfNums seed).size : Int) := by rw [strOfNums_size]; omega
        unfold keyV
        go_enter Tryd.func20, Tryd.ntmps20
        go_wp2_with fail
        with_reducible refine Calls.mono (leaves16 _) ?_
        rintro e w1 ⟨rfl, rfl⟩
        go_wp2_with fail
        with_reducible refine Calls.mono Ho.out ?_
        rintro e w1 ⟨rfl, rfl⟩
        go_wp2_with fail
        with_reducible refine Calls.mono Hct.out ?_
        rintro e w1 ⟨rfl, rfl⟩
        go_wp2
        go_ret
        exact ⟨rfl, hU0⟩
      have h2 : ¬ (64 : Int) < ((strOfNums seed).size : Int) := by rw [strOfNums_size]; omega
      by_cases c5 : next < 0
      · unfold keyV
        go_enter Tryd.func20, Tryd.ntmps20
        go_wp2_with fail
        with_reducible refine Calls.mono (leaves16 _) ?_
        rintro e w1 ⟨rfl, rfl⟩
        go_wp2_with fail
        with_reducible refine Calls.mono Ho.out ?_
        rintro e w1 ⟨rfl, rfl⟩
        go_wp2_with fail
        with_reducible refine Calls.mono Hct.out ?_
        rintro e w1 ⟨rfl, rfl⟩
        go_wp2
        go_ret
        exact ⟨rfl, hU0⟩
      have h4 : (ls.length : Int) < next := by
        rcases Int.lt_or_le (ls.length : Int) next with h | h
        · exact h
        · exact absurd ⟨by omega, C2.out, C3.out, by omega, h⟩ Hk.out
      unfold keyV
      go_enter Tryd.func20, Tryd.ntmps20
      go_wp2_with fail
      with_reducible refine Calls.mono (leaves16 _) ?_
      rintro e w1 ⟨rfl, rfl⟩
      go_wp2_with fail
      with_reducible refine Calls.mono Ho.out ?_
      rintro e w1 ⟨rfl, rfl⟩
      go_wp2_with fail
      with_reducible refine Calls.mono Hct.out ?_
      rintro e w1 ⟨rfl, rfl⟩
      go_wp2
      go_ret
      exact ⟨rfl, hU0⟩
    · have Hct := Lib.hid (contains_yes _ ls _ Hs.out (by omega) H8x.out c3)
      clear c3
      unfold keyV
      go_enter Tryd.func20, Tryd.ntmps20
      go_wp2_with fail
      with_reducible refine Calls.mono (leaves16 _) ?_
      rintro e w1 ⟨rfl, rfl⟩
      go_wp2_with fail
      with_reducible refine Calls.mono Ho.out ?_
      rintro e w1 ⟨rfl, rfl⟩
      go_wp2_with fail
      with_reducible refine Calls.mono Hct.out ?_
      rintro e w1 ⟨rfl, rfl⟩
      go_wp2
      go_ret
      exact ⟨rfl, hU0⟩
  · have hcnt : ¬ (cnt ls.length : Int) = 1 := fun h => c2 ((pow16 _ (by omega)).1 ((cnt_one ls.length (by omega)).1 (by omega)))
    have Ho := Lib.hid (ones_any ls.length (w.alloc (.cells #[.string (strOfNums seed), .slice a ls.length cap, .int .i64 next] 27)) (by omega))
    generalize cnt ls.length = c at hcnt Ho
    clear c1 c2
    unfold keyV
    go_enter Tryd.func20, Tryd.ntmps20
    go_wp2_with fail
    with_reducible refine Calls.mono (leaves16 _) ?_
    rintro e w1 ⟨rfl, rfl⟩
    go_wp2_with fail
    with_reducible refine Calls.mono Ho.out ?_
    rintro e w1 ⟨rfl, rfl⟩
    go_wp2
    go_ret
    exact ⟨rfl, hU0⟩
end
end

/-
  signer: what single operations on keys do.
-/
section
set_option maxRecDepth 100000
section
set_option linter.unusedVariables false
open Go.RowKit
theorem fld_seed (b : Nat) (w : World) : (Instr.fieldAt 27 (.pointer (some ⟨b, 0, none⟩)) 0).run Tryd.prog w = .ok (.pointer (some ⟨b, 0, none⟩)) w := by simp [go_sem]
theorem fld_leaves (b : Nat) (w : World) : (Instr.fieldAt 27 (.pointer (some ⟨b, 0, none⟩)) 1).run Tryd.prog w = .ok (.pointer (some ⟨b, 1, none⟩)) w := by simp [go_sem]
theorem fld_next (b : Nat) (w : World) : (Instr.fieldAt 27 (.pointer (some ⟨b, 0, none⟩)) 2).run Tryd.prog w = .ok (.pointer (some ⟨b, 2, none⟩)) w := by simp [go_sem]
theorem bld_one (s : ByteArray) (w : World) : (Instr.buildSlice 25 1 #[(0, .string s)]).run Tryd.prog w = .ok (.slice (some ⟨w.heap.size, 0, none⟩) 1 1) (w.alloc (.cells #[.string s] 9)) := by
  simp [go_sem]
theorem bld_three (a0 a1 a2 : Option Addr) (n0 c0 n1 c1 n2 c2 : Nat) (w : World) : (Instr.buildSlice 95 3 #[(0, .slice a0 n0 c0), (1, .slice a1 n1 c1), (2, .slice a2 n2 c2)]).run Tryd.prog w = .ok (.slice (some ⟨w.heap.size, 0, none⟩) 3 3) (w.alloc (.cells #[.slice a0 n0 c0, .slice a1 n1 c1, .slice a2 n2 c2] 25)) := by
  simp [go_sem]
theorem bld_key (s : ByteArray) (a0 : Option Addr) (n0 c0 : Nat) (m : Int) (w : World) : (Instr.build 27 #[(0, .string s), (1, .slice a0 n0 c0), (2, .int .i64 m)]).run Tryd.prog w = .ok (.agg #[.string s, .slice a0 n0 c0, .int .i64 m]) w := by
  simp [go_sem]
theorem alloc_key (w : World) : (Instr.alloc 27 true (.tuple #[])).run Tryd.prog w = .ok (.pointer (some ⟨w.heap.size, 0, none⟩)) (w.alloc (.cells noKey 27)) := by
  simp [go_sem, noKey]
theorem add_one (x y : Operand) (m : Nat) (hm : m ≤ 1000) (w : World) : (do eqGuard .add 3 x y (.int .i64 m) (.int .i64 1); binOp .add 3 (.int .i64 m) (.int .i64 1) : Sem Value).run Tryd.prog w = .ok (.int .i64 ((m + 1 : Nat) : Int)) w := by
  simp [eqGuard, go_sem]
  rw [IntKind.wrap_i64]
  omega
end
end
end Go.Proofs.YtenhjjbbmmomaaaDoor
