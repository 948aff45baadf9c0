import Derived.Test.YtaepdmmlejdifaaJnRows
import Derived.Test.YtaepdmmlejdifaaJnMath
import Derived.Test.YtaepdmmlejdifaaCuts
namespace Go.Proofs.Ytaepdmmlejdifaa
/-
  journal: isLong, slices.ContainsFunc of it; the first frame of octets.
-/
section
set_option maxRecDepth 100000
section
set_option linter.unusedVariables false
open Go.RowKit

theorem isLong_no (v : Value) (zs : List Int) (w : World) (hv : Ints .u8 w v zs) (h : zs.length ≤ 16384) :
    Calls Try.prog 21 #[v] w fun e w' => e = .returned (.bool false) ∧ w = w' := by
  obtain ⟨a, c, rfl, _, _, _⟩ := hv
  go_enter Try.func21, Try.ntmps21
  go_wp2
  go_ret
  refine ⟨?_, rfl⟩
  show Ending.returned (.bool (decide ((16384 : Int) < zs.length))) = _
  rw [decide_eq_false (by omega)]
theorem isLong_yes (v : Value) (zs : List Int) (w : World) (hv : Ints .u8 w v zs) (h : 16384 < zs.length) (hl : zs.length ≤ 9223372036854775807) :
    Calls Try.prog 21 #[v] w fun e w' => e = .returned (.bool true) ∧ w = w' := by
  obtain ⟨a, c, rfl, _, _, _⟩ := hv
  go_enter Try.func21, Try.ntmps21
  go_wp2
  go_ret
  refine ⟨?_, rfl⟩
  show Ending.returned (.bool (decide ((16384 : Int) < zs.length))) = _
  rw [decide_eq_true (by omega)]
/-- each record is short enough, by places -/
def ShortAt (ls : List (List Int)) : Prop := ∀ k, k < ls.length → (ls[k]?.getD []).length ≤ 16384
theorem shortAt_iff {ls : List (List Int)} : ShortAt ls ↔ Shorts ls := by
  constructor
  · intro h r hr
    obtain ⟨k, hk, rfl⟩ := List.getElem_of_mem hr
    have := h k hk
    simpa [hk] using this
  · intro h k hk
    have := h ls[k] (List.getElem_mem hk)
    simpa [hk] using this
/-- what IndexFunc answers -/
def FoundL (ls : List (List Int)) (w : World) (e : Ending) (w' : World) : Prop := (∃ r : Int, e = .returned (.int .i64 r) ∧ ((ShortAt ls ∧ r = -1) ∨ (¬ ShortAt ls ∧ 0 ≤ r))) ∧ w = w'
set_option maxHeartbeats 1000000 in
theorem indexL_any (v : Value) (ls : List (List Int)) (w : World) (hs : Rows8 w v ls) (hl : ls.length ≤ 9223372036854775807) (hx : ∀ k : Nat, (ls[k]?.getD []).length ≤ 9223372036854775807) :
    Calls Try.prog 35 #[v, .func (.func 21) #[] #[]] w (FoundL ls w) := by
  obtain ⟨a, cap, rfl, hcap, _, hcell⟩ := hs
  have Hc : Hid (∀ k, k < ls.length → ∃ b off, a = some ⟨b, off, none⟩ ∧ ∃ u, w.cell? ⟨b, off + k, none⟩ = some u ∧ Ints .u8 w u (ls[k]?.getD [])) := by
    intro k hk
    rcases hcell with rfl | ⟨b, off, rfl, hc⟩
    · simp at hk
    · exact ⟨b, off, rfl, hc k hk⟩
  have Hx := Lib.hid hx
  clear hcell hx
  go_enter Try.func35, Try.ntmps35
  go_wp2
  go_loop [8] (fun i => ∃ k : Nat, k ≤ ls.length ∧ i = .int .i64 k ∧ ∀ j, j < k → (ls[j]?.getD []).length ≤ 16384) (fun i => ls.length - (intOf i).toNat)
  case atStart => exact ⟨0, Nat.zero_le _, rfl, fun j hj => by omega⟩
  case round =>
    obtain ⟨k, hk, rfl, h8⟩ := hrel
    have H8 := Lib.hid h8
    clear h8
    by_cases hlt : k < ls.length
    · obtain ⟨b, off, rfl, u, hcell, hi⟩ := Hc.out k hlt
      by_cases he : (ls[k]?.getD []).length ≤ 16384
      · have Hn := Lib.hid (isLong_no u (ls[k]?.getD []) w hi he)
        have He := Lib.hid he
        clear he
        generalize hX : ls[k]?.getD [] = X at hi Hn
        obtain ⟨a1, c1, rfl, _, _, _⟩ := hi
        clear hX
        go_wp2_with fail
        with_reducible refine Calls.mono Hn.out ?_
        rintro e w1 ⟨rfl, rfl⟩
        go_wp2
        go_round
        case rel => exact ⟨k + 1, by omega, by go_num, fun j hj => by
          by_cases e : j = k
          · rw [e]; exact He.out
          · exact H8.out j (by omega)⟩
        case measure => simp [intOf]; omega
      · have Hn := Lib.hid (isLong_yes u (ls[k]?.getD []) w hi (by omega) (Hx.out k))
        have He := Lib.hid he
        clear he
        generalize hX : ls[k]?.getD [] = X at hi Hn
        obtain ⟨a1, c1, rfl, _, _, _⟩ := hi
        clear hX
        go_wp2_with fail
        with_reducible refine Calls.mono Hn.out ?_
        rintro e w1 ⟨rfl, rfl⟩
        go_wp2
        go_ret
        exact ⟨⟨_, rfl, .inr ⟨fun h => He.out (h k hlt), by omega⟩⟩, rfl⟩
    · obtain rfl : k = ls.length := by omega
      go_wp2
      go_ret
      exact ⟨⟨_, rfl, .inl ⟨fun j hj => H8.out j hj, rfl⟩⟩, rfl⟩
theorem containsL_no (v : Value) (ls : List (List Int)) (w : World) (hs : Rows8 w v ls) (hl : ls.length ≤ 9223372036854775807) (hx : ∀ k : Nat, (ls[k]?.getD []).length ≤ 9223372036854775807) (h8 : Shorts ls) :
    Calls Try.prog 27 #[v, .func (.func 21) #[] #[]] w fun e w' => e = .returned (.bool false) ∧ w = w' := by
  have H := Lib.hid (indexL_any v ls w hs hl hx)
  have H8 := Lib.hid (shortAt_iff.2 h8)
  clear hs hl hx h8
  go_enter Try.func27, Try.ntmps27
  go_wp2_with fail
  with_reducible refine Calls.mono H.out ?_
  rintro e w1 ⟨⟨r, rfl, hr⟩, rfl⟩
  obtain rfl : r = -1 := by
    rcases hr with ⟨_, h⟩ | ⟨h, _⟩
    · exact h
    · exact absurd H8.out h
  clear hr
  go_wp2
  go_ret
  exact ⟨rfl, rfl⟩
theorem containsL_yes (v : Value) (ls : List (List Int)) (w : World) (hs : Rows8 w v ls) (hl : ls.length ≤ 9223372036854775807) (hx : ∀ k : Nat, (ls[k]?.getD []).length ≤ 9223372036854775807) (h8 : ¬ Shorts ls) :
    Calls Try.prog 27 #[v, .func (.func 21) #[] #[]] w fun e w' => e = .returned (.bool true) ∧ w = w' := by
  have H := Lib.hid (indexL_any v ls w hs hl hx)
  have H8 := Lib.hid (fun h => h8 (shortAt_iff.1 h))
  clear hs hl hx h8
  go_enter Try.func27, Try.ntmps27
  go_wp2_with fail
  with_reducible refine Calls.mono H.out ?_
  rintro e w1 ⟨⟨r, rfl, hr⟩, rfl⟩
  have h0 : 0 ≤ r := by
    rcases hr with ⟨h, _⟩ | ⟨_, h⟩
    · exact absurd h H8.out
    · exact h
  clear hr
  go_wp2
  go_ret
  exact ⟨rfl, rfl⟩

/-- s[:k] -/
theorem cut_pre (a : Option Addr) (n c k : Nat) (hk : k ≤ n) (hn : n ≤ c) (w : World) : (Instr.sliceAt 22 (.slice a n c) none (some (.int .i64 k)) none).run Try.prog w = .ok (.slice a k c) w := by
  have h1 : (Instr.slice 22 (.slice a n c) none (some (.int .i64 k)) none).run Try.prog w = .ok (.slice a k c) w := by
    have hs : (sizeOf 5).run Try.prog w = .ok 1 w := by simp [go_sem]
    have h0 : (k : Int) ≤ (c : Int) := by omega
    simp [Instr.slice, run_underlying (P := Try.prog) (w := w) Try.underlying22, Instr.sliceBounds, run_sliceBound, go_sem, h0]
  simpa [Instr.sliceAt, run_underlying (P := Try.prog) (w := w) Try.underlying22] using h1

theorem first_no (v : Value) (bs : List Int) (w : World) (hv : Ints .u8 w v bs) (hu : U8s bs) (hlen : bs.length ≤ 4611686018427387904) (hw : ¬ Whole3 bs) :
    Calls Try.prog 34 #[v] w fun e w' => e = .returned (.tuple #[.slice none 0 0, .bool false]) ∧ w = w' := by
  by_cases h3 : bs.length < 3
  · obtain ⟨a, c, rfl, _, _, _⟩ := hv
    go_enter Try.func34, Try.ntmps34
    go_wp2
    go_ret2
    exact ⟨rfl, rfl⟩
  · have hg0 := len3_range bs
    obtain ⟨a, c, rfl, hc, _, _⟩ := id hv
    have Hg := Lib.hid (get_any (.slice a 3 c) (bs.take 3) w (hv.pre 3 (by omega)) (hu.take 3) (by rw [List.length_take]; omega))
    obtain ⟨a', c', hs1, _, _⟩ := cut_suf a bs.length c 3 (by omega) hc
    have hp := cut_pre a bs.length c 3 (by omega) hc w
    have hsf : (Instr.sliceAt 22 (.slice a bs.length c) (some (.int .i64 3)) none none).run Try.prog w = .ok (.slice a' (bs.length - 3) c') w := hs1 w
    have hn : 16384 < len3 bs ∨ (len3 bs ≤ 16384 ∧ (bs.length : Int) - 3 < len3 bs) := by
      unfold Whole3 at hw; omega
    have hg : getB (bs.take 3) = len3 bs := rfl
    rw [hg] at Hg
    have hsub : bs.length - 3 ≤ 4611686018427387904 := by omega
    have hn2 : 16384 < len3 bs ∨ (len3 bs ≤ 16384 ∧ ((bs.length - 3 : Nat) : Int) < len3 bs) := by omega
    clear hv hw hn hg hs1
    generalize len3 bs = G at Hg hg0 hn2
    go_enter Try.func34, Try.ntmps34
    go_wp2_with fail
    with_reducible refine Calls.mono Hg.out ?_
    rintro e w1 ⟨rfl, rfl⟩
    rcases hn2 with hn2 | ⟨hn2, hn3⟩
    all_goals
      go_wp2
      go_ret2
      exact ⟨rfl, rfl⟩
theorem first_on (v : Value) (bs : List Int) (w : World) (hv : Ints .u8 w v bs) (hu : U8s bs) (hlen : bs.length ≤ 4611686018427387904) (hw : Whole3 bs) :
    Calls Try.prog 34 #[v] w fun e w' => (∃ a c, e = .returned (.tuple #[.slice a (len3 bs).toNat c, .bool true]) ∧ ∀ W, Ints .u8 W v bs → Ints .u8 W (.slice a (len3 bs).toNat c) ((bs.drop 3).take (len3 bs).toNat)) ∧ w = w' := by
  obtain ⟨h3, h4, h5⟩ := id hw
  have hg0 := len3_range bs
  obtain ⟨a, c, rfl, hc, _, _⟩ := id hv
  have Hg := Lib.hid (get_any (.slice a 3 c) (bs.take 3) w (hv.pre 3 (by omega)) (hu.take 3) (by rw [List.length_take]; omega))
  obtain ⟨a', c', hs1, hs2, hs3⟩ := cut_suf a bs.length c 3 (by omega) hc
  have hp := cut_pre a bs.length c 3 (by omega) hc w
  have hsf : (Instr.sliceAt 22 (.slice a bs.length c) (some (.int .i64 3)) none none).run Try.prog w = .ok (.slice a' (bs.length - 3) c') w := hs1 w
  have hg : getB (bs.take 3) = len3 bs := rfl
  rw [hg] at Hg
  obtain ⟨G, hG⟩ : ∃ G : Nat, len3 bs = G := ⟨(len3 bs).toNat, by omega⟩
  rw [hG] at Hg h4 h5
  have hsub : bs.length - 3 ≤ 4611686018427387904 := by omega
  have hle : G ≤ bs.length - 3 := by omega
  have hl2 : (bs.drop 3).length = bs.length - 3 := List.length_drop
  have hcap : bs.length - 3 ≤ c' := by
    obtain ⟨_, _, e, hh, _⟩ := hs2 w bs hv
    simp only [Value.slice.injEq] at e
    omega
  have hp2 := cut_pre a' (bs.length - 3) c' G hle hcap w
  have HI : Hid (∀ W, Ints .u8 W (.slice a bs.length c) bs → Ints .u8 W (.slice a' G c') ((bs.drop 3).take G)) := Lib.hid fun W hW => (hs2 W bs hW).pre G (by omega)
  rw [hG, Int.toNat_natCast]
  clear hv hs1 hs2 hs3 hw hg hG hg0 hl2
  go_enter Try.func34, Try.ntmps34
  go_wp2_with fail
  with_reducible refine Calls.mono Hg.out ?_
  rintro e w1 ⟨rfl, rfl⟩
  go_wp2
  go_ret2
  exact ⟨⟨_, _, rfl, HI.out⟩, rfl⟩
/-- records(b): b is boxed; the function value captures the box. -/
theorem records_any (v : Value) (w : World) (hv : v.oneCell' = true) :
    Calls Try.prog 23 #[v] w fun e w' => e = .returned (.func (.func 33) #[] #[.pointer (some ⟨w.heap.size, 0, none⟩)]) ∧ w.alloc (.cells #[v] 22) = w' := by
  go_enter Try.func23, Try.ntmps23
  go_wp2
  go_ret
  exact ⟨rfl, rfl⟩
end
end
end Go.Proofs.Ytaepdmmlejdifaa
