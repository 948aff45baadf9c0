import Derived.Test.YtapapohbpdalfaaRefPrimes
import Derived.Test.YtapapohbpdalfaaArr
/-
  The reference's words, reckoned from primes.
-/
namespace Go.Proofs.Ytapapohbpdalfaa
set_option linter.unusedVariables false
open Go.RowKit

theorem map_at (f : Nat → Int) (l : List Nat) (m : List Int) (h : l.map f = m) (k : Nat) (hk : k < l.length) : f (l[k]?.getD 0) = m[k]?.getD 0 := by
  subst h; simp [hk]
theorem sq_at (k : Nat) (hk : k < 8) : sqB ((pL[k]?.getD 0 : Nat) : Int) = hSt.list[k]?.getD 0 := by
  have h := map_at (fun p : Nat => sqB (p : Int)) (pL.take 8) hSt.list squares k hk
  rw [List.getElem?_take, if_pos hk] at h
  exact h
theorem cb_at (k : Nat) (hk : k < 64) : cbB ((pL[k]?.getD 0 : Nat) : Int) = kL[k]?.getD 0 :=
  map_at (fun p : Nat => cbB (p : Int)) pL kL cubes k hk
theorem ints_at (j : Nat) (hj : j < 64) : (intsOf pL)[j]?.getD 0 = ((pL[j]?.getD 0 : Nat) : Int) :=
  (map_at (fun p : Nat => (p : Int)) pL (intsOf pL) rfl j hj).symm

theorem World.cell?_alloc_other' {W : World} {p : Addr} {v : Value} {o : Obj} (h : W.cell? p = some v) : (W.alloc o).cell? p = some v :=
  (Below.cell (B := W.heap.size) ((Below.refl _ W).alloc (Nat.le_refl _) o) (World.block_lt_of_cell? W p h)).trans h
/-- a block below is not the row's -/
theorem hne_of {W : World} {base n g : Nat} {e : TypeId} {v : Value} {xs : List Value} (h : W.ownsRow base e 1 v n xs) (hg : g < base) : some g ≠ v.ownBlock := fun he => by
  have := (h.lt g he.symm).1; omega
/-- two rows do not lie in one block -/
def Apart (a b : Value) : Prop := a.ownBlock = none ∨ a.ownBlock ≠ b.ownBlock
theorem Apart.left {W : World} {base n : Nat} {e : TypeId} {a a' b : Value} {xs : List Value} (h : Apart a b) (hb : W.ownsRow base e 1 b n xs) (h' : a'.ownBlock = a.ownBlock ∨ a'.ownBlock = some W.heap.size) : Apart a' b := by
  rcases h' with h' | h'
  · unfold Apart; rw [h']; exact h
  · refine .inr fun he => ?_
    have := (hb.lt W.heap.size (by rw [← he, h'])).2
    omega
theorem Apart.right {W : World} {base n : Nat} {e : TypeId} {a b b' : Value} {xs : List Value} (h : Apart a b) (ha : W.ownsRow base e 1 a n xs) (h' : b'.ownBlock = b.ownBlock ∨ b'.ownBlock = some W.heap.size) : Apart a b' := by
  rcases h' with h' | h'
  · unfold Apart; rw [h']; exact h
  · refine .inr fun he => ?_
    have := (ha.lt W.heap.size (by rw [he, h'])).2
    omega
theorem Apart.symm_ne {a b : Value} (h : Apart a b) : b.ownBlock = none ∨ b.ownBlock ≠ a.ownBlock := by
  rcases h with h | h
  · cases hb : b.ownBlock with
    | none => exact .inl rfl
    | some j => exact .inr (by rw [h]; simp)
  · exact .inr (Ne.symm h)

set_option maxRecDepth 100000 in
set_option maxHeartbeats 2000000 in
theorem refConst_any (w : World) :
    Calls Try.prog 7 #[] w fun e w' => ∃ vh vk, e = .returned (.tuple #[vh, vk]) ∧ Ints .u32 w' vh hSt.list ∧ Ints .u32 w' vk kL ∧ Below w.heap.size w w' := by
  obtain ⟨i0, hi, hz0, hz1, hz2⟩ := info_parts info_u32
  go_enter Try.func7, Try.ntmps7
  go_wp2_with fail
  with_reducible refine Calls.mono (primes_any _) ?_
  rintro e w1 ⟨vl, rfl, hl, hB1⟩
  obtain ⟨a, c, he, hc, _, hcell⟩ := Ints.of_row hl
  rw [show (intsOf pL).length = 64 from rfl] at he hc hcell
  subst he
  rcases hcell with hcell | ⟨gl, ol, rfl, hcell⟩
  · exact absurd (congrArg List.length hcell) (by decide)
  have hce : ∀ j, j < 64 → w1.cell? ⟨gl, ol + j, none⟩ = some (.int .i64 ((pL[j]?.getD 0 : Nat) : Int)) := by
    intro j hj
    rw [hcell j hj, ints_at j hj]
  have Hce := Lib.hid hce
  clear hl hcell hce
  go_wp2
  go_loopw [3, 4, 5] (fun oh ok i wr => ∃ (k : Nat) (vh vk : Value), oh = vh ∧ ok = vk ∧ k ≤ 64 ∧ i = .int .i64 k ∧ wr.ownsRow w1.heap.size 36 1 vh (min k 8) ((hSt.list.take k).map (Value.int .u32)) ∧ wr.ownsRow w1.heap.size 36 1 vk k ((kL.take k).map (Value.int .u32)) ∧ Apart vh vk ∧ Below w1.heap.size w1 wr)
    (fun _ _ i _ => 64 - (intOf i).toNat)
  case atStart => exact ⟨0, _, _, rfl, rfl, Nat.zero_le _, rfl, World.ownsRow_nil _ _ _ _, World.ownsRow_nil _ _ _ _, .inl rfl, Below.refl _ _⟩
  case round =>
    obtain ⟨k, vh, vk, rfl, rfl, hk, rfl, hh, hkk, hap, hB⟩ := hrel
    by_cases hlt : k < 64
    · have hcl := (hB.cell (p := ⟨gl, ol + k, none⟩) (World.block_lt_of_cell? w1 _ (Hce.out k hlt))).trans (Hce.out k hlt)
      have Hgl := Lib.hid (World.block_lt_of_cell? w1 _ (Hce.out k hlt))
      have hp4 := pL_small k hlt
      have hcb := cb_at k hlt
      have hkt : kL.take (k + 1) = kL.take k ++ [kL[k]?.getD 0] := take_snoc kL k (by show k < 64; omega)
      rw [← hcb] at hkt
      obtain ⟨p, hp⟩ : ∃ p, pL[k]?.getD 0 = p := ⟨_, rfl⟩
      rw [hp] at hcl hp4 hkt
      have Hsq := Lib.hid (fun wx => square_any p hp4 wx)
      have Hcb := Lib.hid (fun wx => cube_any p hp4 wx)
      have Hkt := Lib.hid hkt
      clear hkt hcb
      by_cases h8 : k < 8
      · have hht : hSt.list.take (k + 1) = hSt.list.take k ++ [sqB p] := by rw [take_snoc hSt.list k h8, ← hp, sq_at k h8]
        have Hht := Lib.hid hht
        clear hht hp
        go_wp2_with fail
        with_reducible refine Calls.mono (Hsq.out _) ?_
        rintro e w2 ⟨rfl, hB2⟩
        have hh2 := hh.kept (grown_of_below none hB2) (Classical.em _)
        have hk2 := hkk.kept (grown_of_below none hB2) (Classical.em _)
        have hB3 : Below w1.heap.size w1 w2 := hB.trans (hB2.mono hB.size)
        have hcl2 := (hB2.cell (p := ⟨gl, ol + k, none⟩) (by have := Hgl.out; have := hB.size; simp at *; omega)).trans hcl
        clear hcl hh hkk hB
        have hm8 : min k 8 = k := by omega
        rw [hm8] at hh2
        clear hm8
        go_wp2_with (first | (go_at_call 18; fail) | (at_builtin; refine wpList_append_own_at _ rfl (.tmp 15) (.tmp 21) 24 rfl w1.heap.size 36 i0 (.int .u32 0) 1 4 Try.underlying24 hi hz0 hz1 hz2 rfl (by decide) _ k _ rfl (hh2.alloc _) ⟨w2.heap.size, 0, none⟩ 1 1 [.int .u32 (sqB p)] rfl rfl (cell_one_new _ _ _) (by simp [Value.oneCell']) (by unfold maxLen; omega) (by omega) (by have := hB3.size; simp; omega) ?_; intro v3 w3 hh3 hg3 _ hat3; have hk3 := (hk2.alloc (.cells #[.int .u32 (sqB p)] 36)).kept hg3 hap.symm_ne; have hap3 := hap.left (hk2.alloc (.cells #[.int .u32 (sqB p)] 36)) hat3; have hB4 : Below w1.heap.size w1 w3 := (hB3.alloc hB3.size _).grown hg3 (by have := hB3.size; simp; omega) (fun q e => (hh2.lt q e).1); have hcl3 := hg3.cell (World.cell?_alloc_other' hcl2) (hne_of hh2 Hgl.out)))
        with_reducible refine Calls.mono (Hcb.out _) ?_
        rintro e w4 ⟨rfl, hB5⟩
        have hh4 := hh3.kept (grown_of_below none hB5) (Classical.em _)
        have hk4 := hk3.kept (grown_of_below none hB5) (Classical.em _)
        have hB6 : Below w1.heap.size w1 w4 := hB4.trans (hB5.mono hB4.size)
        clear hh2 hk2 hcl2 hh3 hk3 hcl3 hB3 hB2 hB4 hap hg3 hat3
        go_wp2_with (at_builtin; refine wpList_append_own_at _ rfl (.tmp 23) (.tmp 29) 24 rfl w1.heap.size 36 i0 (.int .u32 0) 1 4 Try.underlying24 hi hz0 hz1 hz2 rfl (by decide) _ k _ rfl (hk4.alloc _) ⟨w4.heap.size, 0, none⟩ 1 1 [.int .u32 (cbB p)] rfl rfl (cell_one_new _ _ _) (by simp [Value.oneCell']) (by unfold maxLen; omega) (by omega) (by have := hB6.size; simp; omega) ?_; intro v5 w5 hk5 hg5 _ hat5)
        go_roundw
        case rel =>
          refine ⟨k + 1, _, _, rfl, rfl, by omega, by go_num, ?_, ?_, hap3.right (hh4.alloc (.cells #[.int .u32 (cbB p)] 36)) hat5, (hB6.alloc hB6.size _).grown hg5 (by have := hB6.size; simp; omega) (fun q e => (hk4.lt q e).1)⟩
          · rw [show min (k + 1) 8 = k + 1 from by omega, Hht.out, List.map_append]
            exact (hh4.alloc (.cells #[.int .u32 (cbB p)] 36)).kept hg5 hap3
          · rw [Hkt.out, List.map_append]; exact hk5
        case measure => simp [intOf]; omega
      · have hht : hSt.list.take (k + 1) = hSt.list.take k := by rw [List.take_of_length_le (by rw [St.len]; omega), List.take_of_length_le (by rw [St.len]; omega)]
        have Hht := Lib.hid hht
        clear hht hp
        go_wp2_with fail
        with_reducible refine Calls.mono (Hcb.out _) ?_
        rintro e w4 ⟨rfl, hB5⟩
        have hh4 := hh.kept (grown_of_below none hB5) (Classical.em _)
        have hk4 := hkk.kept (grown_of_below none hB5) (Classical.em _)
        have hB6 : Below w1.heap.size w1 w4 := hB.trans (hB5.mono hB.size)
        clear hh hkk hcl hB
        go_wp2_with (at_builtin; refine wpList_append_own_at _ rfl (.tmp 23) (.tmp 29) 24 rfl w1.heap.size 36 i0 (.int .u32 0) 1 4 Try.underlying24 hi hz0 hz1 hz2 rfl (by decide) _ k _ rfl (hk4.alloc _) ⟨w4.heap.size, 0, none⟩ 1 1 [.int .u32 (cbB p)] rfl rfl (cell_one_new _ _ _) (by simp [Value.oneCell']) (by unfold maxLen; omega) (by omega) (by have := hB6.size; simp; omega) ?_; intro v5 w5 hk5 hg5 _ hat5)
        go_roundw
        case rel =>
          refine ⟨k + 1, _, _, rfl, rfl, by omega, by go_num, ?_, ?_, hap.right (hh4.alloc (.cells #[.int .u32 (cbB p)] 36)) hat5, (hB6.alloc hB6.size _).grown hg5 (by have := hB6.size; simp; omega) (fun q e => (hk4.lt q e).1)⟩
          · rw [show min (k + 1) 8 = min k 8 from by omega, Hht.out]
            exact (hh4.alloc (.cells #[.int .u32 (cbB p)] 36)).kept hg5 hap
          · rw [Hkt.out, List.map_append]; exact hk5
        case measure => simp [intOf]; omega
    · obtain rfl : k = 64 := by omega
      have hI1 := Ints.of_row hh
      have hI2 := Ints.of_row hkk
      rw [show hSt.list.take 64 = hSt.list from rfl] at hI1
      rw [show kL.take 64 = kL from rfl] at hI2
      have hU := Up.trans hB1 (Below.mono hB (Nat.le_refl _))
      clear hh hkk hB
      go_wp2
      go_ret2
      exact ⟨_, _, rfl, hI1, hI2, hU⟩
end Go.Proofs.Ytapapohbpdalfaa
