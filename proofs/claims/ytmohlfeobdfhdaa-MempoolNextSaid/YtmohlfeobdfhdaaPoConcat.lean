import Derived.Shelf.Spec.SlicesGrow
import Derived.WalkSpells
import Derived.Test.YtmohlfeobdfhdaaTsRow
/-
  slices.Grow of nothing, slices.Concat, slices.Clone: of transactions.
-/
namespace Go.Proofs.Ytmohlfeobdfhdaa
set_option maxRecDepth 100000
section
set_option linter.unusedVariables false
open Go.RowKit

set_option maxHeartbeats 1000000 in
theorem growT_none (n : Nat) (w : World) (h0 : 1 ≤ n) (hn : n ≤ 1000) :
    Calls Try.prog 25 #[.slice none 0 0, .int .i64 n] w fun e w' => ∃ r, e = .returned r ∧ w'.ownsRow w.heap.size 29 5 r 0 [] ∧ Up w w' := by
  obtain ⟨i0, hi, hz0, hz1, hz2⟩ := info_partsT info_tsd
  have hold : (Builtin.firstCells i0.size 0 (.slice none 0 0)).run Try.prog w.drew = .ok ([] : List Value).toArray w.drew := run_firstCells_none w.drew i0.size 0 0 0
  have hrz : ∀ ty, (Builtin.append_ #[22, 3] ty #[.slice none 0 0, .int .i64 n]).run Try.prog w = .ok (.slice (some ⟨w.heap.size, 0, none⟩) n (grownCap w n 0 29)) (w.drew.alloc (.cells (([] : List Value).toArray ++ Builtin.zeroCells (Value.agg (tsA default)).cells n ++ Builtin.zeroCells (Value.agg (tsA default)).cells (grownCap w n 0 29 - n)) 29)) := fun ty => by
    have h := Lib.run_append_grow_zeros w 22 3 ty 29 i0 (.agg (tsA default)) .i64 .i64 Try.underlying22 Try.underlying3 hi hz0 none 0 0 [] hold n h0 (by omega) (by omega) (by omega)
      (by rw [hz2]; omega) (by rw [Nat.zero_add]; exact growslice_fits (by omega) (by rw [hz2]; omega))
    rw [Nat.zero_add] at h
    exact h
  have hGn := grownCap_ge w n 0 29
  have hGm := grownCap_le_maxLen w n 0 29 (by unfold maxLen; omega)
  have hsz : (([] : List Value).toArray ++ Builtin.zeroCells (Value.agg (tsA default)).cells n ++ Builtin.zeroCells (Value.agg (tsA default)).cells (grownCap w n 0 29 - n)).size = grownCap w n 0 29 * 5 := by
    rw [Array.size_append, Array.size_append, size_zeroCells, size_zeroCells]
    have : (Value.agg (tsA default)).cells.size = 5 := rfl
    rw [this]
    simp
    omega
  generalize ([] : List Value).toArray ++ Builtin.zeroCells (Value.agg (tsA default)).cells n ++ Builtin.zeroCells (Value.agg (tsA default)).cells (grownCap w n 0 29 - n) = CS at hrz hsz
  generalize grownCap w n 0 29 = G at hrz hGn hGm hsz
  have Hrow : Hid ((w.drew.alloc (.cells CS 29)).ownsRow w.heap.size 29 5 (.slice (some ⟨w.heap.size, 0, none⟩) 0 G) 0 []) := World.ownsRow_made (base := w.heap.size) (e := 29) (size := 5) w.drew CS G (Nat.le_refl _) hGm hsz
  have HU : Hid (Up w (w.drew.alloc (.cells CS 29))) := Up.trans (Up.drew1 w) (Up.alloc (Up.refl _) _)
  have hG63 : G ≤ 9223372036854775807 := by unfold maxLen at hGm; omega
  clear hold hi hz0 hz1 hz2 hsz hGm
  go_enter Try.func25, Try.ntmps25
  go_wp2_with (at_builtin; refine Lib.wpList_append_run _ rfl _ _ _ _ rfl _ _ rfl rfl _ _ (hrz _) ?_)
  go_ret
  exact ⟨_, rfl, Hrow.out, HU.out⟩

/-- a row of rows of transactions -/
def RowsT (W : World) (b : Nat) (us : List Value) (lss : List (List Ts)) : Prop := ∀ j, j < lss.length → W.cell? ⟨b, j, none⟩ = some (us[j]?.getD undef) ∧ TArg W (us[j]?.getD undef) (lss[j]?.getD [])
theorem RowsT.up {W W' : World} {b : Nat} {us : List Value} {lss : List (List Ts)} (h : RowsT W b us lss) (hu : Up W W') : RowsT W' b us lss := fun j hj => ⟨later_cell (h j hj).1 hu, (h j hj).2.up hu⟩
theorem flatT_snoc (lss : List (List Ts)) (k : Nat) (h : k < lss.length) : (lss.take (k + 1)).flatten = (lss.take k).flatten ++ lss[k]?.getD [] := by
  rw [List.take_succ_eq_append_getElem h, List.flatten_append]; simp [h]
theorem flatT_le (lss : List (List Ts)) (k : Nat) : (lss.take k).flatten.length ≤ lss.flatten.length := by
  conv => rhs; rw [← List.take_append_drop k lss]
  rw [List.flatten_append, List.length_append]; omega

set_option maxHeartbeats 2000000 in
theorem concatT_any (b c : Nat) (us : List Value) (lss : List (List Ts)) (w : World) (hr : RowsT w b us lss) (hl : lss.length ≤ 100) (h1 : 1 ≤ lss.flatten.length) (h2 : lss.flatten.length ≤ 1000) :
    Calls Try.prog 22 #[.slice (some ⟨b, 0, none⟩) lss.length c] w fun e w' => ∃ r, e = .returned r ∧ w'.ownsRow w.heap.size 29 5 r lss.flatten.length (tsF lss.flatten) ∧ Up w w' := by
  obtain ⟨i0, hi, hz0, hz1, hz2⟩ := info_partsT info_tsd
  have hcz : (Value.agg (tsA default)).cells.size = 5 := rfl
  generalize Value.agg (tsA default) = ZV at hz0 hcz
  have Hr := Lib.hid hr
  clear hr
  go_enter Try.func22, Try.ntmps22
  go_wp2
  go_loop [3, 11] (fun n i => ∃ k m : Nat, k ≤ lss.length ∧ i = .int .i64 k ∧ n = .int .i64 (m : Int) ∧ m = (lss.take k).flatten.length) (fun _ i => lss.length - (intOf i).toNat)
  case atStart => exact ⟨0, 0, Nat.zero_le _, rfl, rfl, rfl⟩
  case round =>
    obtain ⟨k, m, hk, rfl, rfl, hm⟩ := hrel
    by_cases hlt : k < lss.length
    · obtain ⟨hu, hs⟩ := Hr.out k hlt
      have e1 : (lss.take (k + 1)).flatten.length = m + (lss[k]?.getD []).length := by rw [flatT_snoc lss k hlt, List.length_append, hm]
      have hle := flatT_le lss (k + 1)
      rw [e1] at hle
      have He := Lib.hid e1
      obtain ⟨a1, c1, hu2, _, _, _⟩ := hs
      rw [hu2] at hu
      generalize (lss[k]?.getD []).length = x at hu hle He
      clear e1 hm hu2
      go_wp2
      go_round
      case rel => exact ⟨k + 1, m + x, by omega, by go_num, by go_num, He.out.symm⟩
      case measure => simp [intOf]; omega
    · obtain rfl : k = lss.length := by omega
      rw [List.take_length] at hm
      subst hm
      obtain ⟨T, hT⟩ : ∃ T, lss.flatten.length = T := ⟨_, rfl⟩
      have HT := Lib.hid hT
      rw [hT] at h1 h2 ⊢
      have Hg := Lib.hid (growT_none T w h1 h2)
      clear hT
      go_wp2_with fail
      with_reducible refine Calls.mono Hg.out ?_
      rintro e w1 ⟨r, rfl, hrow1, hU1⟩
      have HB1 := Lib.hid hU1
      have Hrow1 := Lib.hid hrow1
      have HR1 := Lib.hid (Hr.out.up hU1)
      clear hrow1 hU1 Hg
      go_wp2
      go_loopw [6, 27] (fun o i wr => ∃ k : Nat, k ≤ lss.length ∧ i = .int .i64 k ∧ wr.ownsRow w.heap.size 29 5 o (lss.take k).flatten.length (tsF (lss.take k).flatten) ∧ Up w wr)
        (fun _ i _ => lss.length - (intOf i).toNat)
      case atStart => exact ⟨0, Nat.zero_le _, rfl, Hrow1.out, HB1.out⟩
      case round =>
        obtain ⟨k, hk, rfl, hrow, hB⟩ := hrel
        by_cases hlt : k < lss.length
        · obtain ⟨hu, hs⟩ := (Hr.out.up hB) k hlt
          have e1 : (lss.take (k + 1)).flatten = (lss.take k).flatten ++ lss[k]?.getD [] := flatT_snoc lss k hlt
          have hle := flatT_le lss (k + 1)
          rw [e1, List.length_append] at hle
          have He := Lib.hid e1
          have hs0 := hs
          obtain ⟨a1, c1, hu2, hc1, hn1, hcs⟩ := hs
          rw [hu2] at hu hs0
          have Hnews := Lib.hid (targ_cells hs0)
          have Hn1 : Hid (a1 = none → (lss[k]?.getD []).length = 0 ∧ c1 = 0) := fun h => ⟨by have := hn1 h; omega, hn1 h⟩
          generalize lss[k]?.getD [] = X at hu hle He Hnews Hn1
          have Hx := Lib.hid (tsF_one X)
          have HT2 := HT.out
          obtain ⟨M, hM⟩ : ∃ M, (lss.take k).flatten.length = M := ⟨_, rfl⟩
          rw [hM] at hrow hle
          have HM := Lib.hid hM
          obtain ⟨Y, hY⟩ : ∃ Y, (lss.take k).flatten = Y := ⟨_, rfl⟩
          rw [hY] at hrow He
          have HY := Lib.hid hY
          have hXT : M + X.length ≤ 1000 := by omega
          clear e1 hu2 hc1 hn1 hcs hM hY HT2 hle hs0
          go_wp2_with (at_builtin; refine wpList_append_own_src _ rfl (.tmp 31) (.tmp 32) 22 rfl w.heap.size 29 i0 ZV 5 48 Try.underlying22 hi hz0 hz1 hz2 hcz (by decide) _ M _ rfl hrow a1 X.length c1 (tsF X) rfl Hn1.out (by rw [tsF_length]) Hnews.out Hx.out (by unfold maxLen; omega) (by omega) hB.size ?_; intro v' w3 hown' hgrow _)
          go_roundw
          case rel => exact ⟨k + 1, by omega, by go_num, by rw [He.out, List.length_append, tsF_append, ← HY.out, HM.out, HY.out]; exact hown', Below.grown hB hgrow hB.size (fun q e => (hrow.lt q e).1)⟩
          case measure => simp [intOf]; omega
        · obtain rfl : k = lss.length := by omega
          rw [List.take_length] at hrow
          go_wp2
          go_ret
          exact ⟨_, rfl, hrow, hB⟩

theorem cloneT_nil (w : World) :
    Calls Try.prog 19 #[.slice none 0 0] w fun e w' => e = .returned (.slice none 0 0) ∧ w = w' := by
  have hnn := Lib.run_eql_slice_nil (P := Try.prog) w 22 29 none 0 0 0 0 Try.underlying22
  go_enter Try.func19, Try.ntmps19
  go_wp2
  go_ret
  exact ⟨rfl, rfl⟩
theorem ownsRow_emptyT (w : World) : (w.alloc (.cells #[] 29)).ownsRow w.heap.size 29 5 (.slice (some ⟨w.heap.size, 0, none⟩) 0 0) 0 [] :=
  World.ownsRow_made w #[] 0 (Nat.le_refl _) (by decide) rfl
set_option maxHeartbeats 1000000 in
theorem cloneT_some (ad : Addr) (c : Nat) (xs : List Ts) (w : World) (hs : TArg w (.slice (some ad) xs.length c) xs) (hl : xs.length * 48 ≤ 140737488355328) :
    Calls Try.prog 19 #[.slice (some ad) xs.length c] w fun e w' => ∃ r, e = .returned r ∧ w'.ownsRow w.heap.size 29 5 r xs.length (tsF xs) ∧ Up w w' := by
  obtain ⟨i0, hi, hz0, hz1, hz2⟩ := info_partsT info_tsd
  have hcz : (Value.agg (tsA default)).cells.size = 5 := rfl
  generalize Value.agg (tsA default) = ZV at hz0 hcz
  have hnn := Lib.run_eql_slice_nil (P := Try.prog) w 22 29 (some ad) xs.length c 0 0 Try.underlying22
  have Hnews := Lib.hid (targ_cells (hs.up (Up.alloc (Up.refl w) (.cells #[] 29))))
  have r0 := ownsRow_emptyT w
  clear hs
  go_enter Try.func19, Try.ntmps19
  go_wp2_with (at_builtin; refine wpList_append_own_src _ rfl (.tmp 5) (.tmp 6) 22 rfl w.heap.size 29 i0 ZV 5 48 Try.underlying22 hi hz0 hz1 hz2 hcz (by decide) _ 0 _ rfl r0 (some ad) xs.length c (tsF xs) rfl (fun e => by cases e) (by rw [tsF_length]) Hnews.out (tsF_one xs) (by unfold maxLen; omega) (by omega) (by simp) ?_; intro v' w3 hown' hgrow _)
  rw [Nat.zero_add, List.nil_append] at hown'
  go_ret
  exact ⟨_, rfl, hown', Below.grown (Up.alloc (Up.refl w) _) hgrow (by simp) (fun q e => (r0.lt q e).1)⟩
theorem cloneT_any (v : Value) (xs : List Ts) (w : World) (hs : TArg w v xs) (hl : xs.length * 48 ≤ 140737488355328) :
    Calls Try.prog 19 #[v] w fun e w' => ∃ r, e = .returned r ∧ w'.ownsRow w.heap.size 29 5 r xs.length (tsF xs) ∧ Up w w' := by
  obtain ⟨a, c, rfl, h1, h2, h3⟩ := id hs
  cases a with
  | none =>
    obtain rfl := h2 rfl
    obtain rfl : xs = [] := List.eq_nil_of_length_eq_zero (by omega)
    exact (cloneT_nil w).mono fun e w' ⟨he, hw⟩ => ⟨_, he, World.ownsRow_nil _ _ _ _, by rw [← hw]; exact Up.refl w⟩
  | some ad => exact cloneT_some ad c xs w hs hl
end
end Go.Proofs.Ytmohlfeobdfhdaa
