import Derived.Shelf.Spec.SlicesGrow
import Derived.WalkSpells
import Derived.Test.YtenhjjbbmmomaaaDoorSgNew
/-
  slices.Grow of nothing, slices.Concat, slices.Clone: of texts.
-/
namespace Go.Proofs.YtenhjjbbmmomaaaDoor
set_option maxRecDepth 100000
section
set_option linter.unusedVariables false
open Go.RowKit

set_option maxHeartbeats 1000000 in
theorem grow_none (n : Nat) (w : World) (h0 : 1 ≤ n) (hn : n ≤ 1000) :
    Calls Tryd.prog 63 #[.slice none 0 0, .int .i64 n] w fun e w' => ∃ r, e = .returned r ∧ w'.ownsRow w.heap.size 9 1 r 0 [] ∧ Up w w' := by
  obtain ⟨i0, hi, hz0, hz1, hz2⟩ := info_parts info_strg
  have hold : (Builtin.firstCells i0.size 0 (.slice none 0 0)).run Tryd.prog w.drew = .ok ([] : List Value).toArray w.drew := run_firstCells_none w.drew i0.size 0 0 0
  have hrz : ∀ ty, (Builtin.append_ #[25, 3] ty #[.slice none 0 0, .int .i64 n]).run Tryd.prog w = .ok (.slice (some ⟨w.heap.size, 0, none⟩) n (grownCap w n 0 9)) (w.drew.alloc (.cells (([] : List Value).toArray ++ Builtin.zeroCells (Value.string ⟨#[]⟩).cells n ++ Builtin.zeroCells (Value.string ⟨#[]⟩).cells (grownCap w n 0 9 - n)) 9)) := fun ty => by
    have h := Lib.run_append_grow_zeros w 25 3 ty 9 i0 (.string ⟨#[]⟩) .i64 .i64 Tryd.underlying25 Tryd.underlying3 hi hz0 none 0 0 [] hold n h0 (by omega) (by omega) (by omega)
      (by rw [hz2]; omega) (by rw [Nat.zero_add]; exact growslice_fits (by omega) (by rw [hz2]; omega))
    rw [Nat.zero_add] at h
    exact h
  have hGn := grownCap_ge w n 0 9
  have hGm := grownCap_le_maxLen w n 0 9 (by unfold maxLen; omega)
  have hsz : (([] : List Value).toArray ++ Builtin.zeroCells (Value.string ⟨#[]⟩).cells n ++ Builtin.zeroCells (Value.string ⟨#[]⟩).cells (grownCap w n 0 9 - n)).size = grownCap w n 0 9 * 1 := by
    rw [Array.size_append, Array.size_append, size_zeroCells, size_zeroCells]
    simp [Value.cells]
    omega
  generalize ([] : List Value).toArray ++ Builtin.zeroCells (Value.string ⟨#[]⟩).cells n ++ Builtin.zeroCells (Value.string ⟨#[]⟩).cells (grownCap w n 0 9 - n) = CS at hrz hsz
  generalize grownCap w n 0 9 = G at hrz hGn hGm hsz
  have Hrow : Hid ((w.drew.alloc (.cells CS 9)).ownsRow w.heap.size 9 1 (.slice (some ⟨w.heap.size, 0, none⟩) 0 G) 0 []) := World.ownsRow_made (base := w.heap.size) (e := 9) (size := 1) w.drew CS G (Nat.le_refl _) hGm hsz
  have HU : Hid (Up w (w.drew.alloc (.cells CS 9))) := Up.trans (Up.drew1 w) (Up.alloc (Up.refl _) _)
  have hG63 : G ≤ 9223372036854775807 := by unfold maxLen at hGm; omega
  clear hold hi hz0 hz1 hz2 hsz hGm
  go_enter Tryd.func63, Tryd.ntmps63
  go_wp2_with (at_builtin; refine Lib.wpList_append_run _ rfl _ _ _ _ rfl _ _ rfl rfl _ _ (hrz _) ?_)
  go_ret
  exact ⟨_, rfl, Hrow.out, HU.out⟩

theorem later_cellA {w w' : World} {ad : Addr} {v : Value} (h : w.cell? ad = some v) (hu : Up w w') : w'.cell? ad = some v := (hu.cell (p := ad) (World.block_lt_of_cell? w _ h)).trans h
/-- a row of rows of texts -/
def RowsS (W : World) (b : Nat) (us : List Value) (lss : List (List (List Int))) : Prop := ∀ j, j < lss.length → W.cell? ⟨b, j, none⟩ = some (us[j]?.getD undef) ∧ Strs W (us[j]?.getD undef) (lss[j]?.getD [])
theorem RowsS.up {W W' : World} {b : Nat} {us : List Value} {lss : List (List (List Int))} (h : RowsS W b us lss) (hu : Up W W') : RowsS W' b us lss := fun j hj => ⟨later_cellA (h j hj).1 hu, (h j hj).2.up hu⟩
theorem flatS_snoc (lss : List (List (List Int))) (k : Nat) (h : k < lss.length) : (lss.take (k + 1)).flatten = (lss.take k).flatten ++ lss[k]?.getD [] := by
  rw [List.take_succ_eq_append_getElem h, List.flatten_append]; simp [h]
theorem flatS_le (lss : List (List (List Int))) (k : Nat) : (lss.take k).flatten.length ≤ lss.flatten.length := by
  conv => rhs; rw [← List.take_append_drop k lss]
  rw [List.flatten_append, List.length_append]; omega
theorem strVs_append (a b : List (List Int)) : strVs (a ++ b) = strVs a ++ strVs b := by simp [strVs]
theorem strs_cells_all {W : World} {a : Option Addr} {ls : List (List Int)} (h : ls = [] ∨ ∃ b off, a = some ⟨b, off, none⟩ ∧ ∀ j, j < ls.length → W.cell? ⟨b, off + j, none⟩ = some (.string (strOfNums (ls[j]?.getD [])))) :
    ∀ ad, a = some ad → ∀ j u, (strVs ls)[j]? = some u → W.cell? (ad.add j) = some u := by
  intro ad had j u hj
  have hj' : j < ls.length := by have := (List.getElem?_eq_some_iff.1 hj).1; rwa [strVs_length] at this
  rcases h with rfl | ⟨b, off, e, hc⟩
  · simp at hj'
  · rw [had] at e
    obtain rfl := Option.some.inj e
    have h2 : ((⟨b, off, none⟩ : Addr).add j) = ⟨b, off + j, none⟩ := by unfold Addr.add; split <;> simp_all
    rw [h2, hc j hj']
    simp [strVs, List.getElem?_eq_getElem hj'] at hj ⊢
    exact hj
theorem strVs_one (ls : List (List Int)) : ∀ u ∈ strVs ls, u.oneCell' = true := by
  intro u hu
  obtain ⟨l, _, rfl⟩ := List.mem_map.1 hu
  simp [Value.oneCell']

set_option maxHeartbeats 2000000 in
theorem concat_any (b c : Nat) (us : List Value) (lss : List (List (List Int))) (w : World) (hr : RowsS w b us lss) (hl : lss.length ≤ 100) (h1 : 1 ≤ lss.flatten.length) (h2 : lss.flatten.length ≤ 1000) :
    Calls Tryd.prog 38 #[.slice (some ⟨b, 0, none⟩) lss.length c] w fun e w' => ∃ r, e = .returned r ∧ w'.ownsRow w.heap.size 9 1 r lss.flatten.length (strVs lss.flatten) ∧ Up w w' := by
  obtain ⟨i0, hi, hz0, hz1, hz2⟩ := info_parts info_strg
  have Hr := Lib.hid hr
  clear hr
  go_enter Tryd.func38, Tryd.ntmps38
  go_wp2
  go_loop [3, 11] (fun n i => ∃ k m : Nat, k ≤ lss.length ∧ i = .int .i64 k ∧ n = .int .i64 (m : Int) ∧ m = (lss.take k).flatten.length) (fun _ i => lss.length - (intOf i).toNat)
  case atStart => exact ⟨0, 0, Nat.zero_le _, rfl, rfl, rfl⟩
  case round =>
    obtain ⟨k, m, hk, rfl, rfl, hm⟩ := hrel
    by_cases hlt : k < lss.length
    · obtain ⟨hu, hs⟩ := Hr.out k hlt
      have e1 : (lss.take (k + 1)).flatten.length = m + (lss[k]?.getD []).length := by rw [flatS_snoc lss k hlt, List.length_append, hm]
      have hle := flatS_le lss (k + 1)
      rw [e1] at hle
      have He := Lib.hid e1
      obtain ⟨a1, c1, hu2, _, _, _⟩ := hs
      rw [hu2] at hu
      generalize (lss[k]?.getD []).length = x at hu hle He
      clear e1 hm hu2
      go_wp2
      go_round
      case rel => exact ⟨k + 1, m + x, by omega, by go_num, by go_num, He.out.symm⟩
      case measure => simp [intOf]; omega
    · obtain rfl : k = lss.length := by omega
      rw [List.take_length] at hm
      subst hm
      obtain ⟨T, hT⟩ : ∃ T, lss.flatten.length = T := ⟨_, rfl⟩
      have HT := Lib.hid hT
      rw [hT] at h1 h2 ⊢
      have Hg := Lib.hid (grow_none T w h1 h2)
      clear hT
      go_wp2_with fail
      with_reducible refine Calls.mono Hg.out ?_
      rintro e w1 ⟨r, rfl, hrow1, hU1⟩
      have HB1 := Lib.hid hU1
      have Hrow1 := Lib.hid hrow1
      have HR1 := Lib.hid (Hr.out.up hU1)
      clear hrow1 hU1 Hg
      go_wp2
      go_loopw [6, 27] (fun o i wr => ∃ k : Nat, k ≤ lss.length ∧ i = .int .i64 k ∧ wr.ownsRow w.heap.size 9 1 o (lss.take k).flatten.length (strVs (lss.take k).flatten) ∧ Up w wr)
        (fun _ i _ => lss.length - (intOf i).toNat)
      case atStart => exact ⟨0, Nat.zero_le _, rfl, Hrow1.out, HB1.out⟩
      case round =>
        obtain ⟨k, hk, rfl, hrow, hB⟩ := hrel
        by_cases hlt : k < lss.length
        · obtain ⟨hu, hs⟩ := (Hr.out.up hB) k hlt
          have e1 : (lss.take (k + 1)).flatten = (lss.take k).flatten ++ lss[k]?.getD [] := flatS_snoc lss k hlt
          have hle := flatS_le lss (k + 1)
          rw [e1, List.length_append] at hle
          have He := Lib.hid e1
          obtain ⟨a1, c1, hu2, hc1, hn1, hcs⟩ := hs
          rw [hu2] at hu
          have Hnews := Lib.hid (strs_cells_all hcs)
          have Hn1 : Hid (a1 = none → (lss[k]?.getD []).length = 0 ∧ c1 = 0) := fun h => ⟨by have := hn1 h; omega, hn1 h⟩
          generalize lss[k]?.getD [] = X at hu hle He Hnews Hn1
          have Hx := Lib.hid (strVs_one X)
          have HT2 := HT.out
          obtain ⟨M, hM⟩ : ∃ M, (lss.take k).flatten.length = M := ⟨_, rfl⟩
          rw [hM] at hrow hle
          have HM := Lib.hid hM
          obtain ⟨Y, hY⟩ : ∃ Y, (lss.take k).flatten = Y := ⟨_, rfl⟩
          rw [hY] at hrow He
          have HY := Lib.hid hY
          have hXT : M + X.length ≤ 1000 := by omega
          clear e1 hu2 hc1 hn1 hcs hM hY HT2 hle
          go_wp2_with (at_builtin; refine wpList_append_own_src _ rfl (.tmp 31) (.tmp 32) 25 rfl w.heap.size 9 i0 (.string ⟨#[]⟩) 1 16 Tryd.underlying25 hi hz0 hz1 hz2 rfl (by decide) _ M _ rfl hrow a1 X.length c1 (strVs X) rfl Hn1.out (by rw [strVs_length]; omega) Hnews.out Hx.out (by unfold maxLen; omega) (by omega) hB.size ?_; intro v' w3 hown' hgrow _)
          go_roundw
          case rel => exact ⟨k + 1, by omega, by go_num, by rw [He.out, List.length_append, strVs_append, ← HY.out, HM.out, HY.out]; exact hown', Below.grown hB hgrow hB.size (fun q e => (hrow.lt q e).1)⟩
          case measure => simp [intOf]; omega
        · obtain rfl : k = lss.length := by omega
          rw [List.take_length] at hrow
          go_wp2
          go_ret
          exact ⟨_, rfl, hrow, hB⟩

set_option maxHeartbeats 1000000 in
theorem clone_any (b off n c : Nat) (ls : List (List Int)) (w : World) (hs : Strs w (.slice (some ⟨b, off, none⟩) n c) ls) (hl : ls.length ≤ 1000) :
    Calls Tryd.prog 41 #[.slice (some ⟨b, off, none⟩) n c] w fun e w' => ∃ r, e = .returned r ∧ w'.ownsRow w.heap.size 9 1 r ls.length (strVs ls) ∧ Up w w' := by
  obtain ⟨i0, hi, hz0, hz1, hz2⟩ := info_parts info_strg
  have hnn := Lib.run_eql_slice_nil (P := Tryd.prog) w 25 9 (some ⟨b, off, none⟩) n c 0 0 Tryd.underlying25
  obtain ⟨a1, c1, he, hc1, hn1, hcs⟩ := hs.up (Up.alloc (Up.refl w) (.cells #[] 9))
  simp only [Value.slice.injEq] at he
  obtain ⟨rfl, rfl, rfl⟩ := he
  have Hnews := Lib.hid (strs_cells_all hcs)
  have Hx := Lib.hid (strVs_one ls)
  have r0 := ownsRow_empty w 9
  clear hs hcs hn1 hc1
  go_enter Tryd.func41, Tryd.ntmps41
  go_wp2_with (at_builtin; refine wpList_append_own_src _ rfl (.tmp 5) (.tmp 6) 25 rfl w.heap.size 9 i0 (.string ⟨#[]⟩) 1 16 Tryd.underlying25 hi hz0 hz1 hz2 rfl (by decide) _ 0 _ rfl r0 (some ⟨b, off, none⟩) ls.length c (strVs ls) rfl (fun e => by cases e) (by rw [strVs_length]; omega) Hnews.out Hx.out (by unfold maxLen; omega) (by omega) (by simp) ?_; intro v' w3 hown' hgrow _)
  rw [Nat.zero_add, List.nil_append] at hown'
  go_ret
  exact ⟨_, rfl, hown', Below.grown (Up.alloc (Up.refl w) _) hgrow (by simp) (fun q e => (r0.lt q e).1)⟩
end
end Go.Proofs.YtenhjjbbmmomaaaDoor
