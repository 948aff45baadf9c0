import Derived.Test.YtjjaefacfcjgiaaWotsJoined
import Derived.Test.YtjjaefacfcjgiaaWotsParts
/-
  Leaf, Sign, Open.
-/
namespace Go.Proofs.Ytjjaefacfcjgiaa
set_option linter.unusedVariables false
open Go.RowKit

theorem info_strg : (Try.prog.info? 9).map (fun i => (i.zero, i.size, i.bytes)) = some (some (.string ⟨#[]⟩), 1, 16) := by kernel_rfl
theorem make_strs (K : Int) (k : Nat) (hK : K = k) (hk : k ≤ 1048576) (u : World) : (Instr.makeSlice 30 (.int .i64 0) (.int .i64 K)).run Try.prog u =
      .ok (.slice (some ⟨u.heap.size, 0, none⟩) 0 k) (u.alloc (.cells (madeCells #[.string ⟨#[]⟩] k) 9)) := by
  subst hK
  obtain ⟨i0, hi, hz0, hz1, hz2⟩ := info_parts info_strg
  have h := run_make (P := Try.prog) u 30 9 i0 (.string ⟨#[]⟩) Try.underlying30 hi hz0 .i64 .i64 0 (k : Int) (by omega) (by omega) (by rw [hz2]; omega) (by omega)
  simpa [hz1, Value.cells] using h

/-- some ends -/
def upTo (f : Nat → List Int) (k : Nat) : List (List Int) := (List.range k).map f
theorem upTo_succ (f : Nat → List Int) (k : Nat) : upTo f (k + 1) = upTo f k ++ [f k] := by simp [upTo, List.range_succ]
theorem upTo_length (f : Nat → List Int) (k : Nat) : (upTo f k).length = k := by simp [upTo]
theorem upTo_flat (f : Nat → List Int) (k : Nat) (h : ∀ i, i < k → (f i).length = 8) : (upTo f k).flatten.length = 8 * k := by
  induction k with
  | zero => rfl
  | succ k ih => rw [upTo_succ, List.flatten_append, List.length_append, ih (fun i hi => h i (by omega))]; simp [h k (by omega)]; omega
theorem upTo_u8s (f : Nat → List Int) (k : Nat) (h : ∀ i, i < k → U8s (f i)) : U8s (upTo f k).flatten := by
  induction k with
  | zero => intro j hj; simp [upTo] at hj
  | succ k ih => rw [upTo_succ, List.flatten_append]; exact (ih fun i hi => h i (by omega)).append (by simpa using h k (by omega))

def leafEnd (zs : List Int) (leaf : Int) (i : Nat) : List Int := chainB (secretB zs leaf i) (stepsN 3)
theorem leafEnd_8 (zs : List Int) (leaf : Int) (i : Nat) : (leafEnd zs leaf i).length = 8 := chainB_length _ (secretB_length _ _ _) _
theorem leafEnd_u8s (zs : List Int) (leaf : Int) (i : Nat) : U8s (leafEnd zs leaf i) := chainB_u8s _ (secretB_u8s _ _ _) _
theorem leafB_eq (zs : List Int) (leaf : Int) : shortB (upTo (leafEnd zs leaf) 11).flatten = leafB zs leaf := rfl

set_option maxHeartbeats 1000000 in
theorem leaf_any (zs : List Int) (leaf : Int) (w : World) (hu : U8s zs) (hl : zs.length ≤ 140737488355200) (hleaf : -9223372036854775808 ≤ leaf ∧ leaf ≤ 9223372036854775807) :
    Calls Try.prog 15 #[.string (strOfNums zs), .int .i64 leaf] w fun e w' => e = .returned (.string (strOfNums (leafB zs leaf))) ∧ Up w w' := by
  obtain ⟨i0, hi, hz0, hz1, hz2⟩ := info_parts info_strg
  have hmk := make_strs 11 11 rfl (by omega)
  have Hsec : Hid (∀ (k : Nat) wx, k < 11 → Calls Try.prog 13 #[.string (strOfNums zs), .int .i64 leaf, .int .i64 k] wx fun e w' => e = .returned (.string (strOfNums (secretB zs leaf k))) ∧ Up wx w') := fun k wx hk => secret_any zs leaf k wx hu hl hleaf (by omega)
  have Hend : Hid (∀ k : Nat, chainB (secretB zs leaf k) (stepsN 3) = leafEnd zs leaf k) := fun k => rfl
  have Hs8 : Hid (∀ k : Nat, (secretB zs leaf k).length = 8) := fun k => secretB_length _ _ _
  have Hsu : Hid (∀ k : Nat, U8s (secretB zs leaf k)) := fun k => secretB_u8s _ _ _
  have H8 : Hid ((upTo (leafEnd zs leaf) 11).flatten.length = 88) := upTo_flat _ 11 fun i _ => leafEnd_8 _ _ _
  have H8u : Hid (U8s (upTo (leafEnd zs leaf) 11).flatten) := upTo_u8s _ 11 fun i _ => leafEnd_u8s _ _ _
  rw [← leafB_eq]
  clear hu hl hleaf
  generalize leafEnd zs leaf = E at Hend H8 H8u ⊢
  obtain ⟨Y, hY⟩ : ∃ Y, shortB (upTo E 11).flatten = Y := ⟨_, rfl⟩
  rw [hY]
  have HY := Lib.hid hY
  clear hY
  go_enter Try.func15, Try.ntmps15
  go_wp2
  clear hmk
  have r0 := World.ownsRow_made (base := w.heap.size) (e := 9) (size := 1) w (madeCells #[.string ⟨#[]⟩] 11) 11 (Nat.le_refl _) (by unfold maxLen; omega) (by first | (rw [size_madeCells]; done) | (rw [size_madeCells]; omega))
  have hB0 : Up w (w.alloc (.cells (madeCells #[Value.string ⟨#[]⟩] 11) 9)) := Up.alloc (Up.refl w) _
  go_loopw [5, 8] (fun o i wr => ∃ k : Nat, k ≤ 11 ∧ i = .int .i64 k ∧ wr.ownsRow w.heap.size 9 1 o k (strVs (upTo E k)) ∧ Up w wr)
    (fun _ i _ => 11 - (intOf i).toNat)
  case atStart => exact ⟨0, Nat.zero_le _, rfl, r0, hB0⟩
  case round =>
    obtain ⟨k, hk, rfl, hrow, hB⟩ := hrel
    clear r0 hB0
    by_cases hlt : k < 11
    · have hs := upTo_succ E k
      have Hs := Lib.hid hs
      have Hrow := Lib.hid hrow
      clear hs hrow
      go_wp2_with fail
      with_reducible refine Calls.mono (Hsec.out k _ hlt) ?_
      rintro e w1 ⟨rfl, hU1⟩
      have Hch := Lib.hid (chain_any (secretB zs leaf k) 3 w1 (Hsu.out k) (by rw [Hs8.out k]; omega))
      rw [Hend.out k] at Hch
      go_wp2_with fail
      with_reducible refine Calls.mono Hch.out ?_
      rintro e w2 ⟨rfl, hU2⟩
      have hB2 := Up.trans (Up.trans hB hU1) hU2
      have hrow := ownsRow_up Hrow.out (Up.trans hU1 hU2)
      clear Hch hU1 hU2
      generalize E k = X at Hs ⊢
      go_wp2_with (at_builtin; refine wpList_append_own _ rfl (.tmp 11) (.tmp 17) 30 rfl w.heap.size 9 i0 (.string ⟨#[]⟩) 1 16 Try.underlying30 hi hz0 hz1 hz2 rfl (by decide) _ k _ rfl (hrow.alloc _) ⟨w2.heap.size, 0, none⟩ 1 1 [.string (strOfNums X)] rfl rfl (cell_one_new _ _ _) (by simp [Value.oneCell']) (by unfold maxLen; omega) (by omega) (by have := hB2.size; simp; omega) ?_; intro v' w3 hown' hgrow _)
      go_roundw
      case rel => exact ⟨k + 1, by omega, by go_num, by rw [Hs.out, strVs_snoc]; exact hown', (Up.alloc hB2 _).grown hgrow (by have := hB2.size; simp; omega) (fun q e => (hrow.lt q e).1)⟩
      case measure => simp [intOf]; omega
    · obtain rfl : k = 11 := by omega
      have Hj := Lib.hid (joined_any _ _ wr (Strs.of_row hrow) H8u.out (by rw [upTo_length]; omega) (by rw [upTo_length]; omega) (by rw [H8.out]; omega))
      rw [HY.out] at Hj
      clear hrow
      go_wp2_with fail
      with_reducible refine Calls.mono Hj.out ?_
      rintro e w2 ⟨rfl, hU2⟩
      have hB2 := Up.trans hB hU2
      go_wp2
      go_ret
      exact ⟨rfl, hB2⟩
end Go.Proofs.Ytjjaefacfcjgiaa
