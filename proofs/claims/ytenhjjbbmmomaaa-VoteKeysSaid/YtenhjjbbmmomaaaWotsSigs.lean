import Derived.Shelf.Strings.OnBuilder
import Derived.Test.YtenhjjbbmmomaaaRows
import Derived.Test.YtenhjjbbmmomaaaWots
namespace Go.Proofs.Ytenhjjbbmmomaaa
section
set_option maxRecDepth 100000
/-
  strings.Join by its contract.
-/
section
set_option linter.unusedVariables false
open Go.RowKit

def join156_ren : Go.Shelf.Ren := ⟨fun | 156 => 31 | 165 => 35 | 166 => 36 | 169 => 37 | 240 => 44 | 241 => 45 | 276 => 47 | 277 => 48 | n => n, fun | 31 => 22 | 9 => 9 | 3 => 3 | 4 => 4 | 0 => 0 | 20 => 20 | 72 => 63 | 76 => 67 | 70 => 61 | 37 => 28 | 75 => 66 | 127 => 78 | 164 => 80 | 5 => 5 | 80 => 69 | n => n, fun | n => n⟩
theorem join156 : Go.Proofs.Lays.n156 Try.prog join156_ren := {
  mixed := by kernel_rfl
  f156 := Try.func31.trans (congrArg some (by kernel_rfl))
  f165 := Try.func35.trans (congrArg some (by kernel_rfl))
  f166 := Try.func36.trans (congrArg some (by kernel_rfl))
  f169 := Try.func37.trans (congrArg some (by kernel_rfl))
  f240 := Try.func44.trans (congrArg some (by kernel_rfl))
  f241 := Try.func45.trans (congrArg some (by kernel_rfl))
  f276 := Try.func47.trans (congrArg some (by kernel_rfl))
  f277 := Try.func48.trans (congrArg some (by kernel_rfl))
  t0 := Try.underlying0
  a0 := Try.isAgg0
  z0 := Try.sizeOf0
  v0 := Try.zeroValue0
  t3 := Try.underlying3
  a3 := Try.isAgg3
  z3 := Try.sizeOf3
  v3 := Try.zeroValue3
  t4 := Try.underlying4
  a4 := Try.isAgg4
  z4 := Try.sizeOf4
  v4 := Try.zeroValue4
  t9 := Try.underlying9
  a9 := Try.isAgg9
  z9 := Try.sizeOf9
  v9 := Try.zeroValue9
  t20 := Try.underlying20
  a20 := Try.isAgg20
  z20 := Try.sizeOf20
  v20 := Try.zeroValue20
  t31 := Try.underlying22
  a31 := Try.isAgg22
  z31 := Try.sizeOf22
  v31 := Try.zeroValue22
  t37 := Try.underlying28
  a37 := Try.isAgg28
  z37 := Try.sizeOf28
  v37 := Try.zeroValue28
  t70 := Try.underlying61
  a70 := Try.isAgg61
  z70 := Try.sizeOf61
  v70 := Try.zeroValue61
  t72 := Try.underlying63
  a72 := Try.isAgg63
  z72 := Try.sizeOf63
  v72 := Try.zeroValue63
  t75 := Try.underlying66
  a75 := Try.isAgg66
  z75 := Try.sizeOf66
  v75 := Try.zeroValue66
  t76 := Try.underlying67
  a76 := Try.isAgg67
  z76 := Try.sizeOf67
  v76 := Try.zeroValue67
  t127 := Try.underlying78
  a127 := Try.isAgg78
  z127 := Try.sizeOf78
  v127 := Try.zeroValue78
  t164 := Try.underlying80
  a164 := Try.isAgg80
  z164 := Try.sizeOf80
  v164 := Try.zeroValue80 }
theorem joinExtra : Builder.Extra Try.prog join156_ren := {
  sizeBuilder := by kernel_rfl
  liesBuilder := by kernel_rfl
  t5 := Try.underlying5
  a5 := Try.isAgg5
  z5 := Try.sizeOf5
  v5 := Try.zeroValue5
  infoByte := by kernel_rfl
  cellsByte := by kernel_rfl
  sizeByte := by kernel_rfl
  neB5 := by decide }
theorem strJoin_many (bk o c : Nat) (xs : List ByteArray) (sep : ByteArray) (w : World) (hcells : ∀ (j : Nat) x, xs[j]? = some x → w.cell? ⟨bk, o + j, none⟩ = some (.string x)) (hbk : bk < w.heap.size) (hN : xs.length ≤ 140737488355328) (hcap : xs.length ≤ c) (hlen : (Lib.join (xs.map (·.data.toList)) sep.data.toList).length ≤ 140737488355328) :
    Calls Try.prog 31 #[.slice (some ⟨bk, o, none⟩) xs.length c, .string sep] w fun e w' => e = .returned (.string ⟨(Lib.join (xs.map (·.data.toList)) sep.data.toList).toArray⟩) ∧ Below w.heap.size w w' := Any.strings_Join join156 joinExtra bk o c xs sep w hcells hbk hN hcap hlen
end

/-
  formed and joined.
-/
section
set_option linter.unusedVariables false
open Go.RowKit

theorem join_none (l : List (List UInt8)) : Lib.join l [] = l.flatten := by
  cases l with
  | nil => rfl
  | cons x r =>
    rw [Lib.join_cons, List.flatten_cons]
    congr 1
    unfold Lib.joinTail
    congr 1
    simp
theorem join_strs (ls : List (List Int)) : (⟨(Lib.join ((ls.map strOfNums).map (·.data.toList)) (ByteArray.mk #[]).data.toList).toArray⟩ : ByteArray) = strOfNums ls.flatten := by
  show (⟨(Lib.join _ []).toArray⟩ : ByteArray) = _
  rw [join_none]
  unfold strOfNums
  congr 2
  rw [List.map_map, List.map_flatten]
  congr 1
theorem strJoin_any (ls : List (List Int)) (b off c : Nat) (w : World) (hc : ∀ j, j < ls.length → w.cell? ⟨b, off + j, none⟩ = some (.string (strOfNums (ls[j]?.getD [])))) (h0 : 0 < ls.length) (hl : ls.length ≤ 100) (hcap : ls.length ≤ c) (hx : ls.flatten.length ≤ 140737488355328) :
    Calls Try.prog 31 #[.slice (some ⟨b, off, none⟩) ls.length c, .string ⟨#[]⟩] w fun e w' => e = .returned (.string (strOfNums ls.flatten)) ∧ Up w w' := by
  have hlen : (Lib.join ((ls.map strOfNums).map (·.data.toList)) (ByteArray.mk #[]).data.toList).length = ls.flatten.length := by
    have h := congrArg ByteArray.size (join_strs ls)
    rw [strOfNums_size] at h
    simpa [ByteArray.size] using h
  have h := strJoin_many b off c (ls.map strOfNums) ⟨#[]⟩ w (fun j x hj => by
    have hj' : j < ls.length := by have := (List.getElem?_eq_some_iff.1 hj).1; simpa using this
    rw [hc j hj']
    simp [hj'] at hj ⊢
    exact hj) (World.block_lt_of_cell? w _ (hc 0 h0)) (by rw [List.length_map]; omega) (by rw [List.length_map]; exact hcap) (by rw [hlen]; exact hx)
  rw [List.length_map, join_strs] at h
  exact h

set_option maxHeartbeats 1000000 in
theorem joined_any (v : Value) (ls : List (List Int)) (w : World) (hv : Strs w v ls) (hu : U8s ls.flatten) (h0 : 0 < ls.length) (hl : ls.length ≤ 100) (hx : ls.flatten.length ≤ 140737488355328) :
    Calls Try.prog 25 #[v] w fun e w' => e = .returned (.string (strOfNums (shortB ls.flatten))) ∧ Up w w' := by
  obtain ⟨a, cap, rfl, hcap, hnil, hcell⟩ := hv
  rcases hcell with rfl | ⟨b, off, rfl, hc⟩
  · simp at h0
  have Hj := Lib.hid (strJoin_any ls b off cap w hc h0 hl hcap hx)
  have Hu := Lib.hid hu
  have Hx := Lib.hid hx
  clear hc hnil hcap hu hx h0
  generalize ls.flatten = X at Hj Hu Hx ⊢
  go_enter Try.func25, Try.ntmps25
  go_wp2_with fail
  with_reducible refine Calls.mono Hj.out ?_
  rintro e w1 ⟨rfl, hU1⟩
  obtain ⟨a2, c2, w2, hconv, hI2, hU2⟩ := conv_str X Hu.out w1
  have HI2 := Lib.hid hI2
  have hU02 := Up.trans hU1 hU2
  clear hI2 hU1 hU2
  go_wp2_with fail
  with_reducible refine Calls.mono (short_flat _ [X] X (by simp) (by simp) _ (Rows8.new1 w2 _ _ X _ rfl HI2.out) Hu.out Hx.out) ?_
  rintro e w3 ⟨rfl, hU3⟩
  have hU03 := Up.trans (Up.alloc hU02 _) hU3
  go_wp2
  go_ret
  exact ⟨rfl, hU03⟩

theorem formed_false_len {ls : List (List Int)} (h : ls.length ≠ 11) : formedB ls = false := by simp [formedB, h]
theorem formed_false_at {ls : List (List Int)} (k : Nat) (hk : k < ls.length) (h : (ls[k]?.getD []).length ≠ 8) : formedB ls = false := by
  unfold formedB
  rw [Bool.and_eq_false_iff]
  right
  rw [List.all_eq_false]
  refine ⟨ls[k], List.getElem_mem hk, ?_⟩
  simp [hk] at h
  simpa using h
theorem formed_true {ls : List (List Int)} (h : ls.length = 11) (h8 : ∀ k, k < ls.length → (ls[k]?.getD []).length = 8) : formedB ls = true := by
  unfold formedB
  simp only [h, beq_self_eq_true, Bool.true_and, List.all_eq_true]
  intro p hp
  obtain ⟨k, hk, rfl⟩ := List.getElem_of_mem hp
  have := h8 k hk
  simp [hk] at this
  simpa using this

end

/-
  Leaf, Sign, Open.
-/
section
set_option linter.unusedVariables false
open Go.RowKit

def leafEnd (zs : List Int) (leaf : Int) (i : Nat) : List Int := chainB (secretB zs leaf i) (stepsN 3)
theorem leafEnd_8 (zs : List Int) (leaf : Int) (i : Nat) : (leafEnd zs leaf i).length = 8 := chainB_length _ (secretB_length _ _ _) _
theorem leafEnd_u8s (zs : List Int) (leaf : Int) (i : Nat) : U8s (leafEnd zs leaf i) := chainB_u8s _ (secretB_u8s _ _ _) _
theorem leafB_eq (zs : List Int) (leaf : Int) : shortB (upTo (leafEnd zs leaf) 11).flatten = leafB zs leaf := rfl

set_option maxHeartbeats 1000000 in
theorem leaf_any (zs : List Int) (leaf : Int) (w : World) (hu : U8s zs) (hl : zs.length ≤ 140737488355200) (hleaf : -9223372036854775808 ≤ leaf ∧ leaf ≤ 9223372036854775807) :
    Calls Try.prog 18 #[.string (strOfNums zs), .int .i64 leaf] w fun e w' => e = .returned (.string (strOfNums (leafB zs leaf))) ∧ Up w w' := by
  obtain ⟨i0, hi, hz0, hz1, hz2⟩ := info_parts info_strg
  have hmk := make_strs 11 11 rfl (by omega)
  have Hsec : Hid (∀ (k : Nat) wx, k < 11 → Calls Try.prog 24 #[.string (strOfNums zs), .int .i64 leaf, .int .i64 k] wx fun e w' => e = .returned (.string (strOfNums (secretB zs leaf k))) ∧ Up wx w') := fun k wx hk => secret_any zs leaf k wx hu hl hleaf (by omega)
  have Hend : Hid (∀ k : Nat, chainB (secretB zs leaf k) (stepsN 3) = leafEnd zs leaf k) := fun k => rfl
  have Hs8 : Hid (∀ k : Nat, (secretB zs leaf k).length = 8) := fun k => secretB_length _ _ _
  have Hsu : Hid (∀ k : Nat, U8s (secretB zs leaf k)) := fun k => secretB_u8s _ _ _
  have H8 : Hid ((upTo (leafEnd zs leaf) 11).flatten.length = 88) := upTo_flat _ 11 fun i _ => leafEnd_8 _ _ _
  have H8u : Hid (U8s (upTo (leafEnd zs leaf) 11).flatten) := upTo_u8s _ 11 fun i _ => leafEnd_u8s _ _ _
  rw [← leafB_eq]
  clear hu hl hleaf
  generalize leafEnd zs leaf = E at Hend H8 H8u ⊢
  obtain ⟨Y, hY⟩ : ∃ Y, shortB (upTo E 11).flatten = Y := ⟨_, rfl⟩
  rw [hY]
  have HY := Lib.hid hY
  clear hY
  go_enter Try.func18, Try.ntmps18
  go_wp2
  clear hmk
  have r0 := World.ownsRow_made (base := w.heap.size) (e := 9) (size := 1) w (madeCells #[.string ⟨#[]⟩] 11) 11 (Nat.le_refl _) (by unfold maxLen; omega) (by first | (rw [size_madeCells]; done) | (rw [size_madeCells]; omega))
  have hB0 : Up w (w.alloc (.cells (madeCells #[Value.string ⟨#[]⟩] 11) 9)) := Up.alloc (Up.refl w) _
  go_loopw [5, 8] (fun o i wr => ∃ k : Nat, k ≤ 11 ∧ i = .int .i64 k ∧ wr.ownsRow w.heap.size 9 1 o k (strVs (upTo E k)) ∧ Up w wr)
    (fun _ i _ => 11 - (intOf i).toNat)
  case atStart => exact ⟨0, Nat.zero_le _, rfl, r0, hB0⟩
  case round =>
    obtain ⟨k, hk, rfl, hrow, hB⟩ := hrel
    clear r0 hB0
    by_cases hlt : k < 11
    · have hs := upTo_succ E k
      have Hs := Lib.hid hs
      have Hrow := Lib.hid hrow
      clear hs hrow
      go_wp2_with fail
      with_reducible refine Calls.mono (Hsec.out k _ hlt) ?_
      rintro e w1 ⟨rfl, hU1⟩
      have Hch := Lib.hid (chain_any (secretB zs leaf k) 3 w1 (Hsu.out k) (by rw [Hs8.out k]; omega))
      rw [Hend.out k] at Hch
      go_wp2_with fail
      with_reducible refine Calls.mono Hch.out ?_
      rintro e w2 ⟨rfl, hU2⟩
      have hB2 := Up.trans (Up.trans hB hU1) hU2
      have hrow := ownsRow_up Hrow.out (Up.trans hU1 hU2)
      clear Hch hU1 hU2
      generalize E k = X at Hs ⊢
      go_wp2_with (at_builtin; refine wpList_append_own _ rfl (.tmp 11) (.tmp 17) 22 rfl w.heap.size 9 i0 (.string ⟨#[]⟩) 1 16 Try.underlying22 hi hz0 hz1 hz2 rfl (by decide) _ k _ rfl (hrow.alloc _) ⟨w2.heap.size, 0, none⟩ 1 1 [.string (strOfNums X)] rfl rfl (cell_one_new _ _ _) (by simp [Value.oneCell']) (by unfold maxLen; omega) (by omega) (by have := hB2.size; simp; omega) ?_; intro v' w3 hown' hgrow _)
      go_roundw
      case rel => exact ⟨k + 1, by omega, by go_num, by rw [Hs.out, strVs_snoc]; exact hown', (Up.alloc hB2 _).grown hgrow (by have := hB2.size; simp; omega) (fun q e => (hrow.lt q e).1)⟩
      case measure => simp [intOf]; omega
    · obtain rfl : k = 11 := by omega
      have Hj := Lib.hid (joined_any _ _ wr (Strs.of_row hrow) H8u.out (by rw [upTo_length]; omega) (by rw [upTo_length]; omega) (by rw [H8.out]; omega))
      rw [HY.out] at Hj
      clear hrow
      go_wp2_with fail
      with_reducible refine Calls.mono Hj.out ?_
      rintro e w2 ⟨rfl, hU2⟩
      have hB2 := Up.trans hB hU2
      go_wp2
      go_ret
      exact ⟨rfl, hB2⟩
end

/-
  Open.
-/
section
set_option linter.unusedVariables false
open Go.RowKit

def openEnd (ls : List (List Int)) (ds : List Int) (i : Nat) : List Int := chainB (ls[i]?.getD []) (stepsN (3 - ds[i]?.getD 0))
theorem openB_no (text : List Int) (ls : List (List Int)) (h : formedB ls = false) : openB text ls = [] := by simp [openB, h]
theorem openB_yes (text : List Int) (ls : List (List Int)) (h : formedB ls = true) : shortB (upTo (openEnd ls (partsB text)) 11).flatten = openB text ls := by unfold openB; rw [if_pos h]; rfl
theorem formed_len {ls : List (List Int)} (h : formedB ls = true) : ls.length = 11 := by
  unfold formedB at h
  simp only [Bool.and_eq_true, beq_iff_eq] at h
  exact h.1
theorem formed_at {ls : List (List Int)} (h : formedB ls = true) (k : Nat) (hk : k < ls.length) : (ls[k]?.getD []).length = 8 := by
  unfold formedB at h
  simp only [Bool.and_eq_true, List.all_eq_true, beq_iff_eq] at h
  simp only [List.getElem?_eq_getElem hk, Option.getD_some]
  exact h.2 _ (List.getElem_mem hk)

end
end

section
set_option maxRecDepth 100000
/-
  Sign.
-/
section
set_option linter.unusedVariables false
open Go.RowKit

def signEnd (zs : List Int) (leaf : Int) (ds : List Int) (i : Nat) : List Int := chainB (secretB zs leaf i) (stepsN (ds[i]?.getD 0))
theorem signEnd_8 (zs : List Int) (leaf : Int) (ds : List Int) (i : Nat) : (signEnd zs leaf ds i).length = 8 := chainB_length _ (secretB_length _ _ _) _
theorem signEnd_u8s (zs : List Int) (leaf : Int) (ds : List Int) (i : Nat) : U8s (signEnd zs leaf ds i) := chainB_u8s _ (secretB_u8s _ _ _) _
theorem signB_eq (zs : List Int) (leaf : Int) (text : List Int) : upTo (signEnd zs leaf (partsB text)) 11 = signB zs leaf text := rfl

end
end
end Go.Proofs.Ytenhjjbbmmomaaa
