import Derived.Shelf.Strings.OnBuilder
import Derived.Test.YtenhjjbbmmomaaaDoorRows
import Derived.Test.YtenhjjbbmmomaaaDoorWots
namespace Go.Proofs.YtenhjjbbmmomaaaDoor
section
set_option maxRecDepth 100000
/-
  strings.Join by its contract.
-/
section
set_option linter.unusedVariables false
open Go.RowKit

def join156_ren : Go.Shelf.Ren := ⟨fun | 156 => 42 | 165 => 66 | 166 => 67 | 169 => 68 | 240 => 83 | 241 => 84 | 276 => 91 | 277 => 92 | n => n, fun | 31 => 25 | 9 => 9 | 3 => 3 | 4 => 4 | 0 => 0 | 20 => 20 | 72 => 105 | 76 => 108 | 70 => 103 | 37 => 38 | 75 => 107 | 127 => 123 | 164 => 139 | 5 => 5 | 80 => 110 | n => n, fun | n => n⟩
theorem join156 : Go.Proofs.Lays.n156 Tryd.prog join156_ren := {
  mixed := by kernel_rfl
  f156 := Tryd.func42.trans (congrArg some (by kernel_rfl))
  f165 := Tryd.func66.trans (congrArg some (by kernel_rfl))
  f166 := Tryd.func67.trans (congrArg some (by kernel_rfl))
  f169 := Tryd.func68.trans (congrArg some (by kernel_rfl))
  f240 := Tryd.func83.trans (congrArg some (by kernel_rfl))
  f241 := Tryd.func84.trans (congrArg some (by kernel_rfl))
  f276 := Tryd.func91.trans (congrArg some (by kernel_rfl))
  f277 := Tryd.func92.trans (congrArg some (by kernel_rfl))
  t0 := Tryd.underlying0
  a0 := Tryd.isAgg0
  z0 := Tryd.sizeOf0
  v0 := Tryd.zeroValue0
  t3 := Tryd.underlying3
  a3 := Tryd.isAgg3
  z3 := Tryd.sizeOf3
  v3 := Tryd.zeroValue3
  t4 := Tryd.underlying4
  a4 := Tryd.isAgg4
  z4 := Tryd.sizeOf4
  v4 := Tryd.zeroValue4
  t9 := Tryd.underlying9
  a9 := Tryd.isAgg9
  z9 := Tryd.sizeOf9
  v9 := Tryd.zeroValue9
  t20 := Tryd.underlying20
  a20 := Tryd.isAgg20
  z20 := Tryd.sizeOf20
  v20 := Tryd.zeroValue20
  t31 := Tryd.underlying25
  a31 := Tryd.isAgg25
  z31 := Tryd.sizeOf25
  v31 := Tryd.zeroValue25
  t37 := Tryd.underlying38
  a37 := Tryd.isAgg38
  z37 := Tryd.sizeOf38
  v37 := Tryd.zeroValue38
  t70 := Tryd.underlying103
  a70 := Tryd.isAgg103
  z70 := Tryd.sizeOf103
  v70 := Tryd.zeroValue103
  t72 := Tryd.underlying105
  a72 := Tryd.isAgg105
  z72 := Tryd.sizeOf105
  v72 := Tryd.zeroValue105
  t75 := Tryd.underlying107
  a75 := Tryd.isAgg107
  z75 := Tryd.sizeOf107
  v75 := Tryd.zeroValue107
  t76 := Tryd.underlying108
  a76 := Tryd.isAgg108
  z76 := Tryd.sizeOf108
  v76 := Tryd.zeroValue108
  t127 := Tryd.underlying123
  a127 := Tryd.isAgg123
  z127 := Tryd.sizeOf123
  v127 := Tryd.zeroValue123
  t164 := Tryd.underlying139
  a164 := Tryd.isAgg139
  z164 := Tryd.sizeOf139
  v164 := Tryd.zeroValue139 }
theorem joinExtra : Builder.Extra Tryd.prog join156_ren := {
  sizeBuilder := by kernel_rfl
  liesBuilder := by kernel_rfl
  t5 := Tryd.underlying5
  a5 := Tryd.isAgg5
  z5 := Tryd.sizeOf5
  v5 := Tryd.zeroValue5
  infoByte := by kernel_rfl
  cellsByte := by kernel_rfl
  sizeByte := by kernel_rfl
  neB5 := by decide }
theorem strJoin_many (bk o c : Nat) (xs : List ByteArray) (sep : ByteArray) (w : World) (hcells : ∀ (j : Nat) x, xs[j]? = some x → w.cell? ⟨bk, o + j, none⟩ = some (.string x)) (hbk : bk < w.heap.size) (hN : xs.length ≤ 140737488355328) (hcap : xs.length ≤ c) (hlen : (Lib.join (xs.map (·.data.toList)) sep.data.toList).length ≤ 140737488355328) :
    Calls Tryd.prog 42 #[.slice (some ⟨bk, o, none⟩) xs.length c, .string sep] w fun e w' => e = .returned (.string ⟨(Lib.join (xs.map (·.data.toList)) sep.data.toList).toArray⟩) ∧ Below w.heap.size w w' := Any.strings_Join join156 joinExtra bk o c xs sep w hcells hbk hN hcap hlen
end

/-
  formed and joined.
-/
section
set_option linter.unusedVariables false
open Go.RowKit

theorem join_none (l : List (List UInt8)) : Lib.join l [] = l.flatten := by
  cases l with
  | nil => rfl
  | cons x r =>
    rw [Lib.join_cons, List.flatten_cons]
    congr 1
    unfold Lib.joinTail
    congr 1
    simp
theorem join_strs (ls : List (List Int)) : (⟨(Lib.join ((ls.map strOfNums).map (·.data.toList)) (ByteArray.mk #[]).data.toList).toArray⟩ : ByteArray) = strOfNums ls.flatten := by
  show (⟨(Lib.join _ []).toArray⟩ : ByteArray) = _
  rw [join_none]
  unfold strOfNums
  congr 2
  rw [List.map_map, List.map_flatten]
  congr 1
theorem strJoin_any (ls : List (List Int)) (b off c : Nat) (w : World) (hc : ∀ j, j < ls.length → w.cell? ⟨b, off + j, none⟩ = some (.string (strOfNums (ls[j]?.getD [])))) (h0 : 0 < ls.length) (hl : ls.length ≤ 100) (hcap : ls.length ≤ c) (hx : ls.flatten.length ≤ 140737488355328) :
    Calls Tryd.prog 42 #[.slice (some ⟨b, off, none⟩) ls.length c, .string ⟨#[]⟩] w fun e w' => e = .returned (.string (strOfNums ls.flatten)) ∧ Up w w' := by
  have hlen : (Lib.join ((ls.map strOfNums).map (·.data.toList)) (ByteArray.mk #[]).data.toList).length = ls.flatten.length := by
    have h := congrArg ByteArray.size (join_strs ls)
    rw [strOfNums_size] at h
    simpa [ByteArray.size] using h
  have h := strJoin_many b off c (ls.map strOfNums) ⟨#[]⟩ w (fun j x hj => by
    have hj' : j < ls.length := by have := (List.getElem?_eq_some_iff.1 hj).1; simpa using this
    rw [hc j hj']
    simp [hj'] at hj ⊢
    exact hj) (World.block_lt_of_cell? w _ (hc 0 h0)) (by rw [List.length_map]; omega) (by rw [List.length_map]; exact hcap) (by rw [hlen]; exact hx)
  rw [List.length_map, join_strs] at h
  exact h

set_option maxHeartbeats 1000000 in
theorem joined_any (v : Value) (ls : List (List Int)) (w : World) (hv : Strs w v ls) (hu : U8s ls.flatten) (h0 : 0 < ls.length) (hl : ls.length ≤ 100) (hx : ls.flatten.length ≤ 140737488355328) :
    Calls Tryd.prog 61 #[v] w fun e w' => e = .returned (.string (strOfNums (shortB ls.flatten))) ∧ Up w w' := by
  obtain ⟨a, cap, rfl, hcap, hnil, hcell⟩ := hv
  rcases hcell with rfl | ⟨b, off, rfl, hc⟩
  · simp at h0
  have Hj := Lib.hid (strJoin_any ls b off cap w hc h0 hl hcap hx)
  have Hu := Lib.hid hu
  have Hx := Lib.hid hx
  clear hc hnil hcap hu hx h0
  generalize ls.flatten = X at Hj Hu Hx ⊢
  go_enter Tryd.func61, Tryd.ntmps61
  go_wp2_with fail
  with_reducible refine Calls.mono Hj.out ?_
  rintro e w1 ⟨rfl, hU1⟩
  obtain ⟨a2, c2, w2, hconv, hI2, hU2⟩ := conv_str X Hu.out w1
  have HI2 := Lib.hid hI2
  have hU02 := Up.trans hU1 hU2
  clear hI2 hU1 hU2
  go_wp2_with fail
  with_reducible refine Calls.mono (short_flat _ [X] X (by simp) (by simp) _ (Rows8.new1 w2 _ _ X _ rfl HI2.out) Hu.out Hx.out) ?_
  rintro e w3 ⟨rfl, hU3⟩
  have hU03 := Up.trans (Up.alloc hU02 _) hU3
  go_wp2
  go_ret
  exact ⟨rfl, hU03⟩

theorem formed_false_len {ls : List (List Int)} (h : ls.length ≠ 11) : formedB ls = false := by simp [formedB, h]
theorem formed_false_at {ls : List (List Int)} (k : Nat) (hk : k < ls.length) (h : (ls[k]?.getD []).length ≠ 8) : formedB ls = false := by
  unfold formedB
  rw [Bool.and_eq_false_iff]
  right
  rw [List.all_eq_false]
  refine ⟨ls[k], List.getElem_mem hk, ?_⟩
  simp [hk] at h
  simpa using h
theorem formed_true {ls : List (List Int)} (h : ls.length = 11) (h8 : ∀ k, k < ls.length → (ls[k]?.getD []).length = 8) : formedB ls = true := by
  unfold formedB
  simp only [h, beq_self_eq_true, Bool.true_and, List.all_eq_true]
  intro p hp
  obtain ⟨k, hk, rfl⟩ := List.getElem_of_mem hp
  have := h8 k hk
  simp [hk] at this
  simpa using this

set_option maxHeartbeats 1000000 in
theorem formed_any (v : Value) (ls : List (List Int)) (w : World) (hv : Strs w v ls) (hl : ls.length ≤ 9223372036854775807) :
    Calls Tryd.prog 75 #[v] w fun e w' => e = .returned (.bool (formedB ls)) ∧ w = w' := by
  obtain ⟨a, cap, rfl, hcap, hnil, hcell⟩ := hv
  clear hcap hnil
  by_cases h11 : ls.length = 11
  · have hd : ((ls.length : Int) != 11) = false := by simp; omega
    go_enter Tryd.func75, Tryd.ntmps75
    go_wp2
    go_loop [10] (fun i => ∃ k : Nat, k ≤ ls.length ∧ i = .int .i64 k ∧ ∀ j, j < k → (ls[j]?.getD []).length = 8) (fun i => ls.length - (intOf i).toNat)
    case atStart => exact ⟨0, Nat.zero_le _, rfl, fun j hj => by omega⟩
    case round =>
      obtain ⟨k, hk, rfl, h8⟩ := hrel
      have H8 := Lib.hid h8
      clear h8
      by_cases hlt : k < ls.length
      · rcases hcell with rfl | ⟨b, off, rfl, hc⟩
        · simp at hlt
        have hck := hc k hlt
        obtain ⟨x, hx⟩ : ∃ x, ls[k]?.getD [] = x := ⟨_, rfl⟩
        rw [hx] at hck
        have hsz := strOfNums_size x
        have Hx := Lib.hid hx
        clear hc hx
        by_cases hx8 : x.length = 8
        · have hd2 : ((x.length : Int) != 8) = false := by simp; omega
          have Hx8 := Lib.hid hx8
          clear hx8
          go_wp2
          go_round
          case rel => exact ⟨k + 1, by omega, by go_num, fun j hj => by
            rcases Nat.lt_or_ge j k with h | h
            · exact H8.out j h
            · obtain rfl : j = k := by omega
              rw [Hx.out, Hx8.out]⟩
          case measure => simp [intOf]; omega
        · have hd2 : ((x.length : Int) != 8) = true := by simp; omega
          have hff := formed_false_at k hlt (by rw [Hx.out]; exact hx8)
          have Hff := Lib.hid hff
          clear hff hx8
          go_wp2
          go_ret
          exact ⟨by rw [Hff.out]; rfl, rfl⟩
      · obtain rfl : k = ls.length := by omega
        have hft := formed_true h11 H8.out
        have Hft := Lib.hid hft
        clear hft
        go_wp2
        go_ret
        exact ⟨by rw [Hft.out]; rfl, rfl⟩
  · have hd : ((ls.length : Int) != 11) = true := by simp; omega
    have hff := formed_false_len h11
    have Hff := Lib.hid hff
    clear hff h11
    go_enter Tryd.func75, Tryd.ntmps75
    go_wp2
    go_ret
    exact ⟨by rw [Hff.out]; rfl, rfl⟩
end

/-
  Leaf, Sign, Open.
-/
section
set_option linter.unusedVariables false
open Go.RowKit

def leafEnd (zs : List Int) (leaf : Int) (i : Nat) : List Int := chainB (secretB zs leaf i) (stepsN 3)
theorem leafEnd_8 (zs : List Int) (leaf : Int) (i : Nat) : (leafEnd zs leaf i).length = 8 := chainB_length _ (secretB_length _ _ _) _
theorem leafEnd_u8s (zs : List Int) (leaf : Int) (i : Nat) : U8s (leafEnd zs leaf i) := chainB_u8s _ (secretB_u8s _ _ _) _
theorem leafB_eq (zs : List Int) (leaf : Int) : shortB (upTo (leafEnd zs leaf) 11).flatten = leafB zs leaf := rfl

set_option maxHeartbeats 1000000 in
theorem leaf_any (zs : List Int) (leaf : Int) (w : World) (hu : U8s zs) (hl : zs.length ≤ 140737488355200) (hleaf : -9223372036854775808 ≤ leaf ∧ leaf ≤ 9223372036854775807) :
    Calls Tryd.prog 36 #[.string (strOfNums zs), .int .i64 leaf] w fun e w' => e = .returned (.string (strOfNums (leafB zs leaf))) ∧ Up w w' := by
  obtain ⟨i0, hi, hz0, hz1, hz2⟩ := info_parts info_strg
  have hmk := make_strs 11 11 rfl (by omega)
  have Hsec : Hid (∀ (k : Nat) wx, k < 11 → Calls Tryd.prog 60 #[.string (strOfNums zs), .int .i64 leaf, .int .i64 k] wx fun e w' => e = .returned (.string (strOfNums (secretB zs leaf k))) ∧ Up wx w') := fun k wx hk => secret_any zs leaf k wx hu hl hleaf (by omega)
  have Hend : Hid (∀ k : Nat, chainB (secretB zs leaf k) (stepsN 3) = leafEnd zs leaf k) := fun k => rfl
  have Hs8 : Hid (∀ k : Nat, (secretB zs leaf k).length = 8) := fun k => secretB_length _ _ _
  have Hsu : Hid (∀ k : Nat, U8s (secretB zs leaf k)) := fun k => secretB_u8s _ _ _
  have H8 : Hid ((upTo (leafEnd zs leaf) 11).flatten.length = 88) := upTo_flat _ 11 fun i _ => leafEnd_8 _ _ _
  have H8u : Hid (U8s (upTo (leafEnd zs leaf) 11).flatten) := upTo_u8s _ 11 fun i _ => leafEnd_u8s _ _ _
  rw [← leafB_eq]
  clear hu hl hleaf
  generalize leafEnd zs leaf = E at Hend H8 H8u ⊢
  obtain ⟨Y, hY⟩ : ∃ Y, shortB (upTo E 11).flatten = Y := ⟨_, rfl⟩
  rw [hY]
  have HY := Lib.hid hY
  clear hY
  go_enter Tryd.func36, Tryd.ntmps36
  go_wp2
  clear hmk
  have r0 := World.ownsRow_made (base := w.heap.size) (e := 9) (size := 1) w (madeCells #[.string ⟨#[]⟩] 11) 11 (Nat.le_refl _) (by unfold maxLen; omega) (by first | (rw [size_madeCells]; done) | (rw [size_madeCells]; omega))
  have hB0 : Up w (w.alloc (.cells (madeCells #[Value.string ⟨#[]⟩] 11) 9)) := Up.alloc (Up.refl w) _
  go_loopw [5, 8] (fun o i wr => ∃ k : Nat, k ≤ 11 ∧ i = .int .i64 k ∧ wr.ownsRow w.heap.size 9 1 o k (strVs (upTo E k)) ∧ Up w wr)
    (fun _ i _ => 11 - (intOf i).toNat)
  case atStart => exact ⟨0, Nat.zero_le _, rfl, r0, hB0⟩
  case round =>
    obtain ⟨k, hk, rfl, hrow, hB⟩ := hrel
    clear r0 hB0
    by_cases hlt : k < 11
    · have hs := upTo_succ E k
      have Hs := Lib.hid hs
      have Hrow := Lib.hid hrow
      clear hs hrow
      go_wp2_with fail
      with_reducible refine Calls.mono (Hsec.out k _ hlt) ?_
      rintro e w1 ⟨rfl, hU1⟩
      have Hch := Lib.hid (chain_any (secretB zs leaf k) 3 w1 (Hsu.out k) (by rw [Hs8.out k]; omega))
      rw [Hend.out k] at Hch
      go_wp2_with fail
      with_reducible refine Calls.mono Hch.out ?_
      rintro e w2 ⟨rfl, hU2⟩
      have hB2 := Up.trans (Up.trans hB hU1) hU2
      have hrow := ownsRow_up Hrow.out (Up.trans hU1 hU2)
      clear Hch hU1 hU2
      generalize E k = X at Hs ⊢
      go_wp2_with (at_builtin; refine wpList_append_own _ rfl (.tmp 11) (.tmp 17) 25 rfl w.heap.size 9 i0 (.string ⟨#[]⟩) 1 16 Tryd.underlying25 hi hz0 hz1 hz2 rfl (by decide) _ k _ rfl (hrow.alloc _) ⟨w2.heap.size, 0, none⟩ 1 1 [.string (strOfNums X)] rfl rfl (cell_one_new _ _ _) (by simp [Value.oneCell']) (by unfold maxLen; omega) (by omega) (by have := hB2.size; simp; omega) ?_; intro v' w3 hown' hgrow _)
      go_roundw
      case rel => exact ⟨k + 1, by omega, by go_num, by rw [Hs.out, strVs_snoc]; exact hown', (Up.alloc hB2 _).grown hgrow (by have := hB2.size; simp; omega) (fun q e => (hrow.lt q e).1)⟩
      case measure => simp [intOf]; omega
    · obtain rfl : k = 11 := by omega
      have Hj := Lib.hid (joined_any _ _ wr (Strs.of_row hrow) H8u.out (by rw [upTo_length]; omega) (by rw [upTo_length]; omega) (by rw [H8.out]; omega))
      rw [HY.out] at Hj
      clear hrow
      go_wp2_with fail
      with_reducible refine Calls.mono Hj.out ?_
      rintro e w2 ⟨rfl, hU2⟩
      have hB2 := Up.trans hB hU2
      go_wp2
      go_ret
      exact ⟨rfl, hB2⟩
end

/-
  Open.
-/
section
set_option linter.unusedVariables false
open Go.RowKit

def openEnd (ls : List (List Int)) (ds : List Int) (i : Nat) : List Int := chainB (ls[i]?.getD []) (stepsN (3 - ds[i]?.getD 0))
theorem openB_no (text : List Int) (ls : List (List Int)) (h : formedB ls = false) : openB text ls = [] := by simp [openB, h]
theorem openB_yes (text : List Int) (ls : List (List Int)) (h : formedB ls = true) : shortB (upTo (openEnd ls (partsB text)) 11).flatten = openB text ls := by unfold openB; rw [if_pos h]; rfl
theorem formed_len {ls : List (List Int)} (h : formedB ls = true) : ls.length = 11 := by
  unfold formedB at h
  simp only [Bool.and_eq_true, beq_iff_eq] at h
  exact h.1
theorem formed_at {ls : List (List Int)} (h : formedB ls = true) (k : Nat) (hk : k < ls.length) : (ls[k]?.getD []).length = 8 := by
  unfold formedB at h
  simp only [Bool.and_eq_true, List.all_eq_true, beq_iff_eq] at h
  simp only [List.getElem?_eq_getElem hk, Option.getD_some]
  exact h.2 _ (List.getElem_mem hk)

set_option maxHeartbeats 1000000 in
theorem open_any (v : Value) (bs : List Int) (pv : Value) (ls : List (List Int)) (w : World) (hv : Ints .u8 w v bs) (hub : U8s bs) (hlb : bs.length ≤ 140737488355328) (hp : Strs w pv ls) (hup : ∀ k : Nat, U8s (ls[k]?.getD [])) (hlp : ls.length ≤ 9223372036854775807) :
    Calls Tryd.prog 56 #[v, pv] w fun e w' => e = .returned (.string (strOfNums (openB bs ls))) ∧ Up w w' := by
  obtain ⟨i0, hi, hz0, hz1, hz2⟩ := info_parts info_strg
  have hmk := make_strs 11 11 rfl (by omega)
  have Hf := Lib.hid (formed_any pv ls w hp hlp)
  by_cases hform : formedB ls = true
  · have Hpa : Hid (∀ wx, Up w wx → Calls Tryd.prog 65 #[v] wx fun e w' => ∃ r, e = .returned r ∧ w'.ownsRow wx.heap.size 3 1 r 11 ((partsB bs).map (Value.int .i64)) ∧ Up wx w') := fun wx hux => parts_any v bs wx (hv.up hux) hub hlb
    have h11 := formed_len hform
    have hL8 : ∀ k : Nat, k < 11 → (ls[k]?.getD []).length = 8 := fun k hk => formed_at hform k (by omega)
    have HL8 := Lib.hid hL8
    have Hup := Lib.hid hup
    have Hpl := Lib.hid (partsB_length bs)
    have Hpr := Lib.hid (partsB_range bs)
    have Hend : Hid (∀ k : Nat, chainB (ls[k]?.getD []) (stepsN (3 - (partsB bs)[k]?.getD 0)) = openEnd ls (partsB bs) k) := fun k => rfl
    have H8 : Hid ((upTo (openEnd ls (partsB bs)) 11).flatten.length = 88) := upTo_flat _ 11 fun i hi => chainB_length _ (hL8 i hi) _
    have H8u : Hid (U8s (upTo (openEnd ls (partsB bs)) 11).flatten) := upTo_u8s _ 11 fun i _ => chainB_u8s _ (hup i) _
    have HY := Lib.hid (openB_yes bs ls hform)
    obtain ⟨a, cap, rfl, _, _, _⟩ := hv
    have Hp := Lib.hid hp
    have hp2 := hp
    obtain ⟨pa, pcap, rfl, hpcap, _, hpc⟩ := hp2
    rcases hpc with rfl | ⟨pb, po, rfl, _⟩
    · simp at h11
    rw [hform] at Hf
    generalize openB bs ls = Y at HY ⊢
    have H11 := Lib.hid h11
    clear hup hub hlb hL8 hform hp hlp
    generalize openEnd ls (partsB bs) = E at Hend H8 H8u HY
    generalize partsB bs = D at Hpa Hend Hpl Hpr
    rw [h11] at Hf Hp hpcap ⊢
    clear h11
    go_enter Tryd.func56, Tryd.ntmps56
    go_wp2_with fail
    with_reducible refine Calls.mono Hf.out ?_
    rintro e w0 ⟨rfl, rfl⟩
    clear Hf
    go_wp2_with fail
    clear hmk
    have r0 := World.ownsRow_made (base := w.heap.size) (e := 9) (size := 1) w (madeCells #[.string ⟨#[]⟩] 11) 11 (Nat.le_refl _) (by unfold maxLen; omega) (by first | (rw [size_madeCells]; done) | (rw [size_madeCells]; omega))
    have hB0 : Up w (w.alloc (.cells (madeCells #[Value.string ⟨#[]⟩] 11) 9)) := Up.alloc (Up.refl w) _
    with_reducible refine Calls.mono (Hpa.out _ hB0) ?_
    rintro e w1 ⟨r1, rfl, hr1, hU1⟩
    have r1 := ownsRow_up r0 hU1
    have hB1 := Up.trans hB0 hU1
    obtain ⟨g1, c1, rfl, hc1⟩ := row_slice hr1 (by omega)
    have hI1 := Ints.of_row hr1
    have hg1 : w.heap.size < g1 := by have := hr1.2; rcases this with ⟨h, _⟩ | ⟨g, _, _, h, hg, _⟩; · simp at h
                                      · simp only [Value.slice.injEq, Option.some.injEq, Addr.mk.injEq, and_true] at h; simp at hg; omega
    clear hr1 r0 hB0 hU1
    go_wp2
    go_loopw [5, 15] (fun o i wr => ∃ k : Nat, k ≤ 11 ∧ i = .int .i64 k ∧ o = .slice (some ⟨w.heap.size, 0, none⟩) k 11 ∧ wr.ownsRow w.heap.size 9 1 (.slice (some ⟨w.heap.size, 0, none⟩) k 11) k (strVs (upTo E k)) ∧ Up w wr ∧ Ints .i64 wr (.slice (some ⟨g1, 0, none⟩) 11 c1) D)
      (fun _ i _ => 11 - (intOf i).toNat)
    case atStart => exact ⟨0, Nat.zero_le _, rfl, rfl, r1, hB1, hI1⟩
    case round =>
      obtain ⟨k, hk, rfl, rfl, hrow, hB, hID⟩ := hrel
      clear r1 hB1 hI1
      by_cases hlt : k < 11
      · have hs := upTo_succ E k
        have Hs := Lib.hid hs
        have Hrow := Lib.hid hrow
        have hck := hID.at0 k (by rw [Hpl.out]; exact hlt)
        have hcp : wr.cell? ⟨pb, po + k, none⟩ = some (.string (strOfNums (ls[k]?.getD []))) := by
          obtain ⟨_, _, he, _, _, hc⟩ := Hp.out.up hB
          simp only [Value.slice.injEq] at he
          obtain ⟨rfl, _, _⟩ := he
          rcases hc with hc | ⟨b, off, he, hc⟩
          · have := H11.out; rw [hc] at this; simp at this
          · simp only [Option.some.injEq, Addr.mk.injEq, and_true] at he
            obtain ⟨rfl, rfl⟩ := he
            exact hc k (by rw [H11.out]; exact hlt)
        have HID := Lib.hid hID
        have hend := Hend.out k
        have hdr := Hpr.out k
        have hp8 := HL8.out k hlt
        have hpu := Hup.out k
        generalize D[k]?.getD 0 = d at hck hend hdr
        generalize ls[k]?.getD [] = p at hcp hend hp8 hpu
        have Hd := Lib.hid hend
        have Hpu := Lib.hid hpu
        have Hp8 := Lib.hid hp8
        clear hs hrow hend hID hpu hp8
        go_wp2_with fail
        have Hch := Lib.hid (chain_any p (3 - d) wr Hpu.out (by rw [Hp8.out]; omega))
        rw [Hd.out] at Hch
        clear hck hcp
        with_reducible refine Calls.mono Hch.out ?_
        rintro e w3 ⟨rfl, hU3⟩
        have hB3 := Up.trans hB hU3
        have hrow := ownsRow_up Hrow.out hU3
        have HID3 := Lib.hid (HID.out.up hU3)
        clear Hch hU3
        generalize E k = X at Hs ⊢
        go_wp2_with (at_builtin; refine wpList_append_fits_any _ rfl (.tmp 20) (.tmp 28) 25 rfl w.heap.size 9 i0 1 Tryd.underlying25 hi hz1 w.heap.size k 11 _ rfl (hrow.alloc _) (some ⟨w3.heap.size, 0, none⟩) 1 1 [.string (strOfNums X)] rfl (by simp) (by simp) (fun ad had => by cases had; exact cell_one_new _ _ _) (by simp [Value.oneCell']) (by omega) ?_; intro w4 hown' hgrow)
        go_roundw
        case rel => exact ⟨k + 1, by omega, by go_num, rfl, by rw [Hs.out, strVs_snoc]; exact hown', (Up.alloc hB3 _).grown hgrow (by have := hB3.size; simp; omega) (fun q e => by cases e; exact Nat.le_refl _), (HID3.out.alloc _).grownBy hgrow (by omega)⟩
        case measure => simp [intOf]; omega
      · obtain rfl : k = 11 := by omega
        have Hj := Lib.hid (joined_any _ _ wr (Strs.of_row hrow) H8u.out (by rw [upTo_length]; omega) (by rw [upTo_length]; omega) (by rw [H8.out]; omega))
        rw [HY.out] at Hj
        clear hrow hID
        go_wp2_with fail
        with_reducible refine Calls.mono Hj.out ?_
        rintro e w2 ⟨rfl, hU2⟩
        have hB2 := Up.trans hB hU2
        go_wp2
        go_ret
        exact ⟨rfl, hB2⟩
  · have hform : formedB ls = false := by simpa using hform
    rw [hform] at Hf
    have Hn := Lib.hid (openB_no bs ls hform)
    have Hn2 : Hid (strOfNums (openB bs ls) = ⟨#[]⟩) := by show _ = _; rw [Hn.out]; rfl
    obtain ⟨a, cap, rfl, _, _, _⟩ := hv
    obtain ⟨pa, pcap, rfl, _, _, _⟩ := hp
    clear hup hub hlb hform hmk
    rw [Hn2.out]
    go_enter Tryd.func56, Tryd.ntmps56
    go_wp2_with fail
    with_reducible refine Calls.mono Hf.out ?_
    rintro e w0 ⟨rfl, rfl⟩
    go_wp2
    go_ret
    exact ⟨rfl, Up.refl _⟩
end
end

section
set_option maxRecDepth 100000
/-
  Sign.
-/
section
set_option linter.unusedVariables false
open Go.RowKit

def signEnd (zs : List Int) (leaf : Int) (ds : List Int) (i : Nat) : List Int := chainB (secretB zs leaf i) (stepsN (ds[i]?.getD 0))
theorem signEnd_8 (zs : List Int) (leaf : Int) (ds : List Int) (i : Nat) : (signEnd zs leaf ds i).length = 8 := chainB_length _ (secretB_length _ _ _) _
theorem signEnd_u8s (zs : List Int) (leaf : Int) (ds : List Int) (i : Nat) : U8s (signEnd zs leaf ds i) := chainB_u8s _ (secretB_u8s _ _ _) _
theorem signB_eq (zs : List Int) (leaf : Int) (text : List Int) : upTo (signEnd zs leaf (partsB text)) 11 = signB zs leaf text := rfl

set_option maxHeartbeats 1000000 in
theorem sign_any (zs : List Int) (leaf : Int) (v : Value) (bs : List Int) (w : World) (hu : U8s zs) (hl : zs.length ≤ 140737488355200) (hleaf : -9223372036854775808 ≤ leaf ∧ leaf ≤ 9223372036854775807) (hv : Ints .u8 w v bs) (hub : U8s bs) (hlb : bs.length ≤ 140737488355328) :
    Calls Tryd.prog 40 #[.string (strOfNums zs), .int .i64 leaf, v] w fun e w' => ∃ r, e = .returned r ∧ w'.ownsRow w.heap.size 9 1 r 11 (strVs (signB zs leaf bs)) ∧ Up w w' := by
  obtain ⟨i0, hi, hz0, hz1, hz2⟩ := info_parts info_strg
  have hmk := make_strs 11 11 rfl (by omega)
  have Hpa : Hid (∀ wx, Up w wx → Calls Tryd.prog 65 #[v] wx fun e w' => ∃ r, e = .returned r ∧ w'.ownsRow wx.heap.size 3 1 r 11 ((partsB bs).map (Value.int .i64)) ∧ Up wx w') := fun wx hux => parts_any v bs wx (hv.up hux) hub hlb
  have Hsec : Hid (∀ (k : Nat) wx, k < 11 → Calls Tryd.prog 60 #[.string (strOfNums zs), .int .i64 leaf, .int .i64 k] wx fun e w' => e = .returned (.string (strOfNums (secretB zs leaf k))) ∧ Up wx w') := fun k wx hk => secret_any zs leaf k wx hu hl hleaf (by omega)
  have Hs8 : Hid (∀ k : Nat, (secretB zs leaf k).length = 8) := fun k => secretB_length _ _ _
  have Hsu : Hid (∀ k : Nat, U8s (secretB zs leaf k)) := fun k => secretB_u8s _ _ _
  have Hpl := Lib.hid (partsB_length bs)
  have Hend : Hid (∀ k : Nat, chainB (secretB zs leaf k) (stepsN ((partsB bs)[k]?.getD 0)) = signEnd zs leaf (partsB bs) k) := fun k => rfl
  rw [← signB_eq]
  obtain ⟨a, cap, rfl, _, _, _⟩ := hv
  clear hu hl hleaf hub hlb
  generalize signEnd zs leaf (partsB bs) = E at Hend ⊢
  generalize partsB bs = D at Hpa Hend Hpl
  go_enter Tryd.func40, Tryd.ntmps40
  go_wp2_with fail
  clear hmk
  have r0 := World.ownsRow_made (base := w.heap.size) (e := 9) (size := 1) w (madeCells #[.string ⟨#[]⟩] 11) 11 (Nat.le_refl _) (by unfold maxLen; omega) (by first | (rw [size_madeCells]; done) | (rw [size_madeCells]; omega))
  have hB0 : Up w (w.alloc (.cells (madeCells #[Value.string ⟨#[]⟩] 11) 9)) := Up.alloc (Up.refl w) _
  with_reducible refine Calls.mono (Hpa.out _ hB0) ?_
  rintro e w1 ⟨r1, rfl, hr1, hU1⟩
  have r1 := ownsRow_up r0 hU1
  have hB1 := Up.trans hB0 hU1
  obtain ⟨g1, c1, rfl, hc1⟩ := row_slice hr1 (by omega)
  have hI1 := Ints.of_row hr1
  have hg1 : w.heap.size < g1 := by have := hr1.2; rcases this with ⟨h, _⟩ | ⟨g, _, _, h, hg, _⟩; · simp at h
                                    · simp only [Value.slice.injEq, Option.some.injEq, Addr.mk.injEq, and_true] at h; simp at hg; omega
  clear hr1 r0 hB0 hU1
  go_wp2
  go_loopw [7, 14] (fun o i wr => ∃ k : Nat, k ≤ 11 ∧ i = .int .i64 k ∧ o = .slice (some ⟨w.heap.size, 0, none⟩) k 11 ∧ wr.ownsRow w.heap.size 9 1 (.slice (some ⟨w.heap.size, 0, none⟩) k 11) k (strVs (upTo E k)) ∧ Up w wr ∧ Ints .i64 wr (.slice (some ⟨g1, 0, none⟩) 11 c1) D)
    (fun _ i _ => 11 - (intOf i).toNat)
  case atStart => exact ⟨0, Nat.zero_le _, rfl, rfl, r1, hB1, hI1⟩
  case round =>
    obtain ⟨k, hk, rfl, rfl, hrow, hB, hID⟩ := hrel
    clear r1 hB1 hI1
    by_cases hlt : k < 11
    · have hs := upTo_succ E k
      have Hs := Lib.hid hs
      have Hrow := Lib.hid hrow
      have hck := hID.at0 k (by rw [Hpl.out]; exact hlt)
      have HID := Lib.hid hID
      have hend := Hend.out k
      generalize D[k]?.getD 0 = d at hck hend
      have Hd := Lib.hid hend
      clear hs hrow hend hID
      go_wp2_with fail
      with_reducible refine Calls.mono (Hsec.out k _ hlt) ?_
      rintro e w2 ⟨rfl, hU2⟩
      have Hch := Lib.hid (chain_any (secretB zs leaf k) d w2 (Hsu.out k) (by rw [Hs8.out k]; omega))
      rw [Hd.out] at Hch
      clear hck
      go_wp2_with fail
      with_reducible refine Calls.mono Hch.out ?_
      rintro e w3 ⟨rfl, hU3⟩
      have hB3 := Up.trans (Up.trans hB hU2) hU3
      have hrow := ownsRow_up Hrow.out (Up.trans hU2 hU3)
      have HID3 := Lib.hid (HID.out.up (Up.trans hU2 hU3))
      clear Hch hU2 hU3
      generalize E k = X at Hs ⊢
      go_wp2_with (at_builtin; refine wpList_append_fits_any _ rfl (.tmp 19) (.tmp 26) 25 rfl w.heap.size 9 i0 1 Tryd.underlying25 hi hz1 w.heap.size k 11 _ rfl (hrow.alloc _) (some ⟨w3.heap.size, 0, none⟩) 1 1 [.string (strOfNums X)] rfl (by simp) (by simp) (fun ad had => by cases had; exact cell_one_new _ _ _) (by simp [Value.oneCell']) (by omega) ?_; intro w4 hown' hgrow)
      go_roundw
      case rel => exact ⟨k + 1, by omega, by go_num, rfl, by rw [Hs.out, strVs_snoc]; exact hown', (Up.alloc hB3 _).grown hgrow (by have := hB3.size; simp; omega) (fun q e => by cases e; exact Nat.le_refl _), (HID3.out.alloc _).grownBy hgrow (by omega)⟩
      case measure => simp [intOf]; omega
    · obtain rfl : k = 11 := by omega
      go_wp2
      go_ret
      exact ⟨_, rfl, hrow, hB⟩
end
end
end Go.Proofs.YtenhjjbbmmomaaaDoor
