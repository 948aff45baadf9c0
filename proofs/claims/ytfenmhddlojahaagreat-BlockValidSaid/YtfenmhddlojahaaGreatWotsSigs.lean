import Derived.Shelf.Strings.OnBuilder
import Derived.Test.YtfenmhddlojahaaGreatRows
import Derived.Test.YtfenmhddlojahaaGreatWots
namespace Go.Proofs.YtfenmhddlojahaaGreat
section
set_option maxRecDepth 100000
/-
  strings.Join by its contract.
-/
section
set_option linter.unusedVariables false
open Go.RowKit

def join156_ren : Go.Shelf.Ren := ⟨fun | 156 => 145 | 165 => 93 | 166 => 94 | 169 => 96 | 240 => 127 | 241 => 128 | 276 => 139 | 277 => 140 | n => n, fun | 31 => 25 | 9 => 9 | 3 => 3 | 4 => 4 | 0 => 0 | 20 => 20 | 72 => 128 | 76 => 131 | 70 => 126 | 37 => 31 | 75 => 130 | 127 => 159 | 164 => 168 | 5 => 5 | 80 => 71 | n => n, fun | n => n⟩
theorem join156 : Go.Proofs.Lays.n156 Tryz.prog join156_ren := {
  mixed := by kernel_rfl
  f156 := Tryz.func145.trans (congrArg some (by kernel_rfl))
  f165 := Tryz.func93.trans (congrArg some (by kernel_rfl))
  f166 := Tryz.func94.trans (congrArg some (by kernel_rfl))
  f169 := Tryz.func96.trans (congrArg some (by kernel_rfl))
  f240 := Tryz.func127.trans (congrArg some (by kernel_rfl))
  f241 := Tryz.func128.trans (congrArg some (by kernel_rfl))
  f276 := Tryz.func139.trans (congrArg some (by kernel_rfl))
  f277 := Tryz.func140.trans (congrArg some (by kernel_rfl))
  t0 := Tryz.underlying0
  a0 := Tryz.isAgg0
  z0 := Tryz.sizeOf0
  v0 := Tryz.zeroValue0
  t3 := Tryz.underlying3
  a3 := Tryz.isAgg3
  z3 := Tryz.sizeOf3
  v3 := Tryz.zeroValue3
  t4 := Tryz.underlying4
  a4 := Tryz.isAgg4
  z4 := Tryz.sizeOf4
  v4 := Tryz.zeroValue4
  t9 := Tryz.underlying9
  a9 := Tryz.isAgg9
  z9 := Tryz.sizeOf9
  v9 := Tryz.zeroValue9
  t20 := Tryz.underlying20
  a20 := Tryz.isAgg20
  z20 := Tryz.sizeOf20
  v20 := Tryz.zeroValue20
  t31 := Tryz.underlying25
  a31 := Tryz.isAgg25
  z31 := Tryz.sizeOf25
  v31 := Tryz.zeroValue25
  t37 := Tryz.underlying31
  a37 := Tryz.isAgg31
  z37 := Tryz.sizeOf31
  v37 := Tryz.zeroValue31
  t70 := Tryz.underlying126
  a70 := Tryz.isAgg126
  z70 := Tryz.sizeOf126
  v70 := Tryz.zeroValue126
  t72 := Tryz.underlying128
  a72 := Tryz.isAgg128
  z72 := Tryz.sizeOf128
  v72 := Tryz.zeroValue128
  t75 := Tryz.underlying130
  a75 := Tryz.isAgg130
  z75 := Tryz.sizeOf130
  v75 := Tryz.zeroValue130
  t76 := Tryz.underlying131
  a76 := Tryz.isAgg131
  z76 := Tryz.sizeOf131
  v76 := Tryz.zeroValue131
  t127 := Tryz.underlying159
  a127 := Tryz.isAgg159
  z127 := Tryz.sizeOf159
  v127 := Tryz.zeroValue159
  t164 := Tryz.underlying168
  a164 := Tryz.isAgg168
  z164 := Tryz.sizeOf168
  v164 := Tryz.zeroValue168 }
theorem joinExtra : Builder.Extra Tryz.prog join156_ren := {
  sizeBuilder := by kernel_rfl
  liesBuilder := by kernel_rfl
  t5 := Tryz.underlying5
  a5 := Tryz.isAgg5
  z5 := Tryz.sizeOf5
  v5 := Tryz.zeroValue5
  infoByte := by kernel_rfl
  cellsByte := by kernel_rfl
  sizeByte := by kernel_rfl
  neB5 := by decide }
theorem strJoin_many (bk o c : Nat) (xs : List ByteArray) (sep : ByteArray) (w : World) (hcells : ∀ (j : Nat) x, xs[j]? = some x → w.cell? ⟨bk, o + j, none⟩ = some (.string x)) (hbk : bk < w.heap.size) (hN : xs.length ≤ 140737488355328) (hcap : xs.length ≤ c) (hlen : (Lib.join (xs.map (·.data.toList)) sep.data.toList).length ≤ 140737488355328) :
    Calls Tryz.prog 145 #[.slice (some ⟨bk, o, none⟩) xs.length c, .string sep] w fun e w' => e = .returned (.string ⟨(Lib.join (xs.map (·.data.toList)) sep.data.toList).toArray⟩) ∧ Below w.heap.size w w' := Any.strings_Join join156 joinExtra bk o c xs sep w hcells hbk hN hcap hlen
end

/-
  formed and joined.
-/
section
set_option linter.unusedVariables false
open Go.RowKit

theorem join_none (l : List (List UInt8)) : Lib.join l [] = l.flatten := by
  cases l with
  | nil => rfl
  | cons x r =>
    rw [Lib.join_cons, List.flatten_cons]
    congr 1
    unfold Lib.joinTail
    congr 1
    simp
theorem join_strs (ls : List (List Int)) : (⟨(Lib.join ((ls.map strOfNums).map (·.data.toList)) (ByteArray.mk #[]).data.toList).toArray⟩ : ByteArray) = strOfNums ls.flatten := by
  show (⟨(Lib.join _ []).toArray⟩ : ByteArray) = _
  rw [join_none]
  unfold strOfNums
  congr 2
  rw [List.map_map, List.map_flatten]
  congr 1
theorem strJoin_any (ls : List (List Int)) (b off c : Nat) (w : World) (hc : ∀ j, j < ls.length → w.cell? ⟨b, off + j, none⟩ = some (.string (strOfNums (ls[j]?.getD [])))) (h0 : 0 < ls.length) (hl : ls.length ≤ 100) (hcap : ls.length ≤ c) (hx : ls.flatten.length ≤ 140737488355328) :
    Calls Tryz.prog 145 #[.slice (some ⟨b, off, none⟩) ls.length c, .string ⟨#[]⟩] w fun e w' => e = .returned (.string (strOfNums ls.flatten)) ∧ Up w w' := by
  have hlen : (Lib.join ((ls.map strOfNums).map (·.data.toList)) (ByteArray.mk #[]).data.toList).length = ls.flatten.length := by
    have h := congrArg ByteArray.size (join_strs ls)
    rw [strOfNums_size] at h
    simpa [ByteArray.size] using h
  have h := strJoin_many b off c (ls.map strOfNums) ⟨#[]⟩ w (fun j x hj => by
    have hj' : j < ls.length := by have := (List.getElem?_eq_some_iff.1 hj).1; simpa using this
    rw [hc j hj']
    simp [hj'] at hj ⊢
    exact hj) (World.block_lt_of_cell? w _ (hc 0 h0)) (by rw [List.length_map]; omega) (by rw [List.length_map]; exact hcap) (by rw [hlen]; exact hx)
  rw [List.length_map, join_strs] at h
  exact h

set_option maxHeartbeats 1000000 in
theorem joined_any (v : Value) (ls : List (List Int)) (w : World) (hv : Strs w v ls) (hu : U8s ls.flatten) (h0 : 0 < ls.length) (hl : ls.length ≤ 100) (hx : ls.flatten.length ≤ 140737488355328) :
    Calls Tryz.prog 135 #[v] w fun e w' => e = .returned (.string (strOfNums (shortB ls.flatten))) ∧ Up w w' := by
  obtain ⟨a, cap, rfl, hcap, hnil, hcell⟩ := hv
  rcases hcell with rfl | ⟨b, off, rfl, hc⟩
  · simp at h0
  have Hj := Lib.hid (strJoin_any ls b off cap w hc h0 hl hcap hx)
  have Hu := Lib.hid hu
  have Hx := Lib.hid hx
  clear hc hnil hcap hu hx h0
  generalize ls.flatten = X at Hj Hu Hx ⊢
  go_enter Tryz.func135, Tryz.ntmps135
  go_wp2_with fail
  with_reducible refine Calls.mono Hj.out ?_
  rintro e w1 ⟨rfl, hU1⟩
  obtain ⟨a2, c2, w2, hconv, hI2, hU2⟩ := conv_str X Hu.out w1
  have HI2 := Lib.hid hI2
  have hU02 := Up.trans hU1 hU2
  clear hI2 hU1 hU2
  go_wp2_with fail
  with_reducible refine Calls.mono (short_flat _ [X] X (by simp) (by simp) _ (Rows8.new1 w2 _ _ X _ rfl HI2.out) Hu.out Hx.out) ?_
  rintro e w3 ⟨rfl, hU3⟩
  have hU03 := Up.trans (Up.alloc hU02 _) hU3
  go_wp2
  go_ret
  exact ⟨rfl, hU03⟩

theorem formed_false_len {ls : List (List Int)} (h : ls.length ≠ 11) : formedB ls = false := by simp [formedB, h]
theorem formed_false_at {ls : List (List Int)} (k : Nat) (hk : k < ls.length) (h : (ls[k]?.getD []).length ≠ 8) : formedB ls = false := by
  unfold formedB
  rw [Bool.and_eq_false_iff]
  right
  rw [List.all_eq_false]
  refine ⟨ls[k], List.getElem_mem hk, ?_⟩
  simp [hk] at h
  simpa using h
theorem formed_true {ls : List (List Int)} (h : ls.length = 11) (h8 : ∀ k, k < ls.length → (ls[k]?.getD []).length = 8) : formedB ls = true := by
  unfold formedB
  simp only [h, beq_self_eq_true, Bool.true_and, List.all_eq_true]
  intro p hp
  obtain ⟨k, hk, rfl⟩ := List.getElem_of_mem hp
  have := h8 k hk
  simp [hk] at this
  simpa using this

set_option maxHeartbeats 1000000 in
theorem formed_any (v : Value) (ls : List (List Int)) (w : World) (hv : Strs w v ls) (hl : ls.length ≤ 9223372036854775807) :
    Calls Tryz.prog 132 #[v] w fun e w' => e = .returned (.bool (formedB ls)) ∧ w = w' := by
  obtain ⟨a, cap, rfl, hcap, hnil, hcell⟩ := hv
  clear hcap hnil
  by_cases h11 : ls.length = 11
  · have hd : ((ls.length : Int) != 11) = false := by simp; omega
    go_enter Tryz.func132, Tryz.ntmps132
    go_wp2
    go_loop [10] (fun i => ∃ k : Nat, k ≤ ls.length ∧ i = .int .i64 k ∧ ∀ j, j < k → (ls[j]?.getD []).length = 8) (fun i => ls.length - (intOf i).toNat)
    case atStart => exact ⟨0, Nat.zero_le _, rfl, fun j hj => by omega⟩
    case round =>
      obtain ⟨k, hk, rfl, h8⟩ := hrel
      have H8 := Lib.hid h8
      clear h8
      by_cases hlt : k < ls.length
      · rcases hcell with rfl | ⟨b, off, rfl, hc⟩
        · simp at hlt
        have hck := hc k hlt
        obtain ⟨x, hx⟩ : ∃ x, ls[k]?.getD [] = x := ⟨_, rfl⟩
        rw [hx] at hck
        have hsz := strOfNums_size x
        have Hx := Lib.hid hx
        clear hc hx
        by_cases hx8 : x.length = 8
        · have hd2 : ((x.length : Int) != 8) = false := by simp; omega
          have Hx8 := Lib.hid hx8
          clear hx8
          go_wp2
          go_round
          case rel => exact ⟨k + 1, by omega, by go_num, fun j hj => by
            rcases Nat.lt_or_ge j k with h | h
            · exact H8.out j h
            · obtain rfl : j = k := by omega
              rw [Hx.out, Hx8.out]⟩
          case measure => simp [intOf]; omega
        · have hd2 : ((x.length : Int) != 8) = true := by simp; omega
          have hff := formed_false_at k hlt (by rw [Hx.out]; exact hx8)
          have Hff := Lib.hid hff
          clear hff hx8
          go_wp2
          go_ret
          exact ⟨by rw [Hff.out]; rfl, rfl⟩
      · obtain rfl : k = ls.length := by omega
        have hft := formed_true h11 H8.out
        have Hft := Lib.hid hft
        clear hft
        go_wp2
        go_ret
        exact ⟨by rw [Hft.out]; rfl, rfl⟩
  · have hd : ((ls.length : Int) != 11) = true := by simp; omega
    have hff := formed_false_len h11
    have Hff := Lib.hid hff
    clear hff h11
    go_enter Tryz.func132, Tryz.ntmps132
    go_wp2
    go_ret
    exact ⟨by rw [Hff.out]; rfl, rfl⟩
end

/-
  Leaf, Sign, Open.
-/
section
set_option linter.unusedVariables false
open Go.RowKit

def leafEnd (zs : List Int) (leaf : Int) (i : Nat) : List Int := chainB (secretB zs leaf i) (stepsN 3)
theorem leafEnd_8 (zs : List Int) (leaf : Int) (i : Nat) : (leafEnd zs leaf i).length = 8 := chainB_length _ (secretB_length _ _ _) _
theorem leafEnd_u8s (zs : List Int) (leaf : Int) (i : Nat) : U8s (leafEnd zs leaf i) := chainB_u8s _ (secretB_u8s _ _ _) _
theorem leafB_eq (zs : List Int) (leaf : Int) : shortB (upTo (leafEnd zs leaf) 11).flatten = leafB zs leaf := rfl

end

/-
  Open.
-/
section
set_option linter.unusedVariables false
open Go.RowKit

def openEnd (ls : List (List Int)) (ds : List Int) (i : Nat) : List Int := chainB (ls[i]?.getD []) (stepsN (3 - ds[i]?.getD 0))
theorem openB_no (text : List Int) (ls : List (List Int)) (h : formedB ls = false) : openB text ls = [] := by simp [openB, h]
theorem openB_yes (text : List Int) (ls : List (List Int)) (h : formedB ls = true) : shortB (upTo (openEnd ls (partsB text)) 11).flatten = openB text ls := by unfold openB; rw [if_pos h]; rfl
theorem formed_len {ls : List (List Int)} (h : formedB ls = true) : ls.length = 11 := by
  unfold formedB at h
  simp only [Bool.and_eq_true, beq_iff_eq] at h
  exact h.1
theorem formed_at {ls : List (List Int)} (h : formedB ls = true) (k : Nat) (hk : k < ls.length) : (ls[k]?.getD []).length = 8 := by
  unfold formedB at h
  simp only [Bool.and_eq_true, List.all_eq_true, beq_iff_eq] at h
  simp only [List.getElem?_eq_getElem hk, Option.getD_some]
  exact h.2 _ (List.getElem_mem hk)

set_option maxHeartbeats 1000000 in
theorem open_any (v : Value) (bs : List Int) (pv : Value) (ls : List (List Int)) (w : World) (hv : Ints .u8 w v bs) (hub : U8s bs) (hlb : bs.length ≤ 140737488355328) (hp : Strs w pv ls) (hup : ∀ k : Nat, U8s (ls[k]?.getD [])) (hlp : ls.length ≤ 9223372036854775807) :
    Calls Tryz.prog 110 #[v, pv] w fun e w' => e = .returned (.string (strOfNums (openB bs ls))) ∧ Up w w' := by
  obtain ⟨i0, hi, hz0, hz1, hz2⟩ := info_parts info_strg
  have hmk := make_strs 11 11 rfl (by omega)
  have Hf := Lib.hid (formed_any pv ls w hp hlp)
  by_cases hform : formedB ls = true
  · have Hpa : Hid (∀ wx, Up w wx → Calls Tryz.prog 133 #[v] wx fun e w' => ∃ r, e = .returned r ∧ w'.ownsRow wx.heap.size 3 1 r 11 ((partsB bs).map (Value.int .i64)) ∧ Up wx w') := fun wx hux => parts_any v bs wx (hv.up hux) hub hlb
    have h11 := formed_len hform
    have hL8 : ∀ k : Nat, k < 11 → (ls[k]?.getD []).length = 8 := fun k hk => formed_at hform k (by omega)
    have HL8 := Lib.hid hL8
    have Hup := Lib.hid hup
    have Hpl := Lib.hid (partsB_length bs)
    have Hpr := Lib.hid (partsB_range bs)
    have Hend : Hid (∀ k : Nat, chainB (ls[k]?.getD []) (stepsN (3 - (partsB bs)[k]?.getD 0)) = openEnd ls (partsB bs) k) := fun k => rfl
    have H8 : Hid ((upTo (openEnd ls (partsB bs)) 11).flatten.length = 88) := upTo_flat _ 11 fun i hi => chainB_length _ (hL8 i hi) _
    have H8u : Hid (U8s (upTo (openEnd ls (partsB bs)) 11).flatten) := upTo_u8s _ 11 fun i _ => chainB_u8s _ (hup i) _
    have HY := Lib.hid (openB_yes bs ls hform)
    obtain ⟨a, cap, rfl, _, _, _⟩ := hv
    have Hp := Lib.hid hp
    have hp2 := hp
    obtain ⟨pa, pcap, rfl, hpcap, _, hpc⟩ := hp2
    rcases hpc with rfl | ⟨pb, po, rfl, _⟩
    · simp at h11
    rw [hform] at Hf
    generalize openB bs ls = Y at HY ⊢
    have H11 := Lib.hid h11
    clear hup hub hlb hL8 hform hp hlp
    generalize openEnd ls (partsB bs) = E at Hend H8 H8u HY
    generalize partsB bs = D at Hpa Hend Hpl Hpr
    rw [h11] at Hf Hp hpcap ⊢
    clear h11
    go_enter Tryz.func110, Tryz.ntmps110
    go_wp2_with fail
    with_reducible refine Calls.mono Hf.out ?_
    rintro e w0 ⟨rfl, rfl⟩
    clear Hf
    go_wp2_with fail
    clear hmk
    have r0 := World.ownsRow_made (base := w.heap.size) (e := 9) (size := 1) w (madeCells #[.string ⟨#[]⟩] 11) 11 (Nat.le_refl _) (by unfold maxLen; omega) (by first | (rw [size_madeCells]; done) | (rw [size_madeCells]; omega))
    have hB0 : Up w (w.alloc (.cells (madeCells #[Value.string ⟨#[]⟩] 11) 9)) := Up.alloc (Up.refl w) _
    with_reducible refine Calls.mono (Hpa.out _ hB0) ?_
    rintro e w1 ⟨r1, rfl, hr1, hU1⟩
    have r1 := ownsRow_up r0 hU1
    have hB1 := Up.trans hB0 hU1
    obtain ⟨g1, c1, rfl, hc1⟩ := row_slice hr1 (by omega)
    have hI1 := Ints.of_row hr1
    have hg1 : w.heap.size < g1 := by have := hr1.2; rcases this with ⟨h, _⟩ | ⟨g, _, _, h, hg, _⟩; · simp at h
                                      · simp only [Value.slice.injEq, Option.some.injEq, Addr.mk.injEq, and_true] at h; simp at hg; omega
    clear hr1 r0 hB0 hU1
    go_wp2
    go_loopw [5, 15] (fun o i wr => ∃ k : Nat, k ≤ 11 ∧ i = .int .i64 k ∧ o = .slice (some ⟨w.heap.size, 0, none⟩) k 11 ∧ wr.ownsRow w.heap.size 9 1 (.slice (some ⟨w.heap.size, 0, none⟩) k 11) k (strVs (upTo E k)) ∧ Up w wr ∧ Ints .i64 wr (.slice (some ⟨g1, 0, none⟩) 11 c1) D)
      (fun _ i _ => 11 - (intOf i).toNat)
    case atStart => exact ⟨0, Nat.zero_le _, rfl, rfl, r1, hB1, hI1⟩
    case round =>
      obtain ⟨k, hk, rfl, rfl, hrow, hB, hID⟩ := hrel
      clear r1 hB1 hI1
      by_cases hlt : k < 11
      · have hs := upTo_succ E k
        have Hs := Lib.hid hs
        have Hrow := Lib.hid hrow
        have hck := hID.at0 k (by rw [Hpl.out]; exact hlt)
        have hcp : wr.cell? ⟨pb, po + k, none⟩ = some (.string (strOfNums (ls[k]?.getD []))) := by
          obtain ⟨_, _, he, _, _, hc⟩ := Hp.out.up hB
          simp only [Value.slice.injEq] at he
          obtain ⟨rfl, _, _⟩ := he
          rcases hc with hc | ⟨b, off, he, hc⟩
          · have := H11.out; rw [hc] at this; simp at this
          · simp only [Option.some.injEq, Addr.mk.injEq, and_true] at he
            obtain ⟨rfl, rfl⟩ := he
            exact hc k (by rw [H11.out]; exact hlt)
        have HID := Lib.hid hID
        have hend := Hend.out k
        have hdr := Hpr.out k
        have hp8 := HL8.out k hlt
        have hpu := Hup.out k
        generalize D[k]?.getD 0 = d at hck hend hdr
        generalize ls[k]?.getD [] = p at hcp hend hp8 hpu
        have Hd := Lib.hid hend
        have Hpu := Lib.hid hpu
        have Hp8 := Lib.hid hp8
        clear hs hrow hend hID hpu hp8
        go_wp2_with fail
        have Hch := Lib.hid (chain_any p (3 - d) wr Hpu.out (by rw [Hp8.out]; omega))
        rw [Hd.out] at Hch
        clear hck hcp
        with_reducible refine Calls.mono Hch.out ?_
        rintro e w3 ⟨rfl, hU3⟩
        have hB3 := Up.trans hB hU3
        have hrow := ownsRow_up Hrow.out hU3
        have HID3 := Lib.hid (HID.out.up hU3)
        clear Hch hU3
        generalize E k = X at Hs ⊢
        go_wp2_with (at_builtin; refine wpList_append_fits_any _ rfl (.tmp 20) (.tmp 28) 25 rfl w.heap.size 9 i0 1 Tryz.underlying25 hi hz1 w.heap.size k 11 _ rfl (hrow.alloc _) (some ⟨w3.heap.size, 0, none⟩) 1 1 [.string (strOfNums X)] rfl (by simp) (by simp) (fun ad had => by cases had; exact cell_one_new _ _ _) (by simp [Value.oneCell']) (by omega) ?_; intro w4 hown' hgrow)
        go_roundw
        case rel => exact ⟨k + 1, by omega, by go_num, rfl, by rw [Hs.out, strVs_snoc]; exact hown', (Up.alloc hB3 _).grown hgrow (by have := hB3.size; simp; omega) (fun q e => by cases e; exact Nat.le_refl _), (HID3.out.alloc _).grownBy hgrow (by omega)⟩
        case measure => simp [intOf]; omega
      · obtain rfl : k = 11 := by omega
        have Hj := Lib.hid (joined_any _ _ wr (Strs.of_row hrow) H8u.out (by rw [upTo_length]; omega) (by rw [upTo_length]; omega) (by rw [H8.out]; omega))
        rw [HY.out] at Hj
        clear hrow hID
        go_wp2_with fail
        with_reducible refine Calls.mono Hj.out ?_
        rintro e w2 ⟨rfl, hU2⟩
        have hB2 := Up.trans hB hU2
        go_wp2
        go_ret
        exact ⟨rfl, hB2⟩
  · have hform : formedB ls = false := by simpa using hform
    rw [hform] at Hf
    have Hn := Lib.hid (openB_no bs ls hform)
    have Hn2 : Hid (strOfNums (openB bs ls) = ⟨#[]⟩) := by show _ = _; rw [Hn.out]; rfl
    obtain ⟨a, cap, rfl, _, _, _⟩ := hv
    obtain ⟨pa, pcap, rfl, _, _, _⟩ := hp
    clear hup hub hlb hform hmk
    rw [Hn2.out]
    go_enter Tryz.func110, Tryz.ntmps110
    go_wp2_with fail
    with_reducible refine Calls.mono Hf.out ?_
    rintro e w0 ⟨rfl, rfl⟩
    go_wp2
    go_ret
    exact ⟨rfl, Up.refl _⟩
end
end

section
set_option maxRecDepth 100000
/-
  Sign.
-/
section
set_option linter.unusedVariables false
open Go.RowKit

def signEnd (zs : List Int) (leaf : Int) (ds : List Int) (i : Nat) : List Int := chainB (secretB zs leaf i) (stepsN (ds[i]?.getD 0))
theorem signEnd_8 (zs : List Int) (leaf : Int) (ds : List Int) (i : Nat) : (signEnd zs leaf ds i).length = 8 := chainB_length _ (secretB_length _ _ _) _
theorem signEnd_u8s (zs : List Int) (leaf : Int) (ds : List Int) (i : Nat) : U8s (signEnd zs leaf ds i) := chainB_u8s _ (secretB_u8s _ _ _) _
theorem signB_eq (zs : List Int) (leaf : Int) (text : List Int) : upTo (signEnd zs leaf (partsB text)) 11 = signB zs leaf text := rfl

end
end
end Go.Proofs.YtfenmhddlojahaaGreat
