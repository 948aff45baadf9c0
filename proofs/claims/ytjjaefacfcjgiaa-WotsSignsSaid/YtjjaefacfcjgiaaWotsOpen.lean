import Derived.Test.YtjjaefacfcjgiaaWotsSign
/-
  Open.
-/
namespace Go.Proofs.Ytjjaefacfcjgiaa
set_option linter.unusedVariables false
open Go.RowKit

def openEnd (ls : List (List Int)) (ds : List Int) (i : Nat) : List Int := chainB (ls[i]?.getD []) (stepsN (3 - ds[i]?.getD 0))
theorem openB_no (text : List Int) (ls : List (List Int)) (h : formedB ls = false) : openB text ls = [] := by simp [openB, h]
theorem openB_yes (text : List Int) (ls : List (List Int)) (h : formedB ls = true) : shortB (upTo (openEnd ls (partsB text)) 11).flatten = openB text ls := by unfold openB; rw [if_pos h]; rfl
theorem formed_len {ls : List (List Int)} (h : formedB ls = true) : ls.length = 11 := by
  unfold formedB at h
  simp only [Bool.and_eq_true, beq_iff_eq] at h
  exact h.1
theorem formed_at {ls : List (List Int)} (h : formedB ls = true) (k : Nat) (hk : k < ls.length) : (ls[k]?.getD []).length = 8 := by
  unfold formedB at h
  simp only [Bool.and_eq_true, List.all_eq_true, beq_iff_eq] at h
  simp only [List.getElem?_eq_getElem hk, Option.getD_some]
  exact h.2 _ (List.getElem_mem hk)

set_option maxHeartbeats 1000000 in
theorem open_any (v : Value) (bs : List Int) (pv : Value) (ls : List (List Int)) (w : World) (hv : Ints .u8 w v bs) (hub : U8s bs) (hlb : bs.length ≤ 140737488355328) (hp : Strs w pv ls) (hup : ∀ k : Nat, U8s (ls[k]?.getD [])) (hlp : ls.length ≤ 9223372036854775807) :
    Calls Try.prog 21 #[v, pv] w fun e w' => e = .returned (.string (strOfNums (openB bs ls))) ∧ Up w w' := by
  obtain ⟨i0, hi, hz0, hz1, hz2⟩ := info_parts info_strg
  have hmk := make_strs 11 11 rfl (by omega)
  have Hf := Lib.hid (formed_any pv ls w hp hlp)
  by_cases hform : formedB ls = true
  · have Hpa : Hid (∀ wx, Up w wx → Calls Try.prog 9 #[v] wx fun e w' => ∃ r, e = .returned r ∧ w'.ownsRow wx.heap.size 3 1 r 11 ((partsB bs).map (Value.int .i64)) ∧ Up wx w') := fun wx hux => parts_any v bs wx (hv.up hux) hub hlb
    have h11 := formed_len hform
    have hL8 : ∀ k : Nat, k < 11 → (ls[k]?.getD []).length = 8 := fun k hk => formed_at hform k (by omega)
    have HL8 := Lib.hid hL8
    have Hup := Lib.hid hup
    have Hpl := Lib.hid (partsB_length bs)
    have Hpr := Lib.hid (partsB_range bs)
    have Hend : Hid (∀ k : Nat, chainB (ls[k]?.getD []) (stepsN (3 - (partsB bs)[k]?.getD 0)) = openEnd ls (partsB bs) k) := fun k => rfl
    have H8 : Hid ((upTo (openEnd ls (partsB bs)) 11).flatten.length = 88) := upTo_flat _ 11 fun i hi => chainB_length _ (hL8 i hi) _
    have H8u : Hid (U8s (upTo (openEnd ls (partsB bs)) 11).flatten) := upTo_u8s _ 11 fun i _ => chainB_u8s _ (hup i) _
    have HY := Lib.hid (openB_yes bs ls hform)
    obtain ⟨a, cap, rfl, _, _, _⟩ := hv
    have Hp := Lib.hid hp
    have hp2 := hp
    obtain ⟨pa, pcap, rfl, hpcap, _, hpc⟩ := hp2
    rcases hpc with rfl | ⟨pb, po, rfl, _⟩
    · simp at h11
    rw [hform] at Hf
    generalize openB bs ls = Y at HY ⊢
    have H11 := Lib.hid h11
    clear hup hub hlb hL8 hform hp hlp
    generalize openEnd ls (partsB bs) = E at Hend H8 H8u HY
    generalize partsB bs = D at Hpa Hend Hpl Hpr
    rw [h11] at Hf Hp hpcap ⊢
    clear h11
    go_enter Try.func21, Try.ntmps21
    go_wp2_with fail
    with_reducible refine Calls.mono Hf.out ?_
    rintro e w0 ⟨rfl, rfl⟩
    clear Hf
    go_wp2_with fail
    clear hmk
    have r0 := World.ownsRow_made (base := w.heap.size) (e := 9) (size := 1) w (madeCells #[.string ⟨#[]⟩] 11) 11 (Nat.le_refl _) (by unfold maxLen; omega) (by first | (rw [size_madeCells]; done) | (rw [size_madeCells]; omega))
    have hB0 : Up w (w.alloc (.cells (madeCells #[Value.string ⟨#[]⟩] 11) 9)) := Up.alloc (Up.refl w) _
    with_reducible refine Calls.mono (Hpa.out _ hB0) ?_
    rintro e w1 ⟨r1, rfl, hr1, hU1⟩
    have r1 := ownsRow_up r0 hU1
    have hB1 := Up.trans hB0 hU1
    obtain ⟨g1, c1, rfl, hc1⟩ := row_slice hr1 (by omega)
    have hI1 := Ints.of_row hr1
    have hg1 : w.heap.size < g1 := by have := hr1.2; rcases this with ⟨h, _⟩ | ⟨g, _, _, h, hg, _⟩; · simp at h
                                      · simp only [Value.slice.injEq, Option.some.injEq, Addr.mk.injEq, and_true] at h; simp at hg; omega
    clear hr1 r0 hB0 hU1
    go_wp2
    go_loopw [5, 15] (fun o i wr => ∃ k : Nat, k ≤ 11 ∧ i = .int .i64 k ∧ o = .slice (some ⟨w.heap.size, 0, none⟩) k 11 ∧ wr.ownsRow w.heap.size 9 1 (.slice (some ⟨w.heap.size, 0, none⟩) k 11) k (strVs (upTo E k)) ∧ Up w wr ∧ Ints .i64 wr (.slice (some ⟨g1, 0, none⟩) 11 c1) D)
      (fun _ i _ => 11 - (intOf i).toNat)
    case atStart => exact ⟨0, Nat.zero_le _, rfl, rfl, r1, hB1, hI1⟩
    case round =>
      obtain ⟨k, hk, rfl, rfl, hrow, hB, hID⟩ := hrel
      clear r1 hB1 hI1
      by_cases hlt : k < 11
      · have hs := upTo_succ E k
        have Hs := Lib.hid hs
        have Hrow := Lib.hid hrow
        have hck := hID.at0 k (by rw [Hpl.out]; exact hlt)
        have hcp : wr.cell? ⟨pb, po + k, none⟩ = some (.string (strOfNums (ls[k]?.getD []))) := by
          obtain ⟨_, _, he, _, _, hc⟩ := Hp.out.up hB
          simp only [Value.slice.injEq] at he
          obtain ⟨rfl, _, _⟩ := he
          rcases hc with hc | ⟨b, off, he, hc⟩
          · have := H11.out; rw [hc] at this; simp at this
          · simp only [Option.some.injEq, Addr.mk.injEq, and_true] at he
            obtain ⟨rfl, rfl⟩ := he
            exact hc k (by rw [H11.out]; exact hlt)
        have HID := Lib.hid hID
        have hend := Hend.out k
        have hdr := Hpr.out k
        have hp8 := HL8.out k hlt
        have hpu := Hup.out k
        generalize D[k]?.getD 0 = d at hck hend hdr
        generalize ls[k]?.getD [] = p at hcp hend hp8 hpu
        have Hd := Lib.hid hend
        have Hpu := Lib.hid hpu
        have Hp8 := Lib.hid hp8
        clear hs hrow hend hID hpu hp8
        go_wp2_with fail
        have Hch := Lib.hid (chain_any p (3 - d) wr Hpu.out (by rw [Hp8.out]; omega))
        rw [Hd.out] at Hch
        clear hck hcp
        with_reducible refine Calls.mono Hch.out ?_
        rintro e w3 ⟨rfl, hU3⟩
        have hB3 := Up.trans hB hU3
        have hrow := ownsRow_up Hrow.out hU3
        have HID3 := Lib.hid (HID.out.up hU3)
        clear Hch hU3
        generalize E k = X at Hs ⊢
        go_wp2_with (at_builtin; refine wpList_append_fits_any _ rfl (.tmp 20) (.tmp 28) 30 rfl w.heap.size 9 i0 1 Try.underlying30 hi hz1 w.heap.size k 11 _ rfl (hrow.alloc _) (some ⟨w3.heap.size, 0, none⟩) 1 1 [.string (strOfNums X)] rfl (by simp) (by simp) (fun ad had => by cases had; exact cell_one_new _ _ _) (by simp [Value.oneCell']) (by omega) ?_; intro w4 hown' hgrow)
        go_roundw
        case rel => exact ⟨k + 1, by omega, by go_num, rfl, by rw [Hs.out, strVs_snoc]; exact hown', (Up.alloc hB3 _).grown hgrow (by have := hB3.size; simp; omega) (fun q e => by cases e; exact Nat.le_refl _), (HID3.out.alloc _).grownBy hgrow (by omega)⟩
        case measure => simp [intOf]; omega
      · obtain rfl : k = 11 := by omega
        have Hj := Lib.hid (joined_any _ _ wr (Strs.of_row hrow) H8u.out (by rw [upTo_length]; omega) (by rw [upTo_length]; omega) (by rw [H8.out]; omega))
        rw [HY.out] at Hj
        clear hrow hID
        go_wp2_with fail
        with_reducible refine Calls.mono Hj.out ?_
        rintro e w2 ⟨rfl, hU2⟩
        have hB2 := Up.trans hB hU2
        go_wp2
        go_ret
        exact ⟨rfl, hB2⟩
  · have hform : formedB ls = false := by simpa using hform
    rw [hform] at Hf
    have Hn := Lib.hid (openB_no bs ls hform)
    have Hn2 : Hid (strOfNums (openB bs ls) = ⟨#[]⟩) := by show _ = _; rw [Hn.out]; rfl
    obtain ⟨a, cap, rfl, _, _, _⟩ := hv
    obtain ⟨pa, pcap, rfl, _, _, _⟩ := hp
    clear hup hub hlb hform hmk
    rw [Hn2.out]
    go_enter Try.func21, Try.ntmps21
    go_wp2_with fail
    with_reducible refine Calls.mono Hf.out ?_
    rintro e w0 ⟨rfl, rfl⟩
    go_wp2
    go_ret
    exact ⟨rfl, Up.refl _⟩
end Go.Proofs.Ytjjaefacfcjgiaa
