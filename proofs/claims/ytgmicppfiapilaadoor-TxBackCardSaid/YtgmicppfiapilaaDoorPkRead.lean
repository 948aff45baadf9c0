import Derived.Test.YtgmicppfiapilaaDoorPkReader
/-
  pack: the reader's Num and Text.
-/
namespace Go.Proofs.YtgmicppfiapilaaDoor
set_option maxRecDepth 100000
section
set_option linter.unusedVariables false
open Go.RowKit

/-- what is read of octets without error: the value, the error, what is left -/
def gNum (zs : List Int) (most : Int) : Int × Int × List Int :=
  if zs.length < 6 then (0, 8, []) else if most < getB (zs.take 6) ∨ 1099511627776 < getB (zs.take 6) then (0, 4, []) else (getB (zs.take 6), 0, zs.drop 6)
def gText (zs : List Int) (most : Int) : List Int × Int × List Int :=
  if zs.length < 2 then ([], 8, []) else if most < getB (zs.take 2) ∨ 4096 < getB (zs.take 2) then ([], 5, []) else
    if (zs.length : Int) < 2 + getB (zs.take 2) then ([], 8, []) else ((zs.drop 2).take (getB (zs.take 2)).toNat, 0, (zs.drop 2).drop (getB (zs.take 2)).toNat)
/-- what a read makes of the reader -/
def Reads (g : Nat) (l : Value) (w : World) (E : Int) (zs : List Int) (w' : World) : Prop := ∃ l', Rd w' g l' E zs ∧ w.grownBy w' (some g) ∧ ∀ k, l'.ownBlock = some k → l.ownBlock = some k
theorem nil_off (l : Value) : ∀ k, (Value.slice none 0 0).ownBlock = some k → l.ownBlock = some k := fun k e => by simp [Value.ownBlock] at e

set_option maxHeartbeats 2000000 in
theorem rnum_ok (g : Nat) (l : Value) (zs : List Int) (most : Int) (w : World) (h : Rd w g l 0 zs) (hu : U8s zs) (hm : -9223372036854775808 ≤ most ∧ most ≤ 9223372036854775807) :
    Calls Tryd.prog 26 #[.pointer (some ⟨g, 0, none⟩), .int .i64 most] w fun e w' => e = .returned (.int .i64 (gNum zs most).1) ∧ Reads g l w (gNum zs most).2.1 (gNum zs most).2.2 w' := by
  by_cases h6 : zs.length < 6
  · rw [show gNum zs most = (0, 8, []) from if_pos h6]
    have Ht := Lib.hid (rtake_short g l 6 zs w h (by omega))
    clear h h6
    go_enter Tryd.func26, Tryd.ntmps26
    go_wp2_with fail
    with_reducible refine Calls.mono Ht.out ?_
    rintro e w1 ⟨rfl, h1, h2⟩
    have H1 := Lib.hid (show Reads g l w 8 [] w1 from ⟨_, h1, h2, nil_off l⟩)
    clear h1 h2
    go_wp2
    go_ret
    exact ⟨rfl, H1.out⟩
  · have Ht := Lib.hid (rtake_ok g l 6 zs w h (by omega))
    have Hget : Hid (∀ (t : Value) (wx : World), Ints .u8 wx t (zs.take 6) → Calls Tryd.prog 50 #[t] wx fun e w' => e = .returned (.int .i64 (getB (zs.take 6))) ∧ wx = w') := Lib.hid fun t wx hi => get_any t _ wx hi (hu.take 6) (by rw [List.length_take]; omega)
    have hr := getB_range (zs.take 6)
    unfold gNum
    rw [if_neg h6]
    generalize getB (zs.take 6) = n at *
    generalize zs.take 6 = fl at *
    clear h h6 hu
    by_cases hn : most < n ∨ 1099511627776 < n
    · rw [if_pos hn]
      by_cases hmm : most ≤ 1099511627776
      · have h1 : most < n := by omega
        clear hn
        go_enter Tryd.func26, Tryd.ntmps26
        go_wp2_with fail
        with_reducible refine Calls.mono Ht.out ?_
        rintro e w1 ⟨t, l', rfl, h1, h2, h3, h4⟩
        have HI := Lib.hid h1
        obtain ⟨ta, tc, rfl, _, _, _⟩ := h1
        have Hf := Lib.hid (rfail_first g l' 4 _ w1 h2)
        have H3 := Lib.hid h3
        clear h2 h3 h4
        go_wp2_with fail
        with_reducible refine Calls.mono (Hget.out _ _ HI.out) ?_
        rintro e w2 ⟨rfl, rfl⟩
        go_wp2_with fail
        with_reducible refine Calls.mono Hf.out ?_
        rintro e w3 ⟨rfl, h5, h6⟩
        have H5 := Lib.hid (show Reads g l w 4 [] w3 from ⟨_, h5, grownBy_trans H3.out h6, nil_off l⟩)
        clear h5 h6
        go_wp2
        go_ret
        exact ⟨rfl, H5.out⟩
      · have h1 : 1099511627776 < n := by omega
        clear hn
        go_enter Tryd.func26, Tryd.ntmps26
        go_wp2_with fail
        with_reducible refine Calls.mono Ht.out ?_
        rintro e w1 ⟨t, l', rfl, h1, h2, h3, h4⟩
        have HI := Lib.hid h1
        obtain ⟨ta, tc, rfl, _, _, _⟩ := h1
        have Hf := Lib.hid (rfail_first g l' 4 _ w1 h2)
        have H3 := Lib.hid h3
        clear h2 h3 h4
        go_wp2_with fail
        with_reducible refine Calls.mono (Hget.out _ _ HI.out) ?_
        rintro e w2 ⟨rfl, rfl⟩
        go_wp2_with fail
        with_reducible refine Calls.mono Hf.out ?_
        rintro e w3 ⟨rfl, h5, h6⟩
        have H5 := Lib.hid (show Reads g l w 4 [] w3 from ⟨_, h5, grownBy_trans H3.out h6, nil_off l⟩)
        clear h5 h6
        go_wp2
        go_ret
        exact ⟨rfl, H5.out⟩
    · rw [if_neg hn]
      have hn1 : n ≤ most := by omega
      have hn2 : n ≤ 1099511627776 := by omega
      clear hn
      by_cases hmm : most ≤ 1099511627776
      · go_enter Tryd.func26, Tryd.ntmps26
        go_wp2_with fail
        with_reducible refine Calls.mono Ht.out ?_
        rintro e w1 ⟨t, l', rfl, h1, h2, h3, h4⟩
        have HI := Lib.hid h1
        obtain ⟨ta, tc, rfl, _, _, _⟩ := h1
        have H5 := Lib.hid (show Reads g l w 0 (zs.drop 6) w1 from ⟨_, h2, h3, h4⟩)
        clear h2 h3 h4
        go_wp2_with fail
        with_reducible refine Calls.mono (Hget.out _ _ HI.out) ?_
        rintro e w2 ⟨rfl, rfl⟩
        go_wp2
        go_ret
        exact ⟨rfl, H5.out⟩
      · go_enter Tryd.func26, Tryd.ntmps26
        go_wp2_with fail
        with_reducible refine Calls.mono Ht.out ?_
        rintro e w1 ⟨t, l', rfl, h1, h2, h3, h4⟩
        have HI := Lib.hid h1
        obtain ⟨ta, tc, rfl, _, _, _⟩ := h1
        have H5 := Lib.hid (show Reads g l w 0 (zs.drop 6) w1 from ⟨_, h2, h3, h4⟩)
        clear h2 h3 h4
        go_wp2_with fail
        with_reducible refine Calls.mono (Hget.out _ _ HI.out) ?_
        rintro e w2 ⟨rfl, rfl⟩
        go_wp2
        go_ret
        exact ⟨rfl, H5.out⟩

set_option maxHeartbeats 2000000 in
theorem rtext_ok (g : Nat) (l : Value) (zs : List Int) (most : Int) (w : World) (h : Rd w g l 0 zs) (hu : U8s zs) (hm : -9223372036854775808 ≤ most ∧ most ≤ 9223372036854775807) :
    Calls Tryd.prog 25 #[.pointer (some ⟨g, 0, none⟩), .int .i64 most] w fun e w' => e = .returned (.string (strOfNums (gText zs most).1)) ∧ Reads g l w (gText zs most).2.1 (gText zs most).2.2 w' := by
  by_cases h6 : zs.length < 2
  · rw [show gText zs most = ([], 8, []) from if_pos h6]
    have Ht := Lib.hid (rtake_short g l 2 zs w h (by omega))
    clear h h6
    rw [show strOfNums [] = ⟨#[]⟩ from rfl]
    go_enter Tryd.func25, Tryd.ntmps25
    go_wp2_with fail
    with_reducible refine Calls.mono Ht.out ?_
    rintro e w1 ⟨rfl, h1, h2⟩
    have H1 := Lib.hid (show Reads g l w 8 [] w1 from ⟨_, h1, h2, nil_off l⟩)
    clear h1 h2
    go_wp2
    go_ret
    exact ⟨rfl, H1.out⟩
  · have Ht := Lib.hid (rtake_ok g l 2 zs w h (by omega))
    have Hget : Hid (∀ (t : Value) (wx : World), Ints .u8 wx t (zs.take 2) → Calls Tryd.prog 50 #[t] wx fun e w' => e = .returned (.int .i64 (getB (zs.take 2))) ∧ wx = w') := Lib.hid fun t wx hi => get_any t _ wx hi (hu.take 2) (by rw [List.length_take]; omega)
    have hr := getB_range (zs.take 2)
    have hzd : (zs.drop 2).length = zs.length - 2 := by rw [List.length_drop]
    unfold gText
    rw [if_neg h6]
    generalize getB (zs.take 2) = n at *
    generalize zs.take 2 = fl at *
    generalize zs.drop 2 = rest at *
    clear h hu
    by_cases hn : most < n ∨ 4096 < n
    · rw [if_pos hn, show strOfNums ([], (5 : Int), ([] : List Int)).1 = ⟨#[]⟩ from rfl]
      by_cases hmm : most ≤ 4096
      · have h1 : most < n := by omega
        clear hn hzd h6
        go_enter Tryd.func25, Tryd.ntmps25
        go_wp2_with fail
        with_reducible refine Calls.mono Ht.out ?_
        rintro e w1 ⟨t, l', rfl, h1, h2, h3, h4⟩
        have HI := Lib.hid h1
        obtain ⟨ta, tc, rfl, _, _, _⟩ := h1
        have Hf := Lib.hid (rfail_first g l' 5 _ w1 h2)
        have H3 := Lib.hid h3
        clear h2 h3 h4
        go_wp2_with fail
        with_reducible refine Calls.mono (Hget.out _ _ HI.out) ?_
        rintro e w2 ⟨rfl, rfl⟩
        go_wp2_with fail
        with_reducible refine Calls.mono Hf.out ?_
        rintro e w3 ⟨rfl, h5, h6⟩
        have H5 := Lib.hid (show Reads g l w 5 [] w3 from ⟨_, h5, grownBy_trans H3.out h6, nil_off l⟩)
        clear h5 h6
        go_wp2
        go_ret
        exact ⟨rfl, H5.out⟩
      · have h1 : 4096 < n := by omega
        clear hn hzd h6
        go_enter Tryd.func25, Tryd.ntmps25
        go_wp2_with fail
        with_reducible refine Calls.mono Ht.out ?_
        rintro e w1 ⟨t, l', rfl, h1, h2, h3, h4⟩
        have HI := Lib.hid h1
        obtain ⟨ta, tc, rfl, _, _, _⟩ := h1
        have Hf := Lib.hid (rfail_first g l' 5 _ w1 h2)
        have H3 := Lib.hid h3
        clear h2 h3 h4
        go_wp2_with fail
        with_reducible refine Calls.mono (Hget.out _ _ HI.out) ?_
        rintro e w2 ⟨rfl, rfl⟩
        go_wp2_with fail
        with_reducible refine Calls.mono Hf.out ?_
        rintro e w3 ⟨rfl, h5, h6⟩
        have H5 := Lib.hid (show Reads g l w 5 [] w3 from ⟨_, h5, grownBy_trans H3.out h6, nil_off l⟩)
        clear h5 h6
        go_wp2
        go_ret
        exact ⟨rfl, H5.out⟩
    · rw [if_neg hn]
      have hn1 : n ≤ most := by omega
      have hn2 : n ≤ 4096 := by omega
      clear hn
      obtain ⟨x, rfl⟩ : ∃ x : Nat, n = x := ⟨n.toNat, by omega⟩
      by_cases hs : (zs.length : Int) < 2 + (x : Int)
      · rw [if_pos hs, show strOfNums ([], (8 : Int), ([] : List Int)).1 = ⟨#[]⟩ from rfl]
        have hlt : (rest.length : Int) < (x : Int) := by omega
        clear hs hzd h6
        by_cases hmm : most ≤ 4096
        · go_enter Tryd.func25, Tryd.ntmps25
          go_wp2_with fail
          with_reducible refine Calls.mono Ht.out ?_
          rintro e w1 ⟨t, l', rfl, h1, h2, h3, h4⟩
          have HI := Lib.hid h1
          obtain ⟨ta, tc, rfl, _, _, _⟩ := h1
          have Ht2 := Lib.hid (rtake_short g l' (x : Int) rest w1 h2 hlt)
          have H3 := Lib.hid h3
          have H4 := Lib.hid h4
          clear h2 h3 h4
          go_wp2_with fail
          with_reducible refine Calls.mono (Hget.out _ _ HI.out) ?_
          rintro e w2 ⟨rfl, rfl⟩
          go_wp2_with fail
          with_reducible refine Calls.mono Ht2.out ?_
          rintro e w3 ⟨rfl, h5, h6⟩
          have H5 := Lib.hid (show Reads g l w 8 [] w3 from ⟨_, h5, grownBy_trans H3.out h6, nil_off l⟩)
          have hstr := (Ints.empty (k := .u8) (W := w3) (a := none) (cap := 0) (fun _ => rfl)).str
          rw [show strOfNums [] = ⟨#[]⟩ from rfl] at hstr
          clear h5 h6
          go_wp2
          go_ret
          exact ⟨rfl, H5.out⟩
        · go_enter Tryd.func25, Tryd.ntmps25
          go_wp2_with fail
          with_reducible refine Calls.mono Ht.out ?_
          rintro e w1 ⟨t, l', rfl, h1, h2, h3, h4⟩
          have HI := Lib.hid h1
          obtain ⟨ta, tc, rfl, _, _, _⟩ := h1
          have Ht2 := Lib.hid (rtake_short g l' (x : Int) rest w1 h2 hlt)
          have H3 := Lib.hid h3
          have H4 := Lib.hid h4
          clear h2 h3 h4
          go_wp2_with fail
          with_reducible refine Calls.mono (Hget.out _ _ HI.out) ?_
          rintro e w2 ⟨rfl, rfl⟩
          go_wp2_with fail
          with_reducible refine Calls.mono Ht2.out ?_
          rintro e w3 ⟨rfl, h5, h6⟩
          have H5 := Lib.hid (show Reads g l w 8 [] w3 from ⟨_, h5, grownBy_trans H3.out h6, nil_off l⟩)
          have hstr := (Ints.empty (k := .u8) (W := w3) (a := none) (cap := 0) (fun _ => rfl)).str
          rw [show strOfNums [] = ⟨#[]⟩ from rfl] at hstr
          clear h5 h6
          go_wp2
          go_ret
          exact ⟨rfl, H5.out⟩
      · rw [if_neg hs]
        have hlt : x ≤ rest.length := by omega
        simp only [Int.toNat_natCast]
        clear hs hzd h6
        by_cases hmm : most ≤ 4096
        · go_enter Tryd.func25, Tryd.ntmps25
          go_wp2_with fail
          with_reducible refine Calls.mono Ht.out ?_
          rintro e w1 ⟨t, l', rfl, h1, h2, h3, h4⟩
          have HI := Lib.hid h1
          obtain ⟨ta, tc, rfl, _, _, _⟩ := h1
          have Ht2 := Lib.hid (rtake_ok g l' x rest w1 h2 hlt)
          have H3 := Lib.hid h3
          have H4 := Lib.hid h4
          clear h2 h3 h4
          go_wp2_with fail
          with_reducible refine Calls.mono (Hget.out _ _ HI.out) ?_
          rintro e w2 ⟨rfl, rfl⟩
          go_wp2_with fail
          with_reducible refine Calls.mono Ht2.out ?_
          rintro e w3 ⟨t3, l3, rfl, h5, h6, h7, h8⟩
          have H5 := Lib.hid (show Reads g l w 0 (rest.drop x) w3 from ⟨_, h6, grownBy_trans H3.out h7, fun k e => H4.out k (h8 k e)⟩)
          have hstr := h5.str
          obtain ⟨t3a, t3c, rfl, _, _, _⟩ := h5
          generalize (rest.take x).length = tn at *
          clear h6 h7 h8
          go_wp2
          go_ret
          exact ⟨rfl, H5.out⟩
        · go_enter Tryd.func25, Tryd.ntmps25
          go_wp2_with fail
          with_reducible refine Calls.mono Ht.out ?_
          rintro e w1 ⟨t, l', rfl, h1, h2, h3, h4⟩
          have HI := Lib.hid h1
          obtain ⟨ta, tc, rfl, _, _, _⟩ := h1
          have Ht2 := Lib.hid (rtake_ok g l' x rest w1 h2 hlt)
          have H3 := Lib.hid h3
          have H4 := Lib.hid h4
          clear h2 h3 h4
          go_wp2_with fail
          with_reducible refine Calls.mono (Hget.out _ _ HI.out) ?_
          rintro e w2 ⟨rfl, rfl⟩
          go_wp2_with fail
          with_reducible refine Calls.mono Ht2.out ?_
          rintro e w3 ⟨t3, l3, rfl, h5, h6, h7, h8⟩
          have H5 := Lib.hid (show Reads g l w 0 (rest.drop x) w3 from ⟨_, h6, grownBy_trans H3.out h7, fun k e => H4.out k (h8 k e)⟩)
          have hstr := h5.str
          obtain ⟨t3a, t3c, rfl, _, _, _⟩ := h5
          generalize (rest.take x).length = tn at *
          clear h6 h7 h8
          go_wp2
          go_ret
          exact ⟨rfl, H5.out⟩
/-- a read of whatever reader -/
def rdNum (E : Int) (zs : List Int) (most : Int) : Int × Int × List Int := if E = 0 then gNum zs most else (0, E, zs)
def rdText (E : Int) (zs : List Int) (most : Int) : List Int × Int × List Int := if E = 0 then gText zs most else ([], E, zs)
theorem grown_self (w : World) (g : Nat) : w.grownBy w (some g) := ⟨rfl, rfl, rfl, Nat.le_refl _, fun _ _ _ => rfl⟩
theorem rnum_any (g : Nat) (l : Value) (E : Int) (zs : List Int) (most : Int) (w : World) (h : Rd w g l E zs) (hu : U8s zs) (hm : -9223372036854775808 ≤ most ∧ most ≤ 9223372036854775807) :
    Calls Tryd.prog 26 #[.pointer (some ⟨g, 0, none⟩), .int .i64 most] w fun e w' => e = .returned (.int .i64 (rdNum E zs most).1) ∧ Reads g l w (rdNum E zs most).2.1 (rdNum E zs most).2.2 w' := by
  by_cases hE : E = 0
  · subst hE; exact rnum_ok g l zs most w h hu hm
  · rw [show rdNum E zs most = (0, E, zs) from if_neg hE]
    exact (rnum_bad _ ⟨_, rfl⟩ E most w hE (rerr_any g l E w h.1)).mono fun e w' ⟨h1, h2⟩ => ⟨h1, l, by rw [← h2]; exact h, by rw [← h2]; exact grown_self w g, fun _ e => e⟩
theorem rtext_any (g : Nat) (l : Value) (E : Int) (zs : List Int) (most : Int) (w : World) (h : Rd w g l E zs) (hu : U8s zs) (hm : -9223372036854775808 ≤ most ∧ most ≤ 9223372036854775807) :
    Calls Tryd.prog 25 #[.pointer (some ⟨g, 0, none⟩), .int .i64 most] w fun e w' => e = .returned (.string (strOfNums (rdText E zs most).1)) ∧ Reads g l w (rdText E zs most).2.1 (rdText E zs most).2.2 w' := by
  by_cases hE : E = 0
  · subst hE; exact rtext_ok g l zs most w h hu hm
  · rw [show rdText E zs most = ([], E, zs) from if_neg hE]
    exact (rtext_bad _ ⟨_, rfl⟩ E most w hE (rerr_any g l E w h.1)).mono fun e w' ⟨h1, h2⟩ => ⟨h1, l, by rw [← h2]; exact h, by rw [← h2]; exact grown_self w g, fun _ e => e⟩
theorem rdNum_inv (E : Int) (zs : List Int) (most : Int) (h0 : E ≠ 0 → zs = []) (hu : U8s zs) : ((rdNum E zs most).2.1 ≠ 0 → (rdNum E zs most).2.2 = []) ∧ U8s (rdNum E zs most).2.2 ∧ (rdNum E zs most).2.2.length ≤ zs.length := by
  have hn : U8s ([] : List Int) := fun j hj => by simp at hj
  unfold rdNum gNum
  split
  · split
    · exact ⟨fun _ => rfl, hn, Nat.zero_le _⟩
    · split
      · exact ⟨fun _ => rfl, hn, Nat.zero_le _⟩
      · exact ⟨fun h => absurd rfl h, hu.drop 6, by simp⟩
  · exact ⟨h0, hu, Nat.le_refl _⟩
theorem rdText_inv (E : Int) (zs : List Int) (most : Int) (h0 : E ≠ 0 → zs = []) (hu : U8s zs) : ((rdText E zs most).2.1 ≠ 0 → (rdText E zs most).2.2 = []) ∧ U8s (rdText E zs most).2.2 ∧ (rdText E zs most).2.2.length ≤ zs.length := by
  have hn : U8s ([] : List Int) := fun j hj => by simp at hj
  unfold rdText gText
  split
  · split
    · exact ⟨fun _ => rfl, hn, Nat.zero_le _⟩
    · split
      · exact ⟨fun _ => rfl, hn, Nat.zero_le _⟩
      · split
        · exact ⟨fun _ => rfl, hn, Nat.zero_le _⟩
        · exact ⟨fun h => absurd rfl h, (hu.drop 2).drop _, by simp only [List.length_drop]; omega⟩
  · exact ⟨h0, hu, Nat.le_refl _⟩
end
end Go.Proofs.YtgmicppfiapilaaDoor
