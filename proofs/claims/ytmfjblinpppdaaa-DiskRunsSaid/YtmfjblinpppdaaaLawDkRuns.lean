import Derived.IntWalk
import Derived.Deep.CutRange
import Derived.Test.YtmfjblinpppdaaaDkAlive
import Derived.Test.YtmfjblinpppdaaaDkOps
/-
  DiskRuns: the walk.
-/
namespace Go.Proofs.Ytmfjblinpppdaaa
set_option maxRecDepth 100000
section
set_option linter.unusedVariables false
open Go.RowKit

theorem fit_yes {a b c s : Nat} (h : a + b ≤ c) (hs : a = s) : ¬ ((c : Int) < s + b) := by omega
theorem fit_no {a b c s : Nat} (h : ¬ a + b ≤ c) (hs : a = s) : (c : Int) < s + b ∧ c < a + b := by omega
theorem tmod_range (x : Int) (m : Nat) (hm : 0 < m) : -(m : Int) < x.tmod m ∧ x.tmod m < m := by
  have h := Int.natAbs_tmod x m
  have h2 : x.natAbs % (m : Int).natAbs < m := by rw [Int.natAbs_natCast]; exact Nat.mod_lt _ hm
  omega
/-- what is left of a number, from 0 on -/
theorem dkMod (x : Int) (m : Nat) (hm : 0 < m) (hb : m ≤ 1000) : ∃ A B : Int, wrap64 (x.tmod m + m) = A ∧ A.tmod m = B ∧ 0 ≤ B ∧ B < m := by
  have h := tmod_range x m hm
  refine ⟨x.tmod m + m, (x.tmod m + m).tmod m, ?_, rfl, ?_, ?_⟩
  · exact IntWalk.wrap64_in _ (by omega)
  · exact Int.tmod_nonneg _ (by omega)
  · exact Int.tmod_lt_of_pos _ (by omega)
theorem dkMod4 (x : Int) : ∃ A B : Int, wrap64 (x.tmod 4 + 4) = A ∧ A.tmod 4 = B ∧ 0 ≤ B ∧ B < 4 := dkMod x 4 (by decide) (by decide)
theorem dkMod40 (x : Int) : ∃ A B : Int, wrap64 (x.tmod 40 + 40) = A ∧ A.tmod 40 = B ∧ 0 ≤ B ∧ B < 40 := dkMod x 40 (by decide) (by decide)
theorem Dk.keeps {W W' : World} {g : Nat} {o o' : Value} {k : Nat} {X : Obj} (hs : WrStep g o o' W W') (hk : W.heap[k]? = some X) (hg : k ≠ g) (ho : o.ownBlock ≠ some k) : W'.heap[k]? = some X :=
  (hs.1.block k (Array.getElem?_eq_some_iff.1 hk).1 (fun e => e.elim hg ho)).trans hk
/-- what is asked behind each call -/
theorem dkTail {W : World} {b0 g : Nat} {o : Value} {room fl : Nat} {bs : List Int} (h : Dk W b0 g o room fl bs) :
    (∀ wx, Up W wx → Calls Try.prog 13 #[.pointer (some ⟨g, 0, none⟩)] wx fun e w' => ∃ a n c, e = .returned (.slice a n c) ∧ (convert 26 9 (.slice a n c)).run Try.prog w' = .ok (.string (strOfNums bs)) w' ∧ Up wx w') ∧
    (∀ wx, Up W wx → Calls Try.prog 14 #[.pointer (some ⟨g, 0, none⟩)] wx fun e w' => e = .returned (.int .i64 (((strOfNums bs).size : Int) - fl)) ∧ Up wx w') ∧
    (∀ wx, Up W wx → Calls Try.prog 15 #[.pointer (some ⟨g, 0, none⟩)] wx fun e w' => e = .returned (.int .i64 ((strOfNums bs).size : Int)) ∧ wx = w') := by
  rw [strOfNums_size]
  refine ⟨fun wx hx => (dkRead_any wx (h.up hx)).mono fun e w' ⟨r, h1, h2, h3⟩ => ?_, fun wx hx => dkLoose_any wx (h.up hx), fun wx hx => dkSize_any wx (h.up hx)⟩
  obtain ⟨a1, c1, rfl⟩ := row_shape h2
  exact ⟨_, _, _, h1, (Ints.of_row h2).str, h3⟩

theorem dkTailS {W : World} {b0 g : Nat} {o : Value} {room fl : Nat} {bs : List Int} (h : Dk W b0 g o room fl bs) {S : ByteArray} (hS : strOfNums bs = S) :
    ((fl : Int) ≤ S.size ∧ (S.size : Int) ≤ 262144 ∧ bs.length = S.size) ∧
    Hid (∀ wx, Up W wx → Calls Try.prog 13 #[.pointer (some ⟨g, 0, none⟩)] wx fun e w' => ∃ a n c, e = .returned (.slice a n c) ∧ (convert 26 9 (.slice a n c)).run Try.prog w' = .ok (.string S) w' ∧ Up wx w') ∧
    Hid (∀ wx, Up W wx → Calls Try.prog 14 #[.pointer (some ⟨g, 0, none⟩)] wx fun e w' => e = .returned (.int .i64 ((S.size : Int) - fl)) ∧ Up wx w') ∧
    Hid (∀ wx, Up W wx → Calls Try.prog 15 #[.pointer (some ⟨g, 0, none⟩)] wx fun e w' => e = .returned (.int .i64 (S.size : Int)) ∧ wx = w') := by
  subst hS
  have h1 := h.fl
  have h2 := h.len
  have h3 := h.room
  obtain ⟨q1, q2, q3⟩ := dkTail h
  exact ⟨by rw [strOfNums_size]; omega, Lib.hid q1, Lib.hid q2, Lib.hid q3⟩

set_option maxHeartbeats 4000000 in
theorem lawDkRuns_any (room : Int) (v : Value) (fs : List DkOp) (w : World) (hv : DkOps w v fs) (hf : DkOpsOk fs) (hl : fs.length ≤ 9223372036854775807) (hd : ∀ (k : Nat) (f : DkOp), fs[k]? = some f → f.2.2.length ≤ 140737488351232) :
    Calls Try.prog 3 #[.int .i64 room, v] w fun e w' => e = .returned (.bool true) ∧ Up w w' := by
  have Hal := Lib.hid (dkAlive_any w)
  have Hf := Lib.hid hf
  have Hd := Lib.hid hd
  obtain ⟨a, cap, rfl, hcap, hnil, hcell⟩ := hv
  have Hcell := Lib.hid hcell
  obtain ⟨A, B, m1, m2, mB0, mB1⟩ := dkMod40 room
  obtain ⟨R, mR⟩ : ∃ R : Int, R = B - 1 := ⟨_, rfl⟩
  have m3 : wrap64 (B - 1) = R := by rw [mR]; exact IntWalk.wrap64_in _ (by omega)
  obtain ⟨Rn, hRn⟩ : ∃ n : Nat, n = dkRoom R := ⟨_, rfl⟩
  have HRn : Hid ((Rn : Int) = max R 0 ∧ Rn ≤ 38) := Lib.hid (by rw [hRn]; unfold dkRoom; omega)
  clear hcell hf hnil hd mR mB0 mB1
  go_enter Try.func3, Try.ntmps3
  go_wp2_with fail
  with_reducible refine Calls.mono Hal.out ?_
  rintro e w1 ⟨rfl, u1⟩
  have U1 := Lib.hid u1
  clear u1
  go_wp2_with fail
  have Hn := Lib.hid (dkNew_any R w1)
  with_reducible refine Calls.mono Hn.out ?_
  rintro e w2 ⟨rfl, hw2⟩
  have H2 := Lib.hid (show Dk w2 w.heap.size w1.heap.size (.slice none 0 0) Rn 0 [] by rw [← hw2, hRn]; exact dk_new0 R w1 w.heap.size U1.out.size)
  have U2 := Lib.hid (show Up w w2 by rw [← hw2]; exact Up.alloc U1.out _)
  clear hw2 Hn m1 m2 hRn
  go_wp2
  go_loopw [6, 7, 8] (fun s u i wr => ∃ (k : Nat) (S : ByteArray) (fl : Nat) (o : Value) (bs : List Int), k ≤ fs.length ∧ k ≤ 40 ∧ i = .int .i64 k ∧ s = .string S ∧ u = .int .i64 fl ∧ strOfNums bs = S ∧ Dk wr w.heap.size w1.heap.size o Rn fl bs ∧ Up w wr) (fun _ _ i _ => fs.length - (intOf i).toNat)
  case atStart => exact ⟨0, _, 0, _, [], Nat.zero_le _, by omega, rfl, rfl, rfl, rfl, H2.out, U2.out⟩
  case round =>
    obtain ⟨k, S, fl, o, bs, hk, hk40, rfl, rfl, rfl, hS, hD, hU⟩ := hrel
    have HS := Lib.hid hS
    have HD := Lib.hid hD
    have HU := Lib.hid hU
    clear hS hD hU
    by_cases hgo : k < fs.length ∧ k < 40
    · obtain ⟨hlt, h40⟩ := hgo
      obtain ⟨⟨kd, nn, zs⟩, hfk⟩ : ∃ f, fs[k]? = some f := ⟨fs[k], List.getElem?_eq_getElem hlt⟩
      rcases Hcell.out with rfl | ⟨bb, off, rfl, hc⟩
      · simp at hlt
      obtain ⟨k0, k1, uv, k2, kI⟩ := hc k _ hfk
      obtain ⟨ua, uc, rfl, -, -, -⟩ := id kI
      have Hok := Lib.hid (Hf.out k _ hfk)
      have Hzl := Lib.hid (show zs.length ≤ 140737488351232 from Hd.out k _ hfk)
      have HI := Lib.hid kI
      have c0 : wr.cell? ⟨bb, off + k * 3, none⟩ = some (.int .i64 kd) := later_cellF k0 HU.out
      have c1 : wr.cell? ⟨bb, off + k * 3 + 1, none⟩ = some (.int .i64 nn) := later_cellF k1 HU.out
      have c2 : wr.cell? ⟨bb, off + k * 3 + 2, none⟩ = some (.slice ua zs.length uc) := later_cellF k2 HU.out
      clear k0 k1 k2 kI hc hfk
      have HDB := Lib.hid (HD.out.up (Up.alloc (Up.refl wr) (.cells #[.int .i64 kd, .int .i64 nn, .slice ua zs.length uc] 28)))
      have UB := Lib.hid (Up.alloc HU.out (.cells #[.int .i64 kd, .int .i64 nn, .slice ua zs.length uc] 28))
      have HIB := Lib.hid (HI.out.up UB.out)
      obtain ⟨⟨hf0, hS0, hbl⟩, -, -, -⟩ := dkTailS HD.out HS.out
      have hbR := HD.out.len
      obtain ⟨A4, M, n1, n2, mM0, mM1⟩ := dkMod4 kd
      have hM : M = 0 ∨ M = 1 ∨ M = 2 ∨ M = 3 := by omega
      clear mM0 mM1
      rcases hM with rfl | rfl | rfl | rfl
      · have hcat : S.size + (strOfNums zs).size ≤ 9223372036854775807 := by rw [strOfNums_size]; have := Hzl.out; omega
        have hzl := Hzl.out
        have hmx : max R 0 = (Rn : Int) := HRn.out.1.symm
        by_cases hfit : bs.length + zs.length ≤ Rn
        · have hnot := fit_yes hfit hbl
          have hstr := HIB.out.str
          obtain ⟨T, hT⟩ : ∃ T, S ++ strOfNums zs = T := ⟨_, rfl⟩
          have HS5 : Hid (strOfNums (bs ++ zs) = T) := Lib.hid (by rw [← strOfNums_append, HS.out]; exact hT)
          generalize strOfNums zs = Z at hstr hcat hT
          have Ha := Lib.hid (dkAppend_on _ zs (wr.alloc (.cells #[.int .i64 kd, .int .i64 nn, .slice ua zs.length uc] 28)) HDB.out HIB.out hfit UB.out.size)
          go_upto_region 22 with fail
          go_wp2_with fail
          with_reducible refine Calls.mono Ha.out ?_
          rintro e w5 ⟨rfl, o5, h5, s5⟩
          have UX := Lib.hid (HDB.out.next s5 UB.out)
          have HK := Lib.hid h5
          obtain ⟨⟨hf5, hS5, _⟩, HR, HL, HZ⟩ := dkTailS h5 HS5.out
          clear h5 s5 Ha hbl hcat hstr hnot
          go_wp2_with fail
          with_reducible refine Calls.mono (HR.out _ (Up.refl _)) ?_
          rintro e w7 ⟨a7, n7, c7, rfl, hconv7, u7⟩
          have U7 := Lib.hid u7
          clear u7
          go_wp2_with fail
          with_reducible refine Calls.mono (HL.out _ U7.out) ?_
          rintro e w8 ⟨rfl, u8⟩
          have U8 := Lib.hid (U7.out.trans u8)
          clear u8
          go_wp2_with fail
          with_reducible refine Calls.mono (HZ.out _ U8.out) ?_
          rintro e w9 ⟨rfl, rfl⟩
          have HN := Lib.hid (HK.out.up U8.out)
          have UN := Lib.hid (UX.out.trans U8.out)
          go_wp2
          go_roundw
          case rel => exact ⟨k + 1, _, _, _, _, by omega, by omega, by go_num, rfl, rfl, HS5.out, HN.out, UN.out⟩
          case measure => simp [intOf]; omega
        · have hyes := (fit_no hfit hbl).1
          have Ha := Lib.hid (dkAppend_full _ zs (wr.alloc (.cells #[.int .i64 kd, .int .i64 nn, .slice ua zs.length uc] 28)) HDB.out HIB.out (Nat.le_trans Hzl.out (by decide)) (fit_no hfit hbl).2)
          go_upto_region 22 with fail
          go_wp2_with fail
          with_reducible refine Calls.mono Ha.out ?_
          rintro e w5 ⟨rfl, u5⟩
          have UX := Lib.hid (UB.out.trans u5)
          have HK := Lib.hid (HDB.out.up u5)
          have HS5 := HS
          obtain ⟨⟨hf5, hS5, _⟩, HR, HL, HZ⟩ := dkTailS HK.out HS5.out
          clear u5 Ha hbl hyes
          go_wp2_with fail
          with_reducible refine Calls.mono (HR.out _ (Up.refl _)) ?_
          rintro e w7 ⟨a7, n7, c7, rfl, hconv7, u7⟩
          have U7 := Lib.hid u7
          clear u7
          go_wp2_with fail
          with_reducible refine Calls.mono (HL.out _ U7.out) ?_
          rintro e w8 ⟨rfl, u8⟩
          have U8 := Lib.hid (U7.out.trans u8)
          clear u8
          go_wp2_with fail
          with_reducible refine Calls.mono (HZ.out _ U8.out) ?_
          rintro e w9 ⟨rfl, rfl⟩
          have HN := Lib.hid (HK.out.up U8.out)
          have UN := Lib.hid (UX.out.trans U8.out)
          go_wp2
          go_roundw
          case rel => exact ⟨k + 1, _, _, _, _, by omega, by omega, by go_num, rfl, rfl, HS5.out, HN.out, UN.out⟩
          case measure => simp [intOf]; omega
      · have hfl := dkFlush_any (wr.alloc (.cells #[.int .i64 kd, .int .i64 nn, .slice ua zs.length uc] 28)) HDB.out
        rw [hbl] at hfl
        have Ha := Lib.hid hfl
        clear hfl
        go_wp2_with fail
        with_reducible refine Calls.mono Ha.out ?_
        rintro e w5 ⟨rfl, h5, s5⟩
        have UX := Lib.hid (HDB.out.next s5 UB.out)
        have HK := Lib.hid h5
        have HS5 := HS
        obtain ⟨⟨hf5, hS5, _⟩, HR, HL, HZ⟩ := dkTailS h5 HS5.out
        rw [Int.sub_self] at HL
        clear h5 s5 Ha hbl
        go_wp2_with fail
        with_reducible refine Calls.mono (HR.out _ (Up.refl _)) ?_
        rintro e w7 ⟨a7, n7, c7, rfl, hconv7, u7⟩
        have U7 := Lib.hid u7
        clear u7
        go_wp2_with fail
        with_reducible refine Calls.mono (HL.out _ U7.out) ?_
        rintro e w8 ⟨rfl, u8⟩
        have U8 := Lib.hid (U7.out.trans u8)
        clear u8
        go_wp2_with fail
        with_reducible refine Calls.mono (HZ.out _ U8.out) ?_
        rintro e w9 ⟨rfl, rfl⟩
        have HN := Lib.hid (HK.out.up U8.out)
        have UN := Lib.hid (UX.out.trans U8.out)
        go_wp2
        go_roundw
        case rel => exact ⟨k + 1, _, _, _, _, by omega, by omega, by go_num, rfl, rfl, HS5.out, HN.out, UN.out⟩
        case measure => simp [intOf]; omega
      · obtain ⟨n, hn⟩ : ∃ n, n = dkKeep nn fl bs := ⟨_, rfl⟩
        have hcr := dkCrash_any nn (wr.alloc (.cells #[.int .i64 kd, .int .i64 nn, .slice ua zs.length uc] 28)) HDB.out
        have hkl := dkKeep_le nn HD.out.fl
        rw [← hn] at hcr hkl
        obtain ⟨q, hq⟩ : ∃ q, min (max nn 0) ((S.size : Int) - fl) = q := ⟨_, rfl⟩
        have hq2 : (fl : Int) + q = (n : Int) := by
          rw [← hq, hn]
          unfold dkKeep
          omega
        have hnS : n ≤ S.size := by omega
        obtain ⟨T, hT⟩ : ∃ T, S.extract 0 n = T := ⟨_, rfl⟩
        have HS5 : Hid (strOfNums (bs.take n) = T) := Lib.hid (by rw [← strOfNums_take, HS.out]; exact hT)
        have Ha := Lib.hid hcr
        clear hcr hn hkl
        go_wp2_with fail
        with_reducible refine Calls.mono Ha.out ?_
        rintro e w5 ⟨rfl, o5, h5, s5⟩
        have UX := Lib.hid (HDB.out.next s5 UB.out)
        have HK := Lib.hid h5
        have hbx := Dk.keeps s5 (heap_alloc_new wr (.cells #[.int .i64 kd, .int .i64 nn, .slice ua zs.length uc] 28)) (by have := HD.out.lt; omega) (fun e => by have := (HD.out.row.lt _ e).2; omega)
        have c15 := cell_of_row _ _ 1 _ _ _ hbx
        simp only [List.getElem?_toArray, List.getElem?_cons_zero, List.getElem?_cons_succ] at c15
        obtain ⟨⟨hf5, hS5, hb5⟩, HR, HL, HZ⟩ := dkTailS h5 HS5.out
        clear h5 s5 Ha hbl hbx hb5
        go_wp2_with fail
        with_reducible refine Calls.mono (HR.out _ (Up.refl _)) ?_
        rintro e w7 ⟨a7, n7, c7, rfl, hconv7, u7⟩
        have U7 := Lib.hid u7
        clear u7
        go_wp2_with fail
        with_reducible refine Calls.mono (HL.out _ U7.out) ?_
        rintro e w8 ⟨rfl, u8⟩
        have U8 := Lib.hid (U7.out.trans u8)
        clear u8
        go_wp2_with fail
        with_reducible refine Calls.mono (HZ.out _ U8.out) ?_
        rintro e w9 ⟨rfl, rfl⟩
        have HN := Lib.hid (HK.out.up U8.out)
        have UN := Lib.hid (UX.out.trans U8.out)
        go_wp2
        go_roundw
        case rel => exact ⟨k + 1, _, _, _, _, by omega, by omega, by go_num, rfl, rfl, HS5.out, HN.out, UN.out⟩
        case measure => simp [intOf]; omega
      · by_cases hin : 0 ≤ nn ∧ nn ≤ bs.length
        · obtain ⟨h0, h1⟩ := hin
          obtain ⟨n, rfl⟩ := Int.eq_ofNat_of_zero_le h0
          have hnS : n ≤ S.size := by omega
          have hnS' : (n : Int) ≤ S.size := by omega
          obtain ⟨T, hT⟩ : ∃ T, S.extract 0 n = T := ⟨_, rfl⟩
          have HS5 : Hid (strOfNums (bs.take n) = T) := Lib.hid (by rw [← strOfNums_take, HS.out]; exact hT)
          have Ha := Lib.hid (dkCut_on (n : Int) (wr.alloc (.cells #[.int .i64 kd, .int .i64 (n : Int), .slice ua zs.length uc] 28)).drew (HDB.out.up (Up.drew1 _)) h0 h1)
          go_wp2
          go_region
          go_wp2_with fail
          with_reducible refine Calls.mono Ha.out ?_
          rintro e w5 ⟨rfl, o5, h5, s5⟩
          have UX := Lib.hid ((HDB.out.up (Up.drew1 _)).next s5 (UB.out.trans (Up.drew1 _)))
          have HK := Lib.hid h5
          obtain ⟨⟨hf5, hS5, hb5⟩, HR, HL, HZ⟩ := dkTailS h5 HS5.out
          rw [Int.toNat_natCast] at HL
          clear h5 s5 Ha hbl hb5
          go_wp2_with fail
          with_reducible refine Calls.mono (HR.out _ (Up.refl _)) ?_
          rintro e w7 ⟨a7, n7, c7, rfl, hconv7, u7⟩
          have U7 := Lib.hid u7
          clear u7
          go_wp2_with fail
          with_reducible refine Calls.mono (HL.out _ U7.out) ?_
          rintro e w8 ⟨rfl, u8⟩
          have U8 := Lib.hid (U7.out.trans u8)
          clear u8
          go_wp2_with fail
          with_reducible refine Calls.mono (HZ.out _ U8.out) ?_
          rintro e w9 ⟨rfl, rfl⟩
          have HN := Lib.hid (HK.out.up U8.out)
          have UN := Lib.hid (UX.out.trans U8.out)
          go_wp2
          go_roundw
          case rel => exact ⟨k + 1, _, _, _, _, by omega, by omega, by go_num, rfl, rfl, HS5.out, HN.out, UN.out⟩
          case measure => simp [intOf]; omega
        · have hout : nn < 0 ∨ (0 ≤ nn ∧ (S.size : Int) < nn) := by omega
          have Ha := Lib.hid (dkCut_no nn (wr.alloc (.cells #[.int .i64 kd, .int .i64 nn, .slice ua zs.length uc] 28)) HDB.out (by omega))
          clear hin
          rcases hout with q0 | ⟨q0, q1⟩
          all_goals
            go_wp2_with fail
            with_reducible refine Calls.mono Ha.out ?_
            rintro e w5 ⟨rfl, rfl⟩
            have UX := UB
            have HK := HDB
            have HS5 := HS
            obtain ⟨⟨hf5, hS5, _⟩, HR, HL, HZ⟩ := dkTailS HK.out HS5.out
            clear Ha hbl
            go_wp2_with fail
            with_reducible refine Calls.mono (HR.out _ (Up.refl _)) ?_
            rintro e w7 ⟨a7, n7, c7, rfl, hconv7, u7⟩
            have U7 := Lib.hid u7
            clear u7
            go_wp2_with fail
            with_reducible refine Calls.mono (HL.out _ U7.out) ?_
            rintro e w8 ⟨rfl, u8⟩
            have U8 := Lib.hid (U7.out.trans u8)
            clear u8
            go_wp2_with fail
            with_reducible refine Calls.mono (HZ.out _ U8.out) ?_
            rintro e w9 ⟨rfl, rfl⟩
            have HN := Lib.hid (HK.out.up U8.out)
            have UN := Lib.hid (UX.out.trans U8.out)
            go_wp2
            go_roundw
            case rel => exact ⟨k + 1, _, _, _, _, by omega, by omega, by go_num, rfl, rfl, HS5.out, HN.out, UN.out⟩
            case measure => simp [intOf]; omega
    · have hex : k = fs.length ∨ (k < fs.length ∧ ¬ k < 40) := by omega
      clear hgo
      rcases hex with rfl | ⟨hlt, h40⟩
      all_goals
        go_wp2
        go_ret
        exact ⟨rfl, HU.out⟩
end
end Go.Proofs.Ytmfjblinpppdaaa
