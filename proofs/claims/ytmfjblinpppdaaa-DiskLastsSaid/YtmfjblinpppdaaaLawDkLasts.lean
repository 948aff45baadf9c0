import Derived.Test.YtmfjblinpppdaaaDkAlive
/-
  DiskLasts: the walk.
-/
namespace Go.Proofs.Ytmfjblinpppdaaa
set_option maxRecDepth 100000
section
set_option linter.unusedVariables false
open Go.RowKit

theorem lawDkLasts_any (va vb : Value) (xs ys : List Int) (keep : Int) (w : World) (ha : Ints .u8 w va xs) (hb : Ints .u8 w vb ys) (la : xs.length ≤ 140737488355328) (lb : ys.length ≤ 140737488355328) :
    Calls Try.prog 4 #[va, vb, .int .i64 keep] w fun e w' => e = .returned (.bool true) ∧ Up w w' := by
  have Hal := Lib.hid (dkAlive_any w)
  have HA := Lib.hid ha
  have HB := Lib.hid hb
  obtain ⟨a0, ca, rfl, _, _, _⟩ := ha
  obtain ⟨b0, cb, rfl, _, _, _⟩ := hb
  have hwr := IntWalk.i64_in ((xs.length : Int) + ys.length) (by omega)
  by_cases hbig : 1000 < (xs.length : Int) + ys.length
  · go_enter Try.func4, Try.ntmps4
    go_wp2_with fail
    with_reducible refine Calls.mono Hal.out ?_
    rintro e w1 ⟨rfl, u1⟩
    have U1 := Lib.hid u1
    clear u1
    go_wp2
    go_ret
    exact ⟨rfl, U1.out⟩
  · go_enter Try.func4, Try.ntmps4
    go_wp2_with fail
    with_reducible refine Calls.mono Hal.out ?_
    rintro e w1 ⟨rfl, u1⟩
    have U1 := Lib.hid u1
    have Hn := Lib.hid (dkNew_any 1000 w1)
    clear u1
    go_wp2_with fail
    with_reducible refine Calls.mono Hn.out ?_
    rintro e w2 ⟨rfl, hw2⟩
    have H2 := Lib.hid (show Dk w2 w.heap.size w1.heap.size (.slice none 0 0) 1000 0 [] by rw [← hw2]; exact dk_new0 1000 w1 w.heap.size U1.out.size)
    have U2 := Lib.hid (show Up w w2 by rw [← hw2]; exact Up.alloc U1.out _)
    clear hw2 Hn
    have Ha := Lib.hid (dkAppend_on _ xs w2 H2.out (HA.out.up U2.out) (by simp; omega) U2.out.size)
    go_wp2_with fail
    with_reducible refine Calls.mono Ha.out ?_
    rintro e w3 ⟨rfl, o3, h3, s3⟩
    have U3 := Lib.hid (H2.out.next s3 U2.out)
    have H3 := Lib.hid h3
    have Hf := Lib.hid (dkFlush_any w3 h3)
    clear h3 s3 Ha
    go_wp2_with fail
    with_reducible refine Calls.mono Hf.out ?_
    rintro e w4 ⟨rfl, h4, s4⟩
    have U4 := Lib.hid (H3.out.next s4 U3.out)
    have H4 := Lib.hid h4
    clear h4 s4 Hf
    have Hb := Lib.hid (dkAppend_on _ ys w4 H4.out (HB.out.up U4.out) (by simp; omega) U4.out.size)
    go_wp2_with fail
    with_reducible refine Calls.mono Hb.out ?_
    rintro e w5 ⟨rfl, o5, h5, s5⟩
    have U5 := Lib.hid (H4.out.next s5 U4.out)
    have H5 := Lib.hid h5
    have Hc := Lib.hid (dkCrash_any keep w5 h5)
    clear h5 s5 Hb
    go_wp2_with fail
    with_reducible refine Calls.mono Hc.out ?_
    rintro e w6 ⟨rfl, o6, h6, s6⟩
    have U6 := Lib.hid (H5.out.next s6 U5.out)
    have hk := dkKeep_le keep H5.out.fl
    have H6 := Lib.hid h6
    have Hr := Lib.hid (dkRead_any w6 h6)
    have hsa := (HA.out.up U6.out).str
    have hsb := (HB.out.up U6.out).str
    have hl : ((([] ++ xs) ++ ys).take (dkKeep keep ([] ++ xs).length (([] ++ xs) ++ ys))).length = dkKeep keep ([] ++ xs).length (([] ++ xs) ++ ys) := by rw [List.length_take]; omega
    have hext := strOfNums_take (([] ++ xs) ++ ys) (dkKeep keep ([] ++ xs).length (([] ++ xs) ++ ys))
    have hS : strOfNums xs ++ strOfNums ys = strOfNums (([] ++ xs) ++ ys) := strOfNums_append xs ys
    have hk0 : xs.length ≤ dkKeep keep ([] ++ xs).length (([] ++ xs) ++ ys) := hk.1
    have hk1 : dkKeep keep ([] ++ xs).length (([] ++ xs) ++ ys) ≤ (([] ++ xs) ++ ys).length := hk.2
    have hcat : (strOfNums xs).size + (strOfNums ys).size ≤ 9223372036854775807 := by rw [strOfNums_size, strOfNums_size]; omega
    have hsS := strOfNums_size (([] ++ xs) ++ ys)
    have hsX := strOfNums_size ((([] ++ xs) ++ ys).take (dkKeep keep ([] ++ xs).length (([] ++ xs) ++ ys)))
    rw [hl] at hsX
    rw [← hsS] at hk1
    have Hl : Hid (∀ w7, Up w6 w7 → Calls Try.prog 14 #[.pointer (some ⟨w1.heap.size, 0, none⟩)] w7 fun e w' => e = .returned (.int .i64 0) ∧ Up w7 w') := Lib.hid fun w7 u7 => by
      have h := dkLoose_any w7 (H6.out.up u7)
      rw [hl, Int.sub_self] at h
      exact h
    have Hr' : Hid (Calls Try.prog 13 #[.pointer (some ⟨w1.heap.size, 0, none⟩)] w6 fun e w' => ∃ a n c, e = .returned (.slice a n c) ∧ (convert 26 9 (.slice a n c)).run Try.prog w' = .ok (.string (strOfNums ((([] ++ xs) ++ ys).take (dkKeep keep ([] ++ xs).length (([] ++ xs) ++ ys))))) w' ∧ Up w6 w') := Lib.hid (Hr.out.mono fun e w' ⟨r, h1, h2, h3⟩ => by
      obtain ⟨a1, c1, rfl⟩ := row_shape h2
      exact ⟨_, _, _, h1, (Ints.of_row h2).str, h3⟩)
    clear h6 s6 Hc hk hl hsS Hr H6
    generalize strOfNums ((([] ++ xs) ++ ys).take (dkKeep keep ([] ++ xs).length (([] ++ xs) ++ ys))) = X at hsX hext Hr'
    generalize strOfNums (([] ++ xs) ++ ys) = S at hk1 hext hS
    generalize dkKeep keep ([] ++ xs).length (([] ++ xs) ++ ys) = n at hsX hext hk0 hk1
    generalize strOfNums xs = A at hsa hcat hS
    generalize strOfNums ys = B at hsb hcat hS
    subst hsX
    go_wp2_with fail
    with_reducible refine Calls.mono Hr'.out ?_
    rintro e w7 ⟨a1, n1, c1, rfl, hconv, u7⟩
    have U7 := Lib.hid (U6.out.trans u7)
    have Hl7 := Lib.hid (Hl.out w7 u7)
    clear u7
    go_wp2_with fail
    with_reducible refine Calls.mono Hl7.out ?_
    rintro e w8 ⟨rfl, u8⟩
    have U8 := Lib.hid (U7.out.trans u8)
    clear u8
    go_wp2
    go_ret
    exact ⟨rfl, U8.out⟩
end
end Go.Proofs.Ytmfjblinpppdaaa
