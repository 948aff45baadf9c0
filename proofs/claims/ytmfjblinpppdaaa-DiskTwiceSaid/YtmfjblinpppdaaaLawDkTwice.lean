import Derived.Test.YtmfjblinpppdaaaDkAlive
/-
  DiskTwice: the walk.
-/
namespace Go.Proofs.Ytmfjblinpppdaaa
set_option maxRecDepth 100000
section
set_option linter.unusedVariables false
open Go.RowKit

theorem dkKeep_all (keep : Int) (bs : List Int) : dkKeep keep bs.length bs = bs.length := by unfold dkKeep; omega
theorem lawDkTwice_any (va : Value) (xs : List Int) (keep again : Int) (w : World) (ha : Ints .u8 w va xs) (la : xs.length ≤ 9223372036854775807) :
    Calls Try.prog 6 #[va, .int .i64 keep, .int .i64 again] w fun e w' => e = .returned (.bool true) ∧ Up w w' := by
  have Hal := Lib.hid (dkAlive_any w)
  have HA := Lib.hid ha
  obtain ⟨a0, ca, rfl, _, _, _⟩ := ha
  go_enter Try.func6, Try.ntmps6
  go_wp2_with fail
  with_reducible refine Calls.mono Hal.out ?_
  rintro e w1 ⟨rfl, u1⟩
  have U1 := Lib.hid u1
  have Hn := Lib.hid (dkNew_any 65536 w1)
  clear u1
  go_wp2_with fail
  with_reducible refine Calls.mono Hn.out ?_
  rintro e w2 ⟨rfl, hw2⟩
  have H2 := Lib.hid (show Dk w2 w.heap.size w1.heap.size (.slice none 0 0) 65536 0 [] by rw [← hw2]; exact dk_new0 65536 w1 w.heap.size U1.out.size)
  have U2 := Lib.hid (show Up w w2 by rw [← hw2]; exact Up.alloc U1.out _)
  clear hw2 Hn
  have Ha := Lib.hid (dkAppend_any _ xs w2 H2.out (HA.out.up U2.out) la U2.out.size)
  generalize dkAppE 65536 [] xs = E1 at Ha
  generalize dkApp 65536 [] xs = ys at Ha
  go_wp2_with fail
  with_reducible refine Calls.mono Ha.out ?_
  rintro e w3 ⟨rfl, o3, h3, s3⟩
  have U3 := Lib.hid (H2.out.next s3 U2.out)
  have H3 := Lib.hid h3
  have Hc := Lib.hid (dkCrash_any keep w3 h3)
  clear h3 s3 Ha
  go_wp2_with fail
  with_reducible refine Calls.mono Hc.out ?_
  rintro e w4 ⟨rfl, o4, h4, s4⟩
  have U4 := Lib.hid (H3.out.next s4 U3.out)
  have hk := dkKeep_le keep H3.out.fl
  have hl : (ys.take (dkKeep keep 0 ys)).length = dkKeep keep 0 ys := by rw [List.length_take]; omega
  have h4' : Dk w4 w.heap.size w1.heap.size o4 65536 (ys.take (dkKeep keep 0 ys)).length (ys.take (dkKeep keep 0 ys)) := by rw [hl]; exact h4
  have Hr := Lib.hid (dkRead_any w4 h4')
  have H4 := Lib.hid h4'
  clear h4 s4 Hc hk hl h4'
  generalize ys.take (dkKeep keep 0 ys) = zs at Hr H4
  go_wp2_with fail
  with_reducible refine Calls.mono Hr.out ?_
  rintro e w5 ⟨r5, rfl, h5, u5⟩
  have U5 := Lib.hid (U4.out.trans u5)
  have hconv5 := (Ints.of_row h5).str
  have H5 := Lib.hid (H4.out.up u5)
  obtain ⟨a5, c5, rfl⟩ := row_shape h5
  have hc6 := dkCrash_any again w5 (H4.out.up u5)
  rw [dkKeep_all, List.take_length] at hc6
  have Hc6 := Lib.hid hc6
  clear h5 u5 Hr hc6
  go_wp2_with fail
  with_reducible refine Calls.mono Hc6.out ?_
  rintro e w6 ⟨rfl, o6, h6, s6⟩
  have U6 := Lib.hid (H5.out.next s6 U5.out)
  have H6 := Lib.hid h6
  have Hr6 := Lib.hid (dkRead_any w6 h6)
  clear h6 s6 Hc6
  go_wp2_with fail
  with_reducible refine Calls.mono Hr6.out ?_
  rintro e w7 ⟨r7, rfl, h7, u7⟩
  have U7 := Lib.hid (U6.out.trans u7)
  have hconv7 := (Ints.of_row h7).str
  have H7 := Lib.hid (H6.out.up u7)
  obtain ⟨a7, c7, rfl⟩ := row_shape h7
  have hf := dkFlush_any w7 (H6.out.up u7)
  rw [Int.sub_self] at hf
  have Hf := Lib.hid hf
  clear h7 u7 Hr6 hf
  go_wp2_with fail
  with_reducible refine Calls.mono Hf.out ?_
  rintro e w8 ⟨rfl, h8, s8⟩
  have U8 := Lib.hid (H7.out.next s8 U7.out)
  clear h8 s8
  go_wp2
  go_ret
  exact ⟨rfl, U8.out⟩
end
end Go.Proofs.Ytmfjblinpppdaaa
