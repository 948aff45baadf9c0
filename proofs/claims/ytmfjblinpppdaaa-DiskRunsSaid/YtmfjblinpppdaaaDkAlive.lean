import Derived.Lib.SlBytesConst
import Derived.Test.YtmfjblinpppdaaaDkAny
/-
  The page's example of disk.
-/
namespace Go.Proofs.Ytmfjblinpppdaaa
set_option maxRecDepth 100000
section
set_option linter.unusedVariables false
open Go.RowKit
theorem dkAlive_any (w : World) : Calls Try.prog 7 #[] w fun e w' => e = .returned (.bool true) ∧ Up w w' := by
  have Hn := Lib.hid (dkNew_any 9 w)
  have kc := fun (w : World) (C : Array Value) (n c : Nat) => Lib.run_convert_bytes_const (P := Try.prog) w 26 5 C n c Try.underlying26 Try.underlying5
  go_enter Try.func7, Try.ntmps7
  go_wp2_with fail
  with_reducible refine Calls.mono Hn.out ?_
  rintro e w1 ⟨rfl, hw1⟩
  have h1 := dk_new0 9 w w.heap.size (Nat.le_refl _)
  rw [hw1] at h1
  have u1 : Up w w1 := by rw [← hw1]; exact Up.alloc (Up.refl w) _
  have H1 := Lib.hid h1
  have U1 := Lib.hid u1
  clear h1 u1 hw1 Hn
  have hi2 := Ints.newf w1 .u8 5 #[.int .u8 97, .int .u8 98] (2, 3) [97, 98] _ 2 rfl rfl rfl
  have Ha := Lib.hid (dkAppend_on _ [97, 98] (w1.alloc (.cells #[.int .u8 97, .int .u8 98] 5 (2, 3))) (H1.out.up (Up.alloc (Up.refl w1) _)) hi2 (by decide) (by have := U1.out.size; simp; omega))
  clear hi2
  go_wp2_with fail
  with_reducible refine Calls.mono Ha.out ?_
  rintro e w2 ⟨rfl, o2, h2, s2⟩
  have U2 := Lib.hid ((H1.out.up (Up.alloc (Up.refl w1) _)).next s2 (Up.alloc U1.out _))
  have Hf : Hid (Calls Try.prog 10 #[.pointer (some ⟨w.heap.size, 0, none⟩)] w2 fun e w' => e = .returned (.int .i64 2) ∧ Dk w' w.heap.size w.heap.size o2 9 2 [97, 98] ∧ WrStep w.heap.size o2 o2 w2 w') := Lib.hid (dkFlush_any w2 h2)
  have H2 := Lib.hid h2
  clear h2 s2 Ha
  go_wp2_with fail
  with_reducible refine Calls.mono Hf.out ?_
  rintro e w3 ⟨rfl, h3, s3⟩
  have U3 := Lib.hid (H2.out.next s3 U2.out)
  have H3 := Lib.hid h3
  clear h3 s3 Hf
  have hi3 := Ints.newf w3 .u8 5 #[.int .u8 99, .int .u8 100] (2, 3) [99, 100] _ 2 rfl rfl rfl
  have Hb := Lib.hid (dkAppend_on _ [99, 100] (w3.alloc (.cells #[.int .u8 99, .int .u8 100] 5 (2, 3))) (H3.out.up (Up.alloc (Up.refl w3) _)) hi3 (by decide) (by have := U3.out.size; simp; omega))
  clear hi3
  go_wp2_with fail
  with_reducible refine Calls.mono Hb.out ?_
  rintro e w4 ⟨rfl, o4, h4, s4⟩
  have U4 := Lib.hid ((H3.out.up (Up.alloc (Up.refl w3) _)).next s4 (Up.alloc U3.out _))
  have Hc := Lib.hid (dkCrash_any 1 w4 h4)
  have H4 := Lib.hid h4
  clear h4 s4 Hb
  go_wp2_with fail
  with_reducible refine Calls.mono Hc.out ?_
  rintro e w5 ⟨rfl, o5, h5, s5⟩
  have U5 := Lib.hid (H4.out.next s5 U4.out)
  have hr : Dk w5 w.heap.size w.heap.size o5 9 3 [97, 98, 99] := h5
  have Hr := Lib.hid (dkRead_any w5 hr)
  clear h5 s5 Hc hr
  go_wp2_with fail
  with_reducible refine Calls.mono Hr.out ?_
  rintro e w6 ⟨r, rfl, h6, u6⟩
  have U6 := Lib.hid (U5.out.trans u6)
  have hconv := (Ints.of_row h6).str
  rw [show strOfNums [97, 98, 99] = ⟨#[97, 98, 99]⟩ from rfl] at hconv
  rw [show ([97, 98, 99] : List Int).length = 3 from rfl] at h6
  obtain ⟨a1, c1, rfl⟩ := row_shape h6
  clear h6 u6
  go_wp2
  go_ret
  exact ⟨rfl, U6.out⟩
end
end Go.Proofs.Ytmfjblinpppdaaa
