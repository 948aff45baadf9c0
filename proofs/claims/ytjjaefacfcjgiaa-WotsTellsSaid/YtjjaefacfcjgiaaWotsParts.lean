import Derived.Test.YtjjaefacfcjgiaaWotsDigs
import Derived.Test.YtjjaefacfcjgiaaOctGet
import Derived.Test.YtjjaefacfcjgiaaShaShort
import Derived.Test.YtjjaefacfcjgiaaLaws
import Derived.Test.YtjjaefacfcjgiaaWordAny
/-
  Parts: a text's digits.
-/
namespace Go.Proofs.Ytjjaefacfcjgiaa
set_option linter.unusedVariables false
open Go.RowKit

/-- a row of one's own, in a world beyond -/
theorem ownsRow_up {w w' : World} {base : Nat} {e : TypeId} {size : Nat} {v : Value} {n : Nat} {xs : List Value} (h : w.ownsRow base e size v n xs) (hu : Up w w') : w'.ownsRow base e size v n xs :=
  h.kept (row := none) ⟨hu.os, hu.tape, hu.output, hu.size, fun k hk _ => hu.block k hk⟩ (Classical.em _)
theorem parts_join (bs : List Int) : (digsB (numB bs) 8).map (Value.int .i64) ++ (digsB (leftB (digsB (numB bs) 8)) 3).map (Value.int .i64) = (partsB bs).map (Value.int .i64) := by
  unfold partsB; rw [List.map_append]

set_option maxHeartbeats 1000000 in
theorem parts_any (v : Value) (bs : List Int) (w : World) (hv : Ints .u8 w v bs) (hu : U8s bs) (hl : bs.length ≤ 140737488355328) :
    Calls Try.prog 9 #[v] w fun e w' => ∃ r, e = .returned r ∧ w'.ownsRow w.heap.size 3 1 r 11 ((partsB bs).map (Value.int .i64)) ∧ Up w w' := by
  obtain ⟨i0, hi, hz0, hz1, hz2⟩ := info_parts info_int
  have Hs := Lib.hid (sum_any v bs w hv hu hl)
  have Hl := Lib.hid (sumB_length bs)
  have Hsu := Lib.hid (sumB_u8s bs)
  have Hn := Lib.hid (numB_range bs)
  have Hj := Lib.hid (parts_join bs)
  have hnum : getB ((sumB bs).take 2) = numB bs := rfl
  have Hnum := Lib.hid hnum
  clear hv hu hl hnum
  generalize partsB bs = PB at Hj ⊢
  generalize sumB bs = S at Hs Hl Hsu Hnum
  generalize numB bs = n at Hn Hj Hnum
  have Hlr := Lib.hid (left8_range n)
  have Hd8 := Lib.hid (digsB_length n 8)
  have Hdr := Lib.hid (digsB_range n 8)
  go_enter Try.func9, Try.ntmps9
  go_wp2_with fail
  with_reducible refine Calls.mono Hs.out ?_
  rintro e w1 ⟨r1, rfl, hr1, hU1⟩
  have hU1 : Up w w1 := hU1
  obtain ⟨g1, c1, rfl, hc1⟩ := row_slice hr1 (by omega)
  have Hp := Lib.hid ((Ints.of_row hr1).pre 2 (by rw [Hl.out]; omega))
  clear hr1
  have Hg := Lib.hid (get_any _ _ w1 Hp.out (Hsu.out.take 2) (by rw [List.length_take]; omega))
  rw [Hnum.out] at Hg
  go_wp2_with fail
  with_reducible refine Calls.mono Hg.out ?_
  rintro e w2 ⟨rfl, rfl⟩
  clear Hg Hp
  have Hd := Lib.hid (digits_any n 8 Hn.out (by omega) w1)
  go_wp2_with fail
  with_reducible refine Calls.mono Hd.out ?_
  rintro e w3 ⟨r3, rfl, hr3, hU3⟩
  have hU3 : Up w w3 := Up.trans hU1 hU3
  have hr3 := ownsRow_base hr3 hU1.size
  have hI3 := Ints.of_row hr3
  have Hle := Lib.hid (left_any _ _ w3 hI3 Hdr.out (by rw [Hd8.out]; omega))
  generalize leftB (digsB n 8) = m at Hle Hlr Hj
  generalize digsB n 8 = D8 at hr3 hI3 Hj Hle Hd8 Hdr
  clear hI3 Hd
  obtain ⟨g3, c3, rfl, hc3⟩ := row_slice hr3 (by omega)
  have Hr3 := Lib.hid hr3
  clear hr3
  go_wp2_with fail
  with_reducible refine Calls.mono Hle.out ?_
  rintro e w4 ⟨rfl, rfl⟩
  clear Hle
  have Hd := Lib.hid (digits_any m 3 (by have := Hlr.out; omega) (by omega) w3)
  generalize digsB m 3 = D3 at Hj Hd
  go_wp2_with fail
  with_reducible refine Calls.mono Hd.out ?_
  rintro e w5 ⟨r5, rfl, hr5, hU5⟩
  obtain ⟨g5, c5, rfl, hc5⟩ := row_slice hr5 (by omega)
  have hr3 := ownsRow_up Hr3.out hU5
  have hU5 : Up w w5 := Up.trans hU3 hU5
  have hl3 : D3.length = 3 := by have := hr5.1; simpa using this
  have Hcs := Lib.hid (row_cells hr5)
  have Hone : Hid (∀ u ∈ D3.map (Value.int .i64), u.oneCell' = true) := ints_oneCell .i64 D3
  clear hr5 Hd
  go_wp2_with (at_builtin; refine wpList_append_own_src _ rfl (.tmp 9) (.tmp 12) 24 rfl w.heap.size 3 i0 (.int .i64 0) 1 8 Try.underlying24 hi hz0 hz1 hz2 rfl (by decide) (.slice (some ⟨g3, 0, none⟩) 8 c3) 8 _ rfl hr3 (some ⟨g5, 0, none⟩) 3 c5 (D3.map (Value.int .i64)) rfl (by simp) (by rw [List.length_map, hl3]) (fun ad had => by cases had; exact Hcs.out) Hone.out (by unfold maxLen; omega) (by omega) hU5.size ?_; intro v6 w6 hr6 hg6 _)
  have hU6 : Up w w6 := Below.grown hU5 hg6 hU5.size (fun k e => (hr3.lt k e).1)
  rw [Hj.out] at hr6
  go_ret
  exact ⟨_, rfl, hr6, hU6⟩
end Go.Proofs.Ytjjaefacfcjgiaa
