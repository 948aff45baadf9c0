import Derived.Test.YtapapohbpdalfaaGrow2
import Derived.Test.YtapapohbpdalfaaShaLong
import Derived.Test.YtapapohbpdalfaaRefRest
/-
  ShaParts: for every parts the walk returns true.
-/
namespace Go.Proofs.Ytapapohbpdalfaa
set_option linter.unusedVariables false
open Go.RowKit

theorem refJoin_of {w : World} {vs : Value} {ls : List (List Int)} (xs : List Int) (hr : Rows8 w vs ls) (hf : ls.flatten = xs) (hl : ls.length ≤ 9223372036854775807) (hx : xs.length ≤ 140737488355328) :
    Calls Try.prog 13 #[vs] w fun e w' => ∃ v, e = .returned v ∧ Ints .u8 w' v xs ∧ Up w w' := by
  subst hf
  refine (refJoin_any vs _ w hr hl hx).mono ?_
  rintro e w' ⟨v, rfl, hrow, hb⟩
  exact ⟨_, rfl, Ints.of_row hrow, hb⟩

theorem strOfNums_take (zs : List Int) (k : Nat) : (strOfNums zs).extract 0 k = strOfNums (zs.take k) := by
  apply ByteArray.ext
  simp [strOfNums, ByteArray.data_extract, List.map_take]

set_option maxHeartbeats 1000000 in
theorem lawParts_any (v : Value) (ls : List (List Int)) (w : World) (hv : Rows8 w v ls) (hu : U8s ls.flatten) (hl : ls.length ≤ 9223372036854775807) (hx : ls.flatten.length ≤ 140737488355328) :
    Calls Try.prog 5 #[v] w fun e w' => e = .returned (.bool true) ∧ Below w.heap.size w w' := by
  obtain ⟨S, hS⟩ : ∃ S, strOfNums (sumB ls.flatten) = S := ⟨_, rfl⟩
  obtain ⟨S8, hS8⟩ : ∃ S8, strOfNums ((sumB ls.flatten).take 8) = S8 := ⟨_, rfl⟩
  have hsz : S.size = 32 := by rw [← hS, strOfNums_size, sumB_length]
  have hext : S.extract 0 8 = S8 := by rw [← hS, strOfNums_take, hS8]
  have Hlong : Hid (∀ wx, Up w wx → Calls Try.prog 14 #[v] wx fun e w' => e = .returned (.string S) ∧ Up wx w') := fun wx hb => by
    have := long_any v ls wx (hv.up hb) hu hl hx
    rw [hS] at this; exact this
  have Hshort : Hid (∀ wx, Up w wx → Calls Try.prog 15 #[v] wx fun e w' => e = .returned (.string S8) ∧ Up wx w') := fun wx hb => by
    have := short_any v ls wx (hv.up hb) hu hl hx
    rw [hS8] at this; exact this
  generalize hf : ls.flatten = xs at hu hx hS hS8
  have Hj : Hid (∀ wx, Up w wx → Calls Try.prog 13 #[v] wx fun e w' => ∃ v, e = .returned v ∧ Ints .u8 w' v xs ∧ Up wx w') := fun wx hb => refJoin_of xs (hv.up hb) hf hl hx
  have Hsum : Hid (∀ v' wx, Ints .u8 wx v' xs → Calls Try.prog 8 #[v'] wx fun e w' => ∃ r, e = .returned r ∧ Ints .u8 w' r (sumB xs) ∧ Up wx w') := fun v' wx hi => (sum_any v' xs wx hi hu hx).mono fun e w' ⟨r, he, hr, hb⟩ => ⟨r, he, Ints.of_row hr, hb⟩
  have HS := Lib.hid hS
  clear hv hu hf hS hS8
  go_enter Try.func5, Try.ntmps5
  go_wp2_with fail
  with_reducible refine Calls.mono (alive_any w) ?_
  rintro e w1 ⟨rfl, hB1⟩
  have hU1 : Up w w1 := hB1
  clear hB1
  go_wp2_with fail
  with_reducible refine Calls.mono (Hj.out _ hU1) ?_
  rintro e w2 ⟨v2, rfl, hI2, hU2⟩
  have hU2 : Up w w2 := Up.trans hU1 hU2
  go_wp2_with fail
  with_reducible refine Calls.mono (Hsum.out _ _ hI2) ?_
  rintro e w3 ⟨v3, rfl, hI3, hU3⟩
  have hU3 : Up w w3 := Up.trans hU2 hU3
  have hcv := hI3.str
  rw [HS.out] at hcv
  clear hI2 hI3
  go_wp2
  clear hcv
  have Hsz : Hid ((S.size : Int) = 32) := by rw [hsz]; rfl
  have Hext := Lib.hid hext
  clear hsz hext
  refine region_along [(0, true), (2, true), (1, false), (3, true), (4, true), (5, true), (6, true), (7, true), (8, true), (9, true), (10, true), (12, true), (13, true), (11, false), (14, true), (15, true), (16, true)] (by kernel_rfl) rfl (by kernel_rfl) (by kernel_rfl) (fun c a d v w h => by cases d <;> exact h) ?_
  refine along_move (v := v) rfl rfl rfl rfl ?_
  change Along _ _ _ _ { tmps := #[v, _, _, .string S, _, _, _, _, _, _, v, _, _, _, _, _, _, _, _, _, _, _, _, _, _, _], defers := [] } _
  refine along_move (v := .string S) rfl rfl rfl rfl ?_
  change Along _ _ _ _ { tmps := #[v, _, _, .string S, _, _, _, _, _, _, v, _, .string S, _, _, _, _, _, _, _, _, _, _, _, _, _], defers := [] } _
  refine along_call (vs := [v]) rfl rfl rfl (enters_of Try.func14 (by kernel_rfl) rfl) rfl ?_
  with_reducible refine Calls.mono (Hlong.out _ (Up.drew hU3)) ?_
  rintro e w4 ⟨rfl, hU4⟩
  refine ⟨_, rfl, hU4, ?_⟩
  change Along _ _ _ _ { tmps := #[v, _, _, .string S, _, _, _, _, _, _, v, .string S, .string S, _, _, _, _, _, _, _, _, _, _, _, _, _], defers := [] } _
  refine along_eqs rfl rfl rfl rfl rfl ?_
  change Along _ _ _ _ { tmps := #[v, _, _, .string S, _, _, _, _, _, _, v, .string S, .string S, .bool true, _, _, _, _, _, _, _, _, _, _, _, _], defers := [] } _
  refine along_move (v := .bool true) rfl rfl rfl rfl ?_
  change Along _ _ _ _ { tmps := #[v, _, _, .string S, _, _, _, _, _, _, v, .string S, .string S, .bool true, .bool true, _, _, _, _, _, _, _, _, _, _, _], defers := [] } _
  refine along_move (v := .string S) rfl rfl rfl rfl ?_
  change Along _ _ _ _ { tmps := #[v, _, _, .string S, _, _, _, _, _, _, v, .string S, .string S, .bool true, .bool true, .string S, _, _, _, _, _, _, _, _, _, _], defers := [] } _
  refine along_lens (s := S) Try.underlying9 rfl rfl rfl rfl ?_
  rw [Hsz.out]
  change Along _ _ _ _ { tmps := #[v, _, _, .string S, _, _, _, _, _, _, v, .string S, .string S, .bool true, .bool true, .string S, .int .i64 32, _, _, _, _, _, _, _, _, _], defers := [] } _
  refine along_eqi rfl rfl rfl rfl rfl ?_
  change Along _ _ _ _ { tmps := #[v, _, _, .string S, _, _, _, _, _, _, v, .string S, .string S, .bool true, .bool true, .string S, .int .i64 32, .bool true, _, _, _, _, _, _, _, _], defers := [] } _
  refine along_pick (v := .bool true) rfl rfl rfl rfl rfl ?_
  change Along _ _ _ _ { tmps := #[v, _, _, .string S, _, _, _, _, _, _, v, .string S, .string S, .bool true, .bool true, .string S, .int .i64 32, .bool true, .bool true, _, _, _, _, _, _, _], defers := [] } _
  refine along_move (v := .bool true) rfl rfl rfl rfl ?_
  change Along _ _ _ _ { tmps := #[v, _, _, .string S, _, _, _, _, _, _, v, .string S, .string S, .bool true, .bool true, .string S, .int .i64 32, .bool true, .bool true, .bool true, _, _, _, _, _, _], defers := [] } _
  refine along_move (v := v) rfl rfl rfl rfl ?_
  change Along _ _ _ _ { tmps := #[v, _, _, .string S, _, _, _, _, _, _, v, .string S, .string S, .bool true, .bool true, .string S, .int .i64 32, .bool true, .bool true, .bool true, v, _, _, _, _, _], defers := [] } _
  refine along_move (v := .string S) rfl rfl rfl rfl ?_
  change Along _ _ _ _ { tmps := #[v, _, _, .string S, _, _, _, _, _, _, v, .string S, .string S, .bool true, .bool true, .string S, .int .i64 32, .bool true, .bool true, .bool true, v, _, .string S, _, _, _], defers := [] } _
  refine along_slices (s := S) (k := 8) rfl (by have := Hsz.out; omega) Try.underlying9 rfl rfl rfl rfl ?_
  rw [Hext.out]
  change Along _ _ _ _ { tmps := #[v, _, _, .string S, _, _, _, _, _, _, v, .string S, .string S, .bool true, .bool true, .string S, .int .i64 32, .bool true, .bool true, .bool true, v, _, .string S, .string S8, _, _], defers := [] } _
  refine along_call (vs := [v]) rfl rfl rfl (enters_of Try.func15 (by kernel_rfl) rfl) rfl ?_
  with_reducible refine Calls.mono (Hshort.out _ (Up.trans (Up.drew hU3) hU4)) ?_
  rintro e w5 ⟨rfl, hU5⟩
  refine ⟨_, rfl, hU5, ?_⟩
  change Along _ _ _ _ { tmps := #[v, _, _, .string S, _, _, _, _, _, _, v, .string S, .string S, .bool true, .bool true, .string S, .int .i64 32, .bool true, .bool true, .bool true, v, .string S8, .string S, .string S8, _, _], defers := [] } _
  refine along_eqs rfl rfl rfl rfl rfl ?_
  change Along _ _ _ _ { tmps := #[v, _, _, .string S, _, _, _, _, _, _, v, .string S, .string S, .bool true, .bool true, .string S, .int .i64 32, .bool true, .bool true, .bool true, v, .string S8, .string S, .string S8, .bool true, _], defers := [] } _
  refine along_pick (v := .bool true) rfl rfl rfl rfl rfl ?_
  change Along _ _ _ _ { tmps := #[v, _, _, .string S, _, _, _, _, _, _, v, .string S, .string S, .bool true, .bool true, .string S, .int .i64 32, .bool true, .bool true, .bool true, v, .string S8, .string S, .string S8, .bool true, .bool true], defers := [] } _
  refine along_assign (v := .bool true) rfl rfl rfl rfl ?_
  change Along _ _ _ _ { tmps := #[v, _, .bool true, .string S, _, _, _, _, _, _, v, .string S, .string S, .bool true, .bool true, .string S, .int .i64 32, .bool true, .bool true, .bool true, v, .string S8, .string S, .string S8, .bool true, .bool true], defers := [] } _
  refine along_done ?_
  go_wp2
  go_ret
  exact ⟨rfl, Up.trans (Up.trans (Up.drew hU3) hU4) hU5⟩
end Go.Proofs.Ytapapohbpdalfaa
