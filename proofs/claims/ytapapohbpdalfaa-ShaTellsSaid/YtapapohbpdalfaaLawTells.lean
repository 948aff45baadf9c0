import Derived.Test.YtapapohbpdalfaaGrow2
import Derived.Test.YtapapohbpdalfaaUps
import Derived.Test.YtapapohbpdalfaaShaAlive
import Derived.Test.YtapapohbpdalfaaRefSum
import Derived.Test.YtapapohbpdalfaaRefSha
/-
  ShaTells: for every text the walk returns true.
-/
namespace Go.Proofs.Ytapapohbpdalfaa
set_option linter.unusedVariables false
open Go.RowKit

set_option maxHeartbeats 1000000 in
theorem lawTells_any (v : Value) (bs : List Int) (w : World) (hv : Ints .u8 w v bs) (hu : U8s bs) (hl : bs.length ≤ 140737488351232) :
    Calls Try.prog 3 #[v] w fun e w' => e = .returned (.bool true) ∧ Below w.heap.size w w' := by
  have Hs : Hid (∀ wx, Up w wx → Calls Try.prog 8 #[v] wx fun e w' => ∃ r, e = .returned r ∧ StrAt w' r (sumB bs) ∧ Up wx w') := fun wx hb => by
    refine (sum_any v bs wx (hv.up hb) hu (by omega)).mono ?_
    rintro e w' ⟨r, rfl, hr, hb⟩
    exact ⟨r, rfl, StrAt.of (Ints.of_row hr), hb⟩
  have Hrh : Hid (∀ wx, Up w wx → Calls Try.prog 10 #[v] wx fun e w' => ∃ r, e = .returned r ∧ StrAt w' r (sumB bs) ∧ Up wx w') := fun wx hb => by
    refine (refSha_any v bs wx (hv.up hb) hu hl).mono ?_
    rintro e w' ⟨r, rfl, hr, hb⟩
    exact ⟨r, rfl, StrAt.of (Ints.of_row hr), hb⟩
  have Hrm : Hid (∀ vh vk wx, Up w wx → Ints .u32 wx vh hSt.list → Ints .u32 wx vk kL → Calls Try.prog 9 #[v, vh, vk] wx fun e w' => ∃ r, e = .returned r ∧ StrAt w' r (sumB bs) ∧ Up wx w') := fun vh vk wx hb hh hk => by
    refine (refSum_any v vh vk bs wx (hv.up hb) hu hl hh hk).mono ?_
    rintro e w' ⟨r, rfl, hr, hb⟩
    exact ⟨r, rfl, StrAt.of (Ints.of_row hr), hb⟩
  have Hc : Hid (∀ wx, Calls Try.prog 7 #[] wx fun e w' => ∃ vh vk, e = .returned (.tuple #[vh, vk]) ∧ (∀ wy, Up w' wy → Up w wy → Calls Try.prog 9 #[v, vh, vk] wy fun e w' => ∃ r, e = .returned r ∧ StrAt w' r (sumB bs) ∧ Up wy w') ∧ Up wx w') := fun wx => by
    refine (refConst_any wx).mono ?_
    rintro e w' ⟨vh, vk, rfl, hh, hk, hb⟩
    exact ⟨vh, vk, rfl, fun wy h1 h2 => Hrm.out vh vk wy h2 (hh.up h1) (hk.up h1), hb⟩
  generalize sumB bs = S at Hs Hrh Hc
  clear Hrm
  obtain ⟨a, cap, rfl, hcap, h3, h4⟩ := hv
  clear hu h3 h4 hcap
  go_enter Try.func3, Try.ntmps3
  go_wp2_with fail
  with_reducible refine Calls.mono (alive_any w) ?_
  rintro e w1 ⟨rfl, hB1⟩
  have hU1 : Up w w1 := hB1
  clear hB1
  by_cases hgt : 400 < bs.length
  · go_wp2
    go_ret
    exact ⟨rfl, hU1⟩
  · go_wp2_with fail
    with_reducible refine Calls.mono (Hc.out _) ?_
    rintro e w2 ⟨vh, vk, rfl, hR, hU2⟩
    have hU2 : Up w w2 := Up.trans hU1 hU2
    have Hrs : Hid (∀ wx, Up w2 wx → Calls Try.prog 9 #[.slice a bs.length cap, vh, vk] wx fun e w' => ∃ r, e = .returned r ∧ StrAt w' r S ∧ Up wx w') := fun wx hb => hR wx hb (Up.trans hU2 hb)
    clear hR
    go_wp2
    refine region_along [(0, true), (3, true), (4, true), (5, true), (1, false), (2, true), (6, false), (7, true), (8, true), (9, true), (10, true), (13, true), (11, false), (12, true), (14, false), (15, true), (16, true), (17, true), (18, true)] (by kernel_rfl) rfl (by kernel_rfl) (by kernel_rfl) (fun c a d v w h => by cases d <;> exact h) ?_
    refine along_move (v := .slice a bs.length cap) rfl rfl rfl rfl ?_
    change Along _ _ _ _ { tmps := #[.slice a bs.length cap, _, _, vh, vk, _, _, _, _, _, _, _, _, _, .slice a bs.length cap, _, _, _, _, _, _, _, _, _, _, _, _, _, _, _, _, _], defers := [] } _
    refine along_move (v := .slice a bs.length cap) rfl rfl rfl rfl ?_
    change Along _ _ _ _ { tmps := #[.slice a bs.length cap, _, _, vh, vk, _, _, _, _, _, _, _, _, _, .slice a bs.length cap, _, _, .slice a bs.length cap, _, _, _, _, _, _, _, _, _, _, _, _, _, _], defers := [] } _
    refine along_move (v := vh) rfl rfl rfl rfl ?_
    change Along _ _ _ _ { tmps := #[.slice a bs.length cap, _, _, vh, vk, _, _, _, _, _, _, _, _, _, .slice a bs.length cap, _, _, .slice a bs.length cap, vh, _, _, _, _, _, _, _, _, _, _, _, _, _], defers := [] } _
    refine along_move (v := vk) rfl rfl rfl rfl ?_
    change Along _ _ _ _ { tmps := #[.slice a bs.length cap, _, _, vh, vk, _, _, _, _, _, _, _, _, _, .slice a bs.length cap, _, _, .slice a bs.length cap, vh, vk, _, _, _, _, _, _, _, _, _, _, _, _], defers := [] } _
    refine along_call (vs := [.slice a bs.length cap]) rfl rfl rfl (enters_of Try.func8 (by kernel_rfl) rfl) rfl ?_
    with_reducible refine Calls.mono (Hs.out _ (Up.drew hU2)) ?_
    rintro e w3 ⟨v3, rfl, S3, hU3⟩
    refine ⟨_, rfl, hU3, ?_⟩
    change Along _ _ _ _ { tmps := #[.slice a bs.length cap, _, _, vh, vk, _, _, _, _, _, _, _, _, _, .slice a bs.length cap, v3, _, .slice a bs.length cap, vh, vk, _, _, _, _, _, _, _, _, _, _, _, _], defers := [] } _
    refine along_conv (v := v3) (u := .string (strOfNums (S))) rfl rfl rfl rfl (fun wx hu => S3 wx hu) ?_
    change Along _ _ _ _ { tmps := #[.slice a bs.length cap, _, _, vh, vk, _, _, _, _, _, _, _, _, _, .slice a bs.length cap, v3, .string (strOfNums (S)), .slice a bs.length cap, vh, vk, _, _, _, _, _, _, _, _, _, _, _, _], defers := [] } _
    refine along_call (vs := [.slice a bs.length cap, vh, vk]) rfl rfl rfl (enters_of Try.func9 (by kernel_rfl) rfl) rfl ?_
    with_reducible refine Calls.mono (Hrs.out _ (Up.trans (Up.drew1 w2) hU3)) ?_
    rintro e w4 ⟨v4, rfl, S4, hU4⟩
    refine ⟨_, rfl, hU4, ?_⟩
    change Along _ _ _ _ { tmps := #[.slice a bs.length cap, _, _, vh, vk, _, _, _, _, _, _, _, _, _, .slice a bs.length cap, v3, .string (strOfNums (S)), .slice a bs.length cap, vh, vk, v4, _, _, _, _, _, _, _, _, _, _, _], defers := [] } _
    refine along_conv (v := v4) (u := .string (strOfNums (S))) rfl rfl rfl rfl (fun wx hu => S4 wx hu) ?_
    change Along _ _ _ _ { tmps := #[.slice a bs.length cap, _, _, vh, vk, _, _, _, _, _, _, _, _, _, .slice a bs.length cap, v3, .string (strOfNums (S)), .slice a bs.length cap, vh, vk, v4, .string (strOfNums (S)), _, _, _, _, _, _, _, _, _, _], defers := [] } _
    refine along_eqs rfl rfl rfl rfl rfl ?_
    change Along _ _ _ _ { tmps := #[.slice a bs.length cap, _, _, vh, vk, _, _, _, _, _, _, _, _, _, .slice a bs.length cap, v3, .string (strOfNums (S)), .slice a bs.length cap, vh, vk, v4, .string (strOfNums (S)), .bool true, _, _, _, _, _, _, _, _, _], defers := [] } _
    refine along_move (v := .bool true) rfl rfl rfl rfl ?_
    change Along _ _ _ _ { tmps := #[.slice a bs.length cap, _, _, vh, vk, _, _, _, _, _, _, _, _, _, .slice a bs.length cap, v3, .string (strOfNums (S)), .slice a bs.length cap, vh, vk, v4, .string (strOfNums (S)), .bool true, .bool true, _, _, _, _, _, _, _, _], defers := [] } _
    refine along_move (v := .slice a bs.length cap) rfl rfl rfl rfl ?_
    change Along _ _ _ _ { tmps := #[.slice a bs.length cap, _, _, vh, vk, _, _, _, _, _, _, _, _, _, .slice a bs.length cap, v3, .string (strOfNums (S)), .slice a bs.length cap, vh, vk, v4, .string (strOfNums (S)), .bool true, .bool true, .slice a bs.length cap, _, _, _, _, _, _, _], defers := [] } _
    refine along_move (v := .slice a bs.length cap) rfl rfl rfl rfl ?_
    change Along _ _ _ _ { tmps := #[.slice a bs.length cap, _, _, vh, vk, _, _, _, _, _, _, _, _, _, .slice a bs.length cap, v3, .string (strOfNums (S)), .slice a bs.length cap, vh, vk, v4, .string (strOfNums (S)), .bool true, .bool true, .slice a bs.length cap, _, _, .slice a bs.length cap, _, _, _, _], defers := [] } _
    refine along_call (vs := [.slice a bs.length cap]) rfl rfl rfl (enters_of Try.func8 (by kernel_rfl) rfl) rfl ?_
    with_reducible refine Calls.mono (Hs.out _ (Up.trans (Up.trans (Up.drew hU2) hU3) hU4)) ?_
    rintro e w5 ⟨v5, rfl, S5, hU5⟩
    refine ⟨_, rfl, hU5, ?_⟩
    change Along _ _ _ _ { tmps := #[.slice a bs.length cap, _, _, vh, vk, _, _, _, _, _, _, _, _, _, .slice a bs.length cap, v3, .string (strOfNums (S)), .slice a bs.length cap, vh, vk, v4, .string (strOfNums (S)), .bool true, .bool true, .slice a bs.length cap, v5, _, .slice a bs.length cap, _, _, _, _], defers := [] } _
    refine along_conv (v := v5) (u := .string (strOfNums (S))) rfl rfl rfl rfl (fun wx hu => S5 wx hu) ?_
    change Along _ _ _ _ { tmps := #[.slice a bs.length cap, _, _, vh, vk, _, _, _, _, _, _, _, _, _, .slice a bs.length cap, v3, .string (strOfNums (S)), .slice a bs.length cap, vh, vk, v4, .string (strOfNums (S)), .bool true, .bool true, .slice a bs.length cap, v5, .string (strOfNums (S)), .slice a bs.length cap, _, _, _, _], defers := [] } _
    refine along_call (vs := [.slice a bs.length cap]) rfl rfl rfl (enters_of Try.func10 (by kernel_rfl) rfl) rfl ?_
    with_reducible refine Calls.mono (Hrh.out _ (Up.trans (Up.trans (Up.trans (Up.drew hU2) hU3) hU4) hU5)) ?_
    rintro e w6 ⟨v6, rfl, S6, hU6⟩
    refine ⟨_, rfl, hU6, ?_⟩
    change Along _ _ _ _ { tmps := #[.slice a bs.length cap, _, _, vh, vk, _, _, _, _, _, _, _, _, _, .slice a bs.length cap, v3, .string (strOfNums (S)), .slice a bs.length cap, vh, vk, v4, .string (strOfNums (S)), .bool true, .bool true, .slice a bs.length cap, v5, .string (strOfNums (S)), .slice a bs.length cap, v6, _, _, _], defers := [] } _
    refine along_conv (v := v6) (u := .string (strOfNums (S))) rfl rfl rfl rfl (fun wx hu => S6 wx hu) ?_
    change Along _ _ _ _ { tmps := #[.slice a bs.length cap, _, _, vh, vk, _, _, _, _, _, _, _, _, _, .slice a bs.length cap, v3, .string (strOfNums (S)), .slice a bs.length cap, vh, vk, v4, .string (strOfNums (S)), .bool true, .bool true, .slice a bs.length cap, v5, .string (strOfNums (S)), .slice a bs.length cap, v6, .string (strOfNums (S)), _, _], defers := [] } _
    refine along_eqs rfl rfl rfl rfl rfl ?_
    change Along _ _ _ _ { tmps := #[.slice a bs.length cap, _, _, vh, vk, _, _, _, _, _, _, _, _, _, .slice a bs.length cap, v3, .string (strOfNums (S)), .slice a bs.length cap, vh, vk, v4, .string (strOfNums (S)), .bool true, .bool true, .slice a bs.length cap, v5, .string (strOfNums (S)), .slice a bs.length cap, v6, .string (strOfNums (S)), .bool true, _], defers := [] } _
    refine along_pick (v := .bool true) rfl rfl rfl rfl rfl ?_
    change Along _ _ _ _ { tmps := #[.slice a bs.length cap, _, _, vh, vk, _, _, _, _, _, _, _, _, _, .slice a bs.length cap, v3, .string (strOfNums (S)), .slice a bs.length cap, vh, vk, v4, .string (strOfNums (S)), .bool true, .bool true, .slice a bs.length cap, v5, .string (strOfNums (S)), .slice a bs.length cap, v6, .string (strOfNums (S)), .bool true, .bool true], defers := [] } _
    refine along_assign (v := .bool true) rfl rfl rfl rfl ?_
    change Along _ _ _ _ { tmps := #[.slice a bs.length cap, _, .bool true, vh, vk, _, _, _, _, _, _, _, _, _, .slice a bs.length cap, v3, .string (strOfNums (S)), .slice a bs.length cap, vh, vk, v4, .string (strOfNums (S)), .bool true, .bool true, .slice a bs.length cap, v5, .string (strOfNums (S)), .slice a bs.length cap, v6, .string (strOfNums (S)), .bool true, .bool true], defers := [] } _
    refine along_done ?_
    go_wp2
    go_ret
    exact ⟨rfl, Up.trans (Up.trans (Up.trans (Up.trans (Up.drew hU2) hU3) hU4) hU5) hU6⟩
end Go.Proofs.Ytapapohbpdalfaa
