import Derived.Test.YtapapohbpdalfaaGrow2
import Derived.Test.YtapapohbpdalfaaUps
import Derived.Test.YtapapohbpdalfaaShaAlive
import Derived.Test.YtapapohbpdalfaaRefPad
/-
  ShaPads: for every text the walk returns true.
-/
namespace Go.Proofs.Ytapapohbpdalfaa
set_option linter.unusedVariables false
open Go.RowKit

set_option maxHeartbeats 1000000 in
theorem lawPads_any (v : Value) (bs : List Int) (w : World) (hv : Ints .u8 w v bs) (hl : bs.length ≤ 140737488351232) :
    Calls Try.prog 4 #[v] w fun e w' => e = .returned (.bool true) ∧ Below w.heap.size w w' := by
  obtain ⟨n, hn⟩ : ∃ n, (padB bs).length = n := ⟨_, rfl⟩
  have hn0 : 0 < n := by rw [← hn, padB_length]; omega
  have Hn : Hid (n % 64 = 0) := by show _ = _; rw [← hn]; exact padB_64 bs
  have Hp : Hid (∀ wx, Up w wx → Calls Try.prog 11 #[v] wx fun e w' => ∃ g c, e = .returned (.slice (some ⟨g, 0, none⟩) n c) ∧ StrAt w' (.slice (some ⟨g, 0, none⟩) n c) (padB bs) ∧ Up wx w') := fun wx hu => by
    refine (pad_any v bs wx (hv.up hu) (by omega)).mono ?_
    rintro e w' ⟨r, rfl, hr, hb⟩
    have hi := Ints.of_row hr
    rw [hn] at hr
    obtain ⟨g, c, rfl, _⟩ := row_slice hr hn0
    exact ⟨g, c, rfl, StrAt.of hi, hb⟩
  have Hrp : Hid (∀ wx, Up w wx → Calls Try.prog 12 #[v] wx fun e w' => ∃ r, e = .returned r ∧ StrAt w' r (padB bs) ∧ Up wx w') := fun wx hu => by
    refine (refPad_any v bs wx (hv.up hu) hl).mono ?_
    rintro e w' ⟨r, rfl, hr, hb⟩
    exact ⟨r, rfl, StrAt.of (Ints.of_row hr), hb⟩
  clear hv hn
  go_enter Try.func4, Try.ntmps4
  go_wp2_with fail
  with_reducible refine Calls.mono (Hp.out _ (Up.refl w)) ?_
  rintro e w1 ⟨g, c, rfl, hS1, hU1⟩
  have SP := Lib.hid hS1
  clear hS1
  go_wp2
  refine region_along [(0, true), (1, true), (2, true), (3, false), (4, true), (5, true), (6, true), (7, true), (8, true), (9, true), (10, true), (11, true), (12, true), (13, false), (14, true), (15, true)] (by kernel_rfl) rfl (by kernel_rfl) (by kernel_rfl) (fun c a d v w h => by cases d <;> exact h) ?_
  refine along_move (v := .slice (some ⟨g, 0, none⟩) n c) rfl rfl rfl rfl ?_
  change Along _ _ _ _ { tmps := #[v, _, _, .slice (some ⟨g, 0, none⟩) n c, _, _, .slice (some ⟨g, 0, none⟩) n c, _, _, _, _, _, _, _, _, _, _, _, _, _, _], defers := [] } _
  refine along_conv (v := .slice (some ⟨g, 0, none⟩) n c) (u := .string (strOfNums (padB bs))) rfl rfl rfl rfl (fun wx hu => SP.out wx (Up.trans (Up.drew1 w1) hu)) ?_
  change Along _ _ _ _ { tmps := #[v, _, _, .slice (some ⟨g, 0, none⟩) n c, _, _, .slice (some ⟨g, 0, none⟩) n c, .string (strOfNums (padB bs)), _, _, _, _, _, _, _, _, _, _, _, _, _], defers := [] } _
  refine along_move (v := v) rfl rfl rfl rfl ?_
  change Along _ _ _ _ { tmps := #[v, _, _, .slice (some ⟨g, 0, none⟩) n c, _, _, .slice (some ⟨g, 0, none⟩) n c, .string (strOfNums (padB bs)), v, _, _, _, _, _, _, _, _, _, _, _, _], defers := [] } _
  refine along_call (vs := [v]) rfl rfl rfl (enters_of Try.func12 (by kernel_rfl) rfl) rfl ?_
  with_reducible refine Calls.mono (Hrp.out _ (Up.drew hU1)) ?_
  rintro e w2 ⟨v2, rfl, S2, hU2⟩
  refine ⟨_, rfl, hU2, ?_⟩
  change Along _ _ _ _ { tmps := #[v, _, _, .slice (some ⟨g, 0, none⟩) n c, _, _, .slice (some ⟨g, 0, none⟩) n c, .string (strOfNums (padB bs)), v, v2, _, _, _, _, _, _, _, _, _, _, _], defers := [] } _
  refine along_conv (v := v2) (u := .string (strOfNums (padB bs))) rfl rfl rfl rfl (fun wx hu => S2 wx hu) ?_
  change Along _ _ _ _ { tmps := #[v, _, _, .slice (some ⟨g, 0, none⟩) n c, _, _, .slice (some ⟨g, 0, none⟩) n c, .string (strOfNums (padB bs)), v, v2, .string (strOfNums (padB bs)), _, _, _, _, _, _, _, _, _, _], defers := [] } _
  refine along_eqs rfl rfl rfl rfl rfl ?_
  change Along _ _ _ _ { tmps := #[v, _, _, .slice (some ⟨g, 0, none⟩) n c, _, _, .slice (some ⟨g, 0, none⟩) n c, .string (strOfNums (padB bs)), v, v2, .string (strOfNums (padB bs)), .bool true, _, _, _, _, _, _, _, _, _], defers := [] } _
  refine along_move (v := .bool true) rfl rfl rfl rfl ?_
  change Along _ _ _ _ { tmps := #[v, _, _, .slice (some ⟨g, 0, none⟩) n c, _, _, .slice (some ⟨g, 0, none⟩) n c, .string (strOfNums (padB bs)), v, v2, .string (strOfNums (padB bs)), .bool true, .bool true, _, _, _, _, _, _, _, _], defers := [] } _
  refine along_move (v := .slice (some ⟨g, 0, none⟩) n c) rfl rfl rfl rfl ?_
  change Along _ _ _ _ { tmps := #[v, _, _, .slice (some ⟨g, 0, none⟩) n c, _, _, .slice (some ⟨g, 0, none⟩) n c, .string (strOfNums (padB bs)), v, v2, .string (strOfNums (padB bs)), .bool true, .bool true, .slice (some ⟨g, 0, none⟩) n c, _, _, _, _, _, _, _], defers := [] } _
  refine along_lensl Try.underlying22 rfl rfl rfl rfl ?_
  change Along _ _ _ _ { tmps := #[v, _, _, .slice (some ⟨g, 0, none⟩) n c, _, _, .slice (some ⟨g, 0, none⟩) n c, .string (strOfNums (padB bs)), v, v2, .string (strOfNums (padB bs)), .bool true, .bool true, .slice (some ⟨g, 0, none⟩) n c, .int .i64 n, _, _, _, _, _, _], defers := [] } _
  refine along_rem (p := n) (q := 64) (s := 0) (by omega) (by omega) (by have := Hn.out; omega) rfl rfl rfl rfl rfl ?_
  change Along _ _ _ _ { tmps := #[v, _, _, .slice (some ⟨g, 0, none⟩) n c, _, _, .slice (some ⟨g, 0, none⟩) n c, .string (strOfNums (padB bs)), v, v2, .string (strOfNums (padB bs)), .bool true, .bool true, .slice (some ⟨g, 0, none⟩) n c, .int .i64 n, .int .i64 0, _, _, _, _, _], defers := [] } _
  refine along_eqi rfl rfl rfl rfl rfl ?_
  change Along _ _ _ _ { tmps := #[v, _, _, .slice (some ⟨g, 0, none⟩) n c, _, _, .slice (some ⟨g, 0, none⟩) n c, .string (strOfNums (padB bs)), v, v2, .string (strOfNums (padB bs)), .bool true, .bool true, .slice (some ⟨g, 0, none⟩) n c, .int .i64 n, .int .i64 0, .bool true, _, _, _, _], defers := [] } _
  refine along_pick (v := .bool true) rfl rfl rfl rfl rfl ?_
  change Along _ _ _ _ { tmps := #[v, _, _, .slice (some ⟨g, 0, none⟩) n c, _, _, .slice (some ⟨g, 0, none⟩) n c, .string (strOfNums (padB bs)), v, v2, .string (strOfNums (padB bs)), .bool true, .bool true, .slice (some ⟨g, 0, none⟩) n c, .int .i64 n, .int .i64 0, .bool true, .bool true, _, _, _], defers := [] } _
  refine along_move (v := .bool true) rfl rfl rfl rfl ?_
  change Along _ _ _ _ { tmps := #[v, _, _, .slice (some ⟨g, 0, none⟩) n c, _, _, .slice (some ⟨g, 0, none⟩) n c, .string (strOfNums (padB bs)), v, v2, .string (strOfNums (padB bs)), .bool true, .bool true, .slice (some ⟨g, 0, none⟩) n c, .int .i64 n, .int .i64 0, .bool true, .bool true, .bool true, _, _], defers := [] } _
  refine along_call (vs := []) rfl rfl rfl (enters_of Try.func6 (by kernel_rfl) rfl) rfl ?_
  with_reducible refine Calls.mono (alive_any w2) ?_
  rintro e w3 ⟨rfl, hU3⟩
  refine ⟨_, rfl, hU3, ?_⟩
  change Along _ _ _ _ { tmps := #[v, _, _, .slice (some ⟨g, 0, none⟩) n c, _, _, .slice (some ⟨g, 0, none⟩) n c, .string (strOfNums (padB bs)), v, v2, .string (strOfNums (padB bs)), .bool true, .bool true, .slice (some ⟨g, 0, none⟩) n c, .int .i64 n, .int .i64 0, .bool true, .bool true, .bool true, .bool true, _], defers := [] } _
  refine along_pick (v := .bool true) rfl rfl rfl rfl rfl ?_
  change Along _ _ _ _ { tmps := #[v, _, _, .slice (some ⟨g, 0, none⟩) n c, _, _, .slice (some ⟨g, 0, none⟩) n c, .string (strOfNums (padB bs)), v, v2, .string (strOfNums (padB bs)), .bool true, .bool true, .slice (some ⟨g, 0, none⟩) n c, .int .i64 n, .int .i64 0, .bool true, .bool true, .bool true, .bool true, .bool true], defers := [] } _
  refine along_assign (v := .bool true) rfl rfl rfl rfl ?_
  change Along _ _ _ _ { tmps := #[v, _, .bool true, .slice (some ⟨g, 0, none⟩) n c, _, _, .slice (some ⟨g, 0, none⟩) n c, .string (strOfNums (padB bs)), v, v2, .string (strOfNums (padB bs)), .bool true, .bool true, .slice (some ⟨g, 0, none⟩) n c, .int .i64 n, .int .i64 0, .bool true, .bool true, .bool true, .bool true, .bool true], defers := [] } _
  refine along_done ?_
  go_wp2
  go_ret
  exact ⟨rfl, Up.trans (Up.trans (Up.drew hU1) hU2) hU3⟩
end Go.Proofs.Ytapapohbpdalfaa
