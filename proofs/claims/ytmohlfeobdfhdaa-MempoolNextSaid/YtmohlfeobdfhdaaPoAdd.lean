import Derived.Test.YtmohlfeobdfhdaaPoMet
import Derived.Test.YtmohlfeobdfhdaaPoConcat
/-
  mempool.Add.
-/
namespace Go.Proofs.Ytmohlfeobdfhdaa
set_option maxRecDepth 100000
section
set_option linter.unusedVariables false
open Go.RowKit Go.Sort Go.Lib

theorem bld_twoT (a0 a1 : Option Addr) (n0 c0 n1 c1 : Nat) (w : World) : (Instr.buildSlice 59 2 #[(0, .slice a0 n0 c0), (1, .slice a1 n1 c1)]).run Try.prog w = .ok (.slice (some ⟨w.heap.size, 0, none⟩) 2 2) (w.alloc (.cells #[.slice a0 n0 c0, .slice a1 n1 c1] 22)) := by
  simp [go_sem]
theorem targ_one {W : World} {g : Nat} {x : Ts} (h : W.heap[g]? = some (.cells (tsA x) 29 (0, 0))) : TArg W (.slice (some ⟨g, 0, none⟩) 1 1) [x] := by
  refine ⟨_, 1, rfl, Nat.le_refl _, (fun e => by cases e), .inr ⟨g, 0, rfl, fun i y hy k hk => ?_⟩⟩
  obtain ⟨rfl, rfl⟩ : i = 0 ∧ x = y := by
    cases i with
    | zero => exact ⟨rfl, by simpa using hy⟩
    | succ i => simp at hy
  rw [show 0 + (0 * 5 + k) = k by omega, cell_of_row _ _ k _ _ _ h, tsA_eq, getElem!_pos (tsC x) k (by rw [tsC_len]; exact hk)]
  simp
theorem rowsT_two {W : World} {b : Nat} {u0 u1 : Value} {l0 l1 : List Ts} (h : W.heap[b]? = some (.cells #[u0, u1] 22 (0, 0))) (h0 : TArg W u0 l0) (h1 : TArg W u1 l1) : RowsT W b [u0, u1] [l0, l1] := by
  intro j hj
  match j, hj with
  | 0, _ => exact ⟨cell_of_row _ _ 0 _ _ _ h, h0⟩
  | 1, _ => exact ⟨cell_of_row _ _ 1 _ _ _ h, h1⟩

set_option maxHeartbeats 2000000 in
theorem add_any (v : Value) (xs : List Ts) (x : Ts) (w : World) (hx : TArg w v xs) (hok : ∀ (j : Nat) (x : Ts), xs[j]? = some x → TsOk x) (hn0 : xs.length < 4611686018427387904) (hxo : TsOk x) :
    Calls Try.prog 12 #[v, .agg (tsA x)] w fun e w' => ((tsE x ≠ 0 ∨ 16 ≤ xs.length ∨ metS xs x.1.F x.1.N = true) ∧ e = .returned (.tuple #[.slice none 0 0, .bool false]) ∧ Up w w') ∨
      ((tsE x = 0 ∧ xs.length < 16 ∧ metS xs x.1.F x.1.N = false) ∧ ∃ r, e = .returned (.tuple #[r, .bool true]) ∧ w'.ownsRow w.heap.size 29 5 r (xs.length + 1) (tsF (xs ++ [x])) ∧ Up w w') := by
  obtain ⟨a, cap, rfl, _⟩ := id hx
  have HX := Lib.hid hx
  have hbs0 : Hid (∀ wx : World, (Instr.buildSlice 22 1 #[(0, .agg (tsA x))]).run Try.prog wx = .ok (.slice (some ⟨wx.heap.size, 0, none⟩) 1 1) (wx.alloc (.cells (tsA x) 29))) := Lib.hid fun wx => build_ts1 x wx
  have HONE : Hid (∀ (W : World) (g : Nat), W.heap[g]? = some (.cells (tsA x) 29 (0, 0)) → TArg W (.slice (some ⟨g, 0, none⟩) 1 1) [x]) := Lib.hid fun W g h => targ_one h
  have HM : Hid (∀ wx, Up (w.alloc (.cells (tsA x) 29)) wx → Calls Try.prog 21 #[.slice a xs.length cap] wx fun e w' => e = .returned (.map (some wx.heap.size)) ∧ Up wx w' ∧ SlotSet w' wx.heap.size xs.length (metS xs)) := Lib.hid fun wx hu => met_any _ xs wx (hx.up (Up.trans (Up.alloc (Up.refl w) _) hu)) hok hn0
  have HC : Hid (∀ wx, Calls Try.prog 20 #[.agg (tsA x)] wx fun e w' => e = .returned (.int .i64 (tsE x)) ∧ Up wx w') := Lib.hid fun wx => check_any _ _ _ _ _ wx
  have HH : Hid (∀ wx b, SlotSet wx b xs.length (metS xs) → Calls Try.prog 15 #[.map (some b), .agg (tsA x)] wx fun e w' => e = .returned (.bool (metS xs x.1.F x.1.N)) ∧ Gr wx w') := Lib.hid fun wx b h => has_any b _ _ x hxo wx h
  have HB : Hid (∀ wx, Up (w.alloc (.cells (tsA x) 29)) wx → wx.heap[w.heap.size]? = some (.cells (tsA x) 29 (0, 0))) := Lib.hid fun wx hu => (hu.block _ (by simp)).trans (heap_alloc_new w _)
  have hsz : (Try.prog.info? 29).map (·.size) = some (tsA x).size := info_tx
  obtain ⟨n, hnl⟩ : ∃ n, xs.length = n := ⟨_, rfl⟩
  have HN := Lib.hid hnl
  rw [hnl] at hn0 HM HH HX ⊢
  obtain ⟨E, hE⟩ : ∃ E, tsE x = E := ⟨_, rfl⟩
  have HE0 := Lib.hid hE
  have hE9 : E = 0 ∨ E = 9 := by rw [← hE]; unfold tsE txE; split <;> simp
  rw [hE] at HC ⊢
  obtain ⟨M, hM⟩ : ∃ M, metS xs x.1.F x.1.N = M := ⟨_, rfl⟩
  rw [hM] at HH ⊢
  generalize tsA x = cs at *
  clear hx hok hnl hE hM hxo HE0
  rcases hE9 with rfl | rfl
  · by_cases hbig : 16 ≤ n
    · go_enter Try.func12, Try.ntmps12
      go_wp2
      refine region_alongK (fun x => Up (w.alloc (.cells cs 29)) x) (.read 0 (.step 1 (.read 2 (.read 3 (.read 4 (.read 5 (.read 6 (.read 7 (.read 8 (.read 9 (.read 10 (.read 11 (.read 12 (.read 13 (.nil))))))))))))))) (by kernel_rfl) rfl (by kernel_rfl) (by kernel_rfl) (fun c a d v w h => by cases d <;> exact h) (Up.drew1 _) ?_
      refine alongK_read (.agg cs) rfl rfl (fun wx hS => ex_loadrow rfl rfl wx 29 (HB.out wx hS) Try.underlying29 rfl hsz) ?_
      change AlongK _ _ _ _ _ { tmps := #[.slice a n cap, .agg cs, _, .pointer (some ⟨w.heap.size, 0, none⟩), .slice none 0 0, .bool false, .agg cs, _, _, _, _, _, _, _, _, _, _, _, _, _, _, _, _, _, _], defers := _ } _
      refine alongK_step ?_
      refine opK_call (vs := [.agg cs]) rfl rfl rfl (enters_of Try.func20 (by kernel_rfl) rfl) rfl ?_
      with_reducible refine Calls.mono (HC.out _) ?_
      rintro e w4 ⟨rfl, hU4⟩
      have HU4 := Lib.hid (Up.trans (Up.drew1 _) hU4)
      clear hU4
      refine ⟨_, rfl, (fun x => Up (w.alloc (.cells cs 29)) x), (fun x hx => hx), HU4.out, ?_⟩
      change AlongK _ _ _ _ _ { tmps := #[.slice a n cap, .agg cs, _, .pointer (some ⟨w.heap.size, 0, none⟩), .slice none 0 0, .bool false, .agg cs, .int .i64 0, _, _, _, _, _, _, _, _, _, _, _, _, _, _, _, _, _], defers := _ } _
      refine alongK_read (.bool false) rfl rfl (fun wx hS => ex_neqi rfl (by rfl) (by rfl) (by simp) wx) ?_
      change AlongK _ _ _ _ _ { tmps := #[.slice a n cap, .agg cs, _, .pointer (some ⟨w.heap.size, 0, none⟩), .slice none 0 0, .bool false, .agg cs, .int .i64 0, .bool false, _, _, _, _, _, _, _, _, _, _, _, _, _, _, _, _], defers := _ } _
      refine alongK_read (.bool false) rfl rfl (fun wx hS => ex_move (by rfl) (by rfl) wx) ?_
      change AlongK _ _ _ _ _ { tmps := #[.slice a n cap, .agg cs, _, .pointer (some ⟨w.heap.size, 0, none⟩), .slice none 0 0, .bool false, .agg cs, .int .i64 0, .bool false, .bool false, _, _, _, _, _, _, _, _, _, _, _, _, _, _, _], defers := _ } _
      refine alongK_read (.slice a n cap) rfl rfl (fun wx hS => ex_move (by rfl) (by rfl) wx) ?_
      change AlongK _ _ _ _ _ { tmps := #[.slice a n cap, .agg cs, _, .pointer (some ⟨w.heap.size, 0, none⟩), .slice none 0 0, .bool false, .agg cs, .int .i64 0, .bool false, .bool false, .slice a n cap, _, _, _, _, _, _, _, _, _, _, _, _, _, _], defers := _ } _
      refine alongK_read (.int .i64 n) rfl rfl (fun wx hS => ex_lensl Try.underlying22 rfl rfl wx) ?_
      change AlongK _ _ _ _ _ { tmps := #[.slice a n cap, .agg cs, _, .pointer (some ⟨w.heap.size, 0, none⟩), .slice none 0 0, .bool false, .agg cs, .int .i64 0, .bool false, .bool false, .slice a n cap, .int .i64 n, _, _, _, _, _, _, _, _, _, _, _, _, _], defers := _ } _
      refine alongK_read (.bool true) rfl rfl (fun wx hS => ex_bin rfl rfl rfl wx (by simp [go_sem]; omega)) ?_
      change AlongK _ _ _ _ _ { tmps := #[.slice a n cap, .agg cs, _, .pointer (some ⟨w.heap.size, 0, none⟩), .slice none 0 0, .bool false, .agg cs, .int .i64 0, .bool false, .bool false, .slice a n cap, .int .i64 n, .bool true, _, _, _, _, _, _, _, _, _, _, _, _], defers := _ } _
      refine alongK_read (.bool true) rfl rfl (fun wx hS => ex_pickf rfl (by rfl) (by rfl) wx) ?_
      change AlongK _ _ _ _ _ { tmps := #[.slice a n cap, .agg cs, _, .pointer (some ⟨w.heap.size, 0, none⟩), .slice none 0 0, .bool false, .agg cs, .int .i64 0, .bool false, .bool false, .slice a n cap, .int .i64 n, .bool true, .bool true, _, _, _, _, _, _, _, _, _, _, _], defers := _ } _
      refine alongK_read (.bool true) rfl rfl (fun wx hS => ex_move (by rfl) (by rfl) wx) ?_
      change AlongK _ _ _ _ _ { tmps := #[.slice a n cap, .agg cs, _, .pointer (some ⟨w.heap.size, 0, none⟩), .slice none 0 0, .bool false, .agg cs, .int .i64 0, .bool false, .bool false, .slice a n cap, .int .i64 n, .bool true, .bool true, .bool true, _, _, _, _, _, _, _, _, _, _], defers := _ } _
      refine alongK_skip rfl rfl ?_
      change AlongK _ _ _ _ _ { tmps := #[.slice a n cap, .agg cs, _, .pointer (some ⟨w.heap.size, 0, none⟩), .slice none 0 0, .bool false, .agg cs, .int .i64 0, .bool false, .bool false, .slice a n cap, .int .i64 n, .bool true, .bool true, .bool true, undef, _, _, _, _, _, _, _, _, _], defers := _ } _
      refine alongK_skip rfl rfl ?_
      change AlongK _ _ _ _ _ { tmps := #[.slice a n cap, .agg cs, _, .pointer (some ⟨w.heap.size, 0, none⟩), .slice none 0 0, .bool false, .agg cs, .int .i64 0, .bool false, .bool false, .slice a n cap, .int .i64 n, .bool true, .bool true, .bool true, undef, undef, _, _, _, _, _, _, _, _], defers := _ } _
      refine alongK_skip rfl rfl ?_
      change AlongK _ _ _ _ _ { tmps := #[.slice a n cap, .agg cs, _, .pointer (some ⟨w.heap.size, 0, none⟩), .slice none 0 0, .bool false, .agg cs, .int .i64 0, .bool false, .bool false, .slice a n cap, .int .i64 n, .bool true, .bool true, .bool true, undef, undef, undef, _, _, _, _, _, _, _], defers := _ } _
      refine alongK_skip rfl rfl ?_
      change AlongK _ _ _ _ _ { tmps := #[.slice a n cap, .agg cs, _, .pointer (some ⟨w.heap.size, 0, none⟩), .slice none 0 0, .bool false, .agg cs, .int .i64 0, .bool false, .bool false, .slice a n cap, .int .i64 n, .bool true, .bool true, .bool true, undef, undef, undef, undef, _, _, _, _, _, _], defers := _ } _
      refine alongK_read (.bool true) rfl rfl (fun wx hS => ex_pickt rfl (by rfl) (by rfl) wx) ?_
      change AlongK _ _ _ _ _ { tmps := #[.slice a n cap, .agg cs, _, .pointer (some ⟨w.heap.size, 0, none⟩), .slice none 0 0, .bool false, .agg cs, .int .i64 0, .bool false, .bool false, .slice a n cap, .int .i64 n, .bool true, .bool true, .bool true, undef, undef, undef, undef, .bool true, _, _, _, _, _], defers := _ } _
      refine alongK_done ?_
      focus
        have HUE := Lib.hid (Up.trans (Up.alloc (Up.refl w) _) HU4.out)
        go_wp2
        refine bodyPost_ret (results_tmp2 rfl _ _ _) rfl ?_
        exact Or.inl ⟨Or.inr (Or.inl hbig), rfl, HUE.out⟩
    · have hlt : n < 16 := by omega
      cases M with
      | true =>
        go_enter Try.func12, Try.ntmps12
        go_wp2
        refine region_alongK (fun x => Up (w.alloc (.cells cs 29)) x) (.read 0 (.step 1 (.read 2 (.read 3 (.read 4 (.read 5 (.read 6 (.read 7 (.read 8 (.read 9 (.read 11 (.step 10 (.step 12 (.read 13 (.nil))))))))))))))) (by kernel_rfl) rfl (by kernel_rfl) (by kernel_rfl) (fun c a d v w h => by cases d <;> exact h) (Up.drew1 _) ?_
        refine alongK_read (.agg cs) rfl rfl (fun wx hS => ex_loadrow rfl rfl wx 29 (HB.out wx hS) Try.underlying29 rfl hsz) ?_
        change AlongK _ _ _ _ _ { tmps := #[.slice a n cap, .agg cs, _, .pointer (some ⟨w.heap.size, 0, none⟩), .slice none 0 0, .bool false, .agg cs, _, _, _, _, _, _, _, _, _, _, _, _, _, _, _, _, _, _], defers := _ } _
        refine alongK_step ?_
        refine opK_call (vs := [.agg cs]) rfl rfl rfl (enters_of Try.func20 (by kernel_rfl) rfl) rfl ?_
        with_reducible refine Calls.mono (HC.out _) ?_
        rintro e w4 ⟨rfl, hU4⟩
        have HU4 := Lib.hid (Up.trans (Up.drew1 _) hU4)
        clear hU4
        refine ⟨_, rfl, (fun x => Up (w.alloc (.cells cs 29)) x), (fun x hx => hx), HU4.out, ?_⟩
        change AlongK _ _ _ _ _ { tmps := #[.slice a n cap, .agg cs, _, .pointer (some ⟨w.heap.size, 0, none⟩), .slice none 0 0, .bool false, .agg cs, .int .i64 0, _, _, _, _, _, _, _, _, _, _, _, _, _, _, _, _, _], defers := _ } _
        refine alongK_read (.bool false) rfl rfl (fun wx hS => ex_neqi rfl (by rfl) (by rfl) (by simp) wx) ?_
        change AlongK _ _ _ _ _ { tmps := #[.slice a n cap, .agg cs, _, .pointer (some ⟨w.heap.size, 0, none⟩), .slice none 0 0, .bool false, .agg cs, .int .i64 0, .bool false, _, _, _, _, _, _, _, _, _, _, _, _, _, _, _, _], defers := _ } _
        refine alongK_read (.bool false) rfl rfl (fun wx hS => ex_move (by rfl) (by rfl) wx) ?_
        change AlongK _ _ _ _ _ { tmps := #[.slice a n cap, .agg cs, _, .pointer (some ⟨w.heap.size, 0, none⟩), .slice none 0 0, .bool false, .agg cs, .int .i64 0, .bool false, .bool false, _, _, _, _, _, _, _, _, _, _, _, _, _, _, _], defers := _ } _
        refine alongK_read (.slice a n cap) rfl rfl (fun wx hS => ex_move (by rfl) (by rfl) wx) ?_
        change AlongK _ _ _ _ _ { tmps := #[.slice a n cap, .agg cs, _, .pointer (some ⟨w.heap.size, 0, none⟩), .slice none 0 0, .bool false, .agg cs, .int .i64 0, .bool false, .bool false, .slice a n cap, _, _, _, _, _, _, _, _, _, _, _, _, _, _], defers := _ } _
        refine alongK_read (.int .i64 n) rfl rfl (fun wx hS => ex_lensl Try.underlying22 rfl rfl wx) ?_
        change AlongK _ _ _ _ _ { tmps := #[.slice a n cap, .agg cs, _, .pointer (some ⟨w.heap.size, 0, none⟩), .slice none 0 0, .bool false, .agg cs, .int .i64 0, .bool false, .bool false, .slice a n cap, .int .i64 n, _, _, _, _, _, _, _, _, _, _, _, _, _], defers := _ } _
        refine alongK_read (.bool false) rfl rfl (fun wx hS => ex_bin rfl rfl rfl wx (by simp [go_sem]; omega)) ?_
        change AlongK _ _ _ _ _ { tmps := #[.slice a n cap, .agg cs, _, .pointer (some ⟨w.heap.size, 0, none⟩), .slice none 0 0, .bool false, .agg cs, .int .i64 0, .bool false, .bool false, .slice a n cap, .int .i64 n, .bool false, _, _, _, _, _, _, _, _, _, _, _, _], defers := _ } _
        refine alongK_read (.bool false) rfl rfl (fun wx hS => ex_pickf rfl (by rfl) (by rfl) wx) ?_
        change AlongK _ _ _ _ _ { tmps := #[.slice a n cap, .agg cs, _, .pointer (some ⟨w.heap.size, 0, none⟩), .slice none 0 0, .bool false, .agg cs, .int .i64 0, .bool false, .bool false, .slice a n cap, .int .i64 n, .bool false, .bool false, _, _, _, _, _, _, _, _, _, _, _], defers := _ } _
        refine alongK_read (.bool false) rfl rfl (fun wx hS => ex_move (by rfl) (by rfl) wx) ?_
        change AlongK _ _ _ _ _ { tmps := #[.slice a n cap, .agg cs, _, .pointer (some ⟨w.heap.size, 0, none⟩), .slice none 0 0, .bool false, .agg cs, .int .i64 0, .bool false, .bool false, .slice a n cap, .int .i64 n, .bool false, .bool false, .bool false, _, _, _, _, _, _, _, _, _, _], defers := _ } _
        refine alongK_read (.slice a n cap) rfl rfl (fun wx hS => ex_move (by rfl) (by rfl) wx) ?_
        change AlongK _ _ _ _ _ { tmps := #[.slice a n cap, .agg cs, _, .pointer (some ⟨w.heap.size, 0, none⟩), .slice none 0 0, .bool false, .agg cs, .int .i64 0, .bool false, .bool false, .slice a n cap, .int .i64 n, .bool false, .bool false, .bool false, .slice a n cap, _, _, _, _, _, _, _, _, _], defers := _ } _
        refine alongK_read (.agg cs) rfl rfl (fun wx hS => ex_loadrow rfl rfl wx 29 (HB.out wx hS) Try.underlying29 rfl hsz) ?_
        change AlongK _ _ _ _ _ { tmps := #[.slice a n cap, .agg cs, _, .pointer (some ⟨w.heap.size, 0, none⟩), .slice none 0 0, .bool false, .agg cs, .int .i64 0, .bool false, .bool false, .slice a n cap, .int .i64 n, .bool false, .bool false, .bool false, .slice a n cap, _, .agg cs, _, _, _, _, _, _, _], defers := _ } _
        refine alongK_step ?_
        refine opK_call (vs := [.slice a n cap]) rfl rfl rfl (enters_of Try.func21 (by kernel_rfl) rfl) rfl ?_
        with_reducible refine Calls.mono (HM.out w4 HU4.out) ?_
        rintro e w5 ⟨rfl, hU5, hS5⟩
        have HU5 := Lib.hid (Up.trans HU4.out hU5)
        have HS5 := Lib.hid hS5
        clear hU5 hS5
        refine ⟨_, rfl, (fun x => Up (w.alloc (.cells cs 29)) x), (fun x hx => hx), HU5.out, ?_⟩
        change AlongK _ _ _ _ _ { tmps := #[.slice a n cap, .agg cs, _, .pointer (some ⟨w.heap.size, 0, none⟩), .slice none 0 0, .bool false, .agg cs, .int .i64 0, .bool false, .bool false, .slice a n cap, .int .i64 n, .bool false, .bool false, .bool false, .slice a n cap, .map (some w4.heap.size), .agg cs, _, _, _, _, _, _, _], defers := _ } _
        refine alongK_step ?_
        refine opK_call (vs := [.map (some w4.heap.size), .agg cs]) rfl rfl rfl (enters_of Try.func15 (by kernel_rfl) rfl) rfl ?_
        with_reducible refine Calls.mono (HH.out w5 _ HS5.out) ?_
        rintro e w6 ⟨rfl, hG6⟩
        have HU6 := Lib.hid (Up.trans HU5.out hG6.up)
        clear hG6
        refine ⟨_, rfl, (fun x => Up (w.alloc (.cells cs 29)) x), (fun x hx => hx), HU6.out, ?_⟩
        change AlongK _ _ _ _ _ { tmps := #[.slice a n cap, .agg cs, _, .pointer (some ⟨w.heap.size, 0, none⟩), .slice none 0 0, .bool false, .agg cs, .int .i64 0, .bool false, .bool false, .slice a n cap, .int .i64 n, .bool false, .bool false, .bool false, .slice a n cap, .map (some w4.heap.size), .agg cs, .bool true, _, _, _, _, _, _], defers := _ } _
        refine alongK_read (.bool true) rfl rfl (fun wx hS => ex_pickf rfl (by rfl) (by rfl) wx) ?_
        change AlongK _ _ _ _ _ { tmps := #[.slice a n cap, .agg cs, _, .pointer (some ⟨w.heap.size, 0, none⟩), .slice none 0 0, .bool false, .agg cs, .int .i64 0, .bool false, .bool false, .slice a n cap, .int .i64 n, .bool false, .bool false, .bool false, .slice a n cap, .map (some w4.heap.size), .agg cs, .bool true, .bool true, _, _, _, _, _], defers := _ } _
        refine alongK_done ?_
        focus
          have HUE := Lib.hid (Up.trans (Up.alloc (Up.refl w) _) HU6.out)
          go_wp2
          refine bodyPost_ret (results_tmp2 rfl _ _ _) rfl ?_
          exact Or.inl ⟨Or.inr (Or.inr (by first | rfl | trivial)), rfl, HUE.out⟩
      | false =>
        go_enter Try.func12, Try.ntmps12
        go_wp2
        refine region_alongK (fun x => Up (w.alloc (.cells cs 29)) x) (.read 0 (.step 1 (.read 2 (.read 3 (.read 4 (.read 5 (.read 6 (.read 7 (.read 8 (.read 9 (.read 11 (.step 10 (.step 12 (.read 13 (.nil))))))))))))))) (by kernel_rfl) rfl (by kernel_rfl) (by kernel_rfl) (fun c a d v w h => by cases d <;> exact h) (Up.drew1 _) ?_
        refine alongK_read (.agg cs) rfl rfl (fun wx hS => ex_loadrow rfl rfl wx 29 (HB.out wx hS) Try.underlying29 rfl hsz) ?_
        change AlongK _ _ _ _ _ { tmps := #[.slice a n cap, .agg cs, _, .pointer (some ⟨w.heap.size, 0, none⟩), .slice none 0 0, .bool false, .agg cs, _, _, _, _, _, _, _, _, _, _, _, _, _, _, _, _, _, _], defers := _ } _
        refine alongK_step ?_
        refine opK_call (vs := [.agg cs]) rfl rfl rfl (enters_of Try.func20 (by kernel_rfl) rfl) rfl ?_
        with_reducible refine Calls.mono (HC.out _) ?_
        rintro e w4 ⟨rfl, hU4⟩
        have HU4 := Lib.hid (Up.trans (Up.drew1 _) hU4)
        clear hU4
        refine ⟨_, rfl, (fun x => Up (w.alloc (.cells cs 29)) x), (fun x hx => hx), HU4.out, ?_⟩
        change AlongK _ _ _ _ _ { tmps := #[.slice a n cap, .agg cs, _, .pointer (some ⟨w.heap.size, 0, none⟩), .slice none 0 0, .bool false, .agg cs, .int .i64 0, _, _, _, _, _, _, _, _, _, _, _, _, _, _, _, _, _], defers := _ } _
        refine alongK_read (.bool false) rfl rfl (fun wx hS => ex_neqi rfl (by rfl) (by rfl) (by simp) wx) ?_
        change AlongK _ _ _ _ _ { tmps := #[.slice a n cap, .agg cs, _, .pointer (some ⟨w.heap.size, 0, none⟩), .slice none 0 0, .bool false, .agg cs, .int .i64 0, .bool false, _, _, _, _, _, _, _, _, _, _, _, _, _, _, _, _], defers := _ } _
        refine alongK_read (.bool false) rfl rfl (fun wx hS => ex_move (by rfl) (by rfl) wx) ?_
        change AlongK _ _ _ _ _ { tmps := #[.slice a n cap, .agg cs, _, .pointer (some ⟨w.heap.size, 0, none⟩), .slice none 0 0, .bool false, .agg cs, .int .i64 0, .bool false, .bool false, _, _, _, _, _, _, _, _, _, _, _, _, _, _, _], defers := _ } _
        refine alongK_read (.slice a n cap) rfl rfl (fun wx hS => ex_move (by rfl) (by rfl) wx) ?_
        change AlongK _ _ _ _ _ { tmps := #[.slice a n cap, .agg cs, _, .pointer (some ⟨w.heap.size, 0, none⟩), .slice none 0 0, .bool false, .agg cs, .int .i64 0, .bool false, .bool false, .slice a n cap, _, _, _, _, _, _, _, _, _, _, _, _, _, _], defers := _ } _
        refine alongK_read (.int .i64 n) rfl rfl (fun wx hS => ex_lensl Try.underlying22 rfl rfl wx) ?_
        change AlongK _ _ _ _ _ { tmps := #[.slice a n cap, .agg cs, _, .pointer (some ⟨w.heap.size, 0, none⟩), .slice none 0 0, .bool false, .agg cs, .int .i64 0, .bool false, .bool false, .slice a n cap, .int .i64 n, _, _, _, _, _, _, _, _, _, _, _, _, _], defers := _ } _
        refine alongK_read (.bool false) rfl rfl (fun wx hS => ex_bin rfl rfl rfl wx (by simp [go_sem]; omega)) ?_
        change AlongK _ _ _ _ _ { tmps := #[.slice a n cap, .agg cs, _, .pointer (some ⟨w.heap.size, 0, none⟩), .slice none 0 0, .bool false, .agg cs, .int .i64 0, .bool false, .bool false, .slice a n cap, .int .i64 n, .bool false, _, _, _, _, _, _, _, _, _, _, _, _], defers := _ } _
        refine alongK_read (.bool false) rfl rfl (fun wx hS => ex_pickf rfl (by rfl) (by rfl) wx) ?_
        change AlongK _ _ _ _ _ { tmps := #[.slice a n cap, .agg cs, _, .pointer (some ⟨w.heap.size, 0, none⟩), .slice none 0 0, .bool false, .agg cs, .int .i64 0, .bool false, .bool false, .slice a n cap, .int .i64 n, .bool false, .bool false, _, _, _, _, _, _, _, _, _, _, _], defers := _ } _
        refine alongK_read (.bool false) rfl rfl (fun wx hS => ex_move (by rfl) (by rfl) wx) ?_
        change AlongK _ _ _ _ _ { tmps := #[.slice a n cap, .agg cs, _, .pointer (some ⟨w.heap.size, 0, none⟩), .slice none 0 0, .bool false, .agg cs, .int .i64 0, .bool false, .bool false, .slice a n cap, .int .i64 n, .bool false, .bool false, .bool false, _, _, _, _, _, _, _, _, _, _], defers := _ } _
        refine alongK_read (.slice a n cap) rfl rfl (fun wx hS => ex_move (by rfl) (by rfl) wx) ?_
        change AlongK _ _ _ _ _ { tmps := #[.slice a n cap, .agg cs, _, .pointer (some ⟨w.heap.size, 0, none⟩), .slice none 0 0, .bool false, .agg cs, .int .i64 0, .bool false, .bool false, .slice a n cap, .int .i64 n, .bool false, .bool false, .bool false, .slice a n cap, _, _, _, _, _, _, _, _, _], defers := _ } _
        refine alongK_read (.agg cs) rfl rfl (fun wx hS => ex_loadrow rfl rfl wx 29 (HB.out wx hS) Try.underlying29 rfl hsz) ?_
        change AlongK _ _ _ _ _ { tmps := #[.slice a n cap, .agg cs, _, .pointer (some ⟨w.heap.size, 0, none⟩), .slice none 0 0, .bool false, .agg cs, .int .i64 0, .bool false, .bool false, .slice a n cap, .int .i64 n, .bool false, .bool false, .bool false, .slice a n cap, _, .agg cs, _, _, _, _, _, _, _], defers := _ } _
        refine alongK_step ?_
        refine opK_call (vs := [.slice a n cap]) rfl rfl rfl (enters_of Try.func21 (by kernel_rfl) rfl) rfl ?_
        with_reducible refine Calls.mono (HM.out w4 HU4.out) ?_
        rintro e w5 ⟨rfl, hU5, hS5⟩
        have HU5 := Lib.hid (Up.trans HU4.out hU5)
        have HS5 := Lib.hid hS5
        clear hU5 hS5
        refine ⟨_, rfl, (fun x => Up (w.alloc (.cells cs 29)) x), (fun x hx => hx), HU5.out, ?_⟩
        change AlongK _ _ _ _ _ { tmps := #[.slice a n cap, .agg cs, _, .pointer (some ⟨w.heap.size, 0, none⟩), .slice none 0 0, .bool false, .agg cs, .int .i64 0, .bool false, .bool false, .slice a n cap, .int .i64 n, .bool false, .bool false, .bool false, .slice a n cap, .map (some w4.heap.size), .agg cs, _, _, _, _, _, _, _], defers := _ } _
        refine alongK_step ?_
        refine opK_call (vs := [.map (some w4.heap.size), .agg cs]) rfl rfl rfl (enters_of Try.func15 (by kernel_rfl) rfl) rfl ?_
        with_reducible refine Calls.mono (HH.out w5 _ HS5.out) ?_
        rintro e w6 ⟨rfl, hG6⟩
        have HU6 := Lib.hid (Up.trans HU5.out hG6.up)
        clear hG6
        refine ⟨_, rfl, (fun x => Up (w.alloc (.cells cs 29)) x), (fun x hx => hx), HU6.out, ?_⟩
        change AlongK _ _ _ _ _ { tmps := #[.slice a n cap, .agg cs, _, .pointer (some ⟨w.heap.size, 0, none⟩), .slice none 0 0, .bool false, .agg cs, .int .i64 0, .bool false, .bool false, .slice a n cap, .int .i64 n, .bool false, .bool false, .bool false, .slice a n cap, .map (some w4.heap.size), .agg cs, .bool false, _, _, _, _, _, _], defers := _ } _
        refine alongK_read (.bool false) rfl rfl (fun wx hS => ex_pickf rfl (by rfl) (by rfl) wx) ?_
        change AlongK _ _ _ _ _ { tmps := #[.slice a n cap, .agg cs, _, .pointer (some ⟨w.heap.size, 0, none⟩), .slice none 0 0, .bool false, .agg cs, .int .i64 0, .bool false, .bool false, .slice a n cap, .int .i64 n, .bool false, .bool false, .bool false, .slice a n cap, .map (some w4.heap.size), .agg cs, .bool false, .bool false, _, _, _, _, _], defers := _ } _
        refine alongK_done ?_
        focus
          have hb2 := bld_twoT a (some ⟨w6.heap.size, 0, none⟩) n cap 1 1 (w6.alloc (.cells cs 29))
          have hu8 : Up w6 ((w6.alloc (.cells cs 29)).alloc (.cells #[.slice a n cap, .slice (some ⟨w6.heap.size, 0, none⟩) 1 1] 22)) := Up.alloc (Up.alloc (Up.refl w6) _) _
          have HU8 := Lib.hid (Up.trans (Up.trans (Up.alloc (Up.refl w) _) HU6.out) hu8)
          have hrow := heap_alloc_new (w6.alloc (.cells cs 29)) (.cells #[.slice a n cap, .slice (some ⟨w6.heap.size, 0, none⟩) 1 1] 22)
          have hone := ((Up.alloc (Up.refl (w6.alloc (.cells cs 29))) (.cells #[.slice a n cap, .slice (some ⟨w6.heap.size, 0, none⟩) 1 1] 22)).block _ (lt_of_block (heap_alloc_new w6 (.cells cs 29)))).trans (heap_alloc_new w6 (.cells cs 29))
          generalize (w6.alloc (.cells cs 29)).alloc (.cells #[.slice a n cap, .slice (some ⟨w6.heap.size, 0, none⟩) 1 1] 22) = w8 at hb2 hu8 HU8 hrow hone
          generalize (w6.alloc (.cells cs 29)).heap.size = b8 at hb2 hrow
          have HK := Lib.hid (concatT_any b8 2 [.slice a n cap, .slice (some ⟨w6.heap.size, 0, none⟩) 1 1] [xs, [x]] w8 (rowsT_two hrow (HX.out.up HU8.out) (HONE.out w8 _ hone)) (by simp) (by simp) (by have := HN.out; simp; omega))
          clear hu8 hrow hone
          go_wp2_with (refine wpList_ex rfl (.agg cs) w6 (ex_loadrow (x := .tmp 3) rfl rfl w6 29 (HB.out w6 HU6.out) Try.underlying29 rfl hsz) ?_; refine Stp.h ?_)
          refine Stp.mk ?_
          refine wpList_ex rfl _ _ (ex_slice1 _ _ (hbs0.out w6) rfl rfl) ?_
          refine wpList_ex rfl _ _ (ex_slice2 _ _ hb2 rfl rfl rfl) ?_
          go_wp2_with fail
          with_reducible refine Calls.mono HK.out ?_
          rintro e w9 ⟨r, rfl, hr, hU9⟩
          have HR9 := Lib.hid hr
          have HU9 := Lib.hid (Up.trans HU8.out hU9)
          clear hr hU9 HK
          go_wp2
          refine bodyPost_ret (results_tmp2 rfl _ _ _) rfl ?_
          refine Or.inr ⟨⟨by first | rfl | trivial, hlt, by first | rfl | trivial⟩, _, rfl, ?_, HU9.out⟩
          have := ownsRow_base HR9.out HU8.out.size
          simpa [HN.out] using this
  · go_enter Try.func12, Try.ntmps12
    go_wp2
    refine region_alongK (fun x => Up (w.alloc (.cells cs 29)) x) (.read 0 (.step 1 (.read 2 (.read 3 (.read 4 (.read 5 (.read 6 (.read 7 (.read 8 (.read 9 (.read 10 (.read 11 (.read 12 (.read 13 (.nil))))))))))))))) (by kernel_rfl) rfl (by kernel_rfl) (by kernel_rfl) (fun c a d v w h => by cases d <;> exact h) (Up.drew1 _) ?_
    refine alongK_read (.agg cs) rfl rfl (fun wx hS => ex_loadrow rfl rfl wx 29 (HB.out wx hS) Try.underlying29 rfl hsz) ?_
    change AlongK _ _ _ _ _ { tmps := #[.slice a n cap, .agg cs, _, .pointer (some ⟨w.heap.size, 0, none⟩), .slice none 0 0, .bool false, .agg cs, _, _, _, _, _, _, _, _, _, _, _, _, _, _, _, _, _, _], defers := _ } _
    refine alongK_step ?_
    refine opK_call (vs := [.agg cs]) rfl rfl rfl (enters_of Try.func20 (by kernel_rfl) rfl) rfl ?_
    with_reducible refine Calls.mono (HC.out _) ?_
    rintro e w4 ⟨rfl, hU4⟩
    have HU4 := Lib.hid (Up.trans (Up.drew1 _) hU4)
    clear hU4
    refine ⟨_, rfl, (fun x => Up (w.alloc (.cells cs 29)) x), (fun x hx => hx), HU4.out, ?_⟩
    change AlongK _ _ _ _ _ { tmps := #[.slice a n cap, .agg cs, _, .pointer (some ⟨w.heap.size, 0, none⟩), .slice none 0 0, .bool false, .agg cs, .int .i64 9, _, _, _, _, _, _, _, _, _, _, _, _, _, _, _, _, _], defers := _ } _
    refine alongK_read (.bool true) rfl rfl (fun wx hS => ex_neqi rfl (by rfl) (by rfl) (by simp) wx) ?_
    change AlongK _ _ _ _ _ { tmps := #[.slice a n cap, .agg cs, _, .pointer (some ⟨w.heap.size, 0, none⟩), .slice none 0 0, .bool false, .agg cs, .int .i64 9, .bool true, _, _, _, _, _, _, _, _, _, _, _, _, _, _, _, _], defers := _ } _
    refine alongK_read (.bool true) rfl rfl (fun wx hS => ex_move (by rfl) (by rfl) wx) ?_
    change AlongK _ _ _ _ _ { tmps := #[.slice a n cap, .agg cs, _, .pointer (some ⟨w.heap.size, 0, none⟩), .slice none 0 0, .bool false, .agg cs, .int .i64 9, .bool true, .bool true, _, _, _, _, _, _, _, _, _, _, _, _, _, _, _], defers := _ } _
    refine alongK_skip rfl rfl ?_
    change AlongK _ _ _ _ _ { tmps := #[.slice a n cap, .agg cs, _, .pointer (some ⟨w.heap.size, 0, none⟩), .slice none 0 0, .bool false, .agg cs, .int .i64 9, .bool true, .bool true, undef, _, _, _, _, _, _, _, _, _, _, _, _, _, _], defers := _ } _
    refine alongK_skip rfl rfl ?_
    change AlongK _ _ _ _ _ { tmps := #[.slice a n cap, .agg cs, _, .pointer (some ⟨w.heap.size, 0, none⟩), .slice none 0 0, .bool false, .agg cs, .int .i64 9, .bool true, .bool true, undef, undef, _, _, _, _, _, _, _, _, _, _, _, _, _], defers := _ } _
    refine alongK_skip rfl rfl ?_
    change AlongK _ _ _ _ _ { tmps := #[.slice a n cap, .agg cs, _, .pointer (some ⟨w.heap.size, 0, none⟩), .slice none 0 0, .bool false, .agg cs, .int .i64 9, .bool true, .bool true, undef, undef, undef, _, _, _, _, _, _, _, _, _, _, _, _], defers := _ } _
    refine alongK_read (.bool true) rfl rfl (fun wx hS => ex_pickt rfl (by rfl) (by rfl) wx) ?_
    change AlongK _ _ _ _ _ { tmps := #[.slice a n cap, .agg cs, _, .pointer (some ⟨w.heap.size, 0, none⟩), .slice none 0 0, .bool false, .agg cs, .int .i64 9, .bool true, .bool true, undef, undef, undef, .bool true, _, _, _, _, _, _, _, _, _, _, _], defers := _ } _
    refine alongK_read (.bool true) rfl rfl (fun wx hS => ex_move (by rfl) (by rfl) wx) ?_
    change AlongK _ _ _ _ _ { tmps := #[.slice a n cap, .agg cs, _, .pointer (some ⟨w.heap.size, 0, none⟩), .slice none 0 0, .bool false, .agg cs, .int .i64 9, .bool true, .bool true, undef, undef, undef, .bool true, .bool true, _, _, _, _, _, _, _, _, _, _], defers := _ } _
    refine alongK_skip rfl rfl ?_
    change AlongK _ _ _ _ _ { tmps := #[.slice a n cap, .agg cs, _, .pointer (some ⟨w.heap.size, 0, none⟩), .slice none 0 0, .bool false, .agg cs, .int .i64 9, .bool true, .bool true, undef, undef, undef, .bool true, .bool true, undef, _, _, _, _, _, _, _, _, _], defers := _ } _
    refine alongK_skip rfl rfl ?_
    change AlongK _ _ _ _ _ { tmps := #[.slice a n cap, .agg cs, _, .pointer (some ⟨w.heap.size, 0, none⟩), .slice none 0 0, .bool false, .agg cs, .int .i64 9, .bool true, .bool true, undef, undef, undef, .bool true, .bool true, undef, undef, _, _, _, _, _, _, _, _], defers := _ } _
    refine alongK_skip rfl rfl ?_
    change AlongK _ _ _ _ _ { tmps := #[.slice a n cap, .agg cs, _, .pointer (some ⟨w.heap.size, 0, none⟩), .slice none 0 0, .bool false, .agg cs, .int .i64 9, .bool true, .bool true, undef, undef, undef, .bool true, .bool true, undef, undef, undef, _, _, _, _, _, _, _], defers := _ } _
    refine alongK_skip rfl rfl ?_
    change AlongK _ _ _ _ _ { tmps := #[.slice a n cap, .agg cs, _, .pointer (some ⟨w.heap.size, 0, none⟩), .slice none 0 0, .bool false, .agg cs, .int .i64 9, .bool true, .bool true, undef, undef, undef, .bool true, .bool true, undef, undef, undef, undef, _, _, _, _, _, _], defers := _ } _
    refine alongK_read (.bool true) rfl rfl (fun wx hS => ex_pickt rfl (by rfl) (by rfl) wx) ?_
    change AlongK _ _ _ _ _ { tmps := #[.slice a n cap, .agg cs, _, .pointer (some ⟨w.heap.size, 0, none⟩), .slice none 0 0, .bool false, .agg cs, .int .i64 9, .bool true, .bool true, undef, undef, undef, .bool true, .bool true, undef, undef, undef, undef, .bool true, _, _, _, _, _], defers := _ } _
    refine alongK_done ?_
    focus
      have HUE := Lib.hid (Up.trans (Up.alloc (Up.refl w) _) HU4.out)
      go_wp2
      refine bodyPost_ret (results_tmp2 rfl _ _ _) rfl ?_
      exact Or.inl ⟨Or.inl (by decide), rfl, HUE.out⟩
end
end Go.Proofs.Ytmohlfeobdfhdaa
