import Derived.Test.YtnipkhgaceicbaaLawGdBelow
import Derived.Test.YtnipkhgaceicbaaGdOpenV
/-
  What MayVote and MayCommit refuse: below the lock, and in a view that is spoilt.
-/
namespace Go.Proofs.Ytnipkhgaceicbaa
set_option maxRecDepth 100000
section
set_option linter.unusedVariables false
open Go.RowKit Go.Sort Go.Lib

theorem nameT_le (x : Tb) : (nameT x).size ≤ maxLen := by
  by_cases h : mayT x
  · rw [nameT_size h]; decide
  · rw [nameT_no h]; decide
theorem isAgg_ctG (w : World) : (isAgg 38).run Try.prog w = .ok true w := by kernel_rfl
theorem sizeOf_ctG (w : World) : (sizeOf 38).run Try.prog w = .ok 4 w := by kernel_rfl
def jL (x : Tb) : List Value := [.int .i64 x.JV, .int .i64 x.JH, .string x.JB, .slice x.ja x.vs.length x.jc]
theorem tb_just (x : Tb) : At (tbA x) 3 (jL x) := by
  intro j v hj
  match j, hj with
  | 0, h => exact h
  | 1, h => exact h
  | 2, h => exact h
  | 3, h => exact h
  | j + 4, h => simp [jL] at h
set_option maxHeartbeats 4000000 in
theorem voteNo : VoteNo := by
  intro s base g x w hL hx hxf hxo hor
  obtain ⟨mb, n, T, hT, hn, _⟩ := hL
  have HMk : Hid (∀ wx, Up w wx → Calls Try.prog 18 #[.agg (tbA x)] wx fun e w' => e = .returned (.agg (mkC x.V x.H (nameT x))) ∧ Up wx w') := Lib.hid fun wx hu => bkMark_any x wx (hx.up hu).2 (by have := hxf.2.1; omega)
  have HOp : Hid (∀ wx, Calls Try.prog 19 #[.agg (gsA s), .agg (mkC x.V x.H (nameT x))] wx fun e w' => e = .returned (.bool (openG s x.V)) ∧ Up wx w') := Lib.hid fun wx => isOpen_any s x.V x.H (nameT x) wx
  have HEx : Hid (∀ wx, Up w wx → Calls Try.prog 20 #[.pointer (some ⟨g, 0, none⟩), .string (nameT x), .string (nameT x)] wx fun e w' => e = .returned (.bool (extT T n (nameT x) (nameT x))) ∧ Up wx w') := Lib.hid fun wx hu => extends_any (hT.core.up hu) (by omega) (nameT x) (nameT x) (nameT_le x)
  have HCm : Hid (∀ wx, Calls Try.prog 13 #[.agg (jL x).toArray] wx fun e w' => e = .returned (.agg (mkC x.JV x.JH x.JB)) ∧ Up wx w') := Lib.hid fun wx => mark_any x.JV x.JH x.JB x.ja x.vs.length x.jc wx
  have HHi : Hid (∀ wx, Calls Try.prog 15 #[.agg s.c.l.toArray, .agg (mkC x.JV x.JH x.JB)] wx fun e w' => e = .returned (.bool (hiB s.c.V s.c.H x.JV x.JH)) ∧ Up wx w') := Lib.hid fun wx => higher_any s.c.V s.c.H s.c.B x.JV x.JH x.JB wx
  have hor2 : openG s x.V = true → hiB s.c.V s.c.H x.JV x.JH = true := fun h => by
    rcases hor with h1 | h1
    · exact h1
    · unfold openG at h; rw [h1] at h; simp at h
  have hat := gs_lock s
  have hjt := tb_just x
  have hcl : s.c.l.length = 3 := rfl
  have hjl : (jL x).length = 4 := rfl
  have hsz : (gsA s).size = 11 := rfl
  have hbz : (tbA x).size = 9 := rfl
  have hmo : (mkC x.V x.H (nameT x)).all (·.oneCell') = true := one_mk _ _ _
  have hms : (mkC x.V x.H (nameT x)).size = 3 := rfl
  have hm2 : (mkC x.V x.H (nameT x))[2]? = some (.string (nameT x)) := rfl
  clear hT hn hx hxf hxo hor
  generalize openG s x.V = OP at HOp hor2
  generalize hiB s.c.V s.c.H x.JV x.JH = D at HHi hor2
  generalize extT T n (nameT x) (nameT x) = EX at HEx
  generalize mkC x.JV x.JH x.JB = jm at HCm HHi
  generalize mkC x.V x.H (nameT x) = mx at HMk HOp hmo hms hm2
  generalize nameT x = NM at HEx hm2
  generalize jL x = jl at HCm hjt hjl
  generalize gsA s = cs at HOp hat hsz ⊢
  generalize s.c.l = cl at HHi hat hcl
  generalize tbA x = bx at HMk hjt hbz ⊢
  have ha := heap_alloc_new w (.cells cs 28)
  have hu1 := Up.alloc (Up.refl (w.alloc (.cells cs 28))) (.cells bx 41)
  have hb := heap_alloc_new (w.alloc (.cells cs 28)) (.cells bx 41)
  rw [show (w.alloc (.cells cs 28)).heap.size = w.heap.size + 1 by simp] at hb
  have HA := Lib.hid ((hu1.block _ (lt_of_block ha)).trans ha)
  have HB := Lib.hid hb
  have HU := Lib.hid ((Up.alloc (Up.refl w) (.cells cs 28)).trans hu1)
  clear ha hb hu1
  go_enter Try.func11, Try.ntmps11
  go_upto_region 1 with fail
  generalize (w.alloc (.cells cs 28)).alloc (.cells bx 41) = w3 at HA HB HU ⊢
  obtain ⟨A, hA⟩ : ∃ A, w.heap.size = A := ⟨_, rfl⟩
  rw [hA] at HA HB ⊢
  clear hA
  go_wp2_with (refine wpList_ex rfl (.agg bx) _ (ex_loadrow (x := .tmp 5) rfl rfl _ 41 HB.out Try.underlying41 rfl (by rw [info_bk, hbz])) ?_)
  with_reducible refine Calls.mono (HMk.out _ HU.out) ?_
  rintro e w4 ⟨rfl, hU4⟩
  have HA4 := Lib.hid (row_up HA.out hU4)
  have HB4 := Lib.hid (row_up HB.out hU4)
  have HU4 := Lib.hid (HU.out.trans hU4)
  clear hU4 HA HB HU HMk
  go_upto_region 2 with (refine wpList_exs rfl (w4.alloc (.cells mx 26)) (ex_fillG (x := .tmp 7) (y := .tmp 11) rfl rfl rfl (by rw [info_mk, hms]) (by rw [hms]; rfl) hmo) ?_)
  have HM5 := Lib.hid (heap_alloc_new w4 (.cells mx 26))
  have hu5 := Up.alloc (Up.refl w4) (.cells mx 26)
  have HA5 := Lib.hid (row_up HA4.out hu5)
  have HB5 := Lib.hid (row_up HB4.out hu5)
  have HU5 := Lib.hid (HU4.out.trans hu5)
  clear hu5 HA4 HB4 HU4
  generalize w4.alloc (.cells mx 26) = w5 at HM5 HA5 HB5 HU5 ⊢
  generalize w4.heap.size = C at HM5 ⊢
  have HD := Lib.hid (HU5.out.trans (Up.drew1 w5))
  cases OP with
  | false =>
    go_wp2
    refine region_alongK (fun x => Up w5 x) (.read 0 (.read 1 (.step 2 (.read 3 (.read 4 (.read 5 (.read 6 (.read 7 (.read 8 (.read 9 (.read 10 (.read 11 (.read 12 (.read 13 (.read 14 (.read 15 (.read 16 (.read 17 (.read 18 (.read 19 (.read 20 (.nil)))))))))))))))))))))) (by kernel_rfl) rfl (by kernel_rfl) (by kernel_rfl) (fun c a d v w h => by cases d <;> exact h) (Up.drew1 w5) ?_
    refine alongK_read (.agg cs) rfl rfl (fun wx hS => ex_loadrow rfl rfl wx 28 (row_up HA5.out hS) Try.underlying28 rfl (by rw [info_gs, hsz])) ?_
    refine alongK_read (.agg mx) rfl rfl (fun wx hS => ex_loadrow rfl rfl wx 26 (row_up HM5.out hS) Try.underlying26 rfl (by rw [info_mk, hms])) ?_
    change AlongK _ _ _ _ _ { tmps := #[.agg cs, .pointer (some ⟨g, 0, none⟩), .agg bx, .pointer (some ⟨A, 0, none⟩), _, .pointer (some ⟨A + 1, 0, none⟩), .bool false, .pointer (some ⟨C, 0, none⟩), _, _, _, _, .agg cs, .agg mx, _, _, _, _, _, _, _, _, _, _, _, _, _, _, _, _, _, _, _, _, _, _, _, _, _, _, _, _, _, _, _, _, _, _, _, _, _, _, _, _, _, _, _, _, _, _, _, _, _, _, _, _, _, _, _, _, _, _, _, _], defers := _ } _
    refine alongK_step ?_
    refine opK_call (vs := [.agg cs, .agg mx]) rfl rfl rfl (enters_of Try.func19 (by kernel_rfl) rfl) rfl ?_
    with_reducible refine Calls.mono (HOp.out _) ?_
    rintro e y2 ⟨rfl, hy2⟩
    refine ⟨_, rfl, (fun x => Up w5 x), (fun _ h => h), (Up.trans (Up.drew1 w5) hy2), ?_⟩
    change AlongK _ _ _ _ _ { tmps := #[.agg cs, .pointer (some ⟨g, 0, none⟩), .agg bx, .pointer (some ⟨A, 0, none⟩), _, .pointer (some ⟨A + 1, 0, none⟩), .bool false, .pointer (some ⟨C, 0, none⟩), _, _, _, _, .agg cs, .agg mx, .bool false, _, _, _, _, _, _, _, _, _, _, _, _, _, _, _, _, _, _, _, _, _, _, _, _, _, _, _, _, _, _, _, _, _, _, _, _, _, _, _, _, _, _, _, _, _, _, _, _, _, _, _, _, _, _, _, _, _, _, _], defers := _ } _
    refine alongK_read (.bool true) rfl rfl (fun wx hS => ex_not (b := false) rfl rfl wx) ?_
    refine alongK_read (.bool true) rfl rfl (fun wx hS => ex_move (by rfl) (by rfl) wx) ?_
    change AlongK _ _ _ _ _ { tmps := #[.agg cs, .pointer (some ⟨g, 0, none⟩), .agg bx, .pointer (some ⟨A, 0, none⟩), _, .pointer (some ⟨A + 1, 0, none⟩), .bool false, .pointer (some ⟨C, 0, none⟩), _, _, _, _, .agg cs, .agg mx, .bool false, .bool true, .bool true, _, _, _, _, _, _, _, _, _, _, _, _, _, _, _, _, _, _, _, _, _, _, _, _, _, _, _, _, _, _, _, _, _, _, _, _, _, _, _, _, _, _, _, _, _, _, _, _, _, _, _, _, _, _, _, _, _], defers := _ } _
    refine alongK_skip rfl rfl ?_
    refine alongK_skip rfl rfl ?_
    change AlongK _ _ _ _ _ { tmps := #[.agg cs, .pointer (some ⟨g, 0, none⟩), .agg bx, .pointer (some ⟨A, 0, none⟩), _, .pointer (some ⟨A + 1, 0, none⟩), .bool false, .pointer (some ⟨C, 0, none⟩), _, _, _, _, .agg cs, .agg mx, .bool false, .bool true, .bool true, undef, undef, _, _, _, _, _, _, _, _, _, _, _, _, _, _, _, _, _, _, _, _, _, _, _, _, _, _, _, _, _, _, _, _, _, _, _, _, _, _, _, _, _, _, _, _, _, _, _, _, _, _, _, _, _, _, _], defers := _ } _
    refine alongK_skip rfl rfl ?_
    refine alongK_skip rfl rfl ?_
    change AlongK _ _ _ _ _ { tmps := #[.agg cs, .pointer (some ⟨g, 0, none⟩), .agg bx, .pointer (some ⟨A, 0, none⟩), _, .pointer (some ⟨A + 1, 0, none⟩), .bool false, .pointer (some ⟨C, 0, none⟩), _, _, _, _, .agg cs, .agg mx, .bool false, .bool true, .bool true, undef, undef, undef, undef, _, _, _, _, _, _, _, _, _, _, _, _, _, _, _, _, _, _, _, _, _, _, _, _, _, _, _, _, _, _, _, _, _, _, _, _, _, _, _, _, _, _, _, _, _, _, _, _, _, _, _, _, _], defers := _ } _
    refine alongK_skip rfl rfl ?_
    refine alongK_skip rfl rfl ?_
    change AlongK _ _ _ _ _ { tmps := #[.agg cs, .pointer (some ⟨g, 0, none⟩), .agg bx, .pointer (some ⟨A, 0, none⟩), _, .pointer (some ⟨A + 1, 0, none⟩), .bool false, .pointer (some ⟨C, 0, none⟩), _, _, _, _, .agg cs, .agg mx, .bool false, .bool true, .bool true, undef, undef, undef, undef, undef, undef, _, _, _, _, _, _, _, _, _, _, _, _, _, _, _, _, _, _, _, _, _, _, _, _, _, _, _, _, _, _, _, _, _, _, _, _, _, _, _, _, _, _, _, _, _, _, _, _, _, _, _], defers := _ } _
    refine alongK_skip rfl rfl ?_
    refine alongK_read (.bool true) rfl rfl (fun wx hS => ex_pickt rfl (by rfl) (by rfl) wx) ?_
    change AlongK _ _ _ _ _ { tmps := #[.agg cs, .pointer (some ⟨g, 0, none⟩), .agg bx, .pointer (some ⟨A, 0, none⟩), _, .pointer (some ⟨A + 1, 0, none⟩), .bool false, .pointer (some ⟨C, 0, none⟩), _, _, _, _, .agg cs, .agg mx, .bool false, .bool true, .bool true, undef, undef, undef, undef, undef, undef, undef, .bool true, _, _, _, _, _, _, _, _, _, _, _, _, _, _, _, _, _, _, _, _, _, _, _, _, _, _, _, _, _, _, _, _, _, _, _, _, _, _, _, _, _, _, _, _, _, _, _, _, _], defers := _ } _
    refine alongK_read (.bool true) rfl rfl (fun wx hS => ex_move (by rfl) (by rfl) wx) ?_
    refine alongK_skip rfl rfl ?_
    change AlongK _ _ _ _ _ { tmps := #[.agg cs, .pointer (some ⟨g, 0, none⟩), .agg bx, .pointer (some ⟨A, 0, none⟩), _, .pointer (some ⟨A + 1, 0, none⟩), .bool false, .pointer (some ⟨C, 0, none⟩), _, _, _, _, .agg cs, .agg mx, .bool false, .bool true, .bool true, undef, undef, undef, undef, undef, undef, undef, .bool true, .bool true, undef, _, _, _, _, _, _, _, _, _, _, _, _, _, _, _, _, _, _, _, _, _, _, _, _, _, _, _, _, _, _, _, _, _, _, _, _, _, _, _, _, _, _, _, _, _, _, _], defers := _ } _
    refine alongK_skip rfl rfl ?_
    refine alongK_skip rfl rfl ?_
    change AlongK _ _ _ _ _ { tmps := #[.agg cs, .pointer (some ⟨g, 0, none⟩), .agg bx, .pointer (some ⟨A, 0, none⟩), _, .pointer (some ⟨A + 1, 0, none⟩), .bool false, .pointer (some ⟨C, 0, none⟩), _, _, _, _, .agg cs, .agg mx, .bool false, .bool true, .bool true, undef, undef, undef, undef, undef, undef, undef, .bool true, .bool true, undef, undef, undef, _, _, _, _, _, _, _, _, _, _, _, _, _, _, _, _, _, _, _, _, _, _, _, _, _, _, _, _, _, _, _, _, _, _, _, _, _, _, _, _, _, _, _, _, _], defers := _ } _
    refine alongK_skip rfl rfl ?_
    refine alongK_skip rfl rfl ?_
    change AlongK _ _ _ _ _ { tmps := #[.agg cs, .pointer (some ⟨g, 0, none⟩), .agg bx, .pointer (some ⟨A, 0, none⟩), _, .pointer (some ⟨A + 1, 0, none⟩), .bool false, .pointer (some ⟨C, 0, none⟩), _, _, _, _, .agg cs, .agg mx, .bool false, .bool true, .bool true, undef, undef, undef, undef, undef, undef, undef, .bool true, .bool true, undef, undef, undef, undef, undef, _, _, _, _, _, _, _, _, _, _, _, _, _, _, _, _, _, _, _, _, _, _, _, _, _, _, _, _, _, _, _, _, _, _, _, _, _, _, _, _, _, _, _], defers := _ } _
    refine alongK_skip rfl rfl ?_
    refine alongK_read (.bool true) rfl rfl (fun wx hS => ex_pickt rfl (by rfl) (by rfl) wx) ?_
    change AlongK _ _ _ _ _ { tmps := #[.agg cs, .pointer (some ⟨g, 0, none⟩), .agg bx, .pointer (some ⟨A, 0, none⟩), _, .pointer (some ⟨A + 1, 0, none⟩), .bool false, .pointer (some ⟨C, 0, none⟩), _, _, _, _, .agg cs, .agg mx, .bool false, .bool true, .bool true, undef, undef, undef, undef, undef, undef, undef, .bool true, .bool true, undef, undef, undef, undef, undef, undef, .bool true, _, _, _, _, _, _, _, _, _, _, _, _, _, _, _, _, _, _, _, _, _, _, _, _, _, _, _, _, _, _, _, _, _, _, _, _, _, _, _, _, _], defers := _ } _
    refine alongK_done ?_
    have HEND := Lib.hid (HU5.out.trans (Up.trans (Up.drew1 w5) hy2))
    go_wp2
    go_ret
    exact ⟨rfl, HEND.out⟩
  | true =>
    obtain rfl := hor2 rfl
    cases EX with
    | false =>
      go_wp2
      refine region_alongK (fun x => Up w5 x) (.read 0 (.read 1 (.step 2 (.read 3 (.read 4 (.read 5 (.read 6 (.read 7 (.read 8 (.read 9 (.step 10 (.read 11 (.read 12 (.read 13 (.read 14 (.read 15 (.read 16 (.read 17 (.read 18 (.read 19 (.read 20 (.nil)))))))))))))))))))))) (by kernel_rfl) rfl (by kernel_rfl) (by kernel_rfl) (fun c a d v w h => by cases d <;> exact h) (Up.drew1 w5) ?_
      refine alongK_read (.agg cs) rfl rfl (fun wx hS => ex_loadrow rfl rfl wx 28 (row_up HA5.out hS) Try.underlying28 rfl (by rw [info_gs, hsz])) ?_
      refine alongK_read (.agg mx) rfl rfl (fun wx hS => ex_loadrow rfl rfl wx 26 (row_up HM5.out hS) Try.underlying26 rfl (by rw [info_mk, hms])) ?_
      change AlongK _ _ _ _ _ { tmps := #[.agg cs, .pointer (some ⟨g, 0, none⟩), .agg bx, .pointer (some ⟨A, 0, none⟩), _, .pointer (some ⟨A + 1, 0, none⟩), .bool false, .pointer (some ⟨C, 0, none⟩), _, _, _, _, .agg cs, .agg mx, _, _, _, _, _, _, _, _, _, _, _, _, _, _, _, _, _, _, _, _, _, _, _, _, _, _, _, _, _, _, _, _, _, _, _, _, _, _, _, _, _, _, _, _, _, _, _, _, _, _, _, _, _, _, _, _, _, _, _, _], defers := _ } _
      refine alongK_step ?_
      refine opK_call (vs := [.agg cs, .agg mx]) rfl rfl rfl (enters_of Try.func19 (by kernel_rfl) rfl) rfl ?_
      with_reducible refine Calls.mono (HOp.out _) ?_
      rintro e y2 ⟨rfl, hy2⟩
      refine ⟨_, rfl, (fun x => Up w5 x), (fun _ h => h), (Up.trans (Up.drew1 w5) hy2), ?_⟩
      change AlongK _ _ _ _ _ { tmps := #[.agg cs, .pointer (some ⟨g, 0, none⟩), .agg bx, .pointer (some ⟨A, 0, none⟩), _, .pointer (some ⟨A + 1, 0, none⟩), .bool false, .pointer (some ⟨C, 0, none⟩), _, _, _, _, .agg cs, .agg mx, .bool true, _, _, _, _, _, _, _, _, _, _, _, _, _, _, _, _, _, _, _, _, _, _, _, _, _, _, _, _, _, _, _, _, _, _, _, _, _, _, _, _, _, _, _, _, _, _, _, _, _, _, _, _, _, _, _, _, _, _, _], defers := _ } _
      refine alongK_read (.bool false) rfl rfl (fun wx hS => ex_not (b := true) rfl rfl wx) ?_
      refine alongK_read (.bool false) rfl rfl (fun wx hS => ex_move (by rfl) (by rfl) wx) ?_
      change AlongK _ _ _ _ _ { tmps := #[.agg cs, .pointer (some ⟨g, 0, none⟩), .agg bx, .pointer (some ⟨A, 0, none⟩), _, .pointer (some ⟨A + 1, 0, none⟩), .bool false, .pointer (some ⟨C, 0, none⟩), _, _, _, _, .agg cs, .agg mx, .bool true, .bool false, .bool false, _, _, _, _, _, _, _, _, _, _, _, _, _, _, _, _, _, _, _, _, _, _, _, _, _, _, _, _, _, _, _, _, _, _, _, _, _, _, _, _, _, _, _, _, _, _, _, _, _, _, _, _, _, _, _, _, _], defers := _ } _
      refine alongK_read (.pointer (some ⟨g, 0, none⟩)) rfl rfl (fun wx hS => ex_move (by rfl) (by rfl) wx) ?_
      refine alongK_read (.pointer (some ⟨C, 2, none⟩)) rfl rfl (fun wx hS => ex_field rfl rfl wx (by simp [go_sem])) ?_
      change AlongK _ _ _ _ _ { tmps := #[.agg cs, .pointer (some ⟨g, 0, none⟩), .agg bx, .pointer (some ⟨A, 0, none⟩), _, .pointer (some ⟨A + 1, 0, none⟩), .bool false, .pointer (some ⟨C, 0, none⟩), _, _, _, _, .agg cs, .agg mx, .bool true, .bool false, .bool false, .pointer (some ⟨g, 0, none⟩), .pointer (some ⟨C, 2, none⟩), _, _, _, _, _, _, _, _, _, _, _, _, _, _, _, _, _, _, _, _, _, _, _, _, _, _, _, _, _, _, _, _, _, _, _, _, _, _, _, _, _, _, _, _, _, _, _, _, _, _, _, _, _, _, _], defers := _ } _
      refine alongK_read (.string NM) rfl rfl (fun wx hS => ex_load Try.isAgg9 rfl rfl wx (tx_cell (row_up HM5.out hS) 2 hm2)) ?_
      refine alongK_read (.pointer (some ⟨C, 2, none⟩)) rfl rfl (fun wx hS => ex_field rfl rfl wx (by simp [go_sem])) ?_
      change AlongK _ _ _ _ _ { tmps := #[.agg cs, .pointer (some ⟨g, 0, none⟩), .agg bx, .pointer (some ⟨A, 0, none⟩), _, .pointer (some ⟨A + 1, 0, none⟩), .bool false, .pointer (some ⟨C, 0, none⟩), _, _, _, _, .agg cs, .agg mx, .bool true, .bool false, .bool false, .pointer (some ⟨g, 0, none⟩), .pointer (some ⟨C, 2, none⟩), .string NM, .pointer (some ⟨C, 2, none⟩), _, _, _, _, _, _, _, _, _, _, _, _, _, _, _, _, _, _, _, _, _, _, _, _, _, _, _, _, _, _, _, _, _, _, _, _, _, _, _, _, _, _, _, _, _, _, _, _, _, _, _, _, _], defers := _ } _
      refine alongK_read (.string NM) rfl rfl (fun wx hS => ex_load Try.isAgg9 rfl rfl wx (tx_cell (row_up HM5.out hS) 2 hm2)) ?_
      change AlongK _ _ _ _ _ { tmps := #[.agg cs, .pointer (some ⟨g, 0, none⟩), .agg bx, .pointer (some ⟨A, 0, none⟩), _, .pointer (some ⟨A + 1, 0, none⟩), .bool false, .pointer (some ⟨C, 0, none⟩), _, _, _, _, .agg cs, .agg mx, .bool true, .bool false, .bool false, .pointer (some ⟨g, 0, none⟩), .pointer (some ⟨C, 2, none⟩), .string NM, .pointer (some ⟨C, 2, none⟩), .string NM, _, _, _, _, _, _, _, _, _, _, _, _, _, _, _, _, _, _, _, _, _, _, _, _, _, _, _, _, _, _, _, _, _, _, _, _, _, _, _, _, _, _, _, _, _, _, _, _, _, _, _, _], defers := _ } _
      refine alongK_step ?_
      refine opK_call (vs := [.pointer (some ⟨g, 0, none⟩), .string NM, .string NM]) rfl rfl rfl (enters_of Try.func20 (by kernel_rfl) rfl) rfl ?_
      with_reducible refine Calls.mono (HEx.out _ (HU5.out.trans (Up.trans (Up.drew1 w5) hy2))) ?_
      rintro e y10 ⟨rfl, hy10⟩
      refine ⟨_, rfl, (fun x => Up w5 x), (fun _ h => h), (Up.trans (Up.trans (Up.drew1 w5) hy2) hy10), ?_⟩
      change AlongK _ _ _ _ _ { tmps := #[.agg cs, .pointer (some ⟨g, 0, none⟩), .agg bx, .pointer (some ⟨A, 0, none⟩), _, .pointer (some ⟨A + 1, 0, none⟩), .bool false, .pointer (some ⟨C, 0, none⟩), _, _, _, _, .agg cs, .agg mx, .bool true, .bool false, .bool false, .pointer (some ⟨g, 0, none⟩), .pointer (some ⟨C, 2, none⟩), .string NM, .pointer (some ⟨C, 2, none⟩), .string NM, .bool false, _, _, _, _, _, _, _, _, _, _, _, _, _, _, _, _, _, _, _, _, _, _, _, _, _, _, _, _, _, _, _, _, _, _, _, _, _, _, _, _, _, _, _, _, _, _, _, _, _, _, _], defers := _ } _
      refine alongK_read (.bool true) rfl rfl (fun wx hS => ex_not (b := false) rfl rfl wx) ?_
      refine alongK_read (.bool true) rfl rfl (fun wx hS => ex_pickf rfl (by rfl) (by rfl) wx) ?_
      change AlongK _ _ _ _ _ { tmps := #[.agg cs, .pointer (some ⟨g, 0, none⟩), .agg bx, .pointer (some ⟨A, 0, none⟩), _, .pointer (some ⟨A + 1, 0, none⟩), .bool false, .pointer (some ⟨C, 0, none⟩), _, _, _, _, .agg cs, .agg mx, .bool true, .bool false, .bool false, .pointer (some ⟨g, 0, none⟩), .pointer (some ⟨C, 2, none⟩), .string NM, .pointer (some ⟨C, 2, none⟩), .string NM, .bool false, .bool true, .bool true, _, _, _, _, _, _, _, _, _, _, _, _, _, _, _, _, _, _, _, _, _, _, _, _, _, _, _, _, _, _, _, _, _, _, _, _, _, _, _, _, _, _, _, _, _, _, _, _, _], defers := _ } _
      refine alongK_read (.bool true) rfl rfl (fun wx hS => ex_move (by rfl) (by rfl) wx) ?_
      refine alongK_skip rfl rfl ?_
      change AlongK _ _ _ _ _ { tmps := #[.agg cs, .pointer (some ⟨g, 0, none⟩), .agg bx, .pointer (some ⟨A, 0, none⟩), _, .pointer (some ⟨A + 1, 0, none⟩), .bool false, .pointer (some ⟨C, 0, none⟩), _, _, _, _, .agg cs, .agg mx, .bool true, .bool false, .bool false, .pointer (some ⟨g, 0, none⟩), .pointer (some ⟨C, 2, none⟩), .string NM, .pointer (some ⟨C, 2, none⟩), .string NM, .bool false, .bool true, .bool true, .bool true, undef, _, _, _, _, _, _, _, _, _, _, _, _, _, _, _, _, _, _, _, _, _, _, _, _, _, _, _, _, _, _, _, _, _, _, _, _, _, _, _, _, _, _, _, _, _, _, _], defers := _ } _
      refine alongK_skip rfl rfl ?_
      refine alongK_skip rfl rfl ?_
      change AlongK _ _ _ _ _ { tmps := #[.agg cs, .pointer (some ⟨g, 0, none⟩), .agg bx, .pointer (some ⟨A, 0, none⟩), _, .pointer (some ⟨A + 1, 0, none⟩), .bool false, .pointer (some ⟨C, 0, none⟩), _, _, _, _, .agg cs, .agg mx, .bool true, .bool false, .bool false, .pointer (some ⟨g, 0, none⟩), .pointer (some ⟨C, 2, none⟩), .string NM, .pointer (some ⟨C, 2, none⟩), .string NM, .bool false, .bool true, .bool true, .bool true, undef, undef, undef, _, _, _, _, _, _, _, _, _, _, _, _, _, _, _, _, _, _, _, _, _, _, _, _, _, _, _, _, _, _, _, _, _, _, _, _, _, _, _, _, _, _, _, _, _], defers := _ } _
      refine alongK_skip rfl rfl ?_
      refine alongK_skip rfl rfl ?_
      change AlongK _ _ _ _ _ { tmps := #[.agg cs, .pointer (some ⟨g, 0, none⟩), .agg bx, .pointer (some ⟨A, 0, none⟩), _, .pointer (some ⟨A + 1, 0, none⟩), .bool false, .pointer (some ⟨C, 0, none⟩), _, _, _, _, .agg cs, .agg mx, .bool true, .bool false, .bool false, .pointer (some ⟨g, 0, none⟩), .pointer (some ⟨C, 2, none⟩), .string NM, .pointer (some ⟨C, 2, none⟩), .string NM, .bool false, .bool true, .bool true, .bool true, undef, undef, undef, undef, undef, _, _, _, _, _, _, _, _, _, _, _, _, _, _, _, _, _, _, _, _, _, _, _, _, _, _, _, _, _, _, _, _, _, _, _, _, _, _, _, _, _, _, _], defers := _ } _
      refine alongK_skip rfl rfl ?_
      refine alongK_read (.bool true) rfl rfl (fun wx hS => ex_pickt rfl (by rfl) (by rfl) wx) ?_
      change AlongK _ _ _ _ _ { tmps := #[.agg cs, .pointer (some ⟨g, 0, none⟩), .agg bx, .pointer (some ⟨A, 0, none⟩), _, .pointer (some ⟨A + 1, 0, none⟩), .bool false, .pointer (some ⟨C, 0, none⟩), _, _, _, _, .agg cs, .agg mx, .bool true, .bool false, .bool false, .pointer (some ⟨g, 0, none⟩), .pointer (some ⟨C, 2, none⟩), .string NM, .pointer (some ⟨C, 2, none⟩), .string NM, .bool false, .bool true, .bool true, .bool true, undef, undef, undef, undef, undef, undef, .bool true, _, _, _, _, _, _, _, _, _, _, _, _, _, _, _, _, _, _, _, _, _, _, _, _, _, _, _, _, _, _, _, _, _, _, _, _, _, _, _, _, _], defers := _ } _
      refine alongK_done ?_
      have HEND := Lib.hid (HU5.out.trans (Up.trans (Up.trans (Up.drew1 w5) hy2) hy10))
      go_wp2
      go_ret
      exact ⟨rfl, HEND.out⟩
    | true =>
      go_wp2
      refine region_alongK (fun x => Up w5 x) (.read 0 (.read 1 (.step 2 (.read 3 (.read 4 (.read 5 (.read 6 (.read 7 (.read 8 (.read 9 (.step 10 (.read 11 (.read 12 (.read 13 (.read 14 (.read 15 (.read 16 (.read 17 (.step 18 (.step 19 (.read 20 (.nil)))))))))))))))))))))) (by kernel_rfl) rfl (by kernel_rfl) (by kernel_rfl) (fun c a d v w h => by cases d <;> exact h) (Up.drew1 w5) ?_
      refine alongK_read (.agg cs) rfl rfl (fun wx hS => ex_loadrow rfl rfl wx 28 (row_up HA5.out hS) Try.underlying28 rfl (by rw [info_gs, hsz])) ?_
      refine alongK_read (.agg mx) rfl rfl (fun wx hS => ex_loadrow rfl rfl wx 26 (row_up HM5.out hS) Try.underlying26 rfl (by rw [info_mk, hms])) ?_
      change AlongK _ _ _ _ _ { tmps := #[.agg cs, .pointer (some ⟨g, 0, none⟩), .agg bx, .pointer (some ⟨A, 0, none⟩), _, .pointer (some ⟨A + 1, 0, none⟩), .bool false, .pointer (some ⟨C, 0, none⟩), _, _, _, _, .agg cs, .agg mx, _, _, _, _, _, _, _, _, _, _, _, _, _, _, _, _, _, _, _, _, _, _, _, _, _, _, _, _, _, _, _, _, _, _, _, _, _, _, _, _, _, _, _, _, _, _, _, _, _, _, _, _, _, _, _, _, _, _, _, _], defers := _ } _
      refine alongK_step ?_
      refine opK_call (vs := [.agg cs, .agg mx]) rfl rfl rfl (enters_of Try.func19 (by kernel_rfl) rfl) rfl ?_
      with_reducible refine Calls.mono (HOp.out _) ?_
      rintro e y2 ⟨rfl, hy2⟩
      refine ⟨_, rfl, (fun x => Up w5 x), (fun _ h => h), (Up.trans (Up.drew1 w5) hy2), ?_⟩
      change AlongK _ _ _ _ _ { tmps := #[.agg cs, .pointer (some ⟨g, 0, none⟩), .agg bx, .pointer (some ⟨A, 0, none⟩), _, .pointer (some ⟨A + 1, 0, none⟩), .bool false, .pointer (some ⟨C, 0, none⟩), _, _, _, _, .agg cs, .agg mx, .bool true, _, _, _, _, _, _, _, _, _, _, _, _, _, _, _, _, _, _, _, _, _, _, _, _, _, _, _, _, _, _, _, _, _, _, _, _, _, _, _, _, _, _, _, _, _, _, _, _, _, _, _, _, _, _, _, _, _, _, _], defers := _ } _
      refine alongK_read (.bool false) rfl rfl (fun wx hS => ex_not (b := true) rfl rfl wx) ?_
      refine alongK_read (.bool false) rfl rfl (fun wx hS => ex_move (by rfl) (by rfl) wx) ?_
      change AlongK _ _ _ _ _ { tmps := #[.agg cs, .pointer (some ⟨g, 0, none⟩), .agg bx, .pointer (some ⟨A, 0, none⟩), _, .pointer (some ⟨A + 1, 0, none⟩), .bool false, .pointer (some ⟨C, 0, none⟩), _, _, _, _, .agg cs, .agg mx, .bool true, .bool false, .bool false, _, _, _, _, _, _, _, _, _, _, _, _, _, _, _, _, _, _, _, _, _, _, _, _, _, _, _, _, _, _, _, _, _, _, _, _, _, _, _, _, _, _, _, _, _, _, _, _, _, _, _, _, _, _, _, _, _], defers := _ } _
      refine alongK_read (.pointer (some ⟨g, 0, none⟩)) rfl rfl (fun wx hS => ex_move (by rfl) (by rfl) wx) ?_
      refine alongK_read (.pointer (some ⟨C, 2, none⟩)) rfl rfl (fun wx hS => ex_field rfl rfl wx (by simp [go_sem])) ?_
      change AlongK _ _ _ _ _ { tmps := #[.agg cs, .pointer (some ⟨g, 0, none⟩), .agg bx, .pointer (some ⟨A, 0, none⟩), _, .pointer (some ⟨A + 1, 0, none⟩), .bool false, .pointer (some ⟨C, 0, none⟩), _, _, _, _, .agg cs, .agg mx, .bool true, .bool false, .bool false, .pointer (some ⟨g, 0, none⟩), .pointer (some ⟨C, 2, none⟩), _, _, _, _, _, _, _, _, _, _, _, _, _, _, _, _, _, _, _, _, _, _, _, _, _, _, _, _, _, _, _, _, _, _, _, _, _, _, _, _, _, _, _, _, _, _, _, _, _, _, _, _, _, _, _], defers := _ } _
      refine alongK_read (.string NM) rfl rfl (fun wx hS => ex_load Try.isAgg9 rfl rfl wx (tx_cell (row_up HM5.out hS) 2 hm2)) ?_
      refine alongK_read (.pointer (some ⟨C, 2, none⟩)) rfl rfl (fun wx hS => ex_field rfl rfl wx (by simp [go_sem])) ?_
      change AlongK _ _ _ _ _ { tmps := #[.agg cs, .pointer (some ⟨g, 0, none⟩), .agg bx, .pointer (some ⟨A, 0, none⟩), _, .pointer (some ⟨A + 1, 0, none⟩), .bool false, .pointer (some ⟨C, 0, none⟩), _, _, _, _, .agg cs, .agg mx, .bool true, .bool false, .bool false, .pointer (some ⟨g, 0, none⟩), .pointer (some ⟨C, 2, none⟩), .string NM, .pointer (some ⟨C, 2, none⟩), _, _, _, _, _, _, _, _, _, _, _, _, _, _, _, _, _, _, _, _, _, _, _, _, _, _, _, _, _, _, _, _, _, _, _, _, _, _, _, _, _, _, _, _, _, _, _, _, _, _, _, _, _], defers := _ } _
      refine alongK_read (.string NM) rfl rfl (fun wx hS => ex_load Try.isAgg9 rfl rfl wx (tx_cell (row_up HM5.out hS) 2 hm2)) ?_
      change AlongK _ _ _ _ _ { tmps := #[.agg cs, .pointer (some ⟨g, 0, none⟩), .agg bx, .pointer (some ⟨A, 0, none⟩), _, .pointer (some ⟨A + 1, 0, none⟩), .bool false, .pointer (some ⟨C, 0, none⟩), _, _, _, _, .agg cs, .agg mx, .bool true, .bool false, .bool false, .pointer (some ⟨g, 0, none⟩), .pointer (some ⟨C, 2, none⟩), .string NM, .pointer (some ⟨C, 2, none⟩), .string NM, _, _, _, _, _, _, _, _, _, _, _, _, _, _, _, _, _, _, _, _, _, _, _, _, _, _, _, _, _, _, _, _, _, _, _, _, _, _, _, _, _, _, _, _, _, _, _, _, _, _, _, _], defers := _ } _
      refine alongK_step ?_
      refine opK_call (vs := [.pointer (some ⟨g, 0, none⟩), .string NM, .string NM]) rfl rfl rfl (enters_of Try.func20 (by kernel_rfl) rfl) rfl ?_
      with_reducible refine Calls.mono (HEx.out _ (HU5.out.trans (Up.trans (Up.drew1 w5) hy2))) ?_
      rintro e y10 ⟨rfl, hy10⟩
      refine ⟨_, rfl, (fun x => Up w5 x), (fun _ h => h), (Up.trans (Up.trans (Up.drew1 w5) hy2) hy10), ?_⟩
      change AlongK _ _ _ _ _ { tmps := #[.agg cs, .pointer (some ⟨g, 0, none⟩), .agg bx, .pointer (some ⟨A, 0, none⟩), _, .pointer (some ⟨A + 1, 0, none⟩), .bool false, .pointer (some ⟨C, 0, none⟩), _, _, _, _, .agg cs, .agg mx, .bool true, .bool false, .bool false, .pointer (some ⟨g, 0, none⟩), .pointer (some ⟨C, 2, none⟩), .string NM, .pointer (some ⟨C, 2, none⟩), .string NM, .bool true, _, _, _, _, _, _, _, _, _, _, _, _, _, _, _, _, _, _, _, _, _, _, _, _, _, _, _, _, _, _, _, _, _, _, _, _, _, _, _, _, _, _, _, _, _, _, _, _, _, _, _], defers := _ } _
      refine alongK_read (.bool false) rfl rfl (fun wx hS => ex_not (b := true) rfl rfl wx) ?_
      refine alongK_read (.bool false) rfl rfl (fun wx hS => ex_pickf rfl (by rfl) (by rfl) wx) ?_
      change AlongK _ _ _ _ _ { tmps := #[.agg cs, .pointer (some ⟨g, 0, none⟩), .agg bx, .pointer (some ⟨A, 0, none⟩), _, .pointer (some ⟨A + 1, 0, none⟩), .bool false, .pointer (some ⟨C, 0, none⟩), _, _, _, _, .agg cs, .agg mx, .bool true, .bool false, .bool false, .pointer (some ⟨g, 0, none⟩), .pointer (some ⟨C, 2, none⟩), .string NM, .pointer (some ⟨C, 2, none⟩), .string NM, .bool true, .bool false, .bool false, _, _, _, _, _, _, _, _, _, _, _, _, _, _, _, _, _, _, _, _, _, _, _, _, _, _, _, _, _, _, _, _, _, _, _, _, _, _, _, _, _, _, _, _, _, _, _, _, _], defers := _ } _
      refine alongK_read (.bool false) rfl rfl (fun wx hS => ex_move (by rfl) (by rfl) wx) ?_
      refine alongK_read (.pointer (some ⟨A, 7, none⟩)) rfl rfl (fun wx hS => ex_field rfl rfl wx (by simp [go_sem])) ?_
      change AlongK _ _ _ _ _ { tmps := #[.agg cs, .pointer (some ⟨g, 0, none⟩), .agg bx, .pointer (some ⟨A, 0, none⟩), _, .pointer (some ⟨A + 1, 0, none⟩), .bool false, .pointer (some ⟨C, 0, none⟩), _, _, _, _, .agg cs, .agg mx, .bool true, .bool false, .bool false, .pointer (some ⟨g, 0, none⟩), .pointer (some ⟨C, 2, none⟩), .string NM, .pointer (some ⟨C, 2, none⟩), .string NM, .bool true, .bool false, .bool false, .bool false, .pointer (some ⟨A, 7, none⟩), _, _, _, _, _, _, _, _, _, _, _, _, _, _, _, _, _, _, _, _, _, _, _, _, _, _, _, _, _, _, _, _, _, _, _, _, _, _, _, _, _, _, _, _, _, _, _], defers := _ } _
      refine alongK_read (.agg cl.toArray) rfl rfl (fun wx hS => ex_loadpart 3 isAgg_mk sizeOf_mk rfl rfl wx (row_up HA5.out hS) hat hcl) ?_
      refine alongK_read (.pointer (some ⟨A + 1, 3, none⟩)) rfl rfl (fun wx hS => ex_field rfl rfl wx (by simp [go_sem])) ?_
      change AlongK _ _ _ _ _ { tmps := #[.agg cs, .pointer (some ⟨g, 0, none⟩), .agg bx, .pointer (some ⟨A, 0, none⟩), _, .pointer (some ⟨A + 1, 0, none⟩), .bool false, .pointer (some ⟨C, 0, none⟩), _, _, _, _, .agg cs, .agg mx, .bool true, .bool false, .bool false, .pointer (some ⟨g, 0, none⟩), .pointer (some ⟨C, 2, none⟩), .string NM, .pointer (some ⟨C, 2, none⟩), .string NM, .bool true, .bool false, .bool false, .bool false, .pointer (some ⟨A, 7, none⟩), .agg cl.toArray, .pointer (some ⟨A + 1, 3, none⟩), _, _, _, _, _, _, _, _, _, _, _, _, _, _, _, _, _, _, _, _, _, _, _, _, _, _, _, _, _, _, _, _, _, _, _, _, _, _, _, _, _, _, _, _, _], defers := _ } _
      refine alongK_read (.agg jl.toArray) rfl rfl (fun wx hS => ex_loadpart 4 isAgg_ctG sizeOf_ctG rfl rfl wx (row_up HB5.out hS) hjt hjl) ?_
      change AlongK _ _ _ _ _ { tmps := #[.agg cs, .pointer (some ⟨g, 0, none⟩), .agg bx, .pointer (some ⟨A, 0, none⟩), _, .pointer (some ⟨A + 1, 0, none⟩), .bool false, .pointer (some ⟨C, 0, none⟩), _, _, _, _, .agg cs, .agg mx, .bool true, .bool false, .bool false, .pointer (some ⟨g, 0, none⟩), .pointer (some ⟨C, 2, none⟩), .string NM, .pointer (some ⟨C, 2, none⟩), .string NM, .bool true, .bool false, .bool false, .bool false, .pointer (some ⟨A, 7, none⟩), .agg cl.toArray, .pointer (some ⟨A + 1, 3, none⟩), .agg jl.toArray, _, _, _, _, _, _, _, _, _, _, _, _, _, _, _, _, _, _, _, _, _, _, _, _, _, _, _, _, _, _, _, _, _, _, _, _, _, _, _, _, _, _, _, _], defers := _ } _
      refine alongK_step ?_
      refine opK_call (vs := [.agg jl.toArray]) rfl rfl rfl (enters_of Try.func13 (by kernel_rfl) rfl) rfl ?_
      with_reducible refine Calls.mono (HCm.out _) ?_
      rintro e y18 ⟨rfl, hy18⟩
      refine ⟨_, rfl, (fun x => Up w5 x), (fun _ h => h), (Up.trans (Up.trans (Up.trans (Up.drew1 w5) hy2) hy10) hy18), ?_⟩
      change AlongK _ _ _ _ _ { tmps := #[.agg cs, .pointer (some ⟨g, 0, none⟩), .agg bx, .pointer (some ⟨A, 0, none⟩), _, .pointer (some ⟨A + 1, 0, none⟩), .bool false, .pointer (some ⟨C, 0, none⟩), _, _, _, _, .agg cs, .agg mx, .bool true, .bool false, .bool false, .pointer (some ⟨g, 0, none⟩), .pointer (some ⟨C, 2, none⟩), .string NM, .pointer (some ⟨C, 2, none⟩), .string NM, .bool true, .bool false, .bool false, .bool false, .pointer (some ⟨A, 7, none⟩), .agg cl.toArray, .pointer (some ⟨A + 1, 3, none⟩), .agg jl.toArray, .agg jm, _, _, _, _, _, _, _, _, _, _, _, _, _, _, _, _, _, _, _, _, _, _, _, _, _, _, _, _, _, _, _, _, _, _, _, _, _, _, _, _, _, _, _], defers := _ } _
      refine alongK_step ?_
      refine opK_call (vs := [.agg cl.toArray, .agg jm]) rfl rfl rfl (enters_of Try.func15 (by kernel_rfl) rfl) rfl ?_
      with_reducible refine Calls.mono (HHi.out _) ?_
      rintro e y19 ⟨rfl, hy19⟩
      refine ⟨_, rfl, (fun x => Up w5 x), (fun _ h => h), (Up.trans (Up.trans (Up.trans (Up.trans (Up.drew1 w5) hy2) hy10) hy18) hy19), ?_⟩
      change AlongK _ _ _ _ _ { tmps := #[.agg cs, .pointer (some ⟨g, 0, none⟩), .agg bx, .pointer (some ⟨A, 0, none⟩), _, .pointer (some ⟨A + 1, 0, none⟩), .bool false, .pointer (some ⟨C, 0, none⟩), _, _, _, _, .agg cs, .agg mx, .bool true, .bool false, .bool false, .pointer (some ⟨g, 0, none⟩), .pointer (some ⟨C, 2, none⟩), .string NM, .pointer (some ⟨C, 2, none⟩), .string NM, .bool true, .bool false, .bool false, .bool false, .pointer (some ⟨A, 7, none⟩), .agg cl.toArray, .pointer (some ⟨A + 1, 3, none⟩), .agg jl.toArray, .agg jm, .bool true, _, _, _, _, _, _, _, _, _, _, _, _, _, _, _, _, _, _, _, _, _, _, _, _, _, _, _, _, _, _, _, _, _, _, _, _, _, _, _, _, _, _], defers := _ } _
      refine alongK_read (.bool true) rfl rfl (fun wx hS => ex_pickf rfl (by rfl) (by rfl) wx) ?_
      change AlongK _ _ _ _ _ { tmps := #[.agg cs, .pointer (some ⟨g, 0, none⟩), .agg bx, .pointer (some ⟨A, 0, none⟩), _, .pointer (some ⟨A + 1, 0, none⟩), .bool false, .pointer (some ⟨C, 0, none⟩), _, _, _, _, .agg cs, .agg mx, .bool true, .bool false, .bool false, .pointer (some ⟨g, 0, none⟩), .pointer (some ⟨C, 2, none⟩), .string NM, .pointer (some ⟨C, 2, none⟩), .string NM, .bool true, .bool false, .bool false, .bool false, .pointer (some ⟨A, 7, none⟩), .agg cl.toArray, .pointer (some ⟨A + 1, 3, none⟩), .agg jl.toArray, .agg jm, .bool true, .bool true, _, _, _, _, _, _, _, _, _, _, _, _, _, _, _, _, _, _, _, _, _, _, _, _, _, _, _, _, _, _, _, _, _, _, _, _, _, _, _, _, _], defers := _ } _
      refine alongK_done ?_
      have HEND := Lib.hid (HU5.out.trans (Up.trans (Up.trans (Up.trans (Up.trans (Up.drew1 w5) hy2) hy10) hy18) hy19))
      go_wp2
      go_ret
      exact ⟨rfl, HEND.out⟩
set_option maxHeartbeats 2000000 in
theorem commitNo : CommitNo := by
  intro s base g m w hL hm hsp
  have HOp : Hid (∀ wx, Calls Try.prog 19 #[.agg (gsA s), .agg m.l.toArray] wx fun e w' => e = .returned (.bool false) ∧ Up wx w') := Lib.hid fun wx => by
    have h := isOpen_any s m.V m.H m.B wx
    rw [show openG s m.V = false by unfold openG; rw [hsp]; simp] at h
    exact h
  have hsz : (gsA s).size = 11 := rfl
  have hms : m.l.toArray.size = 3 := rfl
  clear hL hm hsp
  generalize gsA s = cs at HOp hsz ⊢
  generalize m.l.toArray = mx at HOp hms ⊢
  have ha := heap_alloc_new w (.cells cs 28)
  have hu1 := Up.alloc (Up.refl (w.alloc (.cells cs 28))) (.cells mx 26)
  have hb := heap_alloc_new (w.alloc (.cells cs 28)) (.cells mx 26)
  rw [show (w.alloc (.cells cs 28)).heap.size = w.heap.size + 1 by simp] at hb
  have HA := Lib.hid ((hu1.block _ (lt_of_block ha)).trans ha)
  have HB := Lib.hid hb
  have HU := Lib.hid ((Up.alloc (Up.refl w) (.cells cs 28)).trans hu1)
  clear ha hb hu1
  go_enter Try.func12, Try.ntmps12
  go_upto_region 1 with fail
  generalize (w.alloc (.cells cs 28)).alloc (.cells mx 26) = w3 at HA HB HU ⊢
  obtain ⟨A, hA⟩ : ∃ A, w.heap.size = A := ⟨_, rfl⟩
  rw [hA] at HA HB ⊢
  clear hA
  go_wp2_with (first | (refine wpList_ex rfl (.agg cs) _ (ex_loadrow (x := .tmp 3) rfl rfl _ 28 HA.out Try.underlying28 rfl (by rw [info_gs, hsz])) ?_) | (refine wpList_ex rfl (.agg mx) _ (ex_loadrow (x := .tmp 5) rfl rfl _ 26 HB.out Try.underlying26 rfl (by rw [info_mk, hms])) ?_))
  with_reducible refine Calls.mono (HOp.out _) ?_
  rintro e w4 ⟨rfl, hU4⟩
  have HU4 := Lib.hid (HU.out.trans hU4)
  clear hU4
  go_wp2
  go_ret
  exact ⟨rfl, HU4.out⟩
section
open Go.ChangeShapes Go.WideShapes Go.ChangeAt Go.Deep Go.Joins
variable {H : Type}
theorem reach_tbsl {ts : List TypeId} {ds : List (DataW H)} {j : Nat} {xs : List Tb} {d : DataW H} (hD : TbsD d xs) (h : (DataW.weightsEach Try.prog ts ds).all (· ≤ reachBytes) = true) (ht : ts[j]? = some 35) (hd : ds[j]? = some d) : xs.length * 128 ≤ 140737488351232 := by
  rcases hD with ⟨_, rfl⟩ | ⟨es, spare, rfl, hl, _⟩
  · simp
  · have hb : Try.prog.bytesOf 41 = 128 := by kernel_rfl
    have := sized_slice h ht hd Try.underlying35
    rw [hb, hl, Nat.add_mul] at this
    have hr : reachBytes = 140737488351232 := rfl
    omega
end
end
end Go.Proofs.Ytnipkhgaceicbaa
