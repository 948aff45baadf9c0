import Derived.Test.YtacamknljicjmaaMsBorne
/-
  message: Check.
-/
namespace Go.Proofs.Ytacamknljicjmaa
set_option maxRecDepth 100000
section
set_option linter.unusedVariables false
open Go.RowKit Go.Sort Go.Lib

theorem varg_none (W : World) : VArg W (.slice none 0 0) [] := ⟨none, 0, rfl, Nat.le_refl _, fun _ => rfl, .inl rfl⟩
theorem targ_none (W : World) : TArg W (.slice none 0 0) [] := ⟨none, 0, rfl, Nat.le_refl _, fun _ => rfl, .inl rfl⟩
theorem zM_in (W : World) (K : Int) : MIn W (zM K) zP := ⟨varg_none W, targ_none W, varg_none W, varg_none W⟩
theorem zV_ok : VsOk zV := ⟨fun j hj => absurd hj (Nat.not_lt_zero _), by decide, by decide, by decide, Nat.zero_le _, by decide, by decide, Nat.zero_le _⟩
theorem zT_ok : TsOk zT := ⟨by decide, by decide, by decide, by decide, Nat.zero_le _⟩
theorem zM_ok {K : Int} (h : I64 K) : MOk (zM K) := by
  have h0 : I64 0 := ⟨by omega, by omega⟩
  exact ⟨h, h0, h0, h0, h0, h0, h0, Nat.zero_le _, Nat.zero_le _, Nat.zero_le _, Nat.zero_le _, Nat.zero_le _, zV_ok, zT_ok, fun x hx => absurd hx (List.not_mem_nil), fun x hx => absurd hx (List.not_mem_nil), fun x hx => absurd hx (List.not_mem_nil), fun x hx => absurd hx (List.not_mem_nil), Nat.zero_le _, Nat.zero_le _, Nat.zero_le _, Nat.zero_le _⟩
theorem borne_in {W : World} {m : Mm} {p : Ps} (h : MIn W m p) : MIn W (borneM m) (borneP m p) := by
  have z := zM_in W m.K
  unfold borneM borneP
  by_cases g1 : m.K = 1
  · rw [if_pos g1, if_pos g1]; exact ⟨h.j, h.x, z.c, z.l⟩
  rw [if_neg g1, if_neg g1]
  by_cases g2 : m.K = 2
  · rw [if_pos g2, if_neg (by omega), if_neg (by omega)]; exact ⟨z.j, z.x, z.c, z.l⟩
  rw [if_neg g2]
  by_cases g3 : m.K = 3
  · rw [if_pos g3, if_pos g3]; exact ⟨z.j, z.x, h.c, z.l⟩
  rw [if_neg g3, if_neg g3]
  by_cases g4 : m.K = 4
  · rw [if_pos g4, if_pos g4]; exact ⟨z.j, z.x, z.c, h.l⟩
  rw [if_neg g4, if_neg g4]
  by_cases g5 : m.K = 5
  · rw [if_pos g5]; exact ⟨z.j, z.x, z.c, z.l⟩
  rw [if_neg g5]
  by_cases g6 : m.K = 6
  · rw [if_pos g6]; exact ⟨z.j, z.x, z.c, z.l⟩
  rw [if_neg g6]; exact z
theorem borne_ok {m : Mm} (h : MOk m) : MOk (borneM m) := by
  have z := zM_ok h.k
  unfold borneM
  by_cases g1 : m.K = 1
  · rw [if_pos g1]; exact { z with bv := h.bv, bh := h.bh, jv := h.jv, jh := h.jh, bp := h.bp, jb := h.jb, bs := h.bs, js := h.js, xs := h.xs, jn := h.jn, xn := h.xn }
  rw [if_neg g1]
  by_cases g2 : m.K = 2
  · rw [if_pos g2]; exact { z with v := h.v }
  rw [if_neg g2]
  by_cases g3 : m.K = 3
  · rw [if_pos g3]; exact { z with cv := h.cv, ch := h.ch, cb := h.cb, cs := h.cs, cn := h.cn }
  rw [if_neg g3]
  by_cases g4 : m.K = 4
  · rw [if_pos g4]; exact { z with ls := h.ls, ln := h.ln }
  rw [if_neg g4]
  by_cases g5 : m.K = 5
  · rw [if_pos g5]; exact { z with a := h.a }
  rw [if_neg g5]
  by_cases g6 : m.K = 6
  · rw [if_pos g6]; exact { z with t := h.t }
  rw [if_neg g6]; exact z

/-- may a message be? -/
def MayM (m : Mm) : Prop := Bears m ∧ m = borneM m
noncomputable def msE (m : Mm) : Int := @ite _ (MayM m) (Classical.propDecidable _) 0 9
theorem msE_ok {m : Mm} (h : MayM m) : msE m = 0 := by unfold msE; rw [if_pos h]
theorem msE_no {m : Mm} (h : ¬ MayM m) : msE m = 9 := by unfold msE; rw [if_neg h]
set_option maxHeartbeats 2000000 in
theorem msCheck_any (m : Mm) (p : Ps) (w : World) (h : MIn w m p) (o : MOk m) :
    Calls Try.prog 10 #[.agg (msA m p)] w fun e w' => e = .returned (.int .i64 (msE m)) ∧ Up w w' := by
  have hu := Up.alloc (Up.refl w) (.cells (msA m p) 33)
  have hb := heap_alloc_new w (.cells (msA m p) 33)
  have HU := Lib.hid hu
  have HB : Hid (∀ wx, Up (w.alloc (.cells (msA m p) 33)) wx → wx.heap[w.heap.size]? = some (.cells (msA m p) 33 (0, 0))) := fun wx u => (u.block _ (lt_of_block hb)).trans hb
  have HI : Hid ((Try.prog.info? 33).map (·.size) = some (msA m p).size) := info_ms
  have HBE : Hid (∀ wx, Up (w.alloc (.cells (msA m p) 33)) wx → Calls Try.prog 21 #[.agg (msA m p)] wx fun e w' => e = .returned (.bool (bD (Bears m))) ∧ Up wx w') := fun wx u => bears_any m p wx (h.up (Up.trans hu u)) o
  have HBO : Hid (∀ wx, Calls Try.prog 23 #[.agg (msA m p)] wx fun e w' => e = .returned (.agg (msA (borneM m) (borneP m p))) ∧ Up wx w') := fun wx => borne_any m p wx
  have HSA : Hid (∀ wx, Up (w.alloc (.cells (msA m p) 33)) wx → Calls Try.prog 22 #[.agg (msA m p), .agg (msA (borneM m) (borneP m p))] wx fun e w' => e = .returned (.bool (bD (m = borneM m))) ∧ Up wx w') := fun wx u => sameMs_any m (borneM m) p (borneP m p) wx (h.up (Up.trans hu u)) (borne_in (h.up (Up.trans hu u))) o (borne_ok o)
  have RB : Hid (bD (Bears m) = false → msE m = 9) := fun g => msE_no (fun k => by rw [bD_true k.1] at g; cases g)
  have RT0 : Hid (bD (Bears m) = true → bD (m = borneM m) = true → msE m = 0) := fun g1 g2 => msE_ok ⟨bD_iff.1 g1, bD_iff.1 g2⟩
  have RF : Hid (bD (m = borneM m) = false → msE m = 9) := fun g => msE_no (fun k => by rw [bD_true k.2] at g; cases g)
  clear h o hu hb
  generalize msE m = RES at *
  generalize bD (Bears m) = D at *
  generalize bD (m = borneM m) = EQ at *
  generalize msA m p = cs at *
  generalize msA (borneM m) (borneP m p) = zs at *
  cases D with
  | true =>
    have RT : Hid (EQ = true → RES = 0) := fun g => RT0.out rfl g
    clear RT0 RB
    go_enter Try.func10, Try.ntmps10
    go_wp2_with fail
    generalize w.alloc (.cells cs 33) = wz at *
    generalize w.heap.size = b1 at HB ⊢
    refine region_alongK (fun x => Up wz x) (.read 0 (.step 1 (.read 2 (.read 3 (.read 4 (.read 5 (.step 6 (.step 7 (.read 8 (.read 9 (.nil))))))))))) (by kernel_rfl) rfl (by kernel_rfl) (by kernel_rfl) (fun c a d v w h => by cases d <;> exact h) (Up.drew1 wz) ?_
    refine alongK_read (.agg cs) rfl rfl (fun wx hS => ex_loadrow rfl rfl wx 33 (HB.out wx hS) Try.underlying33 rfl HI.out) ?_
    change AlongK _ _ _ _ _ { tmps := #[.agg cs, .pointer (some ⟨b1, 0, none⟩), .int .i64 0, .agg cs, _, _, _, _, _, _, _, _, _], defers := _ } _
    refine alongK_step ?_
    refine opK_call (vs := [.agg cs]) rfl rfl rfl (enters_of Try.func21 (by kernel_rfl) rfl) rfl ?_
    with_reducible refine Calls.mono (HBE.out _ (Up.drew1 wz)) ?_
    rintro e y1 ⟨rfl, hy1⟩
    refine ⟨_, rfl, (fun x => Up wz x), (fun _ h => h), (Up.trans (Up.drew1 wz) hy1), ?_⟩
    change AlongK _ _ _ _ _ { tmps := #[.agg cs, .pointer (some ⟨b1, 0, none⟩), .int .i64 0, .agg cs, .bool true, _, _, _, _, _, _, _, _], defers := _ } _
    refine alongK_read (.bool false) rfl rfl (fun wx hS => ex_not (b := true) rfl rfl wx) ?_
    refine alongK_read (.bool false) rfl rfl (fun wx hS => ex_move (by rfl) (by rfl) wx) ?_
    change AlongK _ _ _ _ _ { tmps := #[.agg cs, .pointer (some ⟨b1, 0, none⟩), .int .i64 0, .agg cs, .bool true, .bool false, .bool false, _, _, _, _, _, _], defers := _ } _
    refine alongK_read (.agg cs) rfl rfl (fun wx hS => ex_loadrow rfl rfl wx 33 (HB.out wx hS) Try.underlying33 rfl HI.out) ?_
    refine alongK_read (.agg cs) rfl rfl (fun wx hS => ex_loadrow rfl rfl wx 33 (HB.out wx hS) Try.underlying33 rfl HI.out) ?_
    change AlongK _ _ _ _ _ { tmps := #[.agg cs, .pointer (some ⟨b1, 0, none⟩), .int .i64 0, .agg cs, .bool true, .bool false, .bool false, .agg cs, .agg cs, _, _, _, _], defers := _ } _
    refine alongK_step ?_
    refine opK_call (vs := [.agg cs]) rfl rfl rfl (enters_of Try.func23 (by kernel_rfl) rfl) rfl ?_
    with_reducible refine Calls.mono (HBO.out _) ?_
    rintro e y6 ⟨rfl, hy6⟩
    refine ⟨_, rfl, (fun x => Up wz x), (fun _ h => h), (Up.trans (Up.trans (Up.drew1 wz) hy1) hy6), ?_⟩
    change AlongK _ _ _ _ _ { tmps := #[.agg cs, .pointer (some ⟨b1, 0, none⟩), .int .i64 0, .agg cs, .bool true, .bool false, .bool false, .agg cs, .agg cs, .agg zs, _, _, _], defers := _ } _
    refine alongK_step ?_
    refine opK_call (vs := [.agg cs, .agg zs]) rfl rfl rfl (enters_of Try.func22 (by kernel_rfl) rfl) rfl ?_
    with_reducible refine Calls.mono (HSA.out _ (Up.trans (Up.trans (Up.drew1 wz) hy1) hy6)) ?_
    rintro e y7 ⟨rfl, hy7⟩
    refine ⟨_, rfl, (fun x => Up wz x), (fun _ h => h), (Up.trans (Up.trans (Up.trans (Up.drew1 wz) hy1) hy6) hy7), ?_⟩
    change AlongK _ _ _ _ _ { tmps := #[.agg cs, .pointer (some ⟨b1, 0, none⟩), .int .i64 0, .agg cs, .bool true, .bool false, .bool false, .agg cs, .agg cs, .agg zs, .bool EQ, _, _], defers := _ } _
    refine alongK_read (.bool (!EQ)) rfl rfl (fun wx hS => ex_not (b := EQ) rfl rfl wx) ?_
    refine alongK_read (.bool (!EQ)) rfl rfl (fun wx hS => ex_pickf rfl (by rfl) (by rfl) wx) ?_
    change AlongK _ _ _ _ _ { tmps := #[.agg cs, .pointer (some ⟨b1, 0, none⟩), .int .i64 0, .agg cs, .bool true, .bool false, .bool false, .agg cs, .agg cs, .agg zs, .bool EQ, .bool (!EQ), .bool (!EQ)], defers := _ } _
    refine alongK_done ?_
    have HEND := Lib.hid (Up.trans (Up.trans (Up.trans (Up.drew1 wz) hy1) hy6) hy7)
    cases EQ with
    | true =>
      obtain rfl := RT.out (by first | rfl | trivial)
      go_wp2
      go_ret
      exact ⟨rfl, Up.trans HU.out HEND.out⟩
    | false =>
      obtain rfl := RF.out (by first | rfl | trivial)
      go_wp2
      go_ret
      exact ⟨rfl, Up.trans HU.out HEND.out⟩
  | false =>
    obtain rfl := RB.out rfl
    clear RT0 RB RF
    go_enter Try.func10, Try.ntmps10
    go_wp2_with fail
    generalize w.alloc (.cells cs 33) = wz at *
    generalize w.heap.size = b1 at HB ⊢
    refine region_alongK (fun x => Up wz x) (.read 0 (.step 1 (.read 2 (.read 3 (.read 4 (.read 5 (.read 6 (.read 7 (.read 8 (.read 9 (.nil))))))))))) (by kernel_rfl) rfl (by kernel_rfl) (by kernel_rfl) (fun c a d v w h => by cases d <;> exact h) (Up.drew1 wz) ?_
    refine alongK_read (.agg cs) rfl rfl (fun wx hS => ex_loadrow rfl rfl wx 33 (HB.out wx hS) Try.underlying33 rfl HI.out) ?_
    change AlongK _ _ _ _ _ { tmps := #[.agg cs, .pointer (some ⟨b1, 0, none⟩), .int .i64 0, .agg cs, _, _, _, _, _, _, _, _, _], defers := _ } _
    refine alongK_step ?_
    refine opK_call (vs := [.agg cs]) rfl rfl rfl (enters_of Try.func21 (by kernel_rfl) rfl) rfl ?_
    with_reducible refine Calls.mono (HBE.out _ (Up.drew1 wz)) ?_
    rintro e y1 ⟨rfl, hy1⟩
    refine ⟨_, rfl, (fun x => Up wz x), (fun _ h => h), (Up.trans (Up.drew1 wz) hy1), ?_⟩
    change AlongK _ _ _ _ _ { tmps := #[.agg cs, .pointer (some ⟨b1, 0, none⟩), .int .i64 0, .agg cs, .bool false, _, _, _, _, _, _, _, _], defers := _ } _
    refine alongK_read (.bool true) rfl rfl (fun wx hS => ex_not (b := false) rfl rfl wx) ?_
    refine alongK_read (.bool true) rfl rfl (fun wx hS => ex_move (by rfl) (by rfl) wx) ?_
    change AlongK _ _ _ _ _ { tmps := #[.agg cs, .pointer (some ⟨b1, 0, none⟩), .int .i64 0, .agg cs, .bool false, .bool true, .bool true, _, _, _, _, _, _], defers := _ } _
    refine alongK_skip rfl rfl ?_
    refine alongK_skip rfl rfl ?_
    change AlongK _ _ _ _ _ { tmps := #[.agg cs, .pointer (some ⟨b1, 0, none⟩), .int .i64 0, .agg cs, .bool false, .bool true, .bool true, undef, undef, _, _, _, _], defers := _ } _
    refine alongK_skip rfl rfl ?_
    refine alongK_skip rfl rfl ?_
    change AlongK _ _ _ _ _ { tmps := #[.agg cs, .pointer (some ⟨b1, 0, none⟩), .int .i64 0, .agg cs, .bool false, .bool true, .bool true, undef, undef, undef, undef, _, _], defers := _ } _
    refine alongK_skip rfl rfl ?_
    refine alongK_read (.bool true) rfl rfl (fun wx hS => ex_pickt rfl (by rfl) (by rfl) wx) ?_
    change AlongK _ _ _ _ _ { tmps := #[.agg cs, .pointer (some ⟨b1, 0, none⟩), .int .i64 0, .agg cs, .bool false, .bool true, .bool true, undef, undef, undef, undef, undef, .bool true], defers := _ } _
    refine alongK_done ?_
    have HEND := Lib.hid (Up.trans (Up.drew1 wz) hy1)
    go_wp2
    go_ret
    exact ⟨rfl, Up.trans HU.out HEND.out⟩
end
end Go.Proofs.Ytacamknljicjmaa
