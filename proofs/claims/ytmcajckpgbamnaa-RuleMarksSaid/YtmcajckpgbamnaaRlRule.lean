import Derived.Lib.MinMax
import Derived.Deep.QuietTactic
import Derived.BigQuiet
import Derived.Test.YtmcajckpgbamnaaRlSet
import Derived.Test.YtmcajckpgbamnaaCtKit
/-
  rule: within, Check, the closures of Enough, voices, Enough.
-/
namespace Go.Proofs.Ytmcajckpgbamnaa
set_option maxRecDepth 100000
section
set_option linter.unusedVariables false
open Go.RowKit Go.Sort Go.Lib

theorem ex_geqR {P : Program} {o : Oper} {x y : Operand} {ρ : Operand → Value} {t t' : TypeId} {k : IntKind} {n m : Int} {b : Bool} (hop : o.op = .binOp .geq t x y t') (hx : ρ x = .int k n) (hy : ρ y = .int k m) (hb : decide (m ≤ n) = b) (w : World) : (execOp ρ o).run P w = .ok (.value (.bool b)) w := by
  simp [execOp, hop, hx, hy, eqGuard, go_sem, hb]
theorem rl_cell {W : World} {B : Nat} {cs : Array Value} {t : TypeId} (h : W.heap[B]? = some (.cells cs t (0, 0))) (k : Nat) {v : Value} (hv : cs[k]? = some v) : W.cell? ⟨B, k, none⟩ = some v := by
  rw [cell_of_row _ _ k _ _ _ h, hv]
theorem ex_max2 {P : Program} {o : Oper} {x y : Operand} {ρ : Operand → Value} {ts : Array TypeId} {n m : Int} (hop : o.op = .call { callee := .builtin .max, args := #[x, y], argTypes := ts }) (hx : ρ x = .int .i64 n) (hy : ρ y = .int .i64 m) (w : World) : (execOp ρ o).run P w = .ok (.value (.int .i64 (max n m))) w := by
  simp [execOp, hop, hx, hy, resolve, invoke, builtin, go_sem, Result.andThen]
theorem ex_max2m {P : Program} {o : Oper} {x y : Operand} {ρ : Operand → Value} {ts : Array TypeId} {n m M : Int} (hM : max n m = M) (hop : o.op = .call { callee := .builtin .max, args := #[x, y], argTypes := ts }) (hx : ρ x = .int .i64 n) (hy : ρ y = .int .i64 m) (w : World) : (execOp ρ o).run P w = .ok (.value (.int .i64 M)) w := by
  subst hM; exact ex_max2 hop hx hy w
theorem rlWithin_any (a b c : Int) (w : World) : Calls Try.prog 10 #[.int .i64 a, .int .i64 b, .int .i64 c] w fun e w' => e = .returned (.bool (decide (b ≤ a) && decide (a ≤ c))) ∧ w' = w := by
  by_cases h1 : b ≤ a
  · by_cases h2 : a ≤ c
    · rw [decide_eq_true h1, decide_eq_true h2]
      go_enter Try.func10, Try.ntmps10
      go_wp2
      go_ret
      exact ⟨rfl, rfl⟩
    · rw [decide_eq_true h1, decide_eq_false h2]
      go_enter Try.func10, Try.ntmps10
      go_wp2
      go_ret
      exact ⟨rfl, rfl⟩
  · rw [decide_eq_false h1]
    go_enter Try.func10, Try.ntmps10
    go_wp2
    go_ret
    exact ⟨rfl, rfl⟩

theorem rlAlive_any (w : World) : Calls Try.prog 8 #[] w fun e w' => e = .returned (.bool true) ∧ Up w w' := by
  go_enter Try.func8, Try.ntmps8
  go_wp2
  go_ret
  exact ⟨rfl, by repeat' (first | exact Up.refl _ | apply Up.alloc | apply Up.drew)⟩

/-- is it a commit-vote about that? -/
def comOf (mV mH : Int) (mB : ByteArray) (x : Vs) : Bool := decide (x.1.K = 2) && decide (x.1.V = mV ∧ x.1.H = mH ∧ strOfNums x.1.B = mB)
/-- is it a report about that, of so many ticks? -/
def repOf (mV mH : Int) (mB : ByteArray) (tk : Int) (x : Vs) : Bool := decide (x.1.K = 3) && decide (tk ≤ x.1.T) && decide (x.1.V = mV ∧ x.1.H = mH ∧ strOfNums x.1.B = mB)
set_option maxHeartbeats 1000000 in
theorem rlCommit1_any (mV mH : Int) (mB : ByteArray) (M : Nat) (x : Vs) (w : World) (hM : w.heap[M]? = some (.cells #[.int .i64 mV, .int .i64 mH, .string mB] 26 (0, 0))) :
    Calls Try.prog 26 #[.agg (vsA x), .pointer (some ⟨M, 0, none⟩)] w fun e w' => e = .returned (.bool (comOf mV mH mB x)) ∧ Gr w w' := by
  obtain ⟨⟨K, V, H, B, T, G⟩, SG⟩ := x
  have Heq : Hid (∀ (wx : World) (x y : Operand), (do eqGuard .eql 26 x y (.agg #[.int .i64 V, .int .i64 H, .string (strOfNums B)]) (.agg #[.int .i64 mV, .int .i64 mH, .string mB]); binOp .eql 26 (.agg #[.int .i64 V, .int .i64 H, .string (strOfNums B)]) (.agg #[.int .i64 mV, .int .i64 mH, .string mB]) : Sem Value).run Try.prog wx = .ok (.bool (decide (V = mV ∧ H = mH ∧ strOfNums B = mB))) wx) := fun wx x y => mk_eql _ _ _ _ _ _ _ _ _
  show Calls Try.prog 26 #[.agg #[.int .i64 K, .int .i64 V, .int .i64 H, .string (strOfNums B), .int .i64 T, .int .i64 G, .string SG], .pointer (some ⟨M, 0, none⟩)] w fun e w' => e = .returned (.bool (decide (K = 2) && decide (V = mV ∧ H = mH ∧ strOfNums B = mB))) ∧ Gr w w'
  generalize decide (V = mV ∧ H = mH ∧ strOfNums B = mB) = D at Heq ⊢
  generalize strOfNums B = BS at Heq ⊢
  have Hab := Lib.hid (fun wx => about_gr K V H BS T G SG wx)
  have hb0 := heap_alloc_new w (.cells #[.int .i64 K, .int .i64 V, .int .i64 H, .string BS, .int .i64 T, .int .i64 G, .string SG] 28)
  have g1 := Gr.alloc w (.cells #[.int .i64 K, .int .i64 V, .int .i64 H, .string BS, .int .i64 T, .int .i64 G, .string SG] 28)
  have HB : Hid (∀ wx, Gr (w.alloc (.cells #[.int .i64 K, .int .i64 V, .int .i64 H, .string BS, .int .i64 T, .int .i64 G, .string SG] 28)) wx → wx.heap[w.heap.size]? = some (.cells #[.int .i64 K, .int .i64 V, .int .i64 H, .string BS, .int .i64 T, .int .i64 G, .string SG] 28 (0, 0))) := fun wx h => h.block hb0
  have HM : Hid (∀ wx, Gr (w.alloc (.cells #[.int .i64 K, .int .i64 V, .int .i64 H, .string BS, .int .i64 T, .int .i64 G, .string SG] 28)) wx → wx.heap[M]? = some (.cells #[.int .i64 mV, .int .i64 mH, .string mB] 26 (0, 0))) := fun wx h => (g1.trans h).block hM
  have HG := Lib.hid g1
  clear hb0 g1 hM
  by_cases hK : K = 2
  · rw [show (decide (K = 2) && D) = D by simp [hK]]
    have hk : (K == 2) = true := by simpa using hK
    clear hK
    go_enter Try.func26, Try.ntmps26
    go_upto_region 1 with fail
    generalize w.alloc (.cells #[.int .i64 K, .int .i64 V, .int .i64 H, .string BS, .int .i64 T, .int .i64 G, .string SG] 28) = wz at HB HM HG ⊢
    generalize w.heap.size = B at HB ⊢
    have hG0 := Gr.drew1 wz
    refine region_alongK (fun x => Gr wz.drew x) (.read 0 (.read 1 (.read 2 (.read 3 (.read 4 (.read 6 (.step 5 (.read 7 (.read 8 (.read 9 (.nil))))))))))) (by kernel_rfl) rfl (by kernel_rfl) (by kernel_rfl) (fun c a d v w h => by cases d <;> exact h) (Gr.refl _) ?_
    refine alongK_read (.pointer (some ⟨B, 0, none⟩)) rfl rfl (fun wx hS => ex_field rfl rfl wx (by simp [go_sem])) ?_
    change AlongK _ _ _ _ _ { tmps := #[.agg #[.int .i64 K, .int .i64 V, .int .i64 H, .string BS, .int .i64 T, .int .i64 G, .string SG], .pointer (some ⟨M, 0, none⟩), .pointer (some ⟨B, 0, none⟩), .bool false, .pointer (some ⟨B, 0, none⟩), _, _, _, _, _, _, _, _], defers := _ } _
    refine alongK_read (.int .i64 K) rfl rfl (fun wx hS => ex_load Try.isAgg3 rfl rfl wx ((vt_cells (HB.out wx (Gr.trans hG0 hS))).1)) ?_
    change AlongK _ _ _ _ _ { tmps := #[.agg #[.int .i64 K, .int .i64 V, .int .i64 H, .string BS, .int .i64 T, .int .i64 G, .string SG], .pointer (some ⟨M, 0, none⟩), .pointer (some ⟨B, 0, none⟩), .bool false, .pointer (some ⟨B, 0, none⟩), .int .i64 K, _, _, _, _, _, _, _], defers := _ } _
    refine alongK_read (.bool true) rfl rfl (fun wx hS => ex_eqi rfl rfl rfl hk wx) ?_
    change AlongK _ _ _ _ _ { tmps := #[.agg #[.int .i64 K, .int .i64 V, .int .i64 H, .string BS, .int .i64 T, .int .i64 G, .string SG], .pointer (some ⟨M, 0, none⟩), .pointer (some ⟨B, 0, none⟩), .bool false, .pointer (some ⟨B, 0, none⟩), .int .i64 K, .bool true, _, _, _, _, _, _], defers := _ } _
    refine alongK_read (.bool true) rfl rfl (fun wx hS => ex_move (by rfl) (by rfl) wx) ?_
    change AlongK _ _ _ _ _ { tmps := #[.agg #[.int .i64 K, .int .i64 V, .int .i64 H, .string BS, .int .i64 T, .int .i64 G, .string SG], .pointer (some ⟨M, 0, none⟩), .pointer (some ⟨B, 0, none⟩), .bool false, .pointer (some ⟨B, 0, none⟩), .int .i64 K, .bool true, .bool true, _, _, _, _, _], defers := _ } _
    refine alongK_read (.agg #[.int .i64 K, .int .i64 V, .int .i64 H, .string BS, .int .i64 T, .int .i64 G, .string SG]) rfl rfl (fun wx hS => ex_loadrow rfl rfl wx 28 (HB.out wx (Gr.trans hG0 hS)) Try.underlying28 rfl info_vt) ?_
    change AlongK _ _ _ _ _ { tmps := #[.agg #[.int .i64 K, .int .i64 V, .int .i64 H, .string BS, .int .i64 T, .int .i64 G, .string SG], .pointer (some ⟨M, 0, none⟩), .pointer (some ⟨B, 0, none⟩), .bool false, .pointer (some ⟨B, 0, none⟩), .int .i64 K, .bool true, .bool true, .agg #[.int .i64 K, .int .i64 V, .int .i64 H, .string BS, .int .i64 T, .int .i64 G, .string SG], _, _, _, _], defers := _ } _
    refine alongK_read (.agg #[.int .i64 mV, .int .i64 mH, .string mB]) rfl rfl (fun wx hS => ex_loadrow rfl rfl wx 26 (HM.out wx (Gr.trans hG0 hS)) Try.underlying26 rfl info_mk) ?_
    change AlongK _ _ _ _ _ { tmps := #[.agg #[.int .i64 K, .int .i64 V, .int .i64 H, .string BS, .int .i64 T, .int .i64 G, .string SG], .pointer (some ⟨M, 0, none⟩), .pointer (some ⟨B, 0, none⟩), .bool false, .pointer (some ⟨B, 0, none⟩), .int .i64 K, .bool true, .bool true, .agg #[.int .i64 K, .int .i64 V, .int .i64 H, .string BS, .int .i64 T, .int .i64 G, .string SG], _, .agg #[.int .i64 mV, .int .i64 mH, .string mB], _, _], defers := _ } _
    refine alongK_step ?_
    refine opK_call (vs := [.agg #[.int .i64 K, .int .i64 V, .int .i64 H, .string BS, .int .i64 T, .int .i64 G, .string SG]]) rfl rfl rfl (enters_of Try.func11 (by kernel_rfl) rfl) rfl ?_
    with_reducible refine Calls.mono (Hab.out _) ?_
    rintro e w9 ⟨rfl, hG9⟩
    have hG0 := Gr.trans hG0 hG9
    refine ⟨_, rfl, (fun x => Gr w9 x), (fun x hx => Gr.trans hG9 hx), (Gr.refl w9), ?_⟩
    change AlongK _ _ _ _ _ { tmps := #[.agg #[.int .i64 K, .int .i64 V, .int .i64 H, .string BS, .int .i64 T, .int .i64 G, .string SG], .pointer (some ⟨M, 0, none⟩), .pointer (some ⟨B, 0, none⟩), .bool false, .pointer (some ⟨B, 0, none⟩), .int .i64 K, .bool true, .bool true, .agg #[.int .i64 K, .int .i64 V, .int .i64 H, .string BS, .int .i64 T, .int .i64 G, .string SG], .agg #[.int .i64 V, .int .i64 H, .string BS], .agg #[.int .i64 mV, .int .i64 mH, .string mB], _, _], defers := _ } _
    refine alongK_read (.bool D) rfl rfl (fun wx hS => ex_bin rfl rfl rfl wx (Heq.out wx _ _)) ?_
    change AlongK _ _ _ _ _ { tmps := #[.agg #[.int .i64 K, .int .i64 V, .int .i64 H, .string BS, .int .i64 T, .int .i64 G, .string SG], .pointer (some ⟨M, 0, none⟩), .pointer (some ⟨B, 0, none⟩), .bool false, .pointer (some ⟨B, 0, none⟩), .int .i64 K, .bool true, .bool true, .agg #[.int .i64 K, .int .i64 V, .int .i64 H, .string BS, .int .i64 T, .int .i64 G, .string SG], .agg #[.int .i64 V, .int .i64 H, .string BS], .agg #[.int .i64 mV, .int .i64 mH, .string mB], .bool D, _], defers := _ } _
    refine alongK_read (.bool D) rfl rfl (fun wx hS => ex_pickt rfl (by rfl) (by rfl) wx) ?_
    change AlongK _ _ _ _ _ { tmps := #[.agg #[.int .i64 K, .int .i64 V, .int .i64 H, .string BS, .int .i64 T, .int .i64 G, .string SG], .pointer (some ⟨M, 0, none⟩), .pointer (some ⟨B, 0, none⟩), .bool false, .pointer (some ⟨B, 0, none⟩), .int .i64 K, .bool true, .bool true, .agg #[.int .i64 K, .int .i64 V, .int .i64 H, .string BS, .int .i64 T, .int .i64 G, .string SG], .agg #[.int .i64 V, .int .i64 H, .string BS], .agg #[.int .i64 mV, .int .i64 mH, .string mB], .bool D, .bool D], defers := _ } _
    refine alongK_read (.bool D) rfl rfl (fun wx hS => ex_assign (by rfl) (by rfl) wx) ?_
    change AlongK _ _ _ _ _ { tmps := #[.agg #[.int .i64 K, .int .i64 V, .int .i64 H, .string BS, .int .i64 T, .int .i64 G, .string SG], .pointer (some ⟨M, 0, none⟩), .pointer (some ⟨B, 0, none⟩), .bool D, .pointer (some ⟨B, 0, none⟩), .int .i64 K, .bool true, .bool true, .agg #[.int .i64 K, .int .i64 V, .int .i64 H, .string BS, .int .i64 T, .int .i64 G, .string SG], .agg #[.int .i64 V, .int .i64 H, .string BS], .agg #[.int .i64 mV, .int .i64 mH, .string mB], .bool D, .bool D], defers := _ } _
    refine alongK_done ?_
    go_wp2
    go_ret
    exact ⟨rfl, HG.out.trans hG0⟩
  · rw [show (decide (K = 2) && D) = false by simp [hK]]
    have hk : (K == 2) = false := by rw [beq_eq_false_iff_ne]; exact hK
    clear hK
    go_enter Try.func26, Try.ntmps26
    go_upto_region 1 with fail
    generalize w.alloc (.cells #[.int .i64 K, .int .i64 V, .int .i64 H, .string BS, .int .i64 T, .int .i64 G, .string SG] 28) = wz at HB HM HG ⊢
    generalize w.heap.size = B at HB ⊢
    have hG0 := Gr.drew1 wz
    refine region_alongK (fun x => Gr wz.drew x) (.read 0 (.read 1 (.read 2 (.read 3 (.read 4 (.read 5 (.read 6 (.read 7 (.read 8 (.read 9 (.nil))))))))))) (by kernel_rfl) rfl (by kernel_rfl) (by kernel_rfl) (fun c a d v w h => by cases d <;> exact h) (Gr.refl _) ?_
    refine alongK_read (.pointer (some ⟨B, 0, none⟩)) rfl rfl (fun wx hS => ex_field rfl rfl wx (by simp [go_sem])) ?_
    change AlongK _ _ _ _ _ { tmps := #[.agg #[.int .i64 K, .int .i64 V, .int .i64 H, .string BS, .int .i64 T, .int .i64 G, .string SG], .pointer (some ⟨M, 0, none⟩), .pointer (some ⟨B, 0, none⟩), .bool false, .pointer (some ⟨B, 0, none⟩), _, _, _, _, _, _, _, _], defers := _ } _
    refine alongK_read (.int .i64 K) rfl rfl (fun wx hS => ex_load Try.isAgg3 rfl rfl wx ((vt_cells (HB.out wx (Gr.trans hG0 hS))).1)) ?_
    change AlongK _ _ _ _ _ { tmps := #[.agg #[.int .i64 K, .int .i64 V, .int .i64 H, .string BS, .int .i64 T, .int .i64 G, .string SG], .pointer (some ⟨M, 0, none⟩), .pointer (some ⟨B, 0, none⟩), .bool false, .pointer (some ⟨B, 0, none⟩), .int .i64 K, _, _, _, _, _, _, _], defers := _ } _
    refine alongK_read (.bool false) rfl rfl (fun wx hS => ex_eqi rfl rfl rfl hk wx) ?_
    change AlongK _ _ _ _ _ { tmps := #[.agg #[.int .i64 K, .int .i64 V, .int .i64 H, .string BS, .int .i64 T, .int .i64 G, .string SG], .pointer (some ⟨M, 0, none⟩), .pointer (some ⟨B, 0, none⟩), .bool false, .pointer (some ⟨B, 0, none⟩), .int .i64 K, .bool false, _, _, _, _, _, _], defers := _ } _
    refine alongK_read (.bool false) rfl rfl (fun wx hS => ex_move (by rfl) (by rfl) wx) ?_
    change AlongK _ _ _ _ _ { tmps := #[.agg #[.int .i64 K, .int .i64 V, .int .i64 H, .string BS, .int .i64 T, .int .i64 G, .string SG], .pointer (some ⟨M, 0, none⟩), .pointer (some ⟨B, 0, none⟩), .bool false, .pointer (some ⟨B, 0, none⟩), .int .i64 K, .bool false, .bool false, _, _, _, _, _], defers := _ } _
    refine alongK_skip rfl rfl ?_
    change AlongK _ _ _ _ _ { tmps := #[.agg #[.int .i64 K, .int .i64 V, .int .i64 H, .string BS, .int .i64 T, .int .i64 G, .string SG], .pointer (some ⟨M, 0, none⟩), .pointer (some ⟨B, 0, none⟩), .bool false, .pointer (some ⟨B, 0, none⟩), .int .i64 K, .bool false, .bool false, undef, _, _, _, _], defers := _ } _
    refine alongK_skip rfl rfl ?_
    change AlongK _ _ _ _ _ { tmps := #[.agg #[.int .i64 K, .int .i64 V, .int .i64 H, .string BS, .int .i64 T, .int .i64 G, .string SG], .pointer (some ⟨M, 0, none⟩), .pointer (some ⟨B, 0, none⟩), .bool false, .pointer (some ⟨B, 0, none⟩), .int .i64 K, .bool false, .bool false, undef, undef, _, _, _], defers := _ } _
    refine alongK_skip rfl rfl ?_
    change AlongK _ _ _ _ _ { tmps := #[.agg #[.int .i64 K, .int .i64 V, .int .i64 H, .string BS, .int .i64 T, .int .i64 G, .string SG], .pointer (some ⟨M, 0, none⟩), .pointer (some ⟨B, 0, none⟩), .bool false, .pointer (some ⟨B, 0, none⟩), .int .i64 K, .bool false, .bool false, undef, undef, undef, _, _], defers := _ } _
    refine alongK_skip rfl rfl ?_
    change AlongK _ _ _ _ _ { tmps := #[.agg #[.int .i64 K, .int .i64 V, .int .i64 H, .string BS, .int .i64 T, .int .i64 G, .string SG], .pointer (some ⟨M, 0, none⟩), .pointer (some ⟨B, 0, none⟩), .bool false, .pointer (some ⟨B, 0, none⟩), .int .i64 K, .bool false, .bool false, undef, undef, undef, undef, _], defers := _ } _
    refine alongK_read (.bool false) rfl rfl (fun wx hS => ex_pickf rfl (by rfl) (by rfl) wx) ?_
    change AlongK _ _ _ _ _ { tmps := #[.agg #[.int .i64 K, .int .i64 V, .int .i64 H, .string BS, .int .i64 T, .int .i64 G, .string SG], .pointer (some ⟨M, 0, none⟩), .pointer (some ⟨B, 0, none⟩), .bool false, .pointer (some ⟨B, 0, none⟩), .int .i64 K, .bool false, .bool false, undef, undef, undef, undef, .bool false], defers := _ } _
    refine alongK_read (.bool false) rfl rfl (fun wx hS => ex_assign (by rfl) (by rfl) wx) ?_
    change AlongK _ _ _ _ _ { tmps := #[.agg #[.int .i64 K, .int .i64 V, .int .i64 H, .string BS, .int .i64 T, .int .i64 G, .string SG], .pointer (some ⟨M, 0, none⟩), .pointer (some ⟨B, 0, none⟩), .bool false, .pointer (some ⟨B, 0, none⟩), .int .i64 K, .bool false, .bool false, undef, undef, undef, undef, .bool false], defers := _ } _
    refine alongK_done ?_
    go_wp2
    go_ret
    exact ⟨rfl, HG.out.trans hG0⟩

set_option maxHeartbeats 1000000 in
theorem rlReport1_any (mV mH : Int) (mB : ByteArray) (tk : Int) (TB M : Nat) (x : Vs) (w : World) (hT : w.heap[TB]? = some (.cells #[.int .i64 tk] 3 (0, 0))) (hM : w.heap[M]? = some (.cells #[.int .i64 mV, .int .i64 mH, .string mB] 26 (0, 0))) :
    Calls Try.prog 27 #[.agg (vsA x), .pointer (some ⟨TB, 0, none⟩), .pointer (some ⟨M, 0, none⟩)] w fun e w' => e = .returned (.bool (repOf mV mH mB tk x)) ∧ Gr w w' := by
  obtain ⟨⟨K, V, H, B, T, G⟩, SG⟩ := x
  have Heq : Hid (∀ (wx : World) (x y : Operand), (do eqGuard .eql 26 x y (.agg #[.int .i64 V, .int .i64 H, .string (strOfNums B)]) (.agg #[.int .i64 mV, .int .i64 mH, .string mB]); binOp .eql 26 (.agg #[.int .i64 V, .int .i64 H, .string (strOfNums B)]) (.agg #[.int .i64 mV, .int .i64 mH, .string mB]) : Sem Value).run Try.prog wx = .ok (.bool (decide (V = mV ∧ H = mH ∧ strOfNums B = mB))) wx) := fun wx x y => mk_eql _ _ _ _ _ _ _ _ _
  show Calls Try.prog 27 #[.agg #[.int .i64 K, .int .i64 V, .int .i64 H, .string (strOfNums B), .int .i64 T, .int .i64 G, .string SG], .pointer (some ⟨TB, 0, none⟩), .pointer (some ⟨M, 0, none⟩)] w fun e w' => e = .returned (.bool (decide (K = 3) && decide (tk ≤ T) && decide (V = mV ∧ H = mH ∧ strOfNums B = mB))) ∧ Gr w w'
  generalize decide (V = mV ∧ H = mH ∧ strOfNums B = mB) = D at Heq ⊢
  generalize strOfNums B = BS at Heq ⊢
  have Hab := Lib.hid (fun wx => about_gr K V H BS T G SG wx)
  have hb0 := heap_alloc_new w (.cells #[.int .i64 K, .int .i64 V, .int .i64 H, .string BS, .int .i64 T, .int .i64 G, .string SG] 28)
  have g1 := Gr.alloc w (.cells #[.int .i64 K, .int .i64 V, .int .i64 H, .string BS, .int .i64 T, .int .i64 G, .string SG] 28)
  have HB : Hid (∀ wx, Gr (w.alloc (.cells #[.int .i64 K, .int .i64 V, .int .i64 H, .string BS, .int .i64 T, .int .i64 G, .string SG] 28)) wx → wx.heap[w.heap.size]? = some (.cells #[.int .i64 K, .int .i64 V, .int .i64 H, .string BS, .int .i64 T, .int .i64 G, .string SG] 28 (0, 0))) := fun wx h => h.block hb0
  have HM : Hid (∀ wx, Gr (w.alloc (.cells #[.int .i64 K, .int .i64 V, .int .i64 H, .string BS, .int .i64 T, .int .i64 G, .string SG] 28)) wx → wx.heap[M]? = some (.cells #[.int .i64 mV, .int .i64 mH, .string mB] 26 (0, 0))) := fun wx h => (g1.trans h).block hM
  have HT : Hid (∀ wx, Gr (w.alloc (.cells #[.int .i64 K, .int .i64 V, .int .i64 H, .string BS, .int .i64 T, .int .i64 G, .string SG] 28)) wx → wx.heap[TB]? = some (.cells #[.int .i64 tk] 3 (0, 0))) := fun wx h => (g1.trans h).block hT
  have HG := Lib.hid g1
  clear hb0 g1 hM hT
  by_cases hK : K = 3
  · have hk : (K == 3) = true := by simpa using hK
    by_cases hT : tk ≤ T
    · rw [show (decide (K = 3) && decide (tk ≤ T) && D) = D by simp [hK, hT]]
      have ht : decide (tk ≤ T) = true := by simpa using hT
      clear hK hT
      go_enter Try.func27, Try.ntmps27
      go_upto_region 1 with fail
      generalize w.alloc (.cells #[.int .i64 K, .int .i64 V, .int .i64 H, .string BS, .int .i64 T, .int .i64 G, .string SG] 28) = wz at HB HM HT HG ⊢
      generalize w.heap.size = B at HB ⊢
      have hG0 := Gr.drew1 wz
      refine region_alongK (fun x => Gr wz.drew x) (.read 0 (.read 1 (.read 2 (.read 3 (.read 4 (.read 5 (.read 6 (.read 7 (.read 8 (.read 9 (.read 10 (.read 12 (.step 11 (.read 13 (.read 14 (.read 15 (.nil))))))))))))))))) (by kernel_rfl) rfl (by kernel_rfl) (by kernel_rfl) (fun c a d v w h => by cases d <;> exact h) (Gr.refl _) ?_
      refine alongK_read (.pointer (some ⟨B, 0, none⟩)) rfl rfl (fun wx hS => ex_field rfl rfl wx (by simp [go_sem])) ?_
      change AlongK _ _ _ _ _ { tmps := #[.agg #[.int .i64 K, .int .i64 V, .int .i64 H, .string BS, .int .i64 T, .int .i64 G, .string SG], .pointer (some ⟨TB, 0, none⟩), .pointer (some ⟨M, 0, none⟩), .pointer (some ⟨B, 0, none⟩), .bool false, .pointer (some ⟨B, 0, none⟩), _, _, _, _, _, _, _, _, _, _, _, _, _, _], defers := _ } _
      refine alongK_read (.int .i64 K) rfl rfl (fun wx hS => ex_load Try.isAgg3 rfl rfl wx ((vt_cells (HB.out wx (Gr.trans hG0 hS))).1)) ?_
      change AlongK _ _ _ _ _ { tmps := #[.agg #[.int .i64 K, .int .i64 V, .int .i64 H, .string BS, .int .i64 T, .int .i64 G, .string SG], .pointer (some ⟨TB, 0, none⟩), .pointer (some ⟨M, 0, none⟩), .pointer (some ⟨B, 0, none⟩), .bool false, .pointer (some ⟨B, 0, none⟩), .int .i64 K, _, _, _, _, _, _, _, _, _, _, _, _, _], defers := _ } _
      refine alongK_read (.bool true) rfl rfl (fun wx hS => ex_eqi rfl rfl rfl hk wx) ?_
      change AlongK _ _ _ _ _ { tmps := #[.agg #[.int .i64 K, .int .i64 V, .int .i64 H, .string BS, .int .i64 T, .int .i64 G, .string SG], .pointer (some ⟨TB, 0, none⟩), .pointer (some ⟨M, 0, none⟩), .pointer (some ⟨B, 0, none⟩), .bool false, .pointer (some ⟨B, 0, none⟩), .int .i64 K, .bool true, _, _, _, _, _, _, _, _, _, _, _, _], defers := _ } _
      refine alongK_read (.bool true) rfl rfl (fun wx hS => ex_move (by rfl) (by rfl) wx) ?_
      change AlongK _ _ _ _ _ { tmps := #[.agg #[.int .i64 K, .int .i64 V, .int .i64 H, .string BS, .int .i64 T, .int .i64 G, .string SG], .pointer (some ⟨TB, 0, none⟩), .pointer (some ⟨M, 0, none⟩), .pointer (some ⟨B, 0, none⟩), .bool false, .pointer (some ⟨B, 0, none⟩), .int .i64 K, .bool true, .bool true, _, _, _, _, _, _, _, _, _, _, _], defers := _ } _
      refine alongK_read (.pointer (some ⟨B, 4, none⟩)) rfl rfl (fun wx hS => ex_field rfl rfl wx (by simp [go_sem])) ?_
      change AlongK _ _ _ _ _ { tmps := #[.agg #[.int .i64 K, .int .i64 V, .int .i64 H, .string BS, .int .i64 T, .int .i64 G, .string SG], .pointer (some ⟨TB, 0, none⟩), .pointer (some ⟨M, 0, none⟩), .pointer (some ⟨B, 0, none⟩), .bool false, .pointer (some ⟨B, 0, none⟩), .int .i64 K, .bool true, .bool true, .pointer (some ⟨B, 4, none⟩), _, _, _, _, _, _, _, _, _, _], defers := _ } _
      refine alongK_read (.int .i64 T) rfl rfl (fun wx hS => ex_load Try.isAgg3 rfl rfl wx (rl_cell (HB.out wx (Gr.trans hG0 hS)) 4 rfl)) ?_
      change AlongK _ _ _ _ _ { tmps := #[.agg #[.int .i64 K, .int .i64 V, .int .i64 H, .string BS, .int .i64 T, .int .i64 G, .string SG], .pointer (some ⟨TB, 0, none⟩), .pointer (some ⟨M, 0, none⟩), .pointer (some ⟨B, 0, none⟩), .bool false, .pointer (some ⟨B, 0, none⟩), .int .i64 K, .bool true, .bool true, .pointer (some ⟨B, 4, none⟩), .int .i64 T, _, _, _, _, _, _, _, _, _], defers := _ } _
      refine alongK_read (.int .i64 tk) rfl rfl (fun wx hS => ex_load Try.isAgg3 rfl rfl wx (rl_cell (HT.out wx (Gr.trans hG0 hS)) 0 rfl)) ?_
      change AlongK _ _ _ _ _ { tmps := #[.agg #[.int .i64 K, .int .i64 V, .int .i64 H, .string BS, .int .i64 T, .int .i64 G, .string SG], .pointer (some ⟨TB, 0, none⟩), .pointer (some ⟨M, 0, none⟩), .pointer (some ⟨B, 0, none⟩), .bool false, .pointer (some ⟨B, 0, none⟩), .int .i64 K, .bool true, .bool true, .pointer (some ⟨B, 4, none⟩), .int .i64 T, .int .i64 tk, _, _, _, _, _, _, _, _], defers := _ } _
      refine alongK_read (.bool true) rfl rfl (fun wx hS => ex_geqR rfl rfl rfl ht wx) ?_
      change AlongK _ _ _ _ _ { tmps := #[.agg #[.int .i64 K, .int .i64 V, .int .i64 H, .string BS, .int .i64 T, .int .i64 G, .string SG], .pointer (some ⟨TB, 0, none⟩), .pointer (some ⟨M, 0, none⟩), .pointer (some ⟨B, 0, none⟩), .bool false, .pointer (some ⟨B, 0, none⟩), .int .i64 K, .bool true, .bool true, .pointer (some ⟨B, 4, none⟩), .int .i64 T, .int .i64 tk, .bool true, _, _, _, _, _, _, _], defers := _ } _
      refine alongK_read (.bool true) rfl rfl (fun wx hS => ex_pickt rfl (by rfl) (by rfl) wx) ?_
      change AlongK _ _ _ _ _ { tmps := #[.agg #[.int .i64 K, .int .i64 V, .int .i64 H, .string BS, .int .i64 T, .int .i64 G, .string SG], .pointer (some ⟨TB, 0, none⟩), .pointer (some ⟨M, 0, none⟩), .pointer (some ⟨B, 0, none⟩), .bool false, .pointer (some ⟨B, 0, none⟩), .int .i64 K, .bool true, .bool true, .pointer (some ⟨B, 4, none⟩), .int .i64 T, .int .i64 tk, .bool true, .bool true, _, _, _, _, _, _], defers := _ } _
      refine alongK_read (.bool true) rfl rfl (fun wx hS => ex_move (by rfl) (by rfl) wx) ?_
      change AlongK _ _ _ _ _ { tmps := #[.agg #[.int .i64 K, .int .i64 V, .int .i64 H, .string BS, .int .i64 T, .int .i64 G, .string SG], .pointer (some ⟨TB, 0, none⟩), .pointer (some ⟨M, 0, none⟩), .pointer (some ⟨B, 0, none⟩), .bool false, .pointer (some ⟨B, 0, none⟩), .int .i64 K, .bool true, .bool true, .pointer (some ⟨B, 4, none⟩), .int .i64 T, .int .i64 tk, .bool true, .bool true, .bool true, _, _, _, _, _], defers := _ } _
      refine alongK_read (.agg #[.int .i64 K, .int .i64 V, .int .i64 H, .string BS, .int .i64 T, .int .i64 G, .string SG]) rfl rfl (fun wx hS => ex_loadrow rfl rfl wx 28 (HB.out wx (Gr.trans hG0 hS)) Try.underlying28 rfl info_vt) ?_
      change AlongK _ _ _ _ _ { tmps := #[.agg #[.int .i64 K, .int .i64 V, .int .i64 H, .string BS, .int .i64 T, .int .i64 G, .string SG], .pointer (some ⟨TB, 0, none⟩), .pointer (some ⟨M, 0, none⟩), .pointer (some ⟨B, 0, none⟩), .bool false, .pointer (some ⟨B, 0, none⟩), .int .i64 K, .bool true, .bool true, .pointer (some ⟨B, 4, none⟩), .int .i64 T, .int .i64 tk, .bool true, .bool true, .bool true, .agg #[.int .i64 K, .int .i64 V, .int .i64 H, .string BS, .int .i64 T, .int .i64 G, .string SG], _, _, _, _], defers := _ } _
      refine alongK_read (.agg #[.int .i64 mV, .int .i64 mH, .string mB]) rfl rfl (fun wx hS => ex_loadrow rfl rfl wx 26 (HM.out wx (Gr.trans hG0 hS)) Try.underlying26 rfl info_mk) ?_
      change AlongK _ _ _ _ _ { tmps := #[.agg #[.int .i64 K, .int .i64 V, .int .i64 H, .string BS, .int .i64 T, .int .i64 G, .string SG], .pointer (some ⟨TB, 0, none⟩), .pointer (some ⟨M, 0, none⟩), .pointer (some ⟨B, 0, none⟩), .bool false, .pointer (some ⟨B, 0, none⟩), .int .i64 K, .bool true, .bool true, .pointer (some ⟨B, 4, none⟩), .int .i64 T, .int .i64 tk, .bool true, .bool true, .bool true, .agg #[.int .i64 K, .int .i64 V, .int .i64 H, .string BS, .int .i64 T, .int .i64 G, .string SG], _, .agg #[.int .i64 mV, .int .i64 mH, .string mB], _, _], defers := _ } _
      refine alongK_step ?_
      refine opK_call (vs := [.agg #[.int .i64 K, .int .i64 V, .int .i64 H, .string BS, .int .i64 T, .int .i64 G, .string SG]]) rfl rfl rfl (enters_of Try.func11 (by kernel_rfl) rfl) rfl ?_
      with_reducible refine Calls.mono (Hab.out _) ?_
      rintro e w9 ⟨rfl, hG9⟩
      have hG0 := Gr.trans hG0 hG9
      refine ⟨_, rfl, (fun x => Gr w9 x), (fun x hx => Gr.trans hG9 hx), (Gr.refl w9), ?_⟩
      change AlongK _ _ _ _ _ { tmps := #[.agg #[.int .i64 K, .int .i64 V, .int .i64 H, .string BS, .int .i64 T, .int .i64 G, .string SG], .pointer (some ⟨TB, 0, none⟩), .pointer (some ⟨M, 0, none⟩), .pointer (some ⟨B, 0, none⟩), .bool false, .pointer (some ⟨B, 0, none⟩), .int .i64 K, .bool true, .bool true, .pointer (some ⟨B, 4, none⟩), .int .i64 T, .int .i64 tk, .bool true, .bool true, .bool true, .agg #[.int .i64 K, .int .i64 V, .int .i64 H, .string BS, .int .i64 T, .int .i64 G, .string SG], .agg #[.int .i64 V, .int .i64 H, .string BS], .agg #[.int .i64 mV, .int .i64 mH, .string mB], _, _], defers := _ } _
      refine alongK_read (.bool D) rfl rfl (fun wx hS => ex_bin rfl rfl rfl wx (Heq.out wx _ _)) ?_
      change AlongK _ _ _ _ _ { tmps := #[.agg #[.int .i64 K, .int .i64 V, .int .i64 H, .string BS, .int .i64 T, .int .i64 G, .string SG], .pointer (some ⟨TB, 0, none⟩), .pointer (some ⟨M, 0, none⟩), .pointer (some ⟨B, 0, none⟩), .bool false, .pointer (some ⟨B, 0, none⟩), .int .i64 K, .bool true, .bool true, .pointer (some ⟨B, 4, none⟩), .int .i64 T, .int .i64 tk, .bool true, .bool true, .bool true, .agg #[.int .i64 K, .int .i64 V, .int .i64 H, .string BS, .int .i64 T, .int .i64 G, .string SG], .agg #[.int .i64 V, .int .i64 H, .string BS], .agg #[.int .i64 mV, .int .i64 mH, .string mB], .bool D, _], defers := _ } _
      refine alongK_read (.bool D) rfl rfl (fun wx hS => ex_pickt rfl (by rfl) (by rfl) wx) ?_
      change AlongK _ _ _ _ _ { tmps := #[.agg #[.int .i64 K, .int .i64 V, .int .i64 H, .string BS, .int .i64 T, .int .i64 G, .string SG], .pointer (some ⟨TB, 0, none⟩), .pointer (some ⟨M, 0, none⟩), .pointer (some ⟨B, 0, none⟩), .bool false, .pointer (some ⟨B, 0, none⟩), .int .i64 K, .bool true, .bool true, .pointer (some ⟨B, 4, none⟩), .int .i64 T, .int .i64 tk, .bool true, .bool true, .bool true, .agg #[.int .i64 K, .int .i64 V, .int .i64 H, .string BS, .int .i64 T, .int .i64 G, .string SG], .agg #[.int .i64 V, .int .i64 H, .string BS], .agg #[.int .i64 mV, .int .i64 mH, .string mB], .bool D, .bool D], defers := _ } _
      refine alongK_read (.bool D) rfl rfl (fun wx hS => ex_assign (by rfl) (by rfl) wx) ?_
      change AlongK _ _ _ _ _ { tmps := #[.agg #[.int .i64 K, .int .i64 V, .int .i64 H, .string BS, .int .i64 T, .int .i64 G, .string SG], .pointer (some ⟨TB, 0, none⟩), .pointer (some ⟨M, 0, none⟩), .pointer (some ⟨B, 0, none⟩), .bool D, .pointer (some ⟨B, 0, none⟩), .int .i64 K, .bool true, .bool true, .pointer (some ⟨B, 4, none⟩), .int .i64 T, .int .i64 tk, .bool true, .bool true, .bool true, .agg #[.int .i64 K, .int .i64 V, .int .i64 H, .string BS, .int .i64 T, .int .i64 G, .string SG], .agg #[.int .i64 V, .int .i64 H, .string BS], .agg #[.int .i64 mV, .int .i64 mH, .string mB], .bool D, .bool D], defers := _ } _
      refine alongK_done ?_
      go_wp2
      go_ret
      exact ⟨rfl, HG.out.trans hG0⟩
    · rw [show (decide (K = 3) && decide (tk ≤ T) && D) = false by simp [hK, hT]]
      have ht : decide (tk ≤ T) = false := by simpa using hT
      clear hK hT
      go_enter Try.func27, Try.ntmps27
      go_upto_region 1 with fail
      generalize w.alloc (.cells #[.int .i64 K, .int .i64 V, .int .i64 H, .string BS, .int .i64 T, .int .i64 G, .string SG] 28) = wz at HB HM HT HG ⊢
      generalize w.heap.size = B at HB ⊢
      have hG0 := Gr.drew1 wz
      refine region_alongK (fun x => Gr wz.drew x) (.read 0 (.read 1 (.read 2 (.read 3 (.read 4 (.read 5 (.read 6 (.read 7 (.read 8 (.read 9 (.read 10 (.read 11 (.read 12 (.read 13 (.read 14 (.read 15 (.nil))))))))))))))))) (by kernel_rfl) rfl (by kernel_rfl) (by kernel_rfl) (fun c a d v w h => by cases d <;> exact h) (Gr.refl _) ?_
      refine alongK_read (.pointer (some ⟨B, 0, none⟩)) rfl rfl (fun wx hS => ex_field rfl rfl wx (by simp [go_sem])) ?_
      change AlongK _ _ _ _ _ { tmps := #[.agg #[.int .i64 K, .int .i64 V, .int .i64 H, .string BS, .int .i64 T, .int .i64 G, .string SG], .pointer (some ⟨TB, 0, none⟩), .pointer (some ⟨M, 0, none⟩), .pointer (some ⟨B, 0, none⟩), .bool false, .pointer (some ⟨B, 0, none⟩), _, _, _, _, _, _, _, _, _, _, _, _, _, _], defers := _ } _
      refine alongK_read (.int .i64 K) rfl rfl (fun wx hS => ex_load Try.isAgg3 rfl rfl wx ((vt_cells (HB.out wx (Gr.trans hG0 hS))).1)) ?_
      change AlongK _ _ _ _ _ { tmps := #[.agg #[.int .i64 K, .int .i64 V, .int .i64 H, .string BS, .int .i64 T, .int .i64 G, .string SG], .pointer (some ⟨TB, 0, none⟩), .pointer (some ⟨M, 0, none⟩), .pointer (some ⟨B, 0, none⟩), .bool false, .pointer (some ⟨B, 0, none⟩), .int .i64 K, _, _, _, _, _, _, _, _, _, _, _, _, _], defers := _ } _
      refine alongK_read (.bool true) rfl rfl (fun wx hS => ex_eqi rfl rfl rfl hk wx) ?_
      change AlongK _ _ _ _ _ { tmps := #[.agg #[.int .i64 K, .int .i64 V, .int .i64 H, .string BS, .int .i64 T, .int .i64 G, .string SG], .pointer (some ⟨TB, 0, none⟩), .pointer (some ⟨M, 0, none⟩), .pointer (some ⟨B, 0, none⟩), .bool false, .pointer (some ⟨B, 0, none⟩), .int .i64 K, .bool true, _, _, _, _, _, _, _, _, _, _, _, _], defers := _ } _
      refine alongK_read (.bool true) rfl rfl (fun wx hS => ex_move (by rfl) (by rfl) wx) ?_
      change AlongK _ _ _ _ _ { tmps := #[.agg #[.int .i64 K, .int .i64 V, .int .i64 H, .string BS, .int .i64 T, .int .i64 G, .string SG], .pointer (some ⟨TB, 0, none⟩), .pointer (some ⟨M, 0, none⟩), .pointer (some ⟨B, 0, none⟩), .bool false, .pointer (some ⟨B, 0, none⟩), .int .i64 K, .bool true, .bool true, _, _, _, _, _, _, _, _, _, _, _], defers := _ } _
      refine alongK_read (.pointer (some ⟨B, 4, none⟩)) rfl rfl (fun wx hS => ex_field rfl rfl wx (by simp [go_sem])) ?_
      change AlongK _ _ _ _ _ { tmps := #[.agg #[.int .i64 K, .int .i64 V, .int .i64 H, .string BS, .int .i64 T, .int .i64 G, .string SG], .pointer (some ⟨TB, 0, none⟩), .pointer (some ⟨M, 0, none⟩), .pointer (some ⟨B, 0, none⟩), .bool false, .pointer (some ⟨B, 0, none⟩), .int .i64 K, .bool true, .bool true, .pointer (some ⟨B, 4, none⟩), _, _, _, _, _, _, _, _, _, _], defers := _ } _
      refine alongK_read (.int .i64 T) rfl rfl (fun wx hS => ex_load Try.isAgg3 rfl rfl wx (rl_cell (HB.out wx (Gr.trans hG0 hS)) 4 rfl)) ?_
      change AlongK _ _ _ _ _ { tmps := #[.agg #[.int .i64 K, .int .i64 V, .int .i64 H, .string BS, .int .i64 T, .int .i64 G, .string SG], .pointer (some ⟨TB, 0, none⟩), .pointer (some ⟨M, 0, none⟩), .pointer (some ⟨B, 0, none⟩), .bool false, .pointer (some ⟨B, 0, none⟩), .int .i64 K, .bool true, .bool true, .pointer (some ⟨B, 4, none⟩), .int .i64 T, _, _, _, _, _, _, _, _, _], defers := _ } _
      refine alongK_read (.int .i64 tk) rfl rfl (fun wx hS => ex_load Try.isAgg3 rfl rfl wx (rl_cell (HT.out wx (Gr.trans hG0 hS)) 0 rfl)) ?_
      change AlongK _ _ _ _ _ { tmps := #[.agg #[.int .i64 K, .int .i64 V, .int .i64 H, .string BS, .int .i64 T, .int .i64 G, .string SG], .pointer (some ⟨TB, 0, none⟩), .pointer (some ⟨M, 0, none⟩), .pointer (some ⟨B, 0, none⟩), .bool false, .pointer (some ⟨B, 0, none⟩), .int .i64 K, .bool true, .bool true, .pointer (some ⟨B, 4, none⟩), .int .i64 T, .int .i64 tk, _, _, _, _, _, _, _, _], defers := _ } _
      refine alongK_read (.bool false) rfl rfl (fun wx hS => ex_geqR rfl rfl rfl ht wx) ?_
      change AlongK _ _ _ _ _ { tmps := #[.agg #[.int .i64 K, .int .i64 V, .int .i64 H, .string BS, .int .i64 T, .int .i64 G, .string SG], .pointer (some ⟨TB, 0, none⟩), .pointer (some ⟨M, 0, none⟩), .pointer (some ⟨B, 0, none⟩), .bool false, .pointer (some ⟨B, 0, none⟩), .int .i64 K, .bool true, .bool true, .pointer (some ⟨B, 4, none⟩), .int .i64 T, .int .i64 tk, .bool false, _, _, _, _, _, _, _], defers := _ } _
      refine alongK_read (.bool false) rfl rfl (fun wx hS => ex_pickt rfl (by rfl) (by rfl) wx) ?_
      change AlongK _ _ _ _ _ { tmps := #[.agg #[.int .i64 K, .int .i64 V, .int .i64 H, .string BS, .int .i64 T, .int .i64 G, .string SG], .pointer (some ⟨TB, 0, none⟩), .pointer (some ⟨M, 0, none⟩), .pointer (some ⟨B, 0, none⟩), .bool false, .pointer (some ⟨B, 0, none⟩), .int .i64 K, .bool true, .bool true, .pointer (some ⟨B, 4, none⟩), .int .i64 T, .int .i64 tk, .bool false, .bool false, _, _, _, _, _, _], defers := _ } _
      refine alongK_read (.bool false) rfl rfl (fun wx hS => ex_move (by rfl) (by rfl) wx) ?_
      change AlongK _ _ _ _ _ { tmps := #[.agg #[.int .i64 K, .int .i64 V, .int .i64 H, .string BS, .int .i64 T, .int .i64 G, .string SG], .pointer (some ⟨TB, 0, none⟩), .pointer (some ⟨M, 0, none⟩), .pointer (some ⟨B, 0, none⟩), .bool false, .pointer (some ⟨B, 0, none⟩), .int .i64 K, .bool true, .bool true, .pointer (some ⟨B, 4, none⟩), .int .i64 T, .int .i64 tk, .bool false, .bool false, .bool false, _, _, _, _, _], defers := _ } _
      refine alongK_skip rfl rfl ?_
      change AlongK _ _ _ _ _ { tmps := #[.agg #[.int .i64 K, .int .i64 V, .int .i64 H, .string BS, .int .i64 T, .int .i64 G, .string SG], .pointer (some ⟨TB, 0, none⟩), .pointer (some ⟨M, 0, none⟩), .pointer (some ⟨B, 0, none⟩), .bool false, .pointer (some ⟨B, 0, none⟩), .int .i64 K, .bool true, .bool true, .pointer (some ⟨B, 4, none⟩), .int .i64 T, .int .i64 tk, .bool false, .bool false, .bool false, undef, _, _, _, _], defers := _ } _
      refine alongK_skip rfl rfl ?_
      change AlongK _ _ _ _ _ { tmps := #[.agg #[.int .i64 K, .int .i64 V, .int .i64 H, .string BS, .int .i64 T, .int .i64 G, .string SG], .pointer (some ⟨TB, 0, none⟩), .pointer (some ⟨M, 0, none⟩), .pointer (some ⟨B, 0, none⟩), .bool false, .pointer (some ⟨B, 0, none⟩), .int .i64 K, .bool true, .bool true, .pointer (some ⟨B, 4, none⟩), .int .i64 T, .int .i64 tk, .bool false, .bool false, .bool false, undef, undef, _, _, _], defers := _ } _
      refine alongK_skip rfl rfl ?_
      change AlongK _ _ _ _ _ { tmps := #[.agg #[.int .i64 K, .int .i64 V, .int .i64 H, .string BS, .int .i64 T, .int .i64 G, .string SG], .pointer (some ⟨TB, 0, none⟩), .pointer (some ⟨M, 0, none⟩), .pointer (some ⟨B, 0, none⟩), .bool false, .pointer (some ⟨B, 0, none⟩), .int .i64 K, .bool true, .bool true, .pointer (some ⟨B, 4, none⟩), .int .i64 T, .int .i64 tk, .bool false, .bool false, .bool false, undef, undef, undef, _, _], defers := _ } _
      refine alongK_skip rfl rfl ?_
      change AlongK _ _ _ _ _ { tmps := #[.agg #[.int .i64 K, .int .i64 V, .int .i64 H, .string BS, .int .i64 T, .int .i64 G, .string SG], .pointer (some ⟨TB, 0, none⟩), .pointer (some ⟨M, 0, none⟩), .pointer (some ⟨B, 0, none⟩), .bool false, .pointer (some ⟨B, 0, none⟩), .int .i64 K, .bool true, .bool true, .pointer (some ⟨B, 4, none⟩), .int .i64 T, .int .i64 tk, .bool false, .bool false, .bool false, undef, undef, undef, undef, _], defers := _ } _
      refine alongK_read (.bool false) rfl rfl (fun wx hS => ex_pickf rfl (by rfl) (by rfl) wx) ?_
      change AlongK _ _ _ _ _ { tmps := #[.agg #[.int .i64 K, .int .i64 V, .int .i64 H, .string BS, .int .i64 T, .int .i64 G, .string SG], .pointer (some ⟨TB, 0, none⟩), .pointer (some ⟨M, 0, none⟩), .pointer (some ⟨B, 0, none⟩), .bool false, .pointer (some ⟨B, 0, none⟩), .int .i64 K, .bool true, .bool true, .pointer (some ⟨B, 4, none⟩), .int .i64 T, .int .i64 tk, .bool false, .bool false, .bool false, undef, undef, undef, undef, .bool false], defers := _ } _
      refine alongK_read (.bool false) rfl rfl (fun wx hS => ex_assign (by rfl) (by rfl) wx) ?_
      change AlongK _ _ _ _ _ { tmps := #[.agg #[.int .i64 K, .int .i64 V, .int .i64 H, .string BS, .int .i64 T, .int .i64 G, .string SG], .pointer (some ⟨TB, 0, none⟩), .pointer (some ⟨M, 0, none⟩), .pointer (some ⟨B, 0, none⟩), .bool false, .pointer (some ⟨B, 0, none⟩), .int .i64 K, .bool true, .bool true, .pointer (some ⟨B, 4, none⟩), .int .i64 T, .int .i64 tk, .bool false, .bool false, .bool false, undef, undef, undef, undef, .bool false], defers := _ } _
      refine alongK_done ?_
      go_wp2
      go_ret
      exact ⟨rfl, HG.out.trans hG0⟩
  · rw [show (decide (K = 3) && decide (tk ≤ T) && D) = false by simp [hK]]
    have hk : (K == 3) = false := by rw [beq_eq_false_iff_ne]; exact hK
    clear hK
    go_enter Try.func27, Try.ntmps27
    go_upto_region 1 with fail
    generalize w.alloc (.cells #[.int .i64 K, .int .i64 V, .int .i64 H, .string BS, .int .i64 T, .int .i64 G, .string SG] 28) = wz at HB HM HT HG ⊢
    generalize w.heap.size = B at HB ⊢
    have hG0 := Gr.drew1 wz
    refine region_alongK (fun x => Gr wz.drew x) (.read 0 (.read 1 (.read 2 (.read 3 (.read 4 (.read 5 (.read 6 (.read 7 (.read 8 (.read 9 (.read 10 (.read 11 (.read 12 (.read 13 (.read 14 (.read 15 (.nil))))))))))))))))) (by kernel_rfl) rfl (by kernel_rfl) (by kernel_rfl) (fun c a d v w h => by cases d <;> exact h) (Gr.refl _) ?_
    refine alongK_read (.pointer (some ⟨B, 0, none⟩)) rfl rfl (fun wx hS => ex_field rfl rfl wx (by simp [go_sem])) ?_
    change AlongK _ _ _ _ _ { tmps := #[.agg #[.int .i64 K, .int .i64 V, .int .i64 H, .string BS, .int .i64 T, .int .i64 G, .string SG], .pointer (some ⟨TB, 0, none⟩), .pointer (some ⟨M, 0, none⟩), .pointer (some ⟨B, 0, none⟩), .bool false, .pointer (some ⟨B, 0, none⟩), _, _, _, _, _, _, _, _, _, _, _, _, _, _], defers := _ } _
    refine alongK_read (.int .i64 K) rfl rfl (fun wx hS => ex_load Try.isAgg3 rfl rfl wx ((vt_cells (HB.out wx (Gr.trans hG0 hS))).1)) ?_
    change AlongK _ _ _ _ _ { tmps := #[.agg #[.int .i64 K, .int .i64 V, .int .i64 H, .string BS, .int .i64 T, .int .i64 G, .string SG], .pointer (some ⟨TB, 0, none⟩), .pointer (some ⟨M, 0, none⟩), .pointer (some ⟨B, 0, none⟩), .bool false, .pointer (some ⟨B, 0, none⟩), .int .i64 K, _, _, _, _, _, _, _, _, _, _, _, _, _], defers := _ } _
    refine alongK_read (.bool false) rfl rfl (fun wx hS => ex_eqi rfl rfl rfl hk wx) ?_
    change AlongK _ _ _ _ _ { tmps := #[.agg #[.int .i64 K, .int .i64 V, .int .i64 H, .string BS, .int .i64 T, .int .i64 G, .string SG], .pointer (some ⟨TB, 0, none⟩), .pointer (some ⟨M, 0, none⟩), .pointer (some ⟨B, 0, none⟩), .bool false, .pointer (some ⟨B, 0, none⟩), .int .i64 K, .bool false, _, _, _, _, _, _, _, _, _, _, _, _], defers := _ } _
    refine alongK_read (.bool false) rfl rfl (fun wx hS => ex_move (by rfl) (by rfl) wx) ?_
    change AlongK _ _ _ _ _ { tmps := #[.agg #[.int .i64 K, .int .i64 V, .int .i64 H, .string BS, .int .i64 T, .int .i64 G, .string SG], .pointer (some ⟨TB, 0, none⟩), .pointer (some ⟨M, 0, none⟩), .pointer (some ⟨B, 0, none⟩), .bool false, .pointer (some ⟨B, 0, none⟩), .int .i64 K, .bool false, .bool false, _, _, _, _, _, _, _, _, _, _, _], defers := _ } _
    refine alongK_skip rfl rfl ?_
    change AlongK _ _ _ _ _ { tmps := #[.agg #[.int .i64 K, .int .i64 V, .int .i64 H, .string BS, .int .i64 T, .int .i64 G, .string SG], .pointer (some ⟨TB, 0, none⟩), .pointer (some ⟨M, 0, none⟩), .pointer (some ⟨B, 0, none⟩), .bool false, .pointer (some ⟨B, 0, none⟩), .int .i64 K, .bool false, .bool false, undef, _, _, _, _, _, _, _, _, _, _], defers := _ } _
    refine alongK_skip rfl rfl ?_
    change AlongK _ _ _ _ _ { tmps := #[.agg #[.int .i64 K, .int .i64 V, .int .i64 H, .string BS, .int .i64 T, .int .i64 G, .string SG], .pointer (some ⟨TB, 0, none⟩), .pointer (some ⟨M, 0, none⟩), .pointer (some ⟨B, 0, none⟩), .bool false, .pointer (some ⟨B, 0, none⟩), .int .i64 K, .bool false, .bool false, undef, undef, _, _, _, _, _, _, _, _, _], defers := _ } _
    refine alongK_skip rfl rfl ?_
    change AlongK _ _ _ _ _ { tmps := #[.agg #[.int .i64 K, .int .i64 V, .int .i64 H, .string BS, .int .i64 T, .int .i64 G, .string SG], .pointer (some ⟨TB, 0, none⟩), .pointer (some ⟨M, 0, none⟩), .pointer (some ⟨B, 0, none⟩), .bool false, .pointer (some ⟨B, 0, none⟩), .int .i64 K, .bool false, .bool false, undef, undef, undef, _, _, _, _, _, _, _, _], defers := _ } _
    refine alongK_skip rfl rfl ?_
    change AlongK _ _ _ _ _ { tmps := #[.agg #[.int .i64 K, .int .i64 V, .int .i64 H, .string BS, .int .i64 T, .int .i64 G, .string SG], .pointer (some ⟨TB, 0, none⟩), .pointer (some ⟨M, 0, none⟩), .pointer (some ⟨B, 0, none⟩), .bool false, .pointer (some ⟨B, 0, none⟩), .int .i64 K, .bool false, .bool false, undef, undef, undef, undef, _, _, _, _, _, _, _], defers := _ } _
    refine alongK_read (.bool false) rfl rfl (fun wx hS => ex_pickf rfl (by rfl) (by rfl) wx) ?_
    change AlongK _ _ _ _ _ { tmps := #[.agg #[.int .i64 K, .int .i64 V, .int .i64 H, .string BS, .int .i64 T, .int .i64 G, .string SG], .pointer (some ⟨TB, 0, none⟩), .pointer (some ⟨M, 0, none⟩), .pointer (some ⟨B, 0, none⟩), .bool false, .pointer (some ⟨B, 0, none⟩), .int .i64 K, .bool false, .bool false, undef, undef, undef, undef, .bool false, _, _, _, _, _, _], defers := _ } _
    refine alongK_read (.bool false) rfl rfl (fun wx hS => ex_move (by rfl) (by rfl) wx) ?_
    change AlongK _ _ _ _ _ { tmps := #[.agg #[.int .i64 K, .int .i64 V, .int .i64 H, .string BS, .int .i64 T, .int .i64 G, .string SG], .pointer (some ⟨TB, 0, none⟩), .pointer (some ⟨M, 0, none⟩), .pointer (some ⟨B, 0, none⟩), .bool false, .pointer (some ⟨B, 0, none⟩), .int .i64 K, .bool false, .bool false, undef, undef, undef, undef, .bool false, .bool false, _, _, _, _, _], defers := _ } _
    refine alongK_skip rfl rfl ?_
    change AlongK _ _ _ _ _ { tmps := #[.agg #[.int .i64 K, .int .i64 V, .int .i64 H, .string BS, .int .i64 T, .int .i64 G, .string SG], .pointer (some ⟨TB, 0, none⟩), .pointer (some ⟨M, 0, none⟩), .pointer (some ⟨B, 0, none⟩), .bool false, .pointer (some ⟨B, 0, none⟩), .int .i64 K, .bool false, .bool false, undef, undef, undef, undef, .bool false, .bool false, undef, _, _, _, _], defers := _ } _
    refine alongK_skip rfl rfl ?_
    change AlongK _ _ _ _ _ { tmps := #[.agg #[.int .i64 K, .int .i64 V, .int .i64 H, .string BS, .int .i64 T, .int .i64 G, .string SG], .pointer (some ⟨TB, 0, none⟩), .pointer (some ⟨M, 0, none⟩), .pointer (some ⟨B, 0, none⟩), .bool false, .pointer (some ⟨B, 0, none⟩), .int .i64 K, .bool false, .bool false, undef, undef, undef, undef, .bool false, .bool false, undef, undef, _, _, _], defers := _ } _
    refine alongK_skip rfl rfl ?_
    change AlongK _ _ _ _ _ { tmps := #[.agg #[.int .i64 K, .int .i64 V, .int .i64 H, .string BS, .int .i64 T, .int .i64 G, .string SG], .pointer (some ⟨TB, 0, none⟩), .pointer (some ⟨M, 0, none⟩), .pointer (some ⟨B, 0, none⟩), .bool false, .pointer (some ⟨B, 0, none⟩), .int .i64 K, .bool false, .bool false, undef, undef, undef, undef, .bool false, .bool false, undef, undef, undef, _, _], defers := _ } _
    refine alongK_skip rfl rfl ?_
    change AlongK _ _ _ _ _ { tmps := #[.agg #[.int .i64 K, .int .i64 V, .int .i64 H, .string BS, .int .i64 T, .int .i64 G, .string SG], .pointer (some ⟨TB, 0, none⟩), .pointer (some ⟨M, 0, none⟩), .pointer (some ⟨B, 0, none⟩), .bool false, .pointer (some ⟨B, 0, none⟩), .int .i64 K, .bool false, .bool false, undef, undef, undef, undef, .bool false, .bool false, undef, undef, undef, undef, _], defers := _ } _
    refine alongK_read (.bool false) rfl rfl (fun wx hS => ex_pickf rfl (by rfl) (by rfl) wx) ?_
    change AlongK _ _ _ _ _ { tmps := #[.agg #[.int .i64 K, .int .i64 V, .int .i64 H, .string BS, .int .i64 T, .int .i64 G, .string SG], .pointer (some ⟨TB, 0, none⟩), .pointer (some ⟨M, 0, none⟩), .pointer (some ⟨B, 0, none⟩), .bool false, .pointer (some ⟨B, 0, none⟩), .int .i64 K, .bool false, .bool false, undef, undef, undef, undef, .bool false, .bool false, undef, undef, undef, undef, .bool false], defers := _ } _
    refine alongK_read (.bool false) rfl rfl (fun wx hS => ex_assign (by rfl) (by rfl) wx) ?_
    change AlongK _ _ _ _ _ { tmps := #[.agg #[.int .i64 K, .int .i64 V, .int .i64 H, .string BS, .int .i64 T, .int .i64 G, .string SG], .pointer (some ⟨TB, 0, none⟩), .pointer (some ⟨M, 0, none⟩), .pointer (some ⟨B, 0, none⟩), .bool false, .pointer (some ⟨B, 0, none⟩), .int .i64 K, .bool false, .bool false, undef, undef, undef, undef, .bool false, .bool false, undef, undef, undef, undef, .bool false], defers := _ } _
    refine alongK_done ?_
    go_wp2
    go_ret
    exact ⟨rfl, HG.out.trans hG0⟩
set_option maxHeartbeats 1000000 in
/-- of how many signers there is a statement that counts -/
theorem rlVoices_any (g : FuncId) (cb : Array Value) (eg : ∀ args w, (callFunc g args).run Try.prog w = .ok (.enter g args) w) (p : Vs → Bool) (xs : List Vs) (v : Value) (w : World) (hx : VArg w v xs) (hn : xs.length < 4611686018427387904) (hok : ∀ x ∈ xs, (Lit.int .i64 x.1.G).wf = true)
    (hc : ∀ (x : Vs) (W : World), x ∈ xs → Up w W → Calls Try.prog g (#[.agg (vsA x)] ++ cb) W fun e w' => e = .returned (.bool (p x)) ∧ Up W w') :
    Calls Try.prog 16 #[v, .func (.func g) #[] cb] w fun e w' => e = .returned (.int .i64 (nsg p (fun x => x.1.G) xs : Nat)) ∧ Up w w' := by
  obtain ⟨a, cap, rfl, hcap, hnone, _⟩ := id hx
  have HX := Lib.hid hx
  have HOK := Lib.hid hok
  have HC := Lib.hid hc
  have HNn : Hid (xs.length < maxLen) := Lib.hid (by unfold maxLen; omega)

  obtain ⟨n, hnl⟩ : ∃ n, xs.length = n := ⟨_, rfl⟩
  have HN := Lib.hid hnl
  rw [hnl] at hn hcap ⊢
  have hmm := @run_makeMap Try.prog
  have HU0 := Lib.hid (Up.alloc (Up.refl w) (.map #[] 0))
  have HS0 := Lib.hid (IdSet.new w)
  clear hx hok hnl hnone hcap hc
  unfold nsg
  obtain ⟨Lf, hLf⟩ : ∃ Lf, sgs p (fun x => x.1.G) [] xs = Lf := ⟨_, rfl⟩
  rw [hLf]
  have HLf := Lib.hid hLf
  clear hLf
  go_enter Try.func16, Try.ntmps16
  go_wp2
  go_loopw [11] (fun vi wr => ∃ i : Nat, vi = .int .i64 (i : Nat) ∧ i ≤ n ∧ Hid (Up w wr) ∧ Hid (IdSet wr w.heap.size i (sgs p (fun x => x.1.G) [] (xs.take i)))) (fun vi _ => n - (RowKit.intOf vi).toNat)
  case atStart => exact ⟨0, rfl, Nat.zero_le _, HU0, HS0⟩
  case round =>
    obtain ⟨i, rfl, hi, HU, HS⟩ := hrel
    by_cases hlt : i < n
    · have hz : (i : Int) < (n : Int) := by omega
      obtain ⟨x, hxi⟩ : ∃ x, xs[i]? = some x := ⟨_, List.getElem?_eq_getElem (by rw [HN.out]; exact hlt)⟩
      have hxm : x ∈ xs := List.mem_of_getElem? hxi
      have HNx : Hid (sgs p (fun x => x.1.G) [] (xs.take (i + 1)) = if p x then addV (sgs p (fun x => x.1.G) [] (xs.take i)) x.1.G else sgs p (fun x => x.1.G) [] (xs.take i)) := by
        refine Lib.hid ?_
        rw [List.take_add_one, hxi, sgs_append]; rfl
      obtain ⟨b, off, rfl⟩ := HX.out.ptr (by have := HN.out; omega)
      have Hl := Lib.hid ((HX.out.up HU.out).load hxi)
      have Hok := Lib.hid (HOK.out x hxm)
      have HUA := Lib.hid (Up.alloc HU.out (.cells (vsA x) 28))
      have HSA := Lib.hid (HS.out.up (Up.alloc (Up.refl wr) (.cells (vsA x) 28)))
      have HB := Lib.hid (heap_alloc_new wr (.cells (vsA x) 28))
      have Hc := Lib.hid (HC.out x _ hxm HUA.out)
      have Hi : Hid (i < maxLen) := Lib.hid (by have := HN.out; have := HNn.out; omega)
      clear hxi HS HU hxm
      generalize sgs p (fun x => x.1.G) [] (xs.take i) = L at HSA HNx
      generalize hpx : p x = q at Hc HNx
      clear hpx
      go_wp2_with (first | (refine wpList_ex rfl (.agg (vsA x)) wr (ex_ldv (x := .tmp 13) rfl rfl Hl.out) ?_) | (refine wpList_exs rfl _ (ex_fill (x := .tmp 7) (y := .tmp 14) (W := wr) (u := x) rfl rfl rfl rfl) ?_) | (refine wpList_ex rfl (.agg (vsA x)) _ (ex_loadrow (x := .tmp 7) rfl rfl _ 28 HB.out Try.underlying28 rfl info_vt) ?_))
      with_reducible refine Calls.mono Hc.out ?_
      rintro e w2 ⟨rfl, hU2⟩
      have HU2 := Lib.hid (HUA.out.trans hU2)
      have HS2 := Lib.hid (HSA.out.up hU2)
      have c5 := rl_cell (row_up HB.out hU2) 5 (v := .int .i64 x.1.G) rfl
      clear hU2 HUA HSA Hc
      cases q with
      | true =>
        go_wp2_with (at_mapUpdate; refine wpList_idPut rfl _ _ _ rfl HS2.out Hi.out Hok.out rfl rfl rfl ?_; intro w3 hs3 hg3; have HS3 := Lib.hid hs3; have HG3 := Lib.hid hg3; clear hs3 hg3)
        go_roundw
        case rel => exact ⟨i + 1, by go_num, hlt, Lib.hid (up_at HU2.out HG3.out (Nat.le_refl _)), by rw [HNx.out]; exact HS3⟩
        case measure => simp [RowKit.intOf]; omega
      | false =>
        go_wp2
        go_roundw
        case rel => exact ⟨i + 1, by go_num, hlt, HU2, by rw [HNx.out]; exact Lib.hid (HS2.out.mono (Nat.le_succ _))⟩
        case measure => simp [RowKit.intOf]; omega
    · obtain rfl : i = n := by omega
      have hL : sgs p (fun x => x.1.G) [] (xs.take i) = Lf := by rw [List.take_of_length_le (by rw [HN.out]; exact Nat.le_refl _)]; exact HLf.out
      rw [hL] at HS
      clear hL
      go_wp2_with (at_len; refine wpList_idLen rfl _ rfl HS.out rfl ?_)
      go_ret
      exact ⟨rfl, HU.out⟩
/-- is there enough? -/
def enoughR (k N q mV mH : Int) (mB : ByteArray) (xs : List Vs) : Bool :=
  if k = 1 then decide (max 1 N ≤ (nsg (comOf mV mH mB) (fun x => x.1.G) xs : Nat)) else
  if k = 2 then if 0 ≤ N ∧ N ≤ 1048576 then decide (max 1 q ≤ (nsg (repOf mV mH mB (2 * N)) (fun x => x.1.G) xs : Nat)) else false else false
theorem rlCommits_any (V H : Int) (B : ByteArray) (w : World) : Calls Try.prog 17 #[.agg #[.int .i64 V, .int .i64 H, .string B]] w fun e w' => e = .returned (.func (.func 26) #[] #[.pointer (some ⟨w.heap.size, 0, none⟩)]) ∧ w' = w.alloc (.cells #[.int .i64 V, .int .i64 H, .string B] 26) := by
  go_enter Try.func17, Try.ntmps17
  go_wp2
  go_ret
  exact ⟨rfl, rfl⟩
theorem rlReports_any (V H : Int) (B : ByteArray) (tk : Int) (w : World) : Calls Try.prog 18 #[.agg #[.int .i64 V, .int .i64 H, .string B], .int .i64 tk] w fun e w' => e = .returned (.func (.func 27) #[] #[.pointer (some ⟨w.heap.size + 1, 0, none⟩), .pointer (some ⟨w.heap.size, 0, none⟩)]) ∧ w' = (w.alloc (.cells #[.int .i64 V, .int .i64 H, .string B] 26)).alloc (.cells #[.int .i64 tk] 3) := by
  go_enter Try.func18, Try.ntmps18
  go_wp2
  go_ret
  exact ⟨rfl, rfl⟩

set_option maxHeartbeats 1000000 in
theorem rlEnough_any (k N q mV mH : Int) (mB : ByteArray) (xs : List Vs) (v : Value) (w : World) (hx : VArg w v xs) (hn : xs.length < 4611686018427387904) (hok : ∀ x ∈ xs, (Lit.int .i64 x.1.G).wf = true) :
    Calls Try.prog 9 #[.agg #[.int .i64 k, .int .i64 N], .int .i64 q, .agg #[.int .i64 mV, .int .i64 mH, .string mB], v] w fun e w' => e = .returned (.bool (enoughR k N q mV mH mB xs)) ∧ Up w w' := by
  have h0 := heap_alloc_new w (.cells #[.int .i64 k, .int .i64 N] 34)
  have u1 := Up.alloc (Up.refl (w.alloc (.cells #[.int .i64 k, .int .i64 N] 34))) (.cells #[.int .i64 mV, .int .i64 mH, .string mB] 26)
  have h1 := row_up h0 u1
  have h2 := heap_alloc_new (w.alloc (.cells #[.int .i64 k, .int .i64 N] 34)) (.cells #[.int .i64 mV, .int .i64 mH, .string mB] 26)
  rw [show (w.alloc (.cells #[.int .i64 k, .int .i64 N] 34)).heap.size = w.heap.size + 1 by simp] at h2
  have HU := Lib.hid ((Up.alloc (Up.refl w) (.cells #[.int .i64 k, .int .i64 N] 34)).trans u1)
  have HV : Hid (∀ wx, Up w wx → ∀ M, wx.heap[M]? = some (.cells #[.int .i64 mV, .int .i64 mH, .string mB] 26 (0, 0)) → Calls Try.prog 16 #[v, .func (.func 26) #[] #[.pointer (some ⟨M, 0, none⟩)]] wx fun e w' => e = .returned (.int .i64 (nsg (comOf mV mH mB) (fun x => x.1.G) xs : Nat)) ∧ Up wx w') :=
    Lib.hid (fun wx hu M hM => rlVoices_any _ _ (enters_of Try.func26 (by kernel_rfl) rfl) _ xs v wx (hx.up hu) hn hok (fun x W _ hW => (rlCommit1_any mV mH mB M x W (row_up hM hW)).mono fun e w' ⟨h1, h2⟩ => ⟨h1, h2.up⟩))
  have HR : Hid (∀ wx, Up w wx → ∀ M TB tk, wx.heap[TB]? = some (.cells #[.int .i64 tk] 3 (0, 0)) → wx.heap[M]? = some (.cells #[.int .i64 mV, .int .i64 mH, .string mB] 26 (0, 0)) → Calls Try.prog 16 #[v, .func (.func 27) #[] #[.pointer (some ⟨TB, 0, none⟩), .pointer (some ⟨M, 0, none⟩)]] wx fun e w' => e = .returned (.int .i64 (nsg (repOf mV mH mB tk) (fun x => x.1.G) xs : Nat)) ∧ Up wx w') :=
    Lib.hid (fun wx hu M TB tk hT hM => rlVoices_any _ _ (enters_of Try.func27 (by kernel_rfl) rfl) _ xs v wx (hx.up hu) hn hok (fun x W _ hW => (rlReport1_any mV mH mB tk TB M x W (row_up hT hW) (row_up hM hW)).mono fun e w' ⟨h1, h2⟩ => ⟨h1, h2.up⟩))
  have HA := Lib.hid h1
  have HB := Lib.hid h2
  obtain ⟨ac, ac1, rfl, _⟩ := id hx
  clear h0 u1 hx hok
  unfold enoughR
  generalize nsg (comOf mV mH mB) (fun x => x.1.G) xs = nc at HV ⊢
  by_cases hk1 : k = 1
  · rw [if_pos hk1]
    subst hk1
    obtain ⟨qb, hq⟩ : ∃ qb, decide (max 1 N ≤ (nc : Int)) = qb := ⟨_, rfl⟩
    rw [hq]
    obtain ⟨mx, hmx⟩ : ∃ mx, max 1 N = mx := ⟨_, rfl⟩
    rw [hmx] at hq
    have c0 := rl_cell h1 0 (v := .int .i64 1) rfl
    have HQ := Lib.hid hq
    have HMX := Lib.hid hmx
    clear hq hmx h1 h2 hn
    go_enter Try.func9, Try.ntmps9
    go_upto_region 3 with fail
    generalize (w.alloc (.cells #[.int .i64 1, .int .i64 N] 34)).alloc (.cells #[.int .i64 mV, .int .i64 mH, .string mB] 26) = w2 at HA HB HU ⊢
    generalize w.heap.size + 1 = B at HB ⊢
    generalize w.heap.size = A at HA ⊢
    refine region_alongK (fun x => Up w2.drew x) (.read 0 (.read 1 (.read 4 (.read 5 (.read 6 (.step 2 (.step 3 (.read 7 (.read 8 (.nil)))))))))) (by kernel_rfl) rfl (by kernel_rfl) (by kernel_rfl) (fun c a d v w h => by cases d <;> exact h) (Up.refl _) ?_
    refine alongK_read (.slice ac xs.length ac1) rfl rfl (fun wx hS => ex_move (by rfl) (by rfl) wx) ?_
    change AlongK _ _ _ _ _ { tmps := #[.agg #[.int .i64 1, .int .i64 N], .int .i64 q, .agg #[.int .i64 mV, .int .i64 mH, .string mB], .slice ac xs.length ac1, .pointer (some ⟨A, 0, none⟩), _, .pointer (some ⟨B, 0, none⟩), _, .bool false, _, .int .i64 1, .bool true, _, .slice ac xs.length ac1, _, _, _, _, _, _, _, _, _, _, _, _, _, _, _, _, _, _, _, _, _, _, _, _], defers := _ } _
    refine alongK_read (.agg #[.int .i64 mV, .int .i64 mH, .string mB]) rfl rfl (fun wx hS => ex_loadrow rfl rfl wx 26 (row_up HB.out ((Up.drew1 w2).trans hS)) Try.underlying26 rfl info_mk) ?_
    change AlongK _ _ _ _ _ { tmps := #[.agg #[.int .i64 1, .int .i64 N], .int .i64 q, .agg #[.int .i64 mV, .int .i64 mH, .string mB], .slice ac xs.length ac1, .pointer (some ⟨A, 0, none⟩), _, .pointer (some ⟨B, 0, none⟩), _, .bool false, _, .int .i64 1, .bool true, _, .slice ac xs.length ac1, .agg #[.int .i64 mV, .int .i64 mH, .string mB], _, _, _, _, _, _, _, _, _, _, _, _, _, _, _, _, _, _, _, _, _, _, _], defers := _ } _
    refine alongK_read (.pointer (some ⟨A, 1, none⟩)) rfl rfl (fun wx hS => ex_field rfl rfl wx (by simp [go_sem])) ?_
    change AlongK _ _ _ _ _ { tmps := #[.agg #[.int .i64 1, .int .i64 N], .int .i64 q, .agg #[.int .i64 mV, .int .i64 mH, .string mB], .slice ac xs.length ac1, .pointer (some ⟨A, 0, none⟩), _, .pointer (some ⟨B, 0, none⟩), _, .bool false, _, .int .i64 1, .bool true, _, .slice ac xs.length ac1, .agg #[.int .i64 mV, .int .i64 mH, .string mB], _, _, .pointer (some ⟨A, 1, none⟩), _, _, _, _, _, _, _, _, _, _, _, _, _, _, _, _, _, _, _, _], defers := _ } _
    refine alongK_read (.int .i64 N) rfl rfl (fun wx hS => ex_load Try.isAgg3 rfl rfl wx (rl_cell (row_up HA.out ((Up.drew1 w2).trans hS)) 1 rfl)) ?_
    change AlongK _ _ _ _ _ { tmps := #[.agg #[.int .i64 1, .int .i64 N], .int .i64 q, .agg #[.int .i64 mV, .int .i64 mH, .string mB], .slice ac xs.length ac1, .pointer (some ⟨A, 0, none⟩), _, .pointer (some ⟨B, 0, none⟩), _, .bool false, _, .int .i64 1, .bool true, _, .slice ac xs.length ac1, .agg #[.int .i64 mV, .int .i64 mH, .string mB], _, _, .pointer (some ⟨A, 1, none⟩), .int .i64 N, _, _, _, _, _, _, _, _, _, _, _, _, _, _, _, _, _, _, _], defers := _ } _
    refine alongK_read (.int .i64 mx) rfl rfl (fun wx hS => ex_max2m HMX.out rfl rfl rfl wx) ?_
    change AlongK _ _ _ _ _ { tmps := #[.agg #[.int .i64 1, .int .i64 N], .int .i64 q, .agg #[.int .i64 mV, .int .i64 mH, .string mB], .slice ac xs.length ac1, .pointer (some ⟨A, 0, none⟩), _, .pointer (some ⟨B, 0, none⟩), _, .bool false, _, .int .i64 1, .bool true, _, .slice ac xs.length ac1, .agg #[.int .i64 mV, .int .i64 mH, .string mB], _, _, .pointer (some ⟨A, 1, none⟩), .int .i64 N, .int .i64 mx, _, _, _, _, _, _, _, _, _, _, _, _, _, _, _, _, _, _], defers := _ } _
    refine alongK_step ?_
    refine opK_call (vs := [.agg #[.int .i64 mV, .int .i64 mH, .string mB]]) rfl rfl rfl (enters_of Try.func17 (by kernel_rfl) rfl) rfl ?_
    with_reducible refine Calls.mono (rlCommits_any mV mH mB w2.drew) ?_
    rintro e w3 ⟨rfl, rfl⟩
    refine ⟨_, rfl, (fun x => Up (w2.drew.alloc (.cells #[.int .i64 mV, .int .i64 mH, .string mB] 26)) x), (fun x hx => Up.trans (Up.alloc (Up.refl _) _) hx), Up.refl _, ?_⟩
    change AlongK _ _ _ _ _ { tmps := #[.agg #[.int .i64 1, .int .i64 N], .int .i64 q, .agg #[.int .i64 mV, .int .i64 mH, .string mB], .slice ac xs.length ac1, .pointer (some ⟨A, 0, none⟩), _, .pointer (some ⟨B, 0, none⟩), _, .bool false, _, .int .i64 1, .bool true, _, .slice ac xs.length ac1, .agg #[.int .i64 mV, .int .i64 mH, .string mB], .func (.func 26) #[] #[.pointer (some ⟨w2.drew.heap.size, 0, none⟩)], _, .pointer (some ⟨A, 1, none⟩), .int .i64 N, .int .i64 mx, _, _, _, _, _, _, _, _, _, _, _, _, _, _, _, _, _, _], defers := _ } _
    refine alongK_step ?_
    refine opK_call (vs := [.slice ac xs.length ac1, .func (.func 26) #[] #[.pointer (some ⟨w2.drew.heap.size, 0, none⟩)]]) rfl rfl rfl (enters_of Try.func16 (by kernel_rfl) rfl) rfl ?_
    with_reducible refine Calls.mono (HV.out (w2.drew.alloc (.cells #[.int .i64 mV, .int .i64 mH, .string mB] 26)) ((HU.out.trans (Up.drew1 w2)).trans (Up.alloc (Up.refl _) _)) w2.drew.heap.size (heap_alloc_new _ _)) ?_
    rintro e w4 ⟨rfl, hU4⟩
    have HUE := Lib.hid (((HU.out.trans (Up.drew1 w2)).trans (Up.alloc (Up.refl _) _)).trans hU4)
    refine ⟨_, rfl, (fun x => Up w4 x), (fun x hx => Up.trans hU4 hx), Up.refl w4, ?_⟩
    change AlongK _ _ _ _ _ { tmps := #[.agg #[.int .i64 1, .int .i64 N], .int .i64 q, .agg #[.int .i64 mV, .int .i64 mH, .string mB], .slice ac xs.length ac1, .pointer (some ⟨A, 0, none⟩), _, .pointer (some ⟨B, 0, none⟩), _, .bool false, _, .int .i64 1, .bool true, _, .slice ac xs.length ac1, .agg #[.int .i64 mV, .int .i64 mH, .string mB], .func (.func 26) #[] #[.pointer (some ⟨w2.drew.heap.size, 0, none⟩)], .int .i64 (nc : Nat), .pointer (some ⟨A, 1, none⟩), .int .i64 N, .int .i64 mx, _, _, _, _, _, _, _, _, _, _, _, _, _, _, _, _, _, _], defers := _ } _
    refine alongK_read (.bool qb) rfl rfl (fun wx hS => ex_geqR rfl rfl rfl HQ.out wx) ?_
    change AlongK _ _ _ _ _ { tmps := #[.agg #[.int .i64 1, .int .i64 N], .int .i64 q, .agg #[.int .i64 mV, .int .i64 mH, .string mB], .slice ac xs.length ac1, .pointer (some ⟨A, 0, none⟩), _, .pointer (some ⟨B, 0, none⟩), _, .bool false, _, .int .i64 1, .bool true, _, .slice ac xs.length ac1, .agg #[.int .i64 mV, .int .i64 mH, .string mB], .func (.func 26) #[] #[.pointer (some ⟨w2.drew.heap.size, 0, none⟩)], .int .i64 (nc : Nat), .pointer (some ⟨A, 1, none⟩), .int .i64 N, .int .i64 mx, .bool qb, _, _, _, _, _, _, _, _, _, _, _, _, _, _, _, _, _], defers := _ } _
    refine alongK_read (.bool qb) rfl rfl (fun wx hS => ex_assign (by rfl) (by rfl) wx) ?_
    change AlongK _ _ _ _ _ { tmps := #[.agg #[.int .i64 1, .int .i64 N], .int .i64 q, .agg #[.int .i64 mV, .int .i64 mH, .string mB], .slice ac xs.length ac1, .pointer (some ⟨A, 0, none⟩), _, .pointer (some ⟨B, 0, none⟩), _, .bool qb, _, .int .i64 1, .bool true, _, .slice ac xs.length ac1, .agg #[.int .i64 mV, .int .i64 mH, .string mB], .func (.func 26) #[] #[.pointer (some ⟨w2.drew.heap.size, 0, none⟩)], .int .i64 (nc : Nat), .pointer (some ⟨A, 1, none⟩), .int .i64 N, .int .i64 mx, .bool qb, _, _, _, _, _, _, _, _, _, _, _, _, _, _, _, _, _], defers := _ } _
    refine alongK_done ?_
    go_wp2
    go_ret
    exact ⟨rfl, HUE.out⟩
  · rw [if_neg hk1]
    have e1 : (k == 1) = false := by rw [beq_eq_false_iff_ne]; exact hk1
    by_cases hk2 : k = 2
    · rw [if_pos hk2]
      subst hk2
      have c0 := rl_cell h1 0 (v := .int .i64 2) rfl
      have c1 := rl_cell h1 1 (v := .int .i64 N) rfl
      by_cases hN : 0 ≤ N ∧ N ≤ 1048576
      · rw [if_pos hN]
        obtain ⟨qb, hq⟩ : ∃ qb, decide (max 1 q ≤ ((nsg (repOf mV mH mB (2 * N)) (fun x => x.1.G) xs : Nat) : Int)) = qb := ⟨_, rfl⟩
        rw [hq]
        have HW := Lib.hid (fun wx => rlWithin_any N 0 1048576 wx)
        rw [show (decide (0 ≤ N) && decide (N ≤ 1048576)) = true by simpa using hN] at HW
        have hN1 := hN.1
        have hN2 := hN.2
        have HQ := Lib.hid hq
        have t2 := heap_alloc_new ((w.alloc (.cells #[.int .i64 2, .int .i64 N] 34)).alloc (.cells #[.int .i64 mV, .int .i64 mH, .string mB] 26)) (.cells #[.int .i64 mV, .int .i64 mH, .string mB] 26)
        have t3 := row_up t2 (Up.alloc (Up.refl _) (.cells #[.int .i64 (2 * N)] 3))
        have t4 := heap_alloc_new (((w.alloc (.cells #[.int .i64 2, .int .i64 N] 34)).alloc (.cells #[.int .i64 mV, .int .i64 mH, .string mB] 26)).alloc (.cells #[.int .i64 mV, .int .i64 mH, .string mB] 26)) (.cells #[.int .i64 (2 * N)] 3)
        have t5 := HR.out _ (HU.out.trans ((Up.alloc (Up.refl _) _).trans (Up.alloc (Up.refl _) _))) _ _ _ t4 t3
        rw [show ((w.alloc (.cells #[.int .i64 2, .int .i64 N] 34)).alloc (.cells #[.int .i64 mV, .int .i64 mH, .string mB] 26)).heap.size = w.heap.size + 1 + 1 by simp] at t5
        rw [show (((w.alloc (.cells #[.int .i64 2, .int .i64 N] 34)).alloc (.cells #[.int .i64 mV, .int .i64 mH, .string mB] 26)).alloc (.cells #[.int .i64 mV, .int .i64 mH, .string mB] 26)).heap.size = w.heap.size + 1 + 1 + 1 by simp] at t5
        have HR2 := Lib.hid t5
        have HU3 := Lib.hid (HU.out.trans ((Up.alloc (Up.refl _) (.cells #[.int .i64 mV, .int .i64 mH, .string mB] 26)).trans (Up.alloc (Up.refl _) (.cells #[.int .i64 (2 * N)] 3))))
        obtain ⟨d0, d1, d2⟩ := mk_cells h2
        clear h1 h2 hn hN hq t2 t3 t4 t5
        go_enter Try.func9, Try.ntmps9
        go_wp2_with (first | (go_at_call 10; refine (HW.out _).mono ?_; rintro e w' ⟨rfl, rfl⟩) | (go_at_call 18; refine (rlReports_any mV mH mB (2 * N) _).mono ?_; rintro e w' ⟨rfl, rfl⟩) | (go_at_call 16; refine HR2.out.mono ?_; rintro e w5 ⟨rfl, hU5⟩; have HU5 := Lib.hid hU5; clear hU5))
        go_ret
        exact ⟨by rw [← HQ.out]; rfl, HU3.out.trans HU5.out⟩
      · rw [if_neg hN]
        have HW := Lib.hid (fun wx => rlWithin_any N 0 1048576 wx)
        rw [show (decide (0 ≤ N) && decide (N ≤ 1048576)) = false by simpa using hN] at HW
        clear h1 h2 hn hN
        go_enter Try.func9, Try.ntmps9
        go_wp2_with (go_at_call 10; refine (HW.out _).mono ?_; rintro e w' ⟨rfl, rfl⟩)
        go_ret
        exact ⟨rfl, HU.out⟩
    · rw [if_neg hk2]
      have e2 : (k == 2) = false := by rw [beq_eq_false_iff_ne]; exact hk2
      have c0 := rl_cell h1 0 (v := .int .i64 k) rfl
      clear h1 h2 hn
      go_enter Try.func9, Try.ntmps9
      go_wp2
      go_ret
      exact ⟨rfl, HU.out⟩
end
end Go.Proofs.Ytmcajckpgbamnaa
