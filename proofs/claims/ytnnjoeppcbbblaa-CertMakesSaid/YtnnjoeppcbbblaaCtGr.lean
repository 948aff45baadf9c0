import Derived.Test.YtnnjoeppcbbblaaCtIndex
import Derived.Test.YtnnjoeppcbbblaaCtCheck
/-
  cert: what tells of a statement: it makes memory and draws, and nothing else turns.
-/
namespace Go.Proofs.Ytnnjoeppcbbblaa
set_option maxRecDepth 100000
section
set_option linter.unusedVariables false
open Go.RowKit Go.Sort Go.Lib

/-- memory has been made, and it was drawn: nothing else -/
def Gr (w w' : World) : Prop := ∃ q os, w' = grow (w.drewN q) os
theorem Gr.refl (w : World) : Gr w w := ⟨0, #[], by rw [grow_empty]; rfl⟩
theorem Gr.trans {a b c : World} (h : Gr a b) (k : Gr b c) : Gr a c := by
  obtain ⟨q, os, rfl⟩ := h
  obtain ⟨q', os', rfl⟩ := k
  refine ⟨q + q', os ++ os', ?_⟩
  show grow (grow ((a.drewN q).drewN q') os) os' = _
  rw [grow_grow, World.drewN_drewN]
theorem Gr.drew1 (w : World) : Gr w w.drew := ⟨1, #[], by rw [grow_empty]; rfl⟩
theorem Gr.alloc (w : World) (o : Obj) : Gr w (w.alloc o) := ⟨0, #[o], by rw [alloc_eq_grow]; rfl⟩
theorem Gr.up {w w' : World} (h : Gr w w') : Up w w' := by
  obtain ⟨q, os, rfl⟩ := h
  exact ⟨rfl, rfl, rfl, by rw [size_grow]; exact Nat.le_add_right _ _, fun k hk => heap_grow_old (w.drewN q) os hk⟩
theorem Gr.setRow {w w' : World} (h : Gr w w') {g : Nat} (hg : w.heap.size ≤ g) (cs : Array Value) : Gr w (w'.setRow g cs) := by
  obtain ⟨q, os, rfl⟩ := h
  refine ⟨q, os.modify (g - w.heap.size) (fun | .cells _ elem frozen => .cells cs elem frozen | o => o), ?_⟩
  unfold World.setRow grow
  simp only
  congr 1
  exact modify_append_right _ _ _ _ hg
theorem Gr.sw {w0 W W' : World} {blk off : Nat} {dk : Array Vs} (h : Gr W W') (hS : SW w0 blk off dk W) : SW w0 blk off dk W' := by
  obtain ⟨q, os, rfl⟩ := h
  exact SWK.grown hS q os
theorem Gr.block {w w' : World} (h : Gr w w') {b : Nat} {o : Obj} (hb : w.heap[b]? = some o) : w'.heap[b]? = some o := (h.up.block _ (lt_of_block hb)).trans hb

set_option maxHeartbeats 400000 in
theorem about_gr (K V H : Int) (BS : ByteArray) (T G : Int) (SG : ByteArray) (w : World) :
    Calls Try.prog 25 #[.agg #[.int .i64 K, .int .i64 V, .int .i64 H, .string BS, .int .i64 T, .int .i64 G, .string SG]] w fun e w' => e = .returned (.agg #[.int .i64 V, .int .i64 H, .string BS]) ∧ Gr w w' := by
  have hb0 := heap_alloc_new w (.cells #[.int .i64 K, .int .i64 V, .int .i64 H, .string BS, .int .i64 T, .int .i64 G, .string SG] 38)
  have hb1 := (Gr.alloc (w.alloc (.cells #[.int .i64 K, .int .i64 V, .int .i64 H, .string BS, .int .i64 T, .int .i64 G, .string SG] 38)) (.cells #[.int .i64 0, .int .i64 0, .string ⟨#[]⟩] 24)).block hb0
  have hm := heap_alloc_new (w.alloc (.cells #[.int .i64 K, .int .i64 V, .int .i64 H, .string BS, .int .i64 T, .int .i64 G, .string SG] 38)) (.cells #[.int .i64 V, .int .i64 H, .string BS] 24)
  rw [show (w.alloc (.cells #[.int .i64 K, .int .i64 V, .int .i64 H, .string BS, .int .i64 T, .int .i64 G, .string SG] 38)).heap.size = w.heap.size + 1 by simp] at hm
  have HM := Lib.hid hm
  obtain ⟨_, c1, c2, c3, _⟩ := vt_cells hb1
  clear hb0 hb1 hm
  go_enter Try.func25, Try.ntmps25
  go_wp2
  exact bodyPost_ret (results_mk rfl _ _ _ _ rfl HM.out rfl) rfl ⟨rfl, (Gr.alloc _ _).trans (Gr.alloc _ _)⟩

/-- is a statement a vote about that? -/
def vsOf (mV mH : Int) (mB : ByteArray) (x : Vs) : Bool := decide (x.1.K = 1) && decide (x.1.V = mV ∧ x.1.H = mH ∧ strOfNums x.1.B = mB)
theorem mk_eql (V1 H1 : Int) (B1 : ByteArray) (V2 H2 : Int) (B2 : ByteArray) (x y : Operand) (w : World) : (do eqGuard .eql 24 x y (.agg #[.int .i64 V1, .int .i64 H1, .string B1]) (.agg #[.int .i64 V2, .int .i64 H2, .string B2]); binOp .eql 24 (.agg #[.int .i64 V1, .int .i64 H1, .string B1]) (.agg #[.int .i64 V2, .int .i64 H2, .string B2]) : Sem Value).run Try.prog w = .ok (.bool (decide (V1 = V2 ∧ H1 = H2 ∧ B1 = B2))) w := by
  simp [eqGuard, go_sem, toList_dec, Bool.decide_and]
  repeat' split
  all_goals simp [*]

set_option maxHeartbeats 1000000 in
theorem counts_gr (mV mH : Int) (mB : ByteArray) (M : Nat) (x : Vs) (w : World) (hM : w.heap[M]? = some (.cells #[.int .i64 mV, .int .i64 mH, .string mB] 24 (0, 0))) :
    Calls Try.prog 24 #[.agg (vsA x), .pointer (some ⟨M, 0, none⟩)] w fun e w' => e = .returned (.bool (vsOf mV mH mB x)) ∧ Gr w w' := by
  obtain ⟨⟨K, V, H, B, T, G⟩, SG⟩ := x
  have Heq : Hid (∀ (wx : World), (do eqGuard .eql 24 (.tmp 9) (.tmp 10) (.agg #[.int .i64 V, .int .i64 H, .string (strOfNums B)]) (.agg #[.int .i64 mV, .int .i64 mH, .string mB]); binOp .eql 24 (.agg #[.int .i64 V, .int .i64 H, .string (strOfNums B)]) (.agg #[.int .i64 mV, .int .i64 mH, .string mB]) : Sem Value).run Try.prog wx = .ok (.bool (decide (V = mV ∧ H = mH ∧ strOfNums B = mB))) wx) := fun wx => mk_eql _ _ _ _ _ _ _ _ _
  show Calls Try.prog 24 #[.agg #[.int .i64 K, .int .i64 V, .int .i64 H, .string (strOfNums B), .int .i64 T, .int .i64 G, .string SG], .pointer (some ⟨M, 0, none⟩)] w fun e w' => e = .returned (.bool (decide (K = 1) && decide (V = mV ∧ H = mH ∧ strOfNums B = mB))) ∧ Gr w w'
  generalize decide (V = mV ∧ H = mH ∧ strOfNums B = mB) = D at Heq ⊢
  generalize strOfNums B = BS at Heq ⊢
  by_cases hK : K = 1
  · subst hK
    rw [show (decide ((1 : Int) = 1) && D) = D by simp]
    have Hab := Lib.hid (fun wx => about_gr 1 V H BS T G SG wx)
    have hb0 := heap_alloc_new w (.cells #[.int .i64 1, .int .i64 V, .int .i64 H, .string BS, .int .i64 T, .int .i64 G, .string SG] 38)
    have g1 := Gr.alloc w (.cells #[.int .i64 1, .int .i64 V, .int .i64 H, .string BS, .int .i64 T, .int .i64 G, .string SG] 38)
    have HB : Hid (∀ wx, Gr (w.alloc (.cells #[.int .i64 1, .int .i64 V, .int .i64 H, .string BS, .int .i64 T, .int .i64 G, .string SG] 38)) wx → wx.heap[w.heap.size]? = some (.cells #[.int .i64 1, .int .i64 V, .int .i64 H, .string BS, .int .i64 T, .int .i64 G, .string SG] 38 (0, 0))) := fun wx h => h.block hb0
    have HM : Hid (∀ wx, Gr (w.alloc (.cells #[.int .i64 1, .int .i64 V, .int .i64 H, .string BS, .int .i64 T, .int .i64 G, .string SG] 38)) wx → wx.heap[M]? = some (.cells #[.int .i64 mV, .int .i64 mH, .string mB] 24 (0, 0))) := fun wx h => (g1.trans h).block hM
    have HG := Lib.hid g1
    clear hb0 g1 hM
    go_enter Try.func24, Try.ntmps24
    go_wp2_with fail
    generalize w.alloc (.cells #[.int .i64 1, .int .i64 V, .int .i64 H, .string BS, .int .i64 T, .int .i64 G, .string SG] 38) = wz at HB HM HG ⊢
    generalize w.heap.size = B at HB ⊢
    have hG0 := Gr.drew1 wz
    refine region_alongK (fun x => Gr wz.drew x) (.read 0 (.read 1 (.read 2 (.read 3 (.read 4 (.read 6 (.step 5 (.read 7 (.read 8 (.read 9 (.nil))))))))))) (by kernel_rfl) rfl (by kernel_rfl) (by kernel_rfl) (fun c a d v w h => by cases d <;> exact h) (Gr.refl _) ?_
    refine alongK_read (.pointer (some ⟨B, 0, none⟩)) rfl rfl (fun wx hS => ex_field rfl rfl wx (by simp [go_sem])) ?_
    change AlongK _ _ _ _ _ { tmps := #[.agg #[.int .i64 1, .int .i64 V, .int .i64 H, .string BS, .int .i64 T, .int .i64 G, .string SG], .pointer (some ⟨M, 0, none⟩), .pointer (some ⟨B, 0, none⟩), .bool false, .pointer (some ⟨B, 0, none⟩), _, _, _, _, _, _, _, _], defers := _ } _
    refine alongK_read (.int .i64 1) rfl rfl (fun wx hS => ex_load Try.isAgg3 rfl rfl wx ((vt_cells (HB.out wx (Gr.trans hG0 hS))).1)) ?_
    change AlongK _ _ _ _ _ { tmps := #[.agg #[.int .i64 1, .int .i64 V, .int .i64 H, .string BS, .int .i64 T, .int .i64 G, .string SG], .pointer (some ⟨M, 0, none⟩), .pointer (some ⟨B, 0, none⟩), .bool false, .pointer (some ⟨B, 0, none⟩), .int .i64 1, _, _, _, _, _, _, _], defers := _ } _
    refine alongK_read (.bool true) rfl rfl (fun wx hS => ex_eqi rfl (by rfl) (by rfl) (by simp) wx) ?_
    change AlongK _ _ _ _ _ { tmps := #[.agg #[.int .i64 1, .int .i64 V, .int .i64 H, .string BS, .int .i64 T, .int .i64 G, .string SG], .pointer (some ⟨M, 0, none⟩), .pointer (some ⟨B, 0, none⟩), .bool false, .pointer (some ⟨B, 0, none⟩), .int .i64 1, .bool true, _, _, _, _, _, _], defers := _ } _
    refine alongK_read (.bool true) rfl rfl (fun wx hS => ex_move (by rfl) (by rfl) wx) ?_
    change AlongK _ _ _ _ _ { tmps := #[.agg #[.int .i64 1, .int .i64 V, .int .i64 H, .string BS, .int .i64 T, .int .i64 G, .string SG], .pointer (some ⟨M, 0, none⟩), .pointer (some ⟨B, 0, none⟩), .bool false, .pointer (some ⟨B, 0, none⟩), .int .i64 1, .bool true, .bool true, _, _, _, _, _], defers := _ } _
    refine alongK_read (.agg #[.int .i64 1, .int .i64 V, .int .i64 H, .string BS, .int .i64 T, .int .i64 G, .string SG]) rfl rfl (fun wx hS => ex_loadrow rfl rfl wx 38 (HB.out wx (Gr.trans hG0 hS)) Try.underlying38 rfl info_vt) ?_
    change AlongK _ _ _ _ _ { tmps := #[.agg #[.int .i64 1, .int .i64 V, .int .i64 H, .string BS, .int .i64 T, .int .i64 G, .string SG], .pointer (some ⟨M, 0, none⟩), .pointer (some ⟨B, 0, none⟩), .bool false, .pointer (some ⟨B, 0, none⟩), .int .i64 1, .bool true, .bool true, .agg #[.int .i64 1, .int .i64 V, .int .i64 H, .string BS, .int .i64 T, .int .i64 G, .string SG], _, _, _, _], defers := _ } _
    refine alongK_read (.agg #[.int .i64 mV, .int .i64 mH, .string mB]) rfl rfl (fun wx hS => ex_loadrow rfl rfl wx 24 (HM.out wx (Gr.trans hG0 hS)) Try.underlying24 rfl info_mk) ?_
    change AlongK _ _ _ _ _ { tmps := #[.agg #[.int .i64 1, .int .i64 V, .int .i64 H, .string BS, .int .i64 T, .int .i64 G, .string SG], .pointer (some ⟨M, 0, none⟩), .pointer (some ⟨B, 0, none⟩), .bool false, .pointer (some ⟨B, 0, none⟩), .int .i64 1, .bool true, .bool true, .agg #[.int .i64 1, .int .i64 V, .int .i64 H, .string BS, .int .i64 T, .int .i64 G, .string SG], _, .agg #[.int .i64 mV, .int .i64 mH, .string mB], _, _], defers := _ } _
    refine alongK_step ?_
    refine opK_call (vs := [.agg #[.int .i64 1, .int .i64 V, .int .i64 H, .string BS, .int .i64 T, .int .i64 G, .string SG]]) rfl rfl rfl (enters_of Try.func25 (by kernel_rfl) rfl) rfl ?_
    with_reducible refine Calls.mono (Hab.out _) ?_
    rintro e w9 ⟨rfl, hG9⟩
    have hG0 := Gr.trans hG0 hG9
    refine ⟨_, rfl, (fun x => Gr w9 x), (fun x hx => Gr.trans hG9 hx), (Gr.refl w9), ?_⟩
    change AlongK _ _ _ _ _ { tmps := #[.agg #[.int .i64 1, .int .i64 V, .int .i64 H, .string BS, .int .i64 T, .int .i64 G, .string SG], .pointer (some ⟨M, 0, none⟩), .pointer (some ⟨B, 0, none⟩), .bool false, .pointer (some ⟨B, 0, none⟩), .int .i64 1, .bool true, .bool true, .agg #[.int .i64 1, .int .i64 V, .int .i64 H, .string BS, .int .i64 T, .int .i64 G, .string SG], .agg #[.int .i64 V, .int .i64 H, .string BS], .agg #[.int .i64 mV, .int .i64 mH, .string mB], _, _], defers := _ } _
    refine alongK_read (.bool D) rfl rfl (fun wx hS => ex_bin rfl rfl rfl wx (Heq.out wx)) ?_
    change AlongK _ _ _ _ _ { tmps := #[.agg #[.int .i64 1, .int .i64 V, .int .i64 H, .string BS, .int .i64 T, .int .i64 G, .string SG], .pointer (some ⟨M, 0, none⟩), .pointer (some ⟨B, 0, none⟩), .bool false, .pointer (some ⟨B, 0, none⟩), .int .i64 1, .bool true, .bool true, .agg #[.int .i64 1, .int .i64 V, .int .i64 H, .string BS, .int .i64 T, .int .i64 G, .string SG], .agg #[.int .i64 V, .int .i64 H, .string BS], .agg #[.int .i64 mV, .int .i64 mH, .string mB], .bool D, _], defers := _ } _
    refine alongK_read (.bool D) rfl rfl (fun wx hS => ex_pickt rfl (by rfl) (by rfl) wx) ?_
    change AlongK _ _ _ _ _ { tmps := #[.agg #[.int .i64 1, .int .i64 V, .int .i64 H, .string BS, .int .i64 T, .int .i64 G, .string SG], .pointer (some ⟨M, 0, none⟩), .pointer (some ⟨B, 0, none⟩), .bool false, .pointer (some ⟨B, 0, none⟩), .int .i64 1, .bool true, .bool true, .agg #[.int .i64 1, .int .i64 V, .int .i64 H, .string BS, .int .i64 T, .int .i64 G, .string SG], .agg #[.int .i64 V, .int .i64 H, .string BS], .agg #[.int .i64 mV, .int .i64 mH, .string mB], .bool D, .bool D], defers := _ } _
    refine alongK_read (.bool D) rfl rfl (fun wx hS => ex_assign (by rfl) (by rfl) wx) ?_
    change AlongK _ _ _ _ _ { tmps := #[.agg #[.int .i64 1, .int .i64 V, .int .i64 H, .string BS, .int .i64 T, .int .i64 G, .string SG], .pointer (some ⟨M, 0, none⟩), .pointer (some ⟨B, 0, none⟩), .bool D, .pointer (some ⟨B, 0, none⟩), .int .i64 1, .bool true, .bool true, .agg #[.int .i64 1, .int .i64 V, .int .i64 H, .string BS, .int .i64 T, .int .i64 G, .string SG], .agg #[.int .i64 V, .int .i64 H, .string BS], .agg #[.int .i64 mV, .int .i64 mH, .string mB], .bool D, .bool D], defers := _ } _
    refine alongK_done ?_
    go_wp2
    go_ret
    exact ⟨rfl, HG.out.trans hG0⟩
  · rw [show (decide (K = 1) && D) = false by simp [hK]]
    have hk : (K == 1) = false := by rw [beq_eq_false_iff_ne]; exact hK
    have hb0 := heap_alloc_new w (.cells #[.int .i64 K, .int .i64 V, .int .i64 H, .string BS, .int .i64 T, .int .i64 G, .string SG] 38)
    have g1 := Gr.alloc w (.cells #[.int .i64 K, .int .i64 V, .int .i64 H, .string BS, .int .i64 T, .int .i64 G, .string SG] 38)
    have HB : Hid (∀ wx, Gr (w.alloc (.cells #[.int .i64 K, .int .i64 V, .int .i64 H, .string BS, .int .i64 T, .int .i64 G, .string SG] 38)) wx → wx.heap[w.heap.size]? = some (.cells #[.int .i64 K, .int .i64 V, .int .i64 H, .string BS, .int .i64 T, .int .i64 G, .string SG] 38 (0, 0))) := fun wx h => h.block hb0
    have HG := Lib.hid g1
    clear hb0 g1 hM
    go_enter Try.func24, Try.ntmps24
    go_wp2_with fail
    generalize w.alloc (.cells #[.int .i64 K, .int .i64 V, .int .i64 H, .string BS, .int .i64 T, .int .i64 G, .string SG] 38) = wz at HB HG ⊢
    generalize w.heap.size = B at HB ⊢
    have hG0 := Gr.drew1 wz
    refine region_alongK (fun x => Gr wz.drew x) (.read 0 (.read 1 (.read 2 (.read 3 (.read 4 (.read 5 (.read 6 (.read 7 (.read 8 (.read 9 (.nil))))))))))) (by kernel_rfl) rfl (by kernel_rfl) (by kernel_rfl) (fun c a d v w h => by cases d <;> exact h) (Gr.refl _) ?_
    refine alongK_read (.pointer (some ⟨B, 0, none⟩)) rfl rfl (fun wx hS => ex_field rfl rfl wx (by simp [go_sem])) ?_
    change AlongK _ _ _ _ _ { tmps := #[.agg #[.int .i64 K, .int .i64 V, .int .i64 H, .string BS, .int .i64 T, .int .i64 G, .string SG], .pointer (some ⟨M, 0, none⟩), .pointer (some ⟨B, 0, none⟩), .bool false, .pointer (some ⟨B, 0, none⟩), _, _, _, _, _, _, _, _], defers := _ } _
    refine alongK_read (.int .i64 K) rfl rfl (fun wx hS => ex_load Try.isAgg3 rfl rfl wx ((vt_cells (HB.out wx (Gr.trans hG0 hS))).1)) ?_
    change AlongK _ _ _ _ _ { tmps := #[.agg #[.int .i64 K, .int .i64 V, .int .i64 H, .string BS, .int .i64 T, .int .i64 G, .string SG], .pointer (some ⟨M, 0, none⟩), .pointer (some ⟨B, 0, none⟩), .bool false, .pointer (some ⟨B, 0, none⟩), .int .i64 K, _, _, _, _, _, _, _], defers := _ } _
    refine alongK_read (.bool false) rfl rfl (fun wx hS => ex_eqi rfl rfl rfl hk wx) ?_
    change AlongK _ _ _ _ _ { tmps := #[.agg #[.int .i64 K, .int .i64 V, .int .i64 H, .string BS, .int .i64 T, .int .i64 G, .string SG], .pointer (some ⟨M, 0, none⟩), .pointer (some ⟨B, 0, none⟩), .bool false, .pointer (some ⟨B, 0, none⟩), .int .i64 K, .bool false, _, _, _, _, _, _], defers := _ } _
    refine alongK_read (.bool false) rfl rfl (fun wx hS => ex_move (by rfl) (by rfl) wx) ?_
    change AlongK _ _ _ _ _ { tmps := #[.agg #[.int .i64 K, .int .i64 V, .int .i64 H, .string BS, .int .i64 T, .int .i64 G, .string SG], .pointer (some ⟨M, 0, none⟩), .pointer (some ⟨B, 0, none⟩), .bool false, .pointer (some ⟨B, 0, none⟩), .int .i64 K, .bool false, .bool false, _, _, _, _, _], defers := _ } _
    refine alongK_skip rfl rfl ?_
    change AlongK _ _ _ _ _ { tmps := #[.agg #[.int .i64 K, .int .i64 V, .int .i64 H, .string BS, .int .i64 T, .int .i64 G, .string SG], .pointer (some ⟨M, 0, none⟩), .pointer (some ⟨B, 0, none⟩), .bool false, .pointer (some ⟨B, 0, none⟩), .int .i64 K, .bool false, .bool false, undef, _, _, _, _], defers := _ } _
    refine alongK_skip rfl rfl ?_
    change AlongK _ _ _ _ _ { tmps := #[.agg #[.int .i64 K, .int .i64 V, .int .i64 H, .string BS, .int .i64 T, .int .i64 G, .string SG], .pointer (some ⟨M, 0, none⟩), .pointer (some ⟨B, 0, none⟩), .bool false, .pointer (some ⟨B, 0, none⟩), .int .i64 K, .bool false, .bool false, undef, undef, _, _, _], defers := _ } _
    refine alongK_skip rfl rfl ?_
    change AlongK _ _ _ _ _ { tmps := #[.agg #[.int .i64 K, .int .i64 V, .int .i64 H, .string BS, .int .i64 T, .int .i64 G, .string SG], .pointer (some ⟨M, 0, none⟩), .pointer (some ⟨B, 0, none⟩), .bool false, .pointer (some ⟨B, 0, none⟩), .int .i64 K, .bool false, .bool false, undef, undef, undef, _, _], defers := _ } _
    refine alongK_skip rfl rfl ?_
    change AlongK _ _ _ _ _ { tmps := #[.agg #[.int .i64 K, .int .i64 V, .int .i64 H, .string BS, .int .i64 T, .int .i64 G, .string SG], .pointer (some ⟨M, 0, none⟩), .pointer (some ⟨B, 0, none⟩), .bool false, .pointer (some ⟨B, 0, none⟩), .int .i64 K, .bool false, .bool false, undef, undef, undef, undef, _], defers := _ } _
    refine alongK_read (.bool false) rfl rfl (fun wx hS => ex_pickf rfl (by rfl) (by rfl) wx) ?_
    change AlongK _ _ _ _ _ { tmps := #[.agg #[.int .i64 K, .int .i64 V, .int .i64 H, .string BS, .int .i64 T, .int .i64 G, .string SG], .pointer (some ⟨M, 0, none⟩), .pointer (some ⟨B, 0, none⟩), .bool false, .pointer (some ⟨B, 0, none⟩), .int .i64 K, .bool false, .bool false, undef, undef, undef, undef, .bool false], defers := _ } _
    refine alongK_read (.bool false) rfl rfl (fun wx hS => ex_assign (by rfl) (by rfl) wx) ?_
    change AlongK _ _ _ _ _ { tmps := #[.agg #[.int .i64 K, .int .i64 V, .int .i64 H, .string BS, .int .i64 T, .int .i64 G, .string SG], .pointer (some ⟨M, 0, none⟩), .pointer (some ⟨B, 0, none⟩), .bool false, .pointer (some ⟨B, 0, none⟩), .int .i64 K, .bool false, .bool false, undef, undef, undef, undef, .bool false], defers := _ } _
    refine alongK_done ?_
    go_wp2
    go_ret
    exact ⟨rfl, HG.out.trans hG0⟩
end
end Go.Proofs.Ytnnjoeppcbbblaa
