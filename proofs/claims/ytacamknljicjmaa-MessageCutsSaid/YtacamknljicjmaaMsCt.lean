import Derived.Test.YtacamknljicjmaaMsEq
/-
  Certs held against each other.
-/
namespace Go.Proofs.Ytacamknljicjmaa
set_option maxRecDepth 100000
section
set_option linter.unusedVariables false
open Go.RowKit Go.Sort Go.Lib

set_option maxHeartbeats 2000000 in
theorem sameCert_any (V H : Int) (B : ByteArray) (a : Option Addr) (n k : Nat) (xs : List Vs) (V2 H2 : Int) (B2 : ByteArray) (a2 : Option Addr) (n2 k2 : Nat) (ys : List Vs) (w : World) (h1 : VArg w (.slice a n k) xs) (h2 : VArg w (.slice a2 n2 k2) ys) (hux : ∀ x ∈ xs, U8s x.1.B) (huy : ∀ y ∈ ys, U8s y.1.B) (hsz : n ≤ 9223372036854775807) :
    Calls Try.prog 47 #[.agg #[.int .i64 V, .int .i64 H, .string B, .slice a n k], .agg #[.int .i64 V2, .int .i64 H2, .string B2, .slice a2 n2 k2]] w fun e w' => e = .returned (.bool (bD (V = V2 ∧ H = H2 ∧ B = B2 ∧ xs = ys))) ∧ Up w w' := by
  have HE0 : Hid (∀ wx, Up w wx → Calls Try.prog 48 #[.slice a n k, .slice a2 n2 k2] wx fun e w' => e = .returned (.bool (bD (xs = ys))) ∧ Up wx w') := fun wx u => eqVs_any a a2 n n2 k k2 xs ys wx (h1.up u) (h2.up u) hux huy hsz
  have HQ0 : Hid (∀ (wx : World), (do eqGuard .eql 109 (.tmp 6) (.tmp 8) (.agg #[.int .i64 V, .int .i64 H, .string B]) (.agg #[.int .i64 V2, .int .i64 H2, .string B2]); binOp .eql 109 (.agg #[.int .i64 V, .int .i64 H, .string B]) (.agg #[.int .i64 V2, .int .i64 H2, .string B2]) : Sem Value).run Try.prog wx = .ok (.bool (decide (V = V2 ∧ H = H2 ∧ B = B2))) wx) := fun wx => mk_eql _ _ _ _ _ _ _ _ _
  have HR : Hid (bD (V = V2 ∧ H = H2 ∧ B = B2 ∧ xs = ys) = if decide (V = V2 ∧ H = H2 ∧ B = B2) = true then bD (xs = ys) else false) := by
    (have e : bD (V = V2 ∧ H = H2 ∧ B = B2 ∧ xs = ys) = if decide (V = V2 ∧ H = H2 ∧ B = B2) = true then bD (xs = ys) else false := by
      by_cases g : V = V2 ∧ H = H2 ∧ B = B2
      · rw [if_pos (decide_eq_true g)]
        exact bD_congr ⟨fun h => h.2.2.2, fun h => ⟨g.1, g.2.1, g.2.2, h⟩⟩
      · rw [if_neg (fun h => g (of_decide_eq_true h))]
        exact bD_false (fun h => g ⟨h.1, h.2.1, h.2.2.1⟩))
    exact e
  generalize bD (V = V2 ∧ H = H2 ∧ B = B2 ∧ xs = ys) = RES at HR ⊢
  generalize bD (xs = ys) = EQ at HE0 HR
  generalize decide (V = V2 ∧ H = H2 ∧ B = B2) = D at HQ0 HR
  have hu := Up.alloc (Up.alloc (Up.refl w) (.cells #[.int .i64 V, .int .i64 H, .string B, .slice a n k] 24)) (.cells #[.int .i64 V2, .int .i64 H2, .string B2, .slice a2 n2 k2] 24)
  have hb1 := (Up.alloc (Up.refl (w.alloc (.cells #[.int .i64 V, .int .i64 H, .string B, .slice a n k] 24))) (.cells #[.int .i64 V2, .int .i64 H2, .string B2, .slice a2 n2 k2] 24)).block _ (lt_of_block (heap_alloc_new w (.cells #[.int .i64 V, .int .i64 H, .string B, .slice a n k] 24)))
  have hb2 := heap_alloc_new (w.alloc (.cells #[.int .i64 V, .int .i64 H, .string B, .slice a n k] 24)) (.cells #[.int .i64 V2, .int .i64 H2, .string B2, .slice a2 n2 k2] 24)
  rw [heap_alloc_new w (.cells #[.int .i64 V, .int .i64 H, .string B, .slice a n k] 24)] at hb1
  rw [show (w.alloc (.cells #[.int .i64 V, .int .i64 H, .string B, .slice a n k] 24)).heap.size = w.heap.size + 1 by simp] at hb2
  have HU := Lib.hid hu
  have HB1 : Hid (∀ wx, Up ((w.alloc (.cells #[.int .i64 V, .int .i64 H, .string B, .slice a n k] 24)).alloc (.cells #[.int .i64 V2, .int .i64 H2, .string B2, .slice a2 n2 k2] 24)) wx → wx.heap[w.heap.size]? = some (.cells #[.int .i64 V, .int .i64 H, .string B, .slice a n k] 24 (0, 0))) := fun wx u => (u.block _ (lt_of_block hb1)).trans hb1
  have HB2 : Hid (∀ wx, Up ((w.alloc (.cells #[.int .i64 V, .int .i64 H, .string B, .slice a n k] 24)).alloc (.cells #[.int .i64 V2, .int .i64 H2, .string B2, .slice a2 n2 k2] 24)) wx → wx.heap[w.heap.size + 1]? = some (.cells #[.int .i64 V2, .int .i64 H2, .string B2, .slice a2 n2 k2] 24 (0, 0))) := fun wx u => (u.block _ (lt_of_block hb2)).trans hb2
  have HE : Hid (∀ wx, Up ((w.alloc (.cells #[.int .i64 V, .int .i64 H, .string B, .slice a n k] 24)).alloc (.cells #[.int .i64 V2, .int .i64 H2, .string B2, .slice a2 n2 k2] 24)) wx → Calls Try.prog 48 #[.slice a n k, .slice a2 n2 k2] wx fun e w' => e = .returned (.bool EQ) ∧ Up wx w') := fun wx u => HE0.out wx (Up.trans hu u)
  clear h1 h2 hux huy hsz hb1 hb2 hu HE0
  cases D with
  | true =>
    have HQ := HQ0
    have hr := HR.out
    rw [if_pos rfl] at hr
    have hr := hr.symm
    subst hr
    clear HR HQ0
    go_enter Try.func47, Try.ntmps47
    go_wp2_with fail
    generalize (w.alloc (.cells #[.int .i64 V, .int .i64 H, .string B, .slice a n k] 24)).alloc (.cells #[.int .i64 V2, .int .i64 H2, .string B2, .slice a2 n2 k2] 24) = wz at HU HB1 HB2 HE ⊢
    generalize w.heap.size + 1 = b2 at HB2 ⊢
    generalize w.heap.size = b1 at HB1 ⊢
    refine region_alongK (fun x => Up wz x) (.read 0 (.read 2 (.step 1 (.step 3 (.read 4 (.read 5 (.read 6 (.read 7 (.read 8 (.read 9 (.step 10 (.read 11 (.read 12 (.nil)))))))))))))) (by kernel_rfl) rfl (by kernel_rfl) (by kernel_rfl) (fun c a d v w h => by cases d <;> exact h) (Up.drew1 wz) ?_
    refine alongK_read (.agg #[.int .i64 V, .int .i64 H, .string B, .slice a n k]) rfl rfl (fun wx hS => ex_loadrow rfl rfl wx 24 (HB1.out wx hS) Try.underlying24 rfl info_ct) ?_
    refine alongK_read (.agg #[.int .i64 V2, .int .i64 H2, .string B2, .slice a2 n2 k2]) rfl rfl (fun wx hS => ex_loadrow rfl rfl wx 24 (HB2.out wx hS) Try.underlying24 rfl info_ct) ?_
    change AlongK _ _ _ _ _ { tmps := #[.agg #[.int .i64 V, .int .i64 H, .string B, .slice a n k], .agg #[.int .i64 V2, .int .i64 H2, .string B2, .slice a2 n2 k2], .pointer (some ⟨b1, 0, none⟩), .pointer (some ⟨b2, 0, none⟩), .bool false, .agg #[.int .i64 V, .int .i64 H, .string B, .slice a n k], _, .agg #[.int .i64 V2, .int .i64 H2, .string B2, .slice a2 n2 k2], _, _, _, _, _, _, _, _, _], defers := _ } _
    refine alongK_step ?_
    refine opK_call (vs := [.agg #[.int .i64 V, .int .i64 H, .string B, .slice a n k]]) rfl rfl rfl (enters_of Try.func70 (by kernel_rfl) rfl) rfl ?_
    with_reducible refine Calls.mono (mark_any V H B a n k _) ?_
    rintro e y1 ⟨rfl, hy1⟩
    refine ⟨_, rfl, (fun x => Up wz x), (fun _ h => h), (Up.trans (Up.drew1 wz) hy1), ?_⟩
    change AlongK _ _ _ _ _ { tmps := #[.agg #[.int .i64 V, .int .i64 H, .string B, .slice a n k], .agg #[.int .i64 V2, .int .i64 H2, .string B2, .slice a2 n2 k2], .pointer (some ⟨b1, 0, none⟩), .pointer (some ⟨b2, 0, none⟩), .bool false, .agg #[.int .i64 V, .int .i64 H, .string B, .slice a n k], .agg #[.int .i64 V, .int .i64 H, .string B], .agg #[.int .i64 V2, .int .i64 H2, .string B2, .slice a2 n2 k2], _, _, _, _, _, _, _, _, _], defers := _ } _
    refine alongK_step ?_
    refine opK_call (vs := [.agg #[.int .i64 V2, .int .i64 H2, .string B2, .slice a2 n2 k2]]) rfl rfl rfl (enters_of Try.func70 (by kernel_rfl) rfl) rfl ?_
    with_reducible refine Calls.mono (mark_any V2 H2 B2 a2 n2 k2 _) ?_
    rintro e y3 ⟨rfl, hy3⟩
    refine ⟨_, rfl, (fun x => Up wz x), (fun _ h => h), (Up.trans (Up.trans (Up.drew1 wz) hy1) hy3), ?_⟩
    change AlongK _ _ _ _ _ { tmps := #[.agg #[.int .i64 V, .int .i64 H, .string B, .slice a n k], .agg #[.int .i64 V2, .int .i64 H2, .string B2, .slice a2 n2 k2], .pointer (some ⟨b1, 0, none⟩), .pointer (some ⟨b2, 0, none⟩), .bool false, .agg #[.int .i64 V, .int .i64 H, .string B, .slice a n k], .agg #[.int .i64 V, .int .i64 H, .string B], .agg #[.int .i64 V2, .int .i64 H2, .string B2, .slice a2 n2 k2], .agg #[.int .i64 V2, .int .i64 H2, .string B2], _, _, _, _, _, _, _, _], defers := _ } _
    refine alongK_read (.bool true) rfl rfl (fun wx hS => ex_bin rfl rfl rfl wx (HQ.out wx)) ?_
    refine alongK_read (.bool true) rfl rfl (fun wx hS => ex_move (by rfl) (by rfl) wx) ?_
    change AlongK _ _ _ _ _ { tmps := #[.agg #[.int .i64 V, .int .i64 H, .string B, .slice a n k], .agg #[.int .i64 V2, .int .i64 H2, .string B2, .slice a2 n2 k2], .pointer (some ⟨b1, 0, none⟩), .pointer (some ⟨b2, 0, none⟩), .bool false, .agg #[.int .i64 V, .int .i64 H, .string B, .slice a n k], .agg #[.int .i64 V, .int .i64 H, .string B], .agg #[.int .i64 V2, .int .i64 H2, .string B2, .slice a2 n2 k2], .agg #[.int .i64 V2, .int .i64 H2, .string B2], .bool true, .bool true, _, _, _, _, _, _], defers := _ } _
    refine alongK_read (.pointer (some ⟨b1, 3, none⟩)) rfl rfl (fun wx hS => ex_field rfl rfl wx (by simp [go_sem])) ?_
    refine alongK_read (.slice a n k) rfl rfl (fun wx hS => ex_load Try.isAgg22 rfl rfl wx ((ct_cells (HB1.out wx hS)).2.2.2)) ?_
    change AlongK _ _ _ _ _ { tmps := #[.agg #[.int .i64 V, .int .i64 H, .string B, .slice a n k], .agg #[.int .i64 V2, .int .i64 H2, .string B2, .slice a2 n2 k2], .pointer (some ⟨b1, 0, none⟩), .pointer (some ⟨b2, 0, none⟩), .bool false, .agg #[.int .i64 V, .int .i64 H, .string B, .slice a n k], .agg #[.int .i64 V, .int .i64 H, .string B], .agg #[.int .i64 V2, .int .i64 H2, .string B2, .slice a2 n2 k2], .agg #[.int .i64 V2, .int .i64 H2, .string B2], .bool true, .bool true, .pointer (some ⟨b1, 3, none⟩), .slice a n k, _, _, _, _], defers := _ } _
    refine alongK_read (.pointer (some ⟨b2, 3, none⟩)) rfl rfl (fun wx hS => ex_field rfl rfl wx (by simp [go_sem])) ?_
    refine alongK_read (.slice a2 n2 k2) rfl rfl (fun wx hS => ex_load Try.isAgg22 rfl rfl wx ((ct_cells (HB2.out wx hS)).2.2.2)) ?_
    change AlongK _ _ _ _ _ { tmps := #[.agg #[.int .i64 V, .int .i64 H, .string B, .slice a n k], .agg #[.int .i64 V2, .int .i64 H2, .string B2, .slice a2 n2 k2], .pointer (some ⟨b1, 0, none⟩), .pointer (some ⟨b2, 0, none⟩), .bool false, .agg #[.int .i64 V, .int .i64 H, .string B, .slice a n k], .agg #[.int .i64 V, .int .i64 H, .string B], .agg #[.int .i64 V2, .int .i64 H2, .string B2, .slice a2 n2 k2], .agg #[.int .i64 V2, .int .i64 H2, .string B2], .bool true, .bool true, .pointer (some ⟨b1, 3, none⟩), .slice a n k, .pointer (some ⟨b2, 3, none⟩), .slice a2 n2 k2, _, _], defers := _ } _
    refine alongK_step ?_
    refine opK_call (vs := [.slice a n k, .slice a2 n2 k2]) rfl rfl rfl (enters_of Try.func48 (by kernel_rfl) rfl) rfl ?_
    with_reducible refine Calls.mono (HE.out _ (Up.trans (Up.trans (Up.drew1 wz) hy1) hy3)) ?_
    rintro e y10 ⟨rfl, hy10⟩
    refine ⟨_, rfl, (fun x => Up wz x), (fun _ h => h), (Up.trans (Up.trans (Up.trans (Up.drew1 wz) hy1) hy3) hy10), ?_⟩
    change AlongK _ _ _ _ _ { tmps := #[.agg #[.int .i64 V, .int .i64 H, .string B, .slice a n k], .agg #[.int .i64 V2, .int .i64 H2, .string B2, .slice a2 n2 k2], .pointer (some ⟨b1, 0, none⟩), .pointer (some ⟨b2, 0, none⟩), .bool false, .agg #[.int .i64 V, .int .i64 H, .string B, .slice a n k], .agg #[.int .i64 V, .int .i64 H, .string B], .agg #[.int .i64 V2, .int .i64 H2, .string B2, .slice a2 n2 k2], .agg #[.int .i64 V2, .int .i64 H2, .string B2], .bool true, .bool true, .pointer (some ⟨b1, 3, none⟩), .slice a n k, .pointer (some ⟨b2, 3, none⟩), .slice a2 n2 k2, .bool EQ, _], defers := _ } _
    refine alongK_read (.bool EQ) rfl rfl (fun wx hS => ex_pickt rfl (by rfl) (by rfl) wx) ?_
    refine alongK_read (.bool EQ) rfl rfl (fun wx hS => ex_assign (by rfl) (by rfl) wx) ?_
    change AlongK _ _ _ _ _ { tmps := #[.agg #[.int .i64 V, .int .i64 H, .string B, .slice a n k], .agg #[.int .i64 V2, .int .i64 H2, .string B2, .slice a2 n2 k2], .pointer (some ⟨b1, 0, none⟩), .pointer (some ⟨b2, 0, none⟩), .bool EQ, .agg #[.int .i64 V, .int .i64 H, .string B, .slice a n k], .agg #[.int .i64 V, .int .i64 H, .string B], .agg #[.int .i64 V2, .int .i64 H2, .string B2, .slice a2 n2 k2], .agg #[.int .i64 V2, .int .i64 H2, .string B2], .bool true, .bool true, .pointer (some ⟨b1, 3, none⟩), .slice a n k, .pointer (some ⟨b2, 3, none⟩), .slice a2 n2 k2, .bool EQ, .bool EQ], defers := _ } _
    refine alongK_done ?_
    have HEND := Lib.hid (Up.trans (Up.trans (Up.trans (Up.drew1 wz) hy1) hy3) hy10)
    go_wp2
    go_ret
    exact ⟨rfl, Up.trans HU.out HEND.out⟩
  | false =>
    have HQ := HQ0
    have hr := HR.out
    rw [if_neg (by decide)] at hr
    subst hr
    clear HR HQ0
    go_enter Try.func47, Try.ntmps47
    go_wp2_with fail
    generalize (w.alloc (.cells #[.int .i64 V, .int .i64 H, .string B, .slice a n k] 24)).alloc (.cells #[.int .i64 V2, .int .i64 H2, .string B2, .slice a2 n2 k2] 24) = wz at HU HB1 HB2 HE ⊢
    generalize w.heap.size + 1 = b2 at HB2 ⊢
    generalize w.heap.size = b1 at HB1 ⊢
    refine region_alongK (fun x => Up wz x) (.read 0 (.read 2 (.step 1 (.step 3 (.read 4 (.read 5 (.read 6 (.read 7 (.read 8 (.read 9 (.read 10 (.read 11 (.read 12 (.nil)))))))))))))) (by kernel_rfl) rfl (by kernel_rfl) (by kernel_rfl) (fun c a d v w h => by cases d <;> exact h) (Up.drew1 wz) ?_
    refine alongK_read (.agg #[.int .i64 V, .int .i64 H, .string B, .slice a n k]) rfl rfl (fun wx hS => ex_loadrow rfl rfl wx 24 (HB1.out wx hS) Try.underlying24 rfl info_ct) ?_
    refine alongK_read (.agg #[.int .i64 V2, .int .i64 H2, .string B2, .slice a2 n2 k2]) rfl rfl (fun wx hS => ex_loadrow rfl rfl wx 24 (HB2.out wx hS) Try.underlying24 rfl info_ct) ?_
    change AlongK _ _ _ _ _ { tmps := #[.agg #[.int .i64 V, .int .i64 H, .string B, .slice a n k], .agg #[.int .i64 V2, .int .i64 H2, .string B2, .slice a2 n2 k2], .pointer (some ⟨b1, 0, none⟩), .pointer (some ⟨b2, 0, none⟩), .bool false, .agg #[.int .i64 V, .int .i64 H, .string B, .slice a n k], _, .agg #[.int .i64 V2, .int .i64 H2, .string B2, .slice a2 n2 k2], _, _, _, _, _, _, _, _, _], defers := _ } _
    refine alongK_step ?_
    refine opK_call (vs := [.agg #[.int .i64 V, .int .i64 H, .string B, .slice a n k]]) rfl rfl rfl (enters_of Try.func70 (by kernel_rfl) rfl) rfl ?_
    with_reducible refine Calls.mono (mark_any V H B a n k _) ?_
    rintro e y1 ⟨rfl, hy1⟩
    refine ⟨_, rfl, (fun x => Up wz x), (fun _ h => h), (Up.trans (Up.drew1 wz) hy1), ?_⟩
    change AlongK _ _ _ _ _ { tmps := #[.agg #[.int .i64 V, .int .i64 H, .string B, .slice a n k], .agg #[.int .i64 V2, .int .i64 H2, .string B2, .slice a2 n2 k2], .pointer (some ⟨b1, 0, none⟩), .pointer (some ⟨b2, 0, none⟩), .bool false, .agg #[.int .i64 V, .int .i64 H, .string B, .slice a n k], .agg #[.int .i64 V, .int .i64 H, .string B], .agg #[.int .i64 V2, .int .i64 H2, .string B2, .slice a2 n2 k2], _, _, _, _, _, _, _, _, _], defers := _ } _
    refine alongK_step ?_
    refine opK_call (vs := [.agg #[.int .i64 V2, .int .i64 H2, .string B2, .slice a2 n2 k2]]) rfl rfl rfl (enters_of Try.func70 (by kernel_rfl) rfl) rfl ?_
    with_reducible refine Calls.mono (mark_any V2 H2 B2 a2 n2 k2 _) ?_
    rintro e y3 ⟨rfl, hy3⟩
    refine ⟨_, rfl, (fun x => Up wz x), (fun _ h => h), (Up.trans (Up.trans (Up.drew1 wz) hy1) hy3), ?_⟩
    change AlongK _ _ _ _ _ { tmps := #[.agg #[.int .i64 V, .int .i64 H, .string B, .slice a n k], .agg #[.int .i64 V2, .int .i64 H2, .string B2, .slice a2 n2 k2], .pointer (some ⟨b1, 0, none⟩), .pointer (some ⟨b2, 0, none⟩), .bool false, .agg #[.int .i64 V, .int .i64 H, .string B, .slice a n k], .agg #[.int .i64 V, .int .i64 H, .string B], .agg #[.int .i64 V2, .int .i64 H2, .string B2, .slice a2 n2 k2], .agg #[.int .i64 V2, .int .i64 H2, .string B2], _, _, _, _, _, _, _, _], defers := _ } _
    refine alongK_read (.bool false) rfl rfl (fun wx hS => ex_bin rfl rfl rfl wx (HQ.out wx)) ?_
    refine alongK_read (.bool false) rfl rfl (fun wx hS => ex_move (by rfl) (by rfl) wx) ?_
    change AlongK _ _ _ _ _ { tmps := #[.agg #[.int .i64 V, .int .i64 H, .string B, .slice a n k], .agg #[.int .i64 V2, .int .i64 H2, .string B2, .slice a2 n2 k2], .pointer (some ⟨b1, 0, none⟩), .pointer (some ⟨b2, 0, none⟩), .bool false, .agg #[.int .i64 V, .int .i64 H, .string B, .slice a n k], .agg #[.int .i64 V, .int .i64 H, .string B], .agg #[.int .i64 V2, .int .i64 H2, .string B2, .slice a2 n2 k2], .agg #[.int .i64 V2, .int .i64 H2, .string B2], .bool false, .bool false, _, _, _, _, _, _], defers := _ } _
    refine alongK_skip rfl rfl ?_
    refine alongK_skip rfl rfl ?_
    change AlongK _ _ _ _ _ { tmps := #[.agg #[.int .i64 V, .int .i64 H, .string B, .slice a n k], .agg #[.int .i64 V2, .int .i64 H2, .string B2, .slice a2 n2 k2], .pointer (some ⟨b1, 0, none⟩), .pointer (some ⟨b2, 0, none⟩), .bool false, .agg #[.int .i64 V, .int .i64 H, .string B, .slice a n k], .agg #[.int .i64 V, .int .i64 H, .string B], .agg #[.int .i64 V2, .int .i64 H2, .string B2, .slice a2 n2 k2], .agg #[.int .i64 V2, .int .i64 H2, .string B2], .bool false, .bool false, undef, undef, _, _, _, _], defers := _ } _
    refine alongK_skip rfl rfl ?_
    refine alongK_skip rfl rfl ?_
    change AlongK _ _ _ _ _ { tmps := #[.agg #[.int .i64 V, .int .i64 H, .string B, .slice a n k], .agg #[.int .i64 V2, .int .i64 H2, .string B2, .slice a2 n2 k2], .pointer (some ⟨b1, 0, none⟩), .pointer (some ⟨b2, 0, none⟩), .bool false, .agg #[.int .i64 V, .int .i64 H, .string B, .slice a n k], .agg #[.int .i64 V, .int .i64 H, .string B], .agg #[.int .i64 V2, .int .i64 H2, .string B2, .slice a2 n2 k2], .agg #[.int .i64 V2, .int .i64 H2, .string B2], .bool false, .bool false, undef, undef, undef, undef, _, _], defers := _ } _
    refine alongK_skip rfl rfl ?_
    refine alongK_read (.bool false) rfl rfl (fun wx hS => ex_pickf rfl (by rfl) (by rfl) wx) ?_
    change AlongK _ _ _ _ _ { tmps := #[.agg #[.int .i64 V, .int .i64 H, .string B, .slice a n k], .agg #[.int .i64 V2, .int .i64 H2, .string B2, .slice a2 n2 k2], .pointer (some ⟨b1, 0, none⟩), .pointer (some ⟨b2, 0, none⟩), .bool false, .agg #[.int .i64 V, .int .i64 H, .string B, .slice a n k], .agg #[.int .i64 V, .int .i64 H, .string B], .agg #[.int .i64 V2, .int .i64 H2, .string B2, .slice a2 n2 k2], .agg #[.int .i64 V2, .int .i64 H2, .string B2], .bool false, .bool false, undef, undef, undef, undef, undef, .bool false], defers := _ } _
    refine alongK_read (.bool false) rfl rfl (fun wx hS => ex_assign (by rfl) (by rfl) wx) ?_
    change AlongK _ _ _ _ _ { tmps := #[.agg #[.int .i64 V, .int .i64 H, .string B, .slice a n k], .agg #[.int .i64 V2, .int .i64 H2, .string B2, .slice a2 n2 k2], .pointer (some ⟨b1, 0, none⟩), .pointer (some ⟨b2, 0, none⟩), .bool false, .agg #[.int .i64 V, .int .i64 H, .string B, .slice a n k], .agg #[.int .i64 V, .int .i64 H, .string B], .agg #[.int .i64 V2, .int .i64 H2, .string B2, .slice a2 n2 k2], .agg #[.int .i64 V2, .int .i64 H2, .string B2], .bool false, .bool false, undef, undef, undef, undef, undef, .bool false], defers := _ } _
    refine alongK_done ?_
    have HEND := Lib.hid (Up.trans (Up.trans (Up.drew1 wz) hy1) hy3)
    go_wp2
    go_ret
    exact ⟨rfl, Up.trans HU.out HEND.out⟩

/-- the reference's -/
theorem refCt_any (V H : Int) (B : ByteArray) (a : Option Addr) (n k : Nat) (xs : List Vs) (V2 H2 : Int) (B2 : ByteArray) (a2 : Option Addr) (n2 k2 : Nat) (ys : List Vs) (w : World) (h1 : VArg w (.slice a n k) xs) (h2 : VArg w (.slice a2 n2 k2) ys) (hux : ∀ x ∈ xs, U8s x.1.B) (huy : ∀ y ∈ ys, U8s y.1.B) (hsz : n ≤ 9223372036854775807) :
    Calls Try.prog 19 #[.agg #[.int .i64 V, .int .i64 H, .string B, .slice a n k], .agg #[.int .i64 V2, .int .i64 H2, .string B2, .slice a2 n2 k2]] w fun e w' => e = .returned (.bool (bD (V = V2 ∧ H = H2 ∧ B = B2 ∧ xs = ys))) ∧ Up w w' := by
  have hu := Up.alloc (Up.alloc (Up.refl w) (.cells #[.int .i64 V, .int .i64 H, .string B, .slice a n k] 24)) (.cells #[.int .i64 V2, .int .i64 H2, .string B2, .slice a2 n2 k2] 24)
  have HU := Lib.hid hu
  have HE : Hid (Calls Try.prog 20 #[.slice a n k, .slice a2 n2 k2] ((w.alloc (.cells #[.int .i64 V, .int .i64 H, .string B, .slice a n k] 24)).alloc (.cells #[.int .i64 V2, .int .i64 H2, .string B2, .slice a2 n2 k2] 24)) fun e w' => e = .returned (.bool (bD (xs = ys))) ∧ Up ((w.alloc (.cells #[.int .i64 V, .int .i64 H, .string B, .slice a n k] 24)).alloc (.cells #[.int .i64 V2, .int .i64 H2, .string B2, .slice a2 n2 k2] 24)) w') := refVs_any a a2 n n2 k k2 xs ys _ (h1.up hu) (h2.up hu) hux huy hsz
  clear h1 h2 hux huy hsz hu
  have HF : Hid (¬ (V = V2 ∧ H = H2 ∧ B = B2) → bD (V = V2 ∧ H = H2 ∧ B = B2 ∧ xs = ys) = false) := fun g => bD_false (fun h => g ⟨h.1, h.2.1, h.2.2.1⟩)
  have HT : Hid (V = V2 → H = H2 → B = B2 → bD (V = V2 ∧ H = H2 ∧ B = B2 ∧ xs = ys) = bD (xs = ys)) := fun g1 g2 g3 => bD_congr ⟨fun h => h.2.2.2, fun h => ⟨g1, g2, g3, h⟩⟩
  generalize bD (V = V2 ∧ H = H2 ∧ B = B2 ∧ xs = ys) = RES at HF HT ⊢
  generalize bD (xs = ys) = EQ at HE HT
  by_cases g1 : V = V2
  · have e1 : (V == V2) = true := by rw [beq_iff_eq]; exact g1
    by_cases g2 : H = H2
    · have e2 : (H == H2) = true := by rw [beq_iff_eq]; exact g2
      by_cases g3 : B = B2
      · have e3 : (B.toList == B2.toList) = true := by rw [g3]; simp
        obtain rfl := HT.out g1 g2 g3
        clear HF HT g1 g2 g3
        go_enter Try.func19, Try.ntmps19
        go_wp2_with fail
        with_reducible refine Calls.mono HE.out ?_
        rintro e w1 ⟨rfl, u⟩
        have HU1 := Lib.hid (Up.trans HU.out u)
        clear u
        go_wp2
        go_ret
        exact ⟨rfl, HU1.out⟩
      · have e3 : (B.toList == B2.toList) = false := by rw [beq_eq_false_iff_ne]; exact fun h => g3 (toList_inj h)
        obtain rfl := HF.out (fun h => g3 h.2.2)
        clear HF HT g1 g2 g3
        go_enter Try.func19, Try.ntmps19
        go_wp2
        go_ret
        exact ⟨rfl, HU.out⟩
    · have e2 : (H == H2) = false := by rw [beq_eq_false_iff_ne]; exact g2
      obtain rfl := HF.out (fun h => g2 h.2.1)
      clear HF HT g1 g2
      go_enter Try.func19, Try.ntmps19
      go_wp2
      go_ret
      exact ⟨rfl, HU.out⟩
  · have e1 : (V == V2) = false := by rw [beq_eq_false_iff_ne]; exact g1
    obtain rfl := HF.out (fun h => g1 h.1)
    clear HF HT g1
    go_enter Try.func19, Try.ntmps19
    go_wp2
    go_ret
    exact ⟨rfl, HU.out⟩
end
end Go.Proofs.Ytacamknljicjmaa
