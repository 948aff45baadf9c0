import Derived.Test.YtenhjjbbmmomaaaDoorVtCheck
import Derived.Test.YtenhjjbbmmomaaaDoorVtRead
import Derived.Test.YtenhjjbbmmomaaaDoorTxMake
import Derived.Test.YtenhjjbbmmomaaaDoorSgNew
import Derived.Test.YtenhjjbbmmomaaaDoorSgSign
import Derived.Test.YtenhjjbbmmomaaaDoorSgVerify
namespace Go.Proofs.YtenhjjbbmmomaaaDoor
/-
  vote: a replica's key.
-/
section
set_option maxRecDepth 100000
section
set_option linter.unusedVariables false
open Go.RowKit

/-- the seed of a replica -/
def repB (c : Int) : List Int := [114, 101, 112, 108, 105, 99, 97, 48 + c]
theorem repB_u8s (c : Int) (h : 0 ≤ c ∧ c ≤ 6) : U8s (repB c) := by
  intro j hj
  have hc : j = 0 ∨ j = 1 ∨ j = 2 ∨ j = 3 ∨ j = 4 ∨ j = 5 ∨ j = 6 ∨ j = 7 := by simp [repB] at hj; omega
  rcases hc with rfl | rfl | rfl | rfl | rfl | rfl | rfl | rfl
  all_goals simp [repB]
  omega

theorem vtKey_none (c : Int) (w : World) (h : c < 0 ∨ 6 < c) :
    Calls Tryd.prog 5 #[.int .i64 c] w fun e w' => e = .returned (.agg noKey) ∧ Up w w' := by
  have Hw := Lib.hid (fun wx => within_no (n := c) (least := 0) (most := 6) (by omega) wx)
  clear h
  go_enter Tryd.func5, Tryd.ntmps5
  go_wp2_with fail
  with_reducible refine Calls.mono (Hw.out _) ?_
  rintro e w1 ⟨rfl, rfl⟩
  go_wp2
  exact bodyPost_ret (v := .agg noKey) (by simp [results, Tryd.results5, noKey, go_sem]) rfl ⟨rfl, Up.alloc (Up.refl w) _⟩

set_option maxHeartbeats 1000000 in
theorem vtKey_some (c : Int) (w : World) (h : 0 ≤ c ∧ c ≤ 6) :
    Calls Tryd.prog 5 #[.int .i64 c] w fun e w' => ∃ v, e = .returned (keyV (repB c) v 0) ∧ w'.ownsRow w.heap.size 9 1 v 16 (strVs (leavesB (repB c) 16)) ∧ Up w w' := by
  have Hnew : Hid (∀ wx, Calls Tryd.prog 17 #[.string (strOfNums (repB c)), .int .i64 4] wx fun e w' => ∃ v, e = .returned (.tuple #[keyV (repB c) v 0, .int .i64 0]) ∧ w'.ownsRow wx.heap.size 9 1 v 16 (strVs (leavesB (repB c) 16)) ∧ Up wx w') := fun wx => new_ok (repB c) 4 wx (repB_u8s c h) (by simp [repB]) (by omega)
  have hcv : (convert 38 9 (.slice (some ⟨w.heap.size + 1, 0, none⟩) 1 1)).run Tryd.prog ((w.alloc (.cells noKey 27)).alloc (.cells #[.int .u8 (48 + c)] 5)) = .ok (.string (strOfNums [48 + c])) ((w.alloc (.cells noKey 27)).alloc (.cells #[.int .u8 (48 + c)] 5)) :=
    (Ints.newc (w.alloc (.cells noKey 27)) .u8 5 #[.int .u8 (48 + c)] [48 + c] _ 1 (by simp) rfl rfl).str
  unfold noKey at hcv
  have hcat : (⟨#[114, 101, 112, 108, 105, 99, 97]⟩ : ByteArray) ++ strOfNums [48 + c] = strOfNums (repB c) := by
    rw [show (⟨#[114, 101, 112, 108, 105, 99, 97]⟩ : ByteArray) = strOfNums [114, 101, 112, 108, 105, 99, 97] from rfl, strOfNums_append]; rfl
  have Hw := Lib.hid (fun wx => within_yes (n := c) (least := 0) (most := 6) h wx)
  obtain ⟨h1, h2⟩ := h
  go_enter Tryd.func5, Tryd.ntmps5
  go_wp2_with fail
  with_reducible refine Calls.mono (Hw.out _) ?_
  rintro e w0 ⟨rfl, rfl⟩
  go_wp2_with fail
  with_reducible refine Calls.mono (Hnew.out _) ?_
  rintro e w1 ⟨v, rfl, hrow, hU⟩
  have HU := Lib.hid (Up.trans (Up.alloc (Up.alloc (Up.refl w) _) _) hU)
  have hres := (hU.block w.heap.size (lt_alloc2 w _ _)).trans (heap_alloc2_old w _ _)
  have Hrow := Lib.hid (ownsRow_base (base' := w.heap.size) hrow (by simp; omega))
  obtain ⟨g, c2, rfl, _⟩ := row_slice hrow (by omega)
  have hone := one_key (repB c) _ 0 (row_one hrow)
  clear hrow hU hcv hcat
  have hres2 := ((Up.alloc (Up.refl w1) (.cells #[.string (strOfNums (repB c)), .slice (some ⟨g, 0, none⟩) 16 c2, .int .i64 0] 27)).block w.heap.size (lt_of_block hres)).trans hres
  have HU2 := Lib.hid (Up.trans HU.out (Up.alloc (Up.refl w1) (.cells #[.string (strOfNums (repB c)), .slice (some ⟨g, 0, none⟩) 16 c2, .int .i64 0] 27)))
  have Hrow2 := Lib.hid (ownsRow_up Hrow.out (Up.alloc (Up.refl w1) (.cells #[.string (strOfNums (repB c)), .slice (some ⟨g, 0, none⟩) 16 c2, .int .i64 0] 27)))
  have Hoff := Lib.hid (block_off hres2 (by decide) Hrow2.out)
  unfold keyV
  clear hres
  go_wp2_with (refine wpList_store_agg rfl 27 (.tmp 2) (.tmp 19) rfl w.heap.size _ #[.string (strOfNums (repB c)), .slice (some ⟨g, 0, none⟩) 16 c2, .int .i64 0] rfl rfl 27 hres2 info_key rfl hone ?_; intro w4 hg4 hgr4)
  refine bodyPost_ret (results_keyc rfl _ _ _ _ rfl hg4 rfl) rfl ⟨_, rfl, Hrow2.out.kept hgr4 (.inr Hoff.out.symm), ?_⟩
  exact up_at HU2.out hgr4 (Nat.le_refl _)
end
end

/-
  vote: Sign with a key that has a leaf left; and of what may not be.
-/
section
set_option maxRecDepth 100000
section
set_option linter.unusedVariables false
open Go.RowKit

/-- three results: a statement and a key in memory, and a number -/
theorem results_vsign {fn : Func} {p q s : Tmp} (h : fn.results = #[.cell p 23, .cell q 27, .tmp s]) (tmps : Array Value) (w : World) (A B : Nat) (cs ds : Array Value) (u : Value) (hp : tmps.getD p undef = .pointer (some ⟨A, 0, none⟩)) (hq : tmps.getD q undef = .pointer (some ⟨B, 0, none⟩)) (ht : tmps.getD s undef = u)
    (hA : w.heap[A]? = some (.cells cs 23 (0, 0))) (hcs : cs.size = 7) (hB : w.heap[B]? = some (.cells ds 27 (0, 0))) (hds : ds.size = 3) :
    (results fn tmps).run Tryd.prog w = .ok (.tuple #[.agg cs, .agg ds, u]) w := by
  have hp' : tmps[p]?.getD undef = .pointer (some ⟨A, 0, none⟩) := by simpa using hp
  have hq' : tmps[q]?.getD undef = .pointer (some ⟨B, 0, none⟩) := by simpa using hq
  have ht' : tmps[s]?.getD undef = u := by simpa using ht
  have hl := run_loadVar_row (P := Tryd.prog) w A 23 23 cs (0, 0) _ hA Tryd.underlying23 rfl (by rw [info_vt, hcs])
  have hk := run_loadVar_row (P := Tryd.prog) w B 27 27 ds (0, 0) _ hB Tryd.underlying27 rfl (by rw [info_key, hds])
  simp [results, h, hp', hq', ht', asAddr, hl, hk]

set_option maxHeartbeats 2000000 in
theorem vtSign_bad (key : Array Value) (hkey : ∃ s v k, key = #[.string s, v, .int .i64 k] ∧ v.oneCell' = true) (v : Vt) (S : ByteArray) (w : World) (hE : vtE v S ≠ 0) :
    Calls Tryd.prog 6 #[.agg key, .agg (vtC v S)] w fun e w' => e = .returned (.tuple #[.agg noVt, .agg noKey, .int .i64 9]) ∧ Up w w' := by
  have hE9 := vtE_nine hE
  have Hc : Hid (∀ wx, Calls Tryd.prog 15 #[.agg #[.int .i64 v.K, .int .i64 v.V, .int .i64 v.H, .string (strOfNums v.B), .int .i64 v.T, .int .i64 v.G, .string S]] wx fun e w' => e = .returned (.int .i64 9) ∧ Up wx w') := fun wx => by have := vtCheck_any v S wx; rw [hE9] at this; exact this
  obtain ⟨s, kv, k, rfl, hv⟩ := hkey
  clear hE hE9
  unfold vtC
  obtain ⟨K, V, H, B, T, G⟩ := v
  simp only at Hc ⊢
  generalize strOfNums B = BS at Hc ⊢
  go_enter Tryd.func6, Tryd.ntmps6
  obtain ⟨_, _, h2, h3, hU0⟩ := alloc4 w (.cells #[.string s, kv, .int .i64 k] 27) (.cells #[.int .i64 K, .int .i64 V, .int .i64 H, .string BS, .int .i64 T, .int .i64 G, .string S] 23) (.cells #[.int .i64 0, .int .i64 0, .int .i64 0, .string ⟨#[]⟩, .int .i64 0, .int .i64 0, .string ⟨#[]⟩] 23) (.cells #[.string ⟨#[]⟩, .slice none 0 0, .int .i64 0] 27)
  have H2 := Lib.hid h2
  have H3 := Lib.hid h3
  have HU0 := Lib.hid hU0
  clear h2 h3 hU0
  go_wp2_with fail
  with_reducible refine Calls.mono (Hc.out _) ?_
  rintro e w1 ⟨rfl, hU1⟩
  have H2b := Lib.hid ((hU1.block _ (lt_of_block H2.out)).trans H2.out)
  have H3b := Lib.hid ((hU1.block _ (lt_of_block H3.out)).trans H3.out)
  have HU1 := Lib.hid (Up.trans HU0.out hU1)
  clear hU1
  go_wp2_with (first
    | (refine wpList_store_agg rfl 23 (.tmp 4) (.tmp 15) rfl (w.heap.size + 1 + 1) _ #[.int .i64 0, .int .i64 0, .int .i64 0, .string ⟨#[]⟩, .int .i64 0, .int .i64 0, .string ⟨#[]⟩] rfl rfl 23 H2b.out info_vt rfl (one_vt _ _ _ _ _ _ _) ?_; intro w2 hg2 hgr2)
    | (refine wpList_store_agg rfl 27 (.tmp 5) (.tmp 16) rfl (w.heap.size + 1 + 1 + 1) _ #[.string ⟨#[]⟩, .slice none 0 0, .int .i64 0] rfl rfl 27 ((hgr2.block _ (lt_of_block H3b.out) (fun e => by simp at e <;> omega)).trans H3b.out) info_key rfl (one_key [] _ 0 (by simp [Value.oneCell'])) ?_; intro w3 hg3 hgr3))
  have HU2 := Lib.hid (up_at HU1.out hgr2 (by omega))
  have H2d := (hgr3.block _ (lt_of_block hg2) (fun e => by simp at e <;> omega)).trans hg2
  refine bodyPost_ret (results_vsign rfl _ _ _ _ _ _ _ rfl rfl rfl H2d rfl hg3 rfl) rfl ⟨rfl, up_at HU2.out hgr3 (by omega)⟩

set_option maxHeartbeats 4000000 in
theorem vtSign_ok (seed : List Int) (lv : Value) (ls : List (List Int)) (m D : Nat) (v : Vt) (S : ByteArray) (w : World) (hs : Strs w lv ls) (hk : KeyOk seed ls m) (hf : Fits ls) (hu : U8s seed) (hK : ls.length = 2 ^ D) (hK4 : D ≤ 4) (hm : m < ls.length) (hT : Tab64 w) (hvb : U8s v.B) (hE : vtE v S = 0) :
    Calls Tryd.prog 6 #[keyV seed lv m, .agg (vtC v S)] w fun e w' => ∃ r, e = .returned (.tuple #[.agg (vtC v (strOfNums (sigB seed ls m D (vtT v)))), keyV seed r ((m + 1 : Nat) : Int), .int .i64 0]) ∧ w'.ownsRow w.heap.size 9 1 r ls.length (strVs ls) ∧ Up w w' := by
  have hbl := (vtMay_ok (vtE_ok hE).1).bl
  obtain ⟨tn, htn⟩ : ∃ tn, (vtT v).length = tn := ⟨_, rfl⟩
  have Hc : Hid (∀ wx, Calls Tryd.prog 15 #[.agg #[.int .i64 v.K, .int .i64 v.V, .int .i64 v.H, .string (strOfNums v.B), .int .i64 v.T, .int .i64 v.G, .string S]] wx fun e w' => e = .returned (.int .i64 0) ∧ Up wx w') := fun wx => by have := vtCheck_any v S wx; rw [hE] at this; exact this
  have HTx : Hid (∀ wx, Calls Tryd.prog 19 #[.agg #[.int .i64 v.K, .int .i64 v.V, .int .i64 v.H, .string (strOfNums v.B), .int .i64 v.T, .int .i64 v.G, .string S]] wx fun e w' => ∃ xa xc, e = .returned (.slice xa tn xc) ∧ Ints .u8 w' (.slice xa tn xc) (vtT v) ∧ Up wx w') := by
    intro wx
    refine (vtText_ok v S wx hvb hE).mono fun e w' ⟨r, h1, h2, h3⟩ => ?_
    have hi := Ints.of_row h2
    obtain ⟨xa, xc, rfl⟩ := row_shape h2
    rw [htn] at h1 hi
    exact ⟨xa, xc, h1, hi, h3⟩
  have HSg : Hid (∀ (wx : World) xa xc, Up w wx → Ints .u8 wx (.slice xa tn xc) (vtT v) → Calls Tryd.prog 18 #[keyV seed lv m, .slice xa tn xc] wx fun e w' => ∃ ra rc, e = .returned (.tuple #[.string (strOfNums (sigB seed ls m D (vtT v))), keyV seed (.slice ra ls.length rc) ((m + 1 : Nat) : Int), .int .i64 0]) ∧ w'.ownsRow wx.heap.size 9 1 (.slice ra ls.length rc) ls.length (strVs ls) ∧ Up wx w') := by
    intro wx xa xc hx hi
    refine (sgSign_ok seed lv ls m D _ _ wx (hs.up hx) hk hf hu hK hK4 hm hi (vtT_u8s v hvb) (by rw [vtT_length]; omega) (hT.up hx)).mono fun e w' ⟨r, h1, h2, h3⟩ => ?_
    obtain ⟨ra, rc, rfl⟩ := row_shape h2
    exact ⟨ra, rc, h1, h2, h3⟩
  obtain ⟨ka, kc, rfl, _, _, _⟩ := hs
  have hone := one_key seed (.slice ka ls.length kc) m (by simp [Value.oneCell'])
  have hm16 : Hid (m ≤ 16) := by have := hk.pow; show m ≤ 16; omega
  generalize vtT v = TT at HTx HSg ⊢
  generalize strOfNums (sigB seed ls m D TT) = SIG at HSg ⊢
  unfold keyV at HSg ⊢
  generalize strOfNums seed = SEED at HSg hone ⊢
  generalize hn : ls.length = n at HSg hone hm ⊢
  unfold vtC
  clear hk hf hu hK hK4 hT hE hm hvb hbl htn
  obtain ⟨K, V, H, BL, T, G⟩ := v
  simp only at Hc HTx ⊢
  generalize strOfNums BL = BS at Hc HTx ⊢
  go_enter Tryd.func6, Tryd.ntmps6
  obtain ⟨h0, h1, h2, h3, hU0⟩ := alloc4 w (.cells #[.string SEED, .slice ka n kc, .int .i64 m] 27) (.cells #[.int .i64 K, .int .i64 V, .int .i64 H, .string BS, .int .i64 T, .int .i64 G, .string S] 23) (.cells #[.int .i64 0, .int .i64 0, .int .i64 0, .string ⟨#[]⟩, .int .i64 0, .int .i64 0, .string ⟨#[]⟩] 23) (.cells #[.string ⟨#[]⟩, .slice none 0 0, .int .i64 0] 27)
  have H0 := Lib.hid h0
  have H1 := Lib.hid h1
  have H2 := Lib.hid h2
  have H3 := Lib.hid h3
  have HU0 := Lib.hid hU0
  clear h0 h1 h2 h3 hU0
  go_wp2_with fail
  with_reducible refine Calls.mono (Hc.out _) ?_
  rintro e wr ⟨rfl, hU1⟩
  have HKb := Lib.hid ((hU1.block _ (lt_of_block H0.out)).trans H0.out)
  have HTb := Lib.hid ((hU1.block _ (lt_of_block H1.out)).trans H1.out)
  have H4b := Lib.hid ((hU1.block _ (lt_of_block H2.out)).trans H2.out)
  have H5b := Lib.hid ((hU1.block _ (lt_of_block H3.out)).trans H3.out)
  have HUr := Lib.hid (Up.trans HU0.out hU1)
  have HSg : Hid (∀ (wx : World) xa xc, Up wr wx → Ints .u8 wx (.slice xa tn xc) TT → Calls Tryd.prog 18 #[.agg #[.string SEED, .slice ka n kc, .int .i64 m], .slice xa tn xc] wx fun e w' => ∃ ra rc, e = .returned (.tuple #[.string SIG, .agg #[.string SEED, .slice ra n rc, .int .i64 ((m + 1 : Nat) : Int)], .int .i64 0]) ∧ w'.ownsRow wx.heap.size 9 1 (.slice ra n rc) n (strVs ls) ∧ Up wx w') := fun wx xa xc hx => HSg.out wx xa xc (Up.trans HUr.out hx)
  have HB := Lib.hid (lt_of_block H5b.out)
  clear hU1 H0 H1 H2 H3 HU0
  go_wp2
  generalize hBe : w.heap.size = B at HKb HTb H4b H5b HB ⊢
  subst hn
  refine region_alongK (fun x => Up wr x) (.read 0 (.read 1 (.fork 2 (.fork 3 (.read 4 (.read 5 (.read 6 (.read 7 (.step 8 (.read 9 (.step 10 (.read 11 (.nil))))))))) 8 (.step 3 (.read 4 (.read 5 (.read 6 (.read 7 (.read 9 (.step 10 (.read 11 (.nil)))))))))) 8 (.step 2 (.step 3 (.read 4 (.read 5 (.read 6 (.read 7 (.read 9 (.step 10 (.read 11 (.nil))))))))))))) (by kernel_rfl) rfl (by kernel_rfl) (by kernel_rfl) (fun c a d v w h => by cases d <;> exact h) (Up.drew1 wr) ?_
  refine alongK_read (.agg #[.string SEED, .slice ka ls.length kc, .int .i64 (m : Int)]) rfl rfl (fun wx hS => ex_loadrow rfl rfl wx 27 ((hS.block B (lt_of_block HKb.out)).trans HKb.out) Tryd.underlying27 rfl info_key) ?_
  change AlongK _ _ _ _ _ { tmps := #[.agg #[.string SEED, .slice ka ls.length kc, .int .i64 (m : Int)], .agg #[.int .i64 K, .int .i64 V, .int .i64 H, .string BS, .int .i64 T, .int .i64 G, .string S], .pointer (some ⟨B, 0, none⟩), .pointer (some ⟨B + 1, 0, none⟩), .pointer (some ⟨B + 1 + 1, 0, none⟩), .pointer (some ⟨B + 1 + 1 + 1, 0, none⟩), .int .i64 0, .int .i64 0, _, _, _, _, _, _, _, _, _, _, _, .agg #[.string SEED, .slice ka ls.length kc, .int .i64 (m : Int)], _, _, _, _, _, _, _, _, _, _, _, _, _, _, _], defers := _ } _
  refine alongK_read (.agg #[.int .i64 K, .int .i64 V, .int .i64 H, .string BS, .int .i64 T, .int .i64 G, .string S]) rfl rfl (fun wx hS => ex_loadrow rfl rfl wx 23 ((hS.block (B + 1) (lt_of_block HTb.out)).trans HTb.out) Tryd.underlying23 rfl info_vt) ?_
  change AlongK _ _ _ _ _ { tmps := #[.agg #[.string SEED, .slice ka ls.length kc, .int .i64 (m : Int)], .agg #[.int .i64 K, .int .i64 V, .int .i64 H, .string BS, .int .i64 T, .int .i64 G, .string S], .pointer (some ⟨B, 0, none⟩), .pointer (some ⟨B + 1, 0, none⟩), .pointer (some ⟨B + 1 + 1, 0, none⟩), .pointer (some ⟨B + 1 + 1 + 1, 0, none⟩), .int .i64 0, .int .i64 0, _, _, _, _, _, _, _, _, _, _, _, .agg #[.string SEED, .slice ka ls.length kc, .int .i64 (m : Int)], .agg #[.int .i64 K, .int .i64 V, .int .i64 H, .string BS, .int .i64 T, .int .i64 G, .string S], _, _, _, _, _, _, _, _, _, _, _, _, _, _], defers := _ } _
  refine alongK_fork ?_ ?_
  refine opK_call (vs := [.agg #[.int .i64 K, .int .i64 V, .int .i64 H, .string BS, .int .i64 T, .int .i64 G, .string S]]) rfl rfl rfl (enters_of Tryd.func19 (by kernel_rfl) rfl) rfl ?_
  with_reducible refine Calls.mono (HTx.out _) ?_
  rintro e w5 ⟨xa, xc, rfl, hI5, hU5⟩
  have hA5 : Up wr w5 := Up.trans (Up.drew1 wr) hU5
  refine ⟨_, rfl, (fun x => Up wr x), (fun x hx => hx), hA5, ?_⟩
  change AlongK _ _ _ _ _ { tmps := #[.agg #[.string SEED, .slice ka ls.length kc, .int .i64 (m : Int)], .agg #[.int .i64 K, .int .i64 V, .int .i64 H, .string BS, .int .i64 T, .int .i64 G, .string S], .pointer (some ⟨B, 0, none⟩), .pointer (some ⟨B + 1, 0, none⟩), .pointer (some ⟨B + 1 + 1, 0, none⟩), .pointer (some ⟨B + 1 + 1 + 1, 0, none⟩), .int .i64 0, .int .i64 0, _, _, _, _, _, _, _, _, _, _, _, .agg #[.string SEED, .slice ka ls.length kc, .int .i64 (m : Int)], .agg #[.int .i64 K, .int .i64 V, .int .i64 H, .string BS, .int .i64 T, .int .i64 G, .string S], .slice xa tn xc, _, _, _, _, _, _, _, _, _, _, _, _, _], defers := _ } _
  refine alongK_fork ?_ ?_
  refine opK_call (vs := [.agg #[.string SEED, .slice ka ls.length kc, .int .i64 (m : Int)], .slice xa tn xc]) rfl rfl rfl (enters_of Tryd.func18 (by kernel_rfl) rfl) rfl ?_
  with_reducible refine Calls.mono (HSg.out _ xa xc hA5 hI5) ?_
  rintro e w7 ⟨ra, rc, rfl, hr7, hU7⟩
  have hA7 : Up wr w7 := Up.trans hA5 hU7
  refine ⟨_, rfl, (fun x => Up wr x), (fun x hx => hx), hA7, ?_⟩
  change AlongK _ _ _ _ _ { tmps := #[.agg #[.string SEED, .slice ka ls.length kc, .int .i64 (m : Int)], .agg #[.int .i64 K, .int .i64 V, .int .i64 H, .string BS, .int .i64 T, .int .i64 G, .string S], .pointer (some ⟨B, 0, none⟩), .pointer (some ⟨B + 1, 0, none⟩), .pointer (some ⟨B + 1 + 1, 0, none⟩), .pointer (some ⟨B + 1 + 1 + 1, 0, none⟩), .int .i64 0, .int .i64 0, _, _, _, _, _, _, _, _, _, _, _, .agg #[.string SEED, .slice ka ls.length kc, .int .i64 (m : Int)], .agg #[.int .i64 K, .int .i64 V, .int .i64 H, .string BS, .int .i64 T, .int .i64 G, .string S], .slice xa tn xc, .tuple #[.string SIG, .agg #[.string SEED, .slice ra ls.length rc, .int .i64 ((m + 1 : Nat) : Int)], .int .i64 0], _, _, _, _, _, _, _, _, _, _, _, _], defers := _ } _
  refine alongK_read (.tuple #[.string SIG, .agg #[.string SEED, .slice ra ls.length rc, .int .i64 ((m + 1 : Nat) : Int)], .int .i64 0]) rfl rfl (fun wx hS => ex_move (by rfl) (by rfl) wx) ?_
  change AlongK _ _ _ _ _ { tmps := #[.agg #[.string SEED, .slice ka ls.length kc, .int .i64 (m : Int)], .agg #[.int .i64 K, .int .i64 V, .int .i64 H, .string BS, .int .i64 T, .int .i64 G, .string S], .pointer (some ⟨B, 0, none⟩), .pointer (some ⟨B + 1, 0, none⟩), .pointer (some ⟨B + 1 + 1, 0, none⟩), .pointer (some ⟨B + 1 + 1 + 1, 0, none⟩), .int .i64 0, .int .i64 0, _, _, _, _, _, _, _, _, _, _, .tuple #[.string SIG, .agg #[.string SEED, .slice ra ls.length rc, .int .i64 ((m + 1 : Nat) : Int)], .int .i64 0], .agg #[.string SEED, .slice ka ls.length kc, .int .i64 (m : Int)], .agg #[.int .i64 K, .int .i64 V, .int .i64 H, .string BS, .int .i64 T, .int .i64 G, .string S], .slice xa tn xc, .tuple #[.string SIG, .agg #[.string SEED, .slice ra ls.length rc, .int .i64 ((m + 1 : Nat) : Int)], .int .i64 0], _, _, _, _, _, _, _, _, _, _, _, _], defers := _ } _
  refine alongK_read (.string SIG) rfl rfl (fun wx hS => ex_extr (cs := #[.string SIG, .agg #[.string SEED, .slice ra ls.length rc, .int .i64 ((m + 1 : Nat) : Int)], .int .i64 0]) rfl rfl rfl wx) ?_
  change AlongK _ _ _ _ _ { tmps := #[.agg #[.string SEED, .slice ka ls.length kc, .int .i64 (m : Int)], .agg #[.int .i64 K, .int .i64 V, .int .i64 H, .string BS, .int .i64 T, .int .i64 G, .string S], .pointer (some ⟨B, 0, none⟩), .pointer (some ⟨B + 1, 0, none⟩), .pointer (some ⟨B + 1 + 1, 0, none⟩), .pointer (some ⟨B + 1 + 1 + 1, 0, none⟩), .int .i64 0, .int .i64 0, _, _, _, _, _, _, _, _, _, _, .tuple #[.string SIG, .agg #[.string SEED, .slice ra ls.length rc, .int .i64 ((m + 1 : Nat) : Int)], .int .i64 0], .agg #[.string SEED, .slice ka ls.length kc, .int .i64 (m : Int)], .agg #[.int .i64 K, .int .i64 V, .int .i64 H, .string BS, .int .i64 T, .int .i64 G, .string S], .slice xa tn xc, .tuple #[.string SIG, .agg #[.string SEED, .slice ra ls.length rc, .int .i64 ((m + 1 : Nat) : Int)], .int .i64 0], .string SIG, _, _, _, _, _, _, _, _, _, _, _], defers := _ } _
  refine alongK_read (.agg #[.string SEED, .slice ra ls.length rc, .int .i64 ((m + 1 : Nat) : Int)]) rfl rfl (fun wx hS => ex_extr (cs := #[.string SIG, .agg #[.string SEED, .slice ra ls.length rc, .int .i64 ((m + 1 : Nat) : Int)], .int .i64 0]) rfl rfl rfl wx) ?_
  change AlongK _ _ _ _ _ { tmps := #[.agg #[.string SEED, .slice ka ls.length kc, .int .i64 (m : Int)], .agg #[.int .i64 K, .int .i64 V, .int .i64 H, .string BS, .int .i64 T, .int .i64 G, .string S], .pointer (some ⟨B, 0, none⟩), .pointer (some ⟨B + 1, 0, none⟩), .pointer (some ⟨B + 1 + 1, 0, none⟩), .pointer (some ⟨B + 1 + 1 + 1, 0, none⟩), .int .i64 0, .int .i64 0, _, _, _, _, _, _, _, _, _, _, .tuple #[.string SIG, .agg #[.string SEED, .slice ra ls.length rc, .int .i64 ((m + 1 : Nat) : Int)], .int .i64 0], .agg #[.string SEED, .slice ka ls.length kc, .int .i64 (m : Int)], .agg #[.int .i64 K, .int .i64 V, .int .i64 H, .string BS, .int .i64 T, .int .i64 G, .string S], .slice xa tn xc, .tuple #[.string SIG, .agg #[.string SEED, .slice ra ls.length rc, .int .i64 ((m + 1 : Nat) : Int)], .int .i64 0], .string SIG, .agg #[.string SEED, .slice ra ls.length rc, .int .i64 ((m + 1 : Nat) : Int)], _, _, _, _, _, _, _, _, _, _], defers := _ } _
  refine alongK_read (.int .i64 0) rfl rfl (fun wx hS => ex_extr (cs := #[.string SIG, .agg #[.string SEED, .slice ra ls.length rc, .int .i64 ((m + 1 : Nat) : Int)], .int .i64 0]) rfl rfl rfl wx) ?_
  change AlongK _ _ _ _ _ { tmps := #[.agg #[.string SEED, .slice ka ls.length kc, .int .i64 (m : Int)], .agg #[.int .i64 K, .int .i64 V, .int .i64 H, .string BS, .int .i64 T, .int .i64 G, .string S], .pointer (some ⟨B, 0, none⟩), .pointer (some ⟨B + 1, 0, none⟩), .pointer (some ⟨B + 1 + 1, 0, none⟩), .pointer (some ⟨B + 1 + 1 + 1, 0, none⟩), .int .i64 0, .int .i64 0, _, _, _, _, _, _, _, _, _, _, .tuple #[.string SIG, .agg #[.string SEED, .slice ra ls.length rc, .int .i64 ((m + 1 : Nat) : Int)], .int .i64 0], .agg #[.string SEED, .slice ka ls.length kc, .int .i64 (m : Int)], .agg #[.int .i64 K, .int .i64 V, .int .i64 H, .string BS, .int .i64 T, .int .i64 G, .string S], .slice xa tn xc, .tuple #[.string SIG, .agg #[.string SEED, .slice ra ls.length rc, .int .i64 ((m + 1 : Nat) : Int)], .int .i64 0], .string SIG, .agg #[.string SEED, .slice ra ls.length rc, .int .i64 ((m + 1 : Nat) : Int)], .int .i64 0, _, _, _, _, _, _, _, _, _], defers := _ } _
  refine alongK_step ?_
  refine opK_run (.pointer (some ⟨w7.heap.size, 0, none⟩)) _ rfl rfl (ex_alloc rfl _ _ (alloc_key w7)) (fun x => Up wr x) (fun x hx => hx) (Up.alloc hA7 _) ?_
  change AlongK _ _ _ _ _ { tmps := #[.agg #[.string SEED, .slice ka ls.length kc, .int .i64 (m : Int)], .agg #[.int .i64 K, .int .i64 V, .int .i64 H, .string BS, .int .i64 T, .int .i64 G, .string S], .pointer (some ⟨B, 0, none⟩), .pointer (some ⟨B + 1, 0, none⟩), .pointer (some ⟨B + 1 + 1, 0, none⟩), .pointer (some ⟨B + 1 + 1 + 1, 0, none⟩), .int .i64 0, .int .i64 0, _, .pointer (some ⟨w7.heap.size, 0, none⟩), _, _, _, _, _, _, _, _, .tuple #[.string SIG, .agg #[.string SEED, .slice ra ls.length rc, .int .i64 ((m + 1 : Nat) : Int)], .int .i64 0], .agg #[.string SEED, .slice ka ls.length kc, .int .i64 (m : Int)], .agg #[.int .i64 K, .int .i64 V, .int .i64 H, .string BS, .int .i64 T, .int .i64 G, .string S], .slice xa tn xc, .tuple #[.string SIG, .agg #[.string SEED, .slice ra ls.length rc, .int .i64 ((m + 1 : Nat) : Int)], .int .i64 0], .string SIG, .agg #[.string SEED, .slice ra ls.length rc, .int .i64 ((m + 1 : Nat) : Int)], .int .i64 0, _, _, _, _, _, _, _, _, _], defers := _ } _
  refine alongK_read (.string SIG) rfl rfl (fun wx hS => ex_assign (by rfl) (by rfl) wx) ?_
  change AlongK _ _ _ _ _ { tmps := #[.agg #[.string SEED, .slice ka ls.length kc, .int .i64 (m : Int)], .agg #[.int .i64 K, .int .i64 V, .int .i64 H, .string BS, .int .i64 T, .int .i64 G, .string S], .pointer (some ⟨B, 0, none⟩), .pointer (some ⟨B + 1, 0, none⟩), .pointer (some ⟨B + 1 + 1, 0, none⟩), .pointer (some ⟨B + 1 + 1 + 1, 0, none⟩), .int .i64 0, .int .i64 0, .string SIG, .pointer (some ⟨w7.heap.size, 0, none⟩), _, _, _, _, _, _, _, _, .tuple #[.string SIG, .agg #[.string SEED, .slice ra ls.length rc, .int .i64 ((m + 1 : Nat) : Int)], .int .i64 0], .agg #[.string SEED, .slice ka ls.length kc, .int .i64 (m : Int)], .agg #[.int .i64 K, .int .i64 V, .int .i64 H, .string BS, .int .i64 T, .int .i64 G, .string S], .slice xa tn xc, .tuple #[.string SIG, .agg #[.string SEED, .slice ra ls.length rc, .int .i64 ((m + 1 : Nat) : Int)], .int .i64 0], .string SIG, .agg #[.string SEED, .slice ra ls.length rc, .int .i64 ((m + 1 : Nat) : Int)], .int .i64 0, _, _, _, _, _, _, _, _, _], defers := _ } _
  refine alongK_step ?_
  have hone7 := one_keyB SEED _ ((m + 1 : Nat) : Int) (row_one hr7)
  refine opK_store _ rfl rfl (ex_storerow (c1 := #[.string SEED, .slice ra ls.length rc, .int .i64 ((m + 1 : Nat) : Int)]) rfl rfl rfl _ 27 (heap_alloc_new w7 _) info_key rfl hone7) (fun x => Up wr x) (fun x hx => hx) (up_at (Up.alloc hA7 _) (grownBy_setRow _ _ _) (hA7.size)) ?_
  change AlongK _ _ _ _ _ { tmps := #[.agg #[.string SEED, .slice ka ls.length kc, .int .i64 (m : Int)], .agg #[.int .i64 K, .int .i64 V, .int .i64 H, .string BS, .int .i64 T, .int .i64 G, .string S], .pointer (some ⟨B, 0, none⟩), .pointer (some ⟨B + 1, 0, none⟩), .pointer (some ⟨B + 1 + 1, 0, none⟩), .pointer (some ⟨B + 1 + 1 + 1, 0, none⟩), .int .i64 0, .int .i64 0, .string SIG, .pointer (some ⟨w7.heap.size, 0, none⟩), _, _, _, _, _, _, _, _, .tuple #[.string SIG, .agg #[.string SEED, .slice ra ls.length rc, .int .i64 ((m + 1 : Nat) : Int)], .int .i64 0], .agg #[.string SEED, .slice ka ls.length kc, .int .i64 (m : Int)], .agg #[.int .i64 K, .int .i64 V, .int .i64 H, .string BS, .int .i64 T, .int .i64 G, .string S], .slice xa tn xc, .tuple #[.string SIG, .agg #[.string SEED, .slice ra ls.length rc, .int .i64 ((m + 1 : Nat) : Int)], .int .i64 0], .string SIG, .agg #[.string SEED, .slice ra ls.length rc, .int .i64 ((m + 1 : Nat) : Int)], .int .i64 0, _, _, _, _, _, _, _, _, _], defers := _ } _
  have HX := Lib.hid (after_clone (w := wr) (g := w7.heap.size) (Up.refl wr) (Nat.le_refl _) hr7 hA5 (Up.alloc (Up.refl w7) (.cells noKey 27)) (heap_alloc_new w7 _) hone7 (Nat.le_refl _) hU7)
  refine alongK_read (.int .i64 0) rfl rfl (fun wx hS => ex_assign (by rfl) (by rfl) wx) ?_
  change AlongK _ _ _ _ _ { tmps := #[.agg #[.string SEED, .slice ka ls.length kc, .int .i64 (m : Int)], .agg #[.int .i64 K, .int .i64 V, .int .i64 H, .string BS, .int .i64 T, .int .i64 G, .string S], .pointer (some ⟨B, 0, none⟩), .pointer (some ⟨B + 1, 0, none⟩), .pointer (some ⟨B + 1 + 1, 0, none⟩), .pointer (some ⟨B + 1 + 1 + 1, 0, none⟩), .int .i64 0, .int .i64 0, .string SIG, .pointer (some ⟨w7.heap.size, 0, none⟩), .int .i64 0, _, _, _, _, _, _, _, .tuple #[.string SIG, .agg #[.string SEED, .slice ra ls.length rc, .int .i64 ((m + 1 : Nat) : Int)], .int .i64 0], .agg #[.string SEED, .slice ka ls.length kc, .int .i64 (m : Int)], .agg #[.int .i64 K, .int .i64 V, .int .i64 H, .string BS, .int .i64 T, .int .i64 G, .string S], .slice xa tn xc, .tuple #[.string SIG, .agg #[.string SEED, .slice ra ls.length rc, .int .i64 ((m + 1 : Nat) : Int)], .int .i64 0], .string SIG, .agg #[.string SEED, .slice ra ls.length rc, .int .i64 ((m + 1 : Nat) : Int)], .int .i64 0, _, _, _, _, _, _, _, _, _], defers := _ } _
  refine alongK_done ?_
  generalize (w7.alloc (.cells noKey 27)).setRow w7.heap.size #[.string SEED, .slice ra ls.length rc, .int .i64 ((m + 1 : Nat) : Int)] = w9 at HX ⊢
  generalize w7.heap.size = n9 at HX ⊢
  rotate_left
  refine opK_run (.pointer (some ⟨w5.heap.size, 0, none⟩)) _ rfl rfl (ex_alloc rfl _ _ (alloc_key w5)) (fun x => Up wr x) (fun x hx => hx) (Up.alloc hA5 _) ?_
  change AlongK _ _ _ _ _ { tmps := #[.agg #[.string SEED, .slice ka ls.length kc, .int .i64 (m : Int)], .agg #[.int .i64 K, .int .i64 V, .int .i64 H, .string BS, .int .i64 T, .int .i64 G, .string S], .pointer (some ⟨B, 0, none⟩), .pointer (some ⟨B + 1, 0, none⟩), .pointer (some ⟨B + 1 + 1, 0, none⟩), .pointer (some ⟨B + 1 + 1 + 1, 0, none⟩), .int .i64 0, .int .i64 0, _, .pointer (some ⟨w5.heap.size, 0, none⟩), _, _, _, _, _, _, _, _, _, .agg #[.string SEED, .slice ka ls.length kc, .int .i64 (m : Int)], .agg #[.int .i64 K, .int .i64 V, .int .i64 H, .string BS, .int .i64 T, .int .i64 G, .string S], .slice xa tn xc, _, _, _, _, _, _, _, _, _, _, _, _, _], defers := _ } _
  refine alongK_step ?_
  refine opK_call (vs := [.agg #[.string SEED, .slice ka ls.length kc, .int .i64 (m : Int)], .slice xa tn xc]) rfl rfl rfl (enters_of Tryd.func18 (by kernel_rfl) rfl) rfl ?_
  with_reducible refine Calls.mono (HSg.out _ xa xc (Up.alloc hA5 _) (hI5.up (Up.alloc (Up.refl w5) _))) ?_
  rintro e w7 ⟨ra, rc, rfl, hr7, hU7⟩
  have hA7 : Up wr w7 := Up.trans (Up.alloc hA5 _) hU7
  refine ⟨_, rfl, (fun x => Up wr x), (fun x hx => hx), hA7, ?_⟩
  change AlongK _ _ _ _ _ { tmps := #[.agg #[.string SEED, .slice ka ls.length kc, .int .i64 (m : Int)], .agg #[.int .i64 K, .int .i64 V, .int .i64 H, .string BS, .int .i64 T, .int .i64 G, .string S], .pointer (some ⟨B, 0, none⟩), .pointer (some ⟨B + 1, 0, none⟩), .pointer (some ⟨B + 1 + 1, 0, none⟩), .pointer (some ⟨B + 1 + 1 + 1, 0, none⟩), .int .i64 0, .int .i64 0, _, .pointer (some ⟨w5.heap.size, 0, none⟩), _, _, _, _, _, _, _, _, _, .agg #[.string SEED, .slice ka ls.length kc, .int .i64 (m : Int)], .agg #[.int .i64 K, .int .i64 V, .int .i64 H, .string BS, .int .i64 T, .int .i64 G, .string S], .slice xa tn xc, .tuple #[.string SIG, .agg #[.string SEED, .slice ra ls.length rc, .int .i64 ((m + 1 : Nat) : Int)], .int .i64 0], _, _, _, _, _, _, _, _, _, _, _, _], defers := _ } _
  refine alongK_read (.tuple #[.string SIG, .agg #[.string SEED, .slice ra ls.length rc, .int .i64 ((m + 1 : Nat) : Int)], .int .i64 0]) rfl rfl (fun wx hS => ex_move (by rfl) (by rfl) wx) ?_
  change AlongK _ _ _ _ _ { tmps := #[.agg #[.string SEED, .slice ka ls.length kc, .int .i64 (m : Int)], .agg #[.int .i64 K, .int .i64 V, .int .i64 H, .string BS, .int .i64 T, .int .i64 G, .string S], .pointer (some ⟨B, 0, none⟩), .pointer (some ⟨B + 1, 0, none⟩), .pointer (some ⟨B + 1 + 1, 0, none⟩), .pointer (some ⟨B + 1 + 1 + 1, 0, none⟩), .int .i64 0, .int .i64 0, _, .pointer (some ⟨w5.heap.size, 0, none⟩), _, _, _, _, _, _, _, _, .tuple #[.string SIG, .agg #[.string SEED, .slice ra ls.length rc, .int .i64 ((m + 1 : Nat) : Int)], .int .i64 0], .agg #[.string SEED, .slice ka ls.length kc, .int .i64 (m : Int)], .agg #[.int .i64 K, .int .i64 V, .int .i64 H, .string BS, .int .i64 T, .int .i64 G, .string S], .slice xa tn xc, .tuple #[.string SIG, .agg #[.string SEED, .slice ra ls.length rc, .int .i64 ((m + 1 : Nat) : Int)], .int .i64 0], _, _, _, _, _, _, _, _, _, _, _, _], defers := _ } _
  refine alongK_read (.string SIG) rfl rfl (fun wx hS => ex_extr (cs := #[.string SIG, .agg #[.string SEED, .slice ra ls.length rc, .int .i64 ((m + 1 : Nat) : Int)], .int .i64 0]) rfl rfl rfl wx) ?_
  change AlongK _ _ _ _ _ { tmps := #[.agg #[.string SEED, .slice ka ls.length kc, .int .i64 (m : Int)], .agg #[.int .i64 K, .int .i64 V, .int .i64 H, .string BS, .int .i64 T, .int .i64 G, .string S], .pointer (some ⟨B, 0, none⟩), .pointer (some ⟨B + 1, 0, none⟩), .pointer (some ⟨B + 1 + 1, 0, none⟩), .pointer (some ⟨B + 1 + 1 + 1, 0, none⟩), .int .i64 0, .int .i64 0, _, .pointer (some ⟨w5.heap.size, 0, none⟩), _, _, _, _, _, _, _, _, .tuple #[.string SIG, .agg #[.string SEED, .slice ra ls.length rc, .int .i64 ((m + 1 : Nat) : Int)], .int .i64 0], .agg #[.string SEED, .slice ka ls.length kc, .int .i64 (m : Int)], .agg #[.int .i64 K, .int .i64 V, .int .i64 H, .string BS, .int .i64 T, .int .i64 G, .string S], .slice xa tn xc, .tuple #[.string SIG, .agg #[.string SEED, .slice ra ls.length rc, .int .i64 ((m + 1 : Nat) : Int)], .int .i64 0], .string SIG, _, _, _, _, _, _, _, _, _, _, _], defers := _ } _
  refine alongK_read (.agg #[.string SEED, .slice ra ls.length rc, .int .i64 ((m + 1 : Nat) : Int)]) rfl rfl (fun wx hS => ex_extr (cs := #[.string SIG, .agg #[.string SEED, .slice ra ls.length rc, .int .i64 ((m + 1 : Nat) : Int)], .int .i64 0]) rfl rfl rfl wx) ?_
  change AlongK _ _ _ _ _ { tmps := #[.agg #[.string SEED, .slice ka ls.length kc, .int .i64 (m : Int)], .agg #[.int .i64 K, .int .i64 V, .int .i64 H, .string BS, .int .i64 T, .int .i64 G, .string S], .pointer (some ⟨B, 0, none⟩), .pointer (some ⟨B + 1, 0, none⟩), .pointer (some ⟨B + 1 + 1, 0, none⟩), .pointer (some ⟨B + 1 + 1 + 1, 0, none⟩), .int .i64 0, .int .i64 0, _, .pointer (some ⟨w5.heap.size, 0, none⟩), _, _, _, _, _, _, _, _, .tuple #[.string SIG, .agg #[.string SEED, .slice ra ls.length rc, .int .i64 ((m + 1 : Nat) : Int)], .int .i64 0], .agg #[.string SEED, .slice ka ls.length kc, .int .i64 (m : Int)], .agg #[.int .i64 K, .int .i64 V, .int .i64 H, .string BS, .int .i64 T, .int .i64 G, .string S], .slice xa tn xc, .tuple #[.string SIG, .agg #[.string SEED, .slice ra ls.length rc, .int .i64 ((m + 1 : Nat) : Int)], .int .i64 0], .string SIG, .agg #[.string SEED, .slice ra ls.length rc, .int .i64 ((m + 1 : Nat) : Int)], _, _, _, _, _, _, _, _, _, _], defers := _ } _
  refine alongK_read (.int .i64 0) rfl rfl (fun wx hS => ex_extr (cs := #[.string SIG, .agg #[.string SEED, .slice ra ls.length rc, .int .i64 ((m + 1 : Nat) : Int)], .int .i64 0]) rfl rfl rfl wx) ?_
  change AlongK _ _ _ _ _ { tmps := #[.agg #[.string SEED, .slice ka ls.length kc, .int .i64 (m : Int)], .agg #[.int .i64 K, .int .i64 V, .int .i64 H, .string BS, .int .i64 T, .int .i64 G, .string S], .pointer (some ⟨B, 0, none⟩), .pointer (some ⟨B + 1, 0, none⟩), .pointer (some ⟨B + 1 + 1, 0, none⟩), .pointer (some ⟨B + 1 + 1 + 1, 0, none⟩), .int .i64 0, .int .i64 0, _, .pointer (some ⟨w5.heap.size, 0, none⟩), _, _, _, _, _, _, _, _, .tuple #[.string SIG, .agg #[.string SEED, .slice ra ls.length rc, .int .i64 ((m + 1 : Nat) : Int)], .int .i64 0], .agg #[.string SEED, .slice ka ls.length kc, .int .i64 (m : Int)], .agg #[.int .i64 K, .int .i64 V, .int .i64 H, .string BS, .int .i64 T, .int .i64 G, .string S], .slice xa tn xc, .tuple #[.string SIG, .agg #[.string SEED, .slice ra ls.length rc, .int .i64 ((m + 1 : Nat) : Int)], .int .i64 0], .string SIG, .agg #[.string SEED, .slice ra ls.length rc, .int .i64 ((m + 1 : Nat) : Int)], .int .i64 0, _, _, _, _, _, _, _, _, _], defers := _ } _
  refine alongK_read (.string SIG) rfl rfl (fun wx hS => ex_assign (by rfl) (by rfl) wx) ?_
  change AlongK _ _ _ _ _ { tmps := #[.agg #[.string SEED, .slice ka ls.length kc, .int .i64 (m : Int)], .agg #[.int .i64 K, .int .i64 V, .int .i64 H, .string BS, .int .i64 T, .int .i64 G, .string S], .pointer (some ⟨B, 0, none⟩), .pointer (some ⟨B + 1, 0, none⟩), .pointer (some ⟨B + 1 + 1, 0, none⟩), .pointer (some ⟨B + 1 + 1 + 1, 0, none⟩), .int .i64 0, .int .i64 0, .string SIG, .pointer (some ⟨w5.heap.size, 0, none⟩), _, _, _, _, _, _, _, _, .tuple #[.string SIG, .agg #[.string SEED, .slice ra ls.length rc, .int .i64 ((m + 1 : Nat) : Int)], .int .i64 0], .agg #[.string SEED, .slice ka ls.length kc, .int .i64 (m : Int)], .agg #[.int .i64 K, .int .i64 V, .int .i64 H, .string BS, .int .i64 T, .int .i64 G, .string S], .slice xa tn xc, .tuple #[.string SIG, .agg #[.string SEED, .slice ra ls.length rc, .int .i64 ((m + 1 : Nat) : Int)], .int .i64 0], .string SIG, .agg #[.string SEED, .slice ra ls.length rc, .int .i64 ((m + 1 : Nat) : Int)], .int .i64 0, _, _, _, _, _, _, _, _, _], defers := _ } _
  refine alongK_step ?_
  have hone7 := one_keyB SEED _ ((m + 1 : Nat) : Int) (row_one hr7)
  have hC7 := (hU7.block w5.heap.size (by simp)).trans (heap_alloc_new w5 (.cells noKey 27))
  refine opK_store _ rfl rfl (ex_storerow (c1 := #[.string SEED, .slice ra ls.length rc, .int .i64 ((m + 1 : Nat) : Int)]) rfl rfl rfl _ 27 hC7 info_key rfl hone7) (fun x => Up wr x) (fun x hx => hx) (up_at hA7 (grownBy_setRow _ _ _) (hA5.size)) ?_
  change AlongK _ _ _ _ _ { tmps := #[.agg #[.string SEED, .slice ka ls.length kc, .int .i64 (m : Int)], .agg #[.int .i64 K, .int .i64 V, .int .i64 H, .string BS, .int .i64 T, .int .i64 G, .string S], .pointer (some ⟨B, 0, none⟩), .pointer (some ⟨B + 1, 0, none⟩), .pointer (some ⟨B + 1 + 1, 0, none⟩), .pointer (some ⟨B + 1 + 1 + 1, 0, none⟩), .int .i64 0, .int .i64 0, .string SIG, .pointer (some ⟨w5.heap.size, 0, none⟩), _, _, _, _, _, _, _, _, .tuple #[.string SIG, .agg #[.string SEED, .slice ra ls.length rc, .int .i64 ((m + 1 : Nat) : Int)], .int .i64 0], .agg #[.string SEED, .slice ka ls.length kc, .int .i64 (m : Int)], .agg #[.int .i64 K, .int .i64 V, .int .i64 H, .string BS, .int .i64 T, .int .i64 G, .string S], .slice xa tn xc, .tuple #[.string SIG, .agg #[.string SEED, .slice ra ls.length rc, .int .i64 ((m + 1 : Nat) : Int)], .int .i64 0], .string SIG, .agg #[.string SEED, .slice ra ls.length rc, .int .i64 ((m + 1 : Nat) : Int)], .int .i64 0, _, _, _, _, _, _, _, _, _], defers := _ } _
  have HX := Lib.hid (after_clone2 (w := wr) (g := w5.heap.size) (Up.refl wr) (Nat.le_refl _) hr7 (by simp) hA7 hC7 hone7 hA5.size)
  refine alongK_read (.int .i64 0) rfl rfl (fun wx hS => ex_assign (by rfl) (by rfl) wx) ?_
  change AlongK _ _ _ _ _ { tmps := #[.agg #[.string SEED, .slice ka ls.length kc, .int .i64 (m : Int)], .agg #[.int .i64 K, .int .i64 V, .int .i64 H, .string BS, .int .i64 T, .int .i64 G, .string S], .pointer (some ⟨B, 0, none⟩), .pointer (some ⟨B + 1, 0, none⟩), .pointer (some ⟨B + 1 + 1, 0, none⟩), .pointer (some ⟨B + 1 + 1 + 1, 0, none⟩), .int .i64 0, .int .i64 0, .string SIG, .pointer (some ⟨w5.heap.size, 0, none⟩), .int .i64 0, _, _, _, _, _, _, _, .tuple #[.string SIG, .agg #[.string SEED, .slice ra ls.length rc, .int .i64 ((m + 1 : Nat) : Int)], .int .i64 0], .agg #[.string SEED, .slice ka ls.length kc, .int .i64 (m : Int)], .agg #[.int .i64 K, .int .i64 V, .int .i64 H, .string BS, .int .i64 T, .int .i64 G, .string S], .slice xa tn xc, .tuple #[.string SIG, .agg #[.string SEED, .slice ra ls.length rc, .int .i64 ((m + 1 : Nat) : Int)], .int .i64 0], .string SIG, .agg #[.string SEED, .slice ra ls.length rc, .int .i64 ((m + 1 : Nat) : Int)], .int .i64 0, _, _, _, _, _, _, _, _, _], defers := _ } _
  refine alongK_done ?_
  generalize w7.setRow w5.heap.size #[.string SEED, .slice ra ls.length rc, .int .i64 ((m + 1 : Nat) : Int)] = w9 at HX ⊢
  generalize w5.heap.size = n9 at HX ⊢
  rotate_left
  refine opK_run (.pointer (some ⟨wr.heap.size, 0, none⟩)) _ rfl rfl (ex_alloc rfl _ _ (alloc_key wr.drew)) (fun x => Up wr x) (fun x hx => hx) (Up.alloc (Up.drew1 wr) _) ?_
  change AlongK _ _ _ _ _ { tmps := #[.agg #[.string SEED, .slice ka ls.length kc, .int .i64 (m : Int)], .agg #[.int .i64 K, .int .i64 V, .int .i64 H, .string BS, .int .i64 T, .int .i64 G, .string S], .pointer (some ⟨B, 0, none⟩), .pointer (some ⟨B + 1, 0, none⟩), .pointer (some ⟨B + 1 + 1, 0, none⟩), .pointer (some ⟨B + 1 + 1 + 1, 0, none⟩), .int .i64 0, .int .i64 0, _, .pointer (some ⟨wr.heap.size, 0, none⟩), _, _, _, _, _, _, _, _, _, .agg #[.string SEED, .slice ka ls.length kc, .int .i64 (m : Int)], .agg #[.int .i64 K, .int .i64 V, .int .i64 H, .string BS, .int .i64 T, .int .i64 G, .string S], _, _, _, _, _, _, _, _, _, _, _, _, _, _], defers := _ } _
  refine alongK_step ?_
  refine opK_call (vs := [.agg #[.int .i64 K, .int .i64 V, .int .i64 H, .string BS, .int .i64 T, .int .i64 G, .string S]]) rfl rfl rfl (enters_of Tryd.func19 (by kernel_rfl) rfl) rfl ?_
  with_reducible refine Calls.mono (HTx.out _) ?_
  rintro e w5 ⟨xa, xc, rfl, hI5, hU5⟩
  have hA5 : Up wr w5 := Up.trans (Up.alloc (Up.drew1 wr) _) hU5
  refine ⟨_, rfl, (fun x => Up wr x), (fun x hx => hx), hA5, ?_⟩
  change AlongK _ _ _ _ _ { tmps := #[.agg #[.string SEED, .slice ka ls.length kc, .int .i64 (m : Int)], .agg #[.int .i64 K, .int .i64 V, .int .i64 H, .string BS, .int .i64 T, .int .i64 G, .string S], .pointer (some ⟨B, 0, none⟩), .pointer (some ⟨B + 1, 0, none⟩), .pointer (some ⟨B + 1 + 1, 0, none⟩), .pointer (some ⟨B + 1 + 1 + 1, 0, none⟩), .int .i64 0, .int .i64 0, _, .pointer (some ⟨wr.heap.size, 0, none⟩), _, _, _, _, _, _, _, _, _, .agg #[.string SEED, .slice ka ls.length kc, .int .i64 (m : Int)], .agg #[.int .i64 K, .int .i64 V, .int .i64 H, .string BS, .int .i64 T, .int .i64 G, .string S], .slice xa tn xc, _, _, _, _, _, _, _, _, _, _, _, _, _], defers := _ } _
  refine alongK_step ?_
  refine opK_call (vs := [.agg #[.string SEED, .slice ka ls.length kc, .int .i64 (m : Int)], .slice xa tn xc]) rfl rfl rfl (enters_of Tryd.func18 (by kernel_rfl) rfl) rfl ?_
  with_reducible refine Calls.mono (HSg.out _ xa xc hA5 hI5) ?_
  rintro e w7 ⟨ra, rc, rfl, hr7, hU7⟩
  have hA7 : Up wr w7 := Up.trans hA5 hU7
  refine ⟨_, rfl, (fun x => Up wr x), (fun x hx => hx), hA7, ?_⟩
  change AlongK _ _ _ _ _ { tmps := #[.agg #[.string SEED, .slice ka ls.length kc, .int .i64 (m : Int)], .agg #[.int .i64 K, .int .i64 V, .int .i64 H, .string BS, .int .i64 T, .int .i64 G, .string S], .pointer (some ⟨B, 0, none⟩), .pointer (some ⟨B + 1, 0, none⟩), .pointer (some ⟨B + 1 + 1, 0, none⟩), .pointer (some ⟨B + 1 + 1 + 1, 0, none⟩), .int .i64 0, .int .i64 0, _, .pointer (some ⟨wr.heap.size, 0, none⟩), _, _, _, _, _, _, _, _, _, .agg #[.string SEED, .slice ka ls.length kc, .int .i64 (m : Int)], .agg #[.int .i64 K, .int .i64 V, .int .i64 H, .string BS, .int .i64 T, .int .i64 G, .string S], .slice xa tn xc, .tuple #[.string SIG, .agg #[.string SEED, .slice ra ls.length rc, .int .i64 ((m + 1 : Nat) : Int)], .int .i64 0], _, _, _, _, _, _, _, _, _, _, _, _], defers := _ } _
  refine alongK_read (.tuple #[.string SIG, .agg #[.string SEED, .slice ra ls.length rc, .int .i64 ((m + 1 : Nat) : Int)], .int .i64 0]) rfl rfl (fun wx hS => ex_move (by rfl) (by rfl) wx) ?_
  change AlongK _ _ _ _ _ { tmps := #[.agg #[.string SEED, .slice ka ls.length kc, .int .i64 (m : Int)], .agg #[.int .i64 K, .int .i64 V, .int .i64 H, .string BS, .int .i64 T, .int .i64 G, .string S], .pointer (some ⟨B, 0, none⟩), .pointer (some ⟨B + 1, 0, none⟩), .pointer (some ⟨B + 1 + 1, 0, none⟩), .pointer (some ⟨B + 1 + 1 + 1, 0, none⟩), .int .i64 0, .int .i64 0, _, .pointer (some ⟨wr.heap.size, 0, none⟩), _, _, _, _, _, _, _, _, .tuple #[.string SIG, .agg #[.string SEED, .slice ra ls.length rc, .int .i64 ((m + 1 : Nat) : Int)], .int .i64 0], .agg #[.string SEED, .slice ka ls.length kc, .int .i64 (m : Int)], .agg #[.int .i64 K, .int .i64 V, .int .i64 H, .string BS, .int .i64 T, .int .i64 G, .string S], .slice xa tn xc, .tuple #[.string SIG, .agg #[.string SEED, .slice ra ls.length rc, .int .i64 ((m + 1 : Nat) : Int)], .int .i64 0], _, _, _, _, _, _, _, _, _, _, _, _], defers := _ } _
  refine alongK_read (.string SIG) rfl rfl (fun wx hS => ex_extr (cs := #[.string SIG, .agg #[.string SEED, .slice ra ls.length rc, .int .i64 ((m + 1 : Nat) : Int)], .int .i64 0]) rfl rfl rfl wx) ?_
  change AlongK _ _ _ _ _ { tmps := #[.agg #[.string SEED, .slice ka ls.length kc, .int .i64 (m : Int)], .agg #[.int .i64 K, .int .i64 V, .int .i64 H, .string BS, .int .i64 T, .int .i64 G, .string S], .pointer (some ⟨B, 0, none⟩), .pointer (some ⟨B + 1, 0, none⟩), .pointer (some ⟨B + 1 + 1, 0, none⟩), .pointer (some ⟨B + 1 + 1 + 1, 0, none⟩), .int .i64 0, .int .i64 0, _, .pointer (some ⟨wr.heap.size, 0, none⟩), _, _, _, _, _, _, _, _, .tuple #[.string SIG, .agg #[.string SEED, .slice ra ls.length rc, .int .i64 ((m + 1 : Nat) : Int)], .int .i64 0], .agg #[.string SEED, .slice ka ls.length kc, .int .i64 (m : Int)], .agg #[.int .i64 K, .int .i64 V, .int .i64 H, .string BS, .int .i64 T, .int .i64 G, .string S], .slice xa tn xc, .tuple #[.string SIG, .agg #[.string SEED, .slice ra ls.length rc, .int .i64 ((m + 1 : Nat) : Int)], .int .i64 0], .string SIG, _, _, _, _, _, _, _, _, _, _, _], defers := _ } _
  refine alongK_read (.agg #[.string SEED, .slice ra ls.length rc, .int .i64 ((m + 1 : Nat) : Int)]) rfl rfl (fun wx hS => ex_extr (cs := #[.string SIG, .agg #[.string SEED, .slice ra ls.length rc, .int .i64 ((m + 1 : Nat) : Int)], .int .i64 0]) rfl rfl rfl wx) ?_
  change AlongK _ _ _ _ _ { tmps := #[.agg #[.string SEED, .slice ka ls.length kc, .int .i64 (m : Int)], .agg #[.int .i64 K, .int .i64 V, .int .i64 H, .string BS, .int .i64 T, .int .i64 G, .string S], .pointer (some ⟨B, 0, none⟩), .pointer (some ⟨B + 1, 0, none⟩), .pointer (some ⟨B + 1 + 1, 0, none⟩), .pointer (some ⟨B + 1 + 1 + 1, 0, none⟩), .int .i64 0, .int .i64 0, _, .pointer (some ⟨wr.heap.size, 0, none⟩), _, _, _, _, _, _, _, _, .tuple #[.string SIG, .agg #[.string SEED, .slice ra ls.length rc, .int .i64 ((m + 1 : Nat) : Int)], .int .i64 0], .agg #[.string SEED, .slice ka ls.length kc, .int .i64 (m : Int)], .agg #[.int .i64 K, .int .i64 V, .int .i64 H, .string BS, .int .i64 T, .int .i64 G, .string S], .slice xa tn xc, .tuple #[.string SIG, .agg #[.string SEED, .slice ra ls.length rc, .int .i64 ((m + 1 : Nat) : Int)], .int .i64 0], .string SIG, .agg #[.string SEED, .slice ra ls.length rc, .int .i64 ((m + 1 : Nat) : Int)], _, _, _, _, _, _, _, _, _, _], defers := _ } _
  refine alongK_read (.int .i64 0) rfl rfl (fun wx hS => ex_extr (cs := #[.string SIG, .agg #[.string SEED, .slice ra ls.length rc, .int .i64 ((m + 1 : Nat) : Int)], .int .i64 0]) rfl rfl rfl wx) ?_
  change AlongK _ _ _ _ _ { tmps := #[.agg #[.string SEED, .slice ka ls.length kc, .int .i64 (m : Int)], .agg #[.int .i64 K, .int .i64 V, .int .i64 H, .string BS, .int .i64 T, .int .i64 G, .string S], .pointer (some ⟨B, 0, none⟩), .pointer (some ⟨B + 1, 0, none⟩), .pointer (some ⟨B + 1 + 1, 0, none⟩), .pointer (some ⟨B + 1 + 1 + 1, 0, none⟩), .int .i64 0, .int .i64 0, _, .pointer (some ⟨wr.heap.size, 0, none⟩), _, _, _, _, _, _, _, _, .tuple #[.string SIG, .agg #[.string SEED, .slice ra ls.length rc, .int .i64 ((m + 1 : Nat) : Int)], .int .i64 0], .agg #[.string SEED, .slice ka ls.length kc, .int .i64 (m : Int)], .agg #[.int .i64 K, .int .i64 V, .int .i64 H, .string BS, .int .i64 T, .int .i64 G, .string S], .slice xa tn xc, .tuple #[.string SIG, .agg #[.string SEED, .slice ra ls.length rc, .int .i64 ((m + 1 : Nat) : Int)], .int .i64 0], .string SIG, .agg #[.string SEED, .slice ra ls.length rc, .int .i64 ((m + 1 : Nat) : Int)], .int .i64 0, _, _, _, _, _, _, _, _, _], defers := _ } _
  refine alongK_read (.string SIG) rfl rfl (fun wx hS => ex_assign (by rfl) (by rfl) wx) ?_
  change AlongK _ _ _ _ _ { tmps := #[.agg #[.string SEED, .slice ka ls.length kc, .int .i64 (m : Int)], .agg #[.int .i64 K, .int .i64 V, .int .i64 H, .string BS, .int .i64 T, .int .i64 G, .string S], .pointer (some ⟨B, 0, none⟩), .pointer (some ⟨B + 1, 0, none⟩), .pointer (some ⟨B + 1 + 1, 0, none⟩), .pointer (some ⟨B + 1 + 1 + 1, 0, none⟩), .int .i64 0, .int .i64 0, .string SIG, .pointer (some ⟨wr.heap.size, 0, none⟩), _, _, _, _, _, _, _, _, .tuple #[.string SIG, .agg #[.string SEED, .slice ra ls.length rc, .int .i64 ((m + 1 : Nat) : Int)], .int .i64 0], .agg #[.string SEED, .slice ka ls.length kc, .int .i64 (m : Int)], .agg #[.int .i64 K, .int .i64 V, .int .i64 H, .string BS, .int .i64 T, .int .i64 G, .string S], .slice xa tn xc, .tuple #[.string SIG, .agg #[.string SEED, .slice ra ls.length rc, .int .i64 ((m + 1 : Nat) : Int)], .int .i64 0], .string SIG, .agg #[.string SEED, .slice ra ls.length rc, .int .i64 ((m + 1 : Nat) : Int)], .int .i64 0, _, _, _, _, _, _, _, _, _], defers := _ } _
  refine alongK_step ?_
  have hone7 := one_keyB SEED _ ((m + 1 : Nat) : Int) (row_one hr7)
  have hC7 := (hU7.block wr.heap.size (Nat.lt_of_lt_of_le (lt_alloc1 wr _) hU5.size)).trans ((hU5.block wr.heap.size (lt_alloc1 wr _)).trans (heap_alloc_new wr.drew (.cells noKey 27)))
  refine opK_store _ rfl rfl (ex_storerow (c1 := #[.string SEED, .slice ra ls.length rc, .int .i64 ((m + 1 : Nat) : Int)]) rfl rfl rfl _ 27 hC7 info_key rfl hone7) (fun x => Up wr x) (fun x hx => hx) (up_at hA7 (grownBy_setRow _ _ _) (Nat.le_refl _)) ?_
  change AlongK _ _ _ _ _ { tmps := #[.agg #[.string SEED, .slice ka ls.length kc, .int .i64 (m : Int)], .agg #[.int .i64 K, .int .i64 V, .int .i64 H, .string BS, .int .i64 T, .int .i64 G, .string S], .pointer (some ⟨B, 0, none⟩), .pointer (some ⟨B + 1, 0, none⟩), .pointer (some ⟨B + 1 + 1, 0, none⟩), .pointer (some ⟨B + 1 + 1 + 1, 0, none⟩), .int .i64 0, .int .i64 0, .string SIG, .pointer (some ⟨wr.heap.size, 0, none⟩), _, _, _, _, _, _, _, _, .tuple #[.string SIG, .agg #[.string SEED, .slice ra ls.length rc, .int .i64 ((m + 1 : Nat) : Int)], .int .i64 0], .agg #[.string SEED, .slice ka ls.length kc, .int .i64 (m : Int)], .agg #[.int .i64 K, .int .i64 V, .int .i64 H, .string BS, .int .i64 T, .int .i64 G, .string S], .slice xa tn xc, .tuple #[.string SIG, .agg #[.string SEED, .slice ra ls.length rc, .int .i64 ((m + 1 : Nat) : Int)], .int .i64 0], .string SIG, .agg #[.string SEED, .slice ra ls.length rc, .int .i64 ((m + 1 : Nat) : Int)], .int .i64 0, _, _, _, _, _, _, _, _, _], defers := _ } _
  have HX := Lib.hid (after_clone2 (w := wr) (g := wr.heap.size) (Up.refl wr) (Nat.le_refl _) hr7 (Nat.lt_of_lt_of_le (lt_alloc1 wr _) hU5.size) hA7 hC7 hone7 (Nat.le_refl _))
  refine alongK_read (.int .i64 0) rfl rfl (fun wx hS => ex_assign (by rfl) (by rfl) wx) ?_
  change AlongK _ _ _ _ _ { tmps := #[.agg #[.string SEED, .slice ka ls.length kc, .int .i64 (m : Int)], .agg #[.int .i64 K, .int .i64 V, .int .i64 H, .string BS, .int .i64 T, .int .i64 G, .string S], .pointer (some ⟨B, 0, none⟩), .pointer (some ⟨B + 1, 0, none⟩), .pointer (some ⟨B + 1 + 1, 0, none⟩), .pointer (some ⟨B + 1 + 1 + 1, 0, none⟩), .int .i64 0, .int .i64 0, .string SIG, .pointer (some ⟨wr.heap.size, 0, none⟩), .int .i64 0, _, _, _, _, _, _, _, .tuple #[.string SIG, .agg #[.string SEED, .slice ra ls.length rc, .int .i64 ((m + 1 : Nat) : Int)], .int .i64 0], .agg #[.string SEED, .slice ka ls.length kc, .int .i64 (m : Int)], .agg #[.int .i64 K, .int .i64 V, .int .i64 H, .string BS, .int .i64 T, .int .i64 G, .string S], .slice xa tn xc, .tuple #[.string SIG, .agg #[.string SEED, .slice ra ls.length rc, .int .i64 ((m + 1 : Nat) : Int)], .int .i64 0], .string SIG, .agg #[.string SEED, .slice ra ls.length rc, .int .i64 ((m + 1 : Nat) : Int)], .int .i64 0, _, _, _, _, _, _, _, _, _], defers := _ } _
  refine alongK_done ?_
  generalize w7.setRow wr.heap.size #[.string SEED, .slice ra ls.length rc, .int .i64 ((m + 1 : Nat) : Int)] = w9 at HX ⊢
  generalize wr.heap.size = n9 at HX ⊢
  all_goals
    clear hr7 hU7 hA7 hU5 hA5 hI5
    have HUX := Lib.hid HX.out.1
    have HT9 := Lib.hid ((HUX.out.block _ (lt_of_block HTb.out)).trans HTb.out)
    have H49 := Lib.hid ((HUX.out.block _ (lt_of_block H4b.out)).trans H4b.out)
    have H59 := Lib.hid ((HUX.out.block _ (lt_of_block H5b.out)).trans H5b.out)
    have Hn9 : Hid (B + 1 + 1 + 1 < n9) := Nat.lt_of_lt_of_le HB.out HX.out.2.2.2.1
    have hcell := (vt_cells HT9.out).2.2.2.2.2.2
    have hfr := frozen_of_row _ _ 6 _ _ HT9.out
    go_wp2
    have HTs := Lib.hid (set_field HT9.out 6 (.string SIG) (cs' := #[.int .i64 K, .int .i64 V, .int .i64 H, .string BS, .int .i64 T, .int .i64 G, .string SIG]) rfl)
    have hgs := grownBy_setCell w9 ⟨B + 1, 6, none⟩ (.string SIG)
    have H4s := Lib.hid ((hgs.block _ (lt_of_block H49.out) (fun e => by simp at e <;> omega)).trans H49.out)
    have H5s := Lib.hid ((hgs.block _ (lt_of_block H59.out) (fun e => by simp at e <;> omega)).trans H59.out)
    have HKs := Lib.hid ((hgs.block _ (lt_of_block HX.out.2.1) (fun e => by have := Hn9.out; simp at e; omega)).trans HX.out.2.1)
    have Hrs := Lib.hid (HX.out.2.2.1.kept hgs (row_off HX.out.2.2.1 (fun q e => by cases e; have := HB.out; show B + 1 < _; omega)))
    have HUs : Hid (Up w (w9.setCell ⟨B + 1, 6, none⟩ (.string SIG))) := up_at (Up.trans HUr.out HUX.out) hgs (by show _ ≤ B + 1; omega)
    generalize w9.setCell ⟨B + 1, 6, none⟩ (.string SIG) = ws at HTs H4s H5s HKs Hrs HUs ⊢
    clear hgs hcell hfr
    refine region_alongK (fun x => x.heap[B + 1]? = some (.cells #[.int .i64 K, .int .i64 V, .int .i64 H, .string BS, .int .i64 T, .int .i64 G, .string SIG] 23 (0, 0)) ∧ x.heap[n9]? = some (.cells #[.string SEED, .slice ra ls.length rc, .int .i64 ((m + 1 : Nat) : Int)] 27 (0, 0))) (.read 0 (.read 1 (.step 2 (.step 3 (.read 4 (.nil)))))) (by kernel_rfl) rfl (by kernel_rfl) (by kernel_rfl) (fun c a d v w h => by cases d <;> exact h) (⟨HTs.out, HKs.out⟩) ?_
    refine alongK_read (.agg #[.int .i64 K, .int .i64 V, .int .i64 H, .string BS, .int .i64 T, .int .i64 G, .string SIG]) rfl rfl (fun wx hS => ex_loadrow rfl rfl wx 23 (hS.1) Tryd.underlying23 rfl info_vt) ?_
    change AlongK _ _ _ _ _ { tmps := #[.agg #[.string SEED, .slice ka ls.length kc, .int .i64 (m : Int)], .agg #[.int .i64 K, .int .i64 V, .int .i64 H, .string BS, .int .i64 T, .int .i64 G, .string S], .pointer (some ⟨B, 0, none⟩), .pointer (some ⟨B + 1, 0, none⟩), .pointer (some ⟨B + 1 + 1, 0, none⟩), .pointer (some ⟨B + 1 + 1 + 1, 0, none⟩), .int .i64 0, .int .i64 0, _, .pointer (some ⟨n9, 0, none⟩), _, _, _, _, _, _, _, _, _, _, _, _, _, _, _, _, _, _, _, _, _, _, _, .agg #[.int .i64 K, .int .i64 V, .int .i64 H, .string BS, .int .i64 T, .int .i64 G, .string SIG], _], defers := _ } _
    refine alongK_read (.agg #[.string SEED, .slice ra ls.length rc, .int .i64 ((m + 1 : Nat) : Int)]) rfl rfl (fun wx hS => ex_loadrow rfl rfl wx 27 (hS.2) Tryd.underlying27 rfl info_key) ?_
    change AlongK _ _ _ _ _ { tmps := #[.agg #[.string SEED, .slice ka ls.length kc, .int .i64 (m : Int)], .agg #[.int .i64 K, .int .i64 V, .int .i64 H, .string BS, .int .i64 T, .int .i64 G, .string S], .pointer (some ⟨B, 0, none⟩), .pointer (some ⟨B + 1, 0, none⟩), .pointer (some ⟨B + 1 + 1, 0, none⟩), .pointer (some ⟨B + 1 + 1 + 1, 0, none⟩), .int .i64 0, .int .i64 0, _, .pointer (some ⟨n9, 0, none⟩), _, _, _, _, _, _, _, _, _, _, _, _, _, _, _, _, _, _, _, _, _, _, _, .agg #[.int .i64 K, .int .i64 V, .int .i64 H, .string BS, .int .i64 T, .int .i64 G, .string SIG], .agg #[.string SEED, .slice ra ls.length rc, .int .i64 ((m + 1 : Nat) : Int)]], defers := _ } _
    refine alongK_step ?_
    refine opK_store _ rfl rfl (ex_storerow (c1 := #[.int .i64 K, .int .i64 V, .int .i64 H, .string BS, .int .i64 T, .int .i64 G, .string SIG]) rfl rfl rfl _ 23 H4s.out info_vt rfl (one_vt _ _ _ _ _ _ _)) (fun x => x.heap[B + 1]? = some (.cells #[.int .i64 K, .int .i64 V, .int .i64 H, .string BS, .int .i64 T, .int .i64 G, .string SIG] 23 (0, 0)) ∧ x.heap[n9]? = some (.cells #[.string SEED, .slice ra ls.length rc, .int .i64 ((m + 1 : Nat) : Int)] 27 (0, 0))) (fun x hx => hx) ⟨((grownBy_setRow ws.drew (B + 1 + 1) #[.int .i64 K, .int .i64 V, .int .i64 H, .string BS, .int .i64 T, .int .i64 G, .string SIG]).block _ (lt_of_block HTs.out) (fun e => by simp at e <;> omega)).trans HTs.out, ((grownBy_setRow ws.drew (B + 1 + 1) #[.int .i64 K, .int .i64 V, .int .i64 H, .string BS, .int .i64 T, .int .i64 G, .string SIG]).block _ (lt_of_block HKs.out) (fun e => by have := Hn9.out; simp at e; omega)).trans HKs.out⟩ ?_
    change AlongK _ _ _ _ _ { tmps := #[.agg #[.string SEED, .slice ka ls.length kc, .int .i64 (m : Int)], .agg #[.int .i64 K, .int .i64 V, .int .i64 H, .string BS, .int .i64 T, .int .i64 G, .string S], .pointer (some ⟨B, 0, none⟩), .pointer (some ⟨B + 1, 0, none⟩), .pointer (some ⟨B + 1 + 1, 0, none⟩), .pointer (some ⟨B + 1 + 1 + 1, 0, none⟩), .int .i64 0, .int .i64 0, _, .pointer (some ⟨n9, 0, none⟩), _, _, _, _, _, _, _, _, _, _, _, _, _, _, _, _, _, _, _, _, _, _, _, .agg #[.int .i64 K, .int .i64 V, .int .i64 H, .string BS, .int .i64 T, .int .i64 G, .string SIG], .agg #[.string SEED, .slice ra ls.length rc, .int .i64 ((m + 1 : Nat) : Int)]], defers := _ } _
    have H4t := setRow_heap ws.drew (B + 1 + 1) _ #[.int .i64 K, .int .i64 V, .int .i64 H, .string BS, .int .i64 T, .int .i64 G, .string SIG] _ _ H4s.out
    have hgt := grownBy_setRow ws.drew (B + 1 + 1) #[.int .i64 K, .int .i64 V, .int .i64 H, .string BS, .int .i64 T, .int .i64 G, .string SIG]
    have H5t := (hgt.block _ (lt_of_block H5s.out) (fun e => by simp at e <;> omega)).trans H5s.out
    have HTt := (hgt.block _ (lt_of_block HTs.out) (fun e => by simp at e <;> omega)).trans HTs.out
    have HKt := (hgt.block _ (lt_of_block HKs.out) (fun e => by have := Hn9.out; simp at e; omega)).trans HKs.out
    have HUt := up_at (Up.drew HUs.out) hgt (by omega)
    have Hrt := (ownsRow_up Hrs.out (Up.drew1 ws)).kept hgt (row_off (ownsRow_up Hrs.out (Up.drew1 ws)) (fun q e => by cases e; have := HB.out; omega))
    generalize ws.drew.setRow (B + 1 + 1) #[.int .i64 K, .int .i64 V, .int .i64 H, .string BS, .int .i64 T, .int .i64 G, .string SIG] = wt at H4t H5t HTt HKt HUt Hrt ⊢
    clear hgt
    refine alongK_step ?_
    refine opK_store _ rfl rfl (ex_storerow (c1 := #[.string SEED, .slice ra ls.length rc, .int .i64 ((m + 1 : Nat) : Int)]) rfl rfl rfl _ 27 H5t info_key rfl HX.out.2.2.2.2) (fun x => x.heap[B + 1]? = some (.cells #[.int .i64 K, .int .i64 V, .int .i64 H, .string BS, .int .i64 T, .int .i64 G, .string SIG] 23 (0, 0)) ∧ x.heap[n9]? = some (.cells #[.string SEED, .slice ra ls.length rc, .int .i64 ((m + 1 : Nat) : Int)] 27 (0, 0))) (fun x hx => hx) ⟨((grownBy_setRow wt (B + 1 + 1 + 1) #[.string SEED, .slice ra ls.length rc, .int .i64 ((m + 1 : Nat) : Int)]).block _ (lt_of_block HTt) (fun e => by simp at e <;> omega)).trans HTt, ((grownBy_setRow wt (B + 1 + 1 + 1) #[.string SEED, .slice ra ls.length rc, .int .i64 ((m + 1 : Nat) : Int)]).block _ (lt_of_block HKt) (fun e => by have := Hn9.out; simp at e; omega)).trans HKt⟩ ?_
    change AlongK _ _ _ _ _ { tmps := #[.agg #[.string SEED, .slice ka ls.length kc, .int .i64 (m : Int)], .agg #[.int .i64 K, .int .i64 V, .int .i64 H, .string BS, .int .i64 T, .int .i64 G, .string S], .pointer (some ⟨B, 0, none⟩), .pointer (some ⟨B + 1, 0, none⟩), .pointer (some ⟨B + 1 + 1, 0, none⟩), .pointer (some ⟨B + 1 + 1 + 1, 0, none⟩), .int .i64 0, .int .i64 0, _, .pointer (some ⟨n9, 0, none⟩), _, _, _, _, _, _, _, _, _, _, _, _, _, _, _, _, _, _, _, _, _, _, _, .agg #[.int .i64 K, .int .i64 V, .int .i64 H, .string BS, .int .i64 T, .int .i64 G, .string SIG], .agg #[.string SEED, .slice ra ls.length rc, .int .i64 ((m + 1 : Nat) : Int)]], defers := _ } _
    have H5u := setRow_heap wt (B + 1 + 1 + 1) _ #[.string SEED, .slice ra ls.length rc, .int .i64 ((m + 1 : Nat) : Int)] _ _ H5t
    have hgu := grownBy_setRow wt (B + 1 + 1 + 1) #[.string SEED, .slice ra ls.length rc, .int .i64 ((m + 1 : Nat) : Int)]
    have H4u := (hgu.block _ (lt_of_block H4t) (fun e => by simp at e <;> omega)).trans H4t
    have HUu := up_at HUt hgu (by omega)
    have Hru := Hrt.kept hgu (row_off Hrt (fun q e => by cases e; have := HB.out; omega))
    generalize wt.setRow (B + 1 + 1 + 1) #[.string SEED, .slice ra ls.length rc, .int .i64 ((m + 1 : Nat) : Int)] = wu at H4u H5u HUu Hru ⊢
    clear hgu
    refine alongK_read (.int .i64 0) rfl rfl (fun wx hS => ex_assign (by rfl) (by rfl) wx) ?_
    change AlongK _ _ _ _ _ { tmps := #[.agg #[.string SEED, .slice ka ls.length kc, .int .i64 (m : Int)], .agg #[.int .i64 K, .int .i64 V, .int .i64 H, .string BS, .int .i64 T, .int .i64 G, .string S], .pointer (some ⟨B, 0, none⟩), .pointer (some ⟨B + 1, 0, none⟩), .pointer (some ⟨B + 1 + 1, 0, none⟩), .pointer (some ⟨B + 1 + 1 + 1, 0, none⟩), .int .i64 0, .int .i64 0, _, .pointer (some ⟨n9, 0, none⟩), _, _, _, _, _, _, _, _, _, _, _, _, _, _, _, _, _, _, _, _, _, _, _, .agg #[.int .i64 K, .int .i64 V, .int .i64 H, .string BS, .int .i64 T, .int .i64 G, .string SIG], .agg #[.string SEED, .slice ra ls.length rc, .int .i64 ((m + 1 : Nat) : Int)]], defers := _ } _
    refine alongK_done ?_
    clear H5t HTt HKt HUt Hrt
    have H4x := Lib.hid H4u
    have H5x := Lib.hid H5u
    have HUx := Lib.hid HUu
    have Hrx := Lib.hid (ownsRow_base (base' := w.heap.size) Hru (by have := HB.out; omega))
    clear H4t H4u H5u HUu Hru
    go_wp2
    exact bodyPost_ret (results_vsign rfl _ _ _ _ _ _ _ rfl rfl rfl H4x.out rfl H5x.out rfl) rfl ⟨_, rfl, Hrx.out, HUx.out⟩
end
end

/-
  vote: Valid, of whatever statement and roots.
-/
section
set_option maxRecDepth 100000
section
set_option linter.unusedVariables false
open Go.RowKit

def VtGood (v : Vt) (sig : List Int) (ls : List (List Int)) : Prop :=
  vtE v (strOfNums sig) = 0 ∧ v.G.toNat < ls.length ∧ GoodSig (strOfNums (ls[v.G.toNat]?.getD [])) 4 (vtT v) sig

set_option maxHeartbeats 2000000 in
theorem vtValid_any (v : Vt) (sig : List Int) (rv : Value) (ls : List (List Int)) (w : World) (hs : Strs w rv ls) (hvb : U8s v.B) (hu : U8s sig) (hsl : sig.length ≤ 9223372036854775807) (hll : ls.length ≤ 9223372036854775807) :
    Calls Tryd.prog 12 #[.agg (vtC v (strOfNums sig)), rv] w fun e w' => ∃ b : Bool, e = .returned (.bool b) ∧ (VtGood v sig ls → b = true) ∧ (¬ VtGood v sig ls → b = false) ∧ Up w w' := by
  obtain ⟨ra, rc, rfl, hrc, hrn, hrd⟩ := hs
  by_cases hE : vtE v (strOfNums sig) = 0
  · have hok := vtMay_ok (vtE_ok hE).1
    have Hc : Hid (∀ wx, Calls Tryd.prog 15 #[.agg #[.int .i64 v.K, .int .i64 v.V, .int .i64 v.H, .string (strOfNums v.B), .int .i64 v.T, .int .i64 v.G, .string (strOfNums sig)]] wx fun e w' => e = .returned (.int .i64 0) ∧ Up wx w') := fun wx => by have := vtCheck_any v (strOfNums sig) wx; rw [hE] at this; exact this
    obtain ⟨fn, hfg⟩ : ∃ fn : Nat, v.G = fn := ⟨v.G.toNat, by have := hok.g.1; omega⟩
    have hgt : v.G.toNat = fn := by omega
    by_cases hfn : fn < ls.length
    · have HG : Hid (VtGood v sig ls ↔ GoodSig (strOfNums (ls[fn]?.getD [])) 4 (vtT v) sig) := ⟨fun h => by have := h.2.2; rwa [hgt] at this, fun h => ⟨hE, by rw [hgt]; exact hfn, by rw [hgt]; exact h⟩⟩
      obtain ⟨tn, htn⟩ : ∃ tn, (vtT v).length = tn := ⟨_, rfl⟩
      have HTx : Hid (∀ wx, Calls Tryd.prog 19 #[.agg #[.int .i64 v.K, .int .i64 v.V, .int .i64 v.H, .string (strOfNums v.B), .int .i64 v.T, .int .i64 v.G, .string (strOfNums sig)]] wx fun e w' => ∃ xa xc, e = .returned (.slice xa tn xc) ∧ Ints .u8 w' (.slice xa tn xc) (vtT v) ∧ Up wx w') := by
        intro wx
        refine (vtText_ok v _ wx hvb hE).mono fun e w' ⟨r, h1, h2, h3⟩ => ?_
        have hi := Ints.of_row h2
        obtain ⟨xa, xc, rfl⟩ := row_shape h2
        rw [htn] at h1 hi
        exact ⟨xa, xc, h1, hi, h3⟩
      have HV : Hid (∀ (wx : World) xa xc, Ints .u8 wx (.slice xa tn xc) (vtT v) → Calls Tryd.prog 26 #[.string (strOfNums (ls[fn]?.getD [])), .int .i64 4, .slice xa tn xc, .string (strOfNums sig)] wx (SigTold (strOfNums (ls[fn]?.getD [])) 4 (vtT v) sig wx)) :=
        fun wx xa xc hi => verify_any _ 4 _ _ sig wx hi (vtT_u8s _ hvb) (by rw [vtT_length]; have := hok.bl; omega) hu hsl
      obtain ⟨rb, ro, rfl, hcell⟩ : ∃ b off, ra = some ⟨b, off, none⟩ ∧ ∀ j, j < ls.length → w.cell? ⟨b, off + j, none⟩ = some (.string (strOfNums (ls[j]?.getD []))) := by
        rcases hrd with rfl | h
        · simp at hfn
        · exact h
      have HRw := Lib.hid (hcell fn hfn)
      unfold SigTold at HV
      generalize GoodSig (strOfNums (ls[fn]?.getD [])) 4 (vtT v) sig = GD at HV HG
      generalize VtGood v sig ls = TG at HG ⊢
      generalize strOfNums (ls[fn]?.getD []) = R at HV HRw
      generalize vtT v = TT at HTx HV
      generalize sigLeaf sig = SL at HV
      generalize strOfNums sig = S at Hc HTx HV ⊢
      have hfn2 : ¬ ((ls.length : Int) ≤ (fn : Int)) := by omega
      generalize ls.length = rn at hfn hfn2 ⊢
      unfold vtC
      clear hE hcell hrd hrn hrc hu hsl hll hvb hok htn hgt
      obtain ⟨K, V, H, BL, T, G⟩ := v
      simp only at Hc HTx hfg ⊢
      subst hfg
      generalize strOfNums BL = BS at Hc HTx ⊢
      go_enter Tryd.func12, Tryd.ntmps12
      go_wp2_with fail
      with_reducible refine Calls.mono (Hc.out _) ?_
      rintro e wr ⟨rfl, hU1⟩
      have hb := (hU1.block w.heap.size (by simp)).trans (heap_alloc_new w (.cells #[.int .i64 K, .int .i64 V, .int .i64 H, .string BS, .int .i64 T, .int .i64 (fn : Nat), .string S] 23))
      have hc5 := (vt_cells hb).2.2.2.2.2.1
      have HTb := Lib.hid hb
      have HUr := Lib.hid (Up.trans (Up.alloc (Up.refl w) _) hU1)
      have HRt : Hid (∀ wx, Up wr wx → wx.cell? ⟨rb, ro + fn * 1, none⟩ = some (.string R)) := fun wx hx => by rw [Nat.mul_one]; exact later_cell HRw.out (Up.trans HUr.out hx)
      clear hb hU1
      go_wp2
      clear hc5 hfn2
      generalize w.heap.size = B at HTb ⊢
      refine region_alongK (fun x => Up wr x) (.read 0 (.read 1 (.read 2 (.read 3 (.read 4 (.read 5 (.read 7 (.read 8 (.step 6 (.step 9 (.read 10 (.read 11 (.read 12 (.read 13 (.read 14 (.nil)))))))))))))))) (by kernel_rfl) rfl (by kernel_rfl) (by kernel_rfl) (fun c a d v w h => by cases d <;> exact h) (Up.drew1 wr) ?_
      refine alongK_read (.slice (some ⟨rb, ro, none⟩) rn rc) rfl rfl (fun wx hS => ex_move (by rfl) (by rfl) wx) ?_
      change AlongK _ _ _ _ _ { tmps := #[.agg #[.int .i64 K, .int .i64 V, .int .i64 H, .string BS, .int .i64 T, .int .i64 (fn : Nat), .string S], .slice (some ⟨rb, ro, none⟩) rn rc, .pointer (some ⟨B, 0, none⟩), _, .bool false, _, _, _, _, _, _, _, _, _, _, _, _, _, .slice (some ⟨rb, ro, none⟩) rn rc, _, _, _, _, _, _, _, _, _, _, _, _], defers := _ } _
      refine alongK_read (.pointer (some ⟨B, 5, none⟩)) rfl rfl (fun wx hS => ex_field rfl rfl wx (by simp [go_sem])) ?_
      change AlongK _ _ _ _ _ { tmps := #[.agg #[.int .i64 K, .int .i64 V, .int .i64 H, .string BS, .int .i64 T, .int .i64 (fn : Nat), .string S], .slice (some ⟨rb, ro, none⟩) rn rc, .pointer (some ⟨B, 0, none⟩), _, .bool false, _, _, _, _, _, _, _, _, _, _, _, _, _, .slice (some ⟨rb, ro, none⟩) rn rc, .pointer (some ⟨B, 5, none⟩), _, _, _, _, _, _, _, _, _, _, _], defers := _ } _
      refine alongK_read (.int .i64 (fn : Nat)) rfl rfl (fun wx hS => ex_load Tryd.isAgg3 rfl rfl wx ((vt_cells ((hS.block B (lt_of_block HTb.out)).trans HTb.out)).2.2.2.2.2.1)) ?_
      change AlongK _ _ _ _ _ { tmps := #[.agg #[.int .i64 K, .int .i64 V, .int .i64 H, .string BS, .int .i64 T, .int .i64 (fn : Nat), .string S], .slice (some ⟨rb, ro, none⟩) rn rc, .pointer (some ⟨B, 0, none⟩), _, .bool false, _, _, _, _, _, _, _, _, _, _, _, _, _, .slice (some ⟨rb, ro, none⟩) rn rc, .pointer (some ⟨B, 5, none⟩), .int .i64 (fn : Nat), _, _, _, _, _, _, _, _, _, _], defers := _ } _
      refine alongK_read (.pointer (some ⟨rb, ro + fn * 1, none⟩)) rfl rfl (fun wx hS => ex_index Tryd.underlying25 Tryd.sizeOf9 rfl rfl rfl (hfn) wx) ?_
      change AlongK _ _ _ _ _ { tmps := #[.agg #[.int .i64 K, .int .i64 V, .int .i64 H, .string BS, .int .i64 T, .int .i64 (fn : Nat), .string S], .slice (some ⟨rb, ro, none⟩) rn rc, .pointer (some ⟨B, 0, none⟩), _, .bool false, _, _, _, _, _, _, _, _, _, _, _, _, _, .slice (some ⟨rb, ro, none⟩) rn rc, .pointer (some ⟨B, 5, none⟩), .int .i64 (fn : Nat), .pointer (some ⟨rb, ro + fn * 1, none⟩), _, _, _, _, _, _, _, _, _], defers := _ } _
      refine alongK_read (.string R) rfl rfl (fun wx hS => ex_load Tryd.isAgg9 rfl rfl wx (HRt.out wx hS)) ?_
      change AlongK _ _ _ _ _ { tmps := #[.agg #[.int .i64 K, .int .i64 V, .int .i64 H, .string BS, .int .i64 T, .int .i64 (fn : Nat), .string S], .slice (some ⟨rb, ro, none⟩) rn rc, .pointer (some ⟨B, 0, none⟩), _, .bool false, _, _, _, _, _, _, _, _, _, _, _, _, _, .slice (some ⟨rb, ro, none⟩) rn rc, .pointer (some ⟨B, 5, none⟩), .int .i64 (fn : Nat), .pointer (some ⟨rb, ro + fn * 1, none⟩), .string R, _, _, _, _, _, _, _, _], defers := _ } _
      refine alongK_read (.agg #[.int .i64 K, .int .i64 V, .int .i64 H, .string BS, .int .i64 T, .int .i64 (fn : Nat), .string S]) rfl rfl (fun wx hS => ex_loadrow rfl rfl wx 23 ((hS.block B (lt_of_block HTb.out)).trans HTb.out) Tryd.underlying23 rfl info_vt) ?_
      change AlongK _ _ _ _ _ { tmps := #[.agg #[.int .i64 K, .int .i64 V, .int .i64 H, .string BS, .int .i64 T, .int .i64 (fn : Nat), .string S], .slice (some ⟨rb, ro, none⟩) rn rc, .pointer (some ⟨B, 0, none⟩), _, .bool false, _, _, _, _, _, _, _, _, _, _, _, _, _, .slice (some ⟨rb, ro, none⟩) rn rc, .pointer (some ⟨B, 5, none⟩), .int .i64 (fn : Nat), .pointer (some ⟨rb, ro + fn * 1, none⟩), .string R, .agg #[.int .i64 K, .int .i64 V, .int .i64 H, .string BS, .int .i64 T, .int .i64 (fn : Nat), .string S], _, _, _, _, _, _, _], defers := _ } _
      refine alongK_read (.pointer (some ⟨B, 6, none⟩)) rfl rfl (fun wx hS => ex_field rfl rfl wx (by simp [go_sem])) ?_
      change AlongK _ _ _ _ _ { tmps := #[.agg #[.int .i64 K, .int .i64 V, .int .i64 H, .string BS, .int .i64 T, .int .i64 (fn : Nat), .string S], .slice (some ⟨rb, ro, none⟩) rn rc, .pointer (some ⟨B, 0, none⟩), _, .bool false, _, _, _, _, _, _, _, _, _, _, _, _, _, .slice (some ⟨rb, ro, none⟩) rn rc, .pointer (some ⟨B, 5, none⟩), .int .i64 (fn : Nat), .pointer (some ⟨rb, ro + fn * 1, none⟩), .string R, .agg #[.int .i64 K, .int .i64 V, .int .i64 H, .string BS, .int .i64 T, .int .i64 (fn : Nat), .string S], _, .pointer (some ⟨B, 6, none⟩), _, _, _, _, _], defers := _ } _
      refine alongK_read (.string S) rfl rfl (fun wx hS => ex_load Tryd.isAgg9 rfl rfl wx ((vt_cells ((hS.block B (lt_of_block HTb.out)).trans HTb.out)).2.2.2.2.2.2)) ?_
      change AlongK _ _ _ _ _ { tmps := #[.agg #[.int .i64 K, .int .i64 V, .int .i64 H, .string BS, .int .i64 T, .int .i64 (fn : Nat), .string S], .slice (some ⟨rb, ro, none⟩) rn rc, .pointer (some ⟨B, 0, none⟩), _, .bool false, _, _, _, _, _, _, _, _, _, _, _, _, _, .slice (some ⟨rb, ro, none⟩) rn rc, .pointer (some ⟨B, 5, none⟩), .int .i64 (fn : Nat), .pointer (some ⟨rb, ro + fn * 1, none⟩), .string R, .agg #[.int .i64 K, .int .i64 V, .int .i64 H, .string BS, .int .i64 T, .int .i64 (fn : Nat), .string S], _, .pointer (some ⟨B, 6, none⟩), .string S, _, _, _, _], defers := _ } _
      refine alongK_step ?_
      refine opK_call (vs := [.agg #[.int .i64 K, .int .i64 V, .int .i64 H, .string BS, .int .i64 T, .int .i64 (fn : Nat), .string S]]) rfl rfl rfl (enters_of Tryd.func19 (by kernel_rfl) rfl) rfl ?_
      with_reducible refine Calls.mono (HTx.out _) ?_
      rintro e w5 ⟨xa, xc, rfl, hI5, hU5⟩
      have hA5 : Up wr w5 := Up.trans (Up.drew1 wr) hU5
      refine ⟨_, rfl, (fun x => Up wr x), (fun x hx => hx), hA5, ?_⟩
      change AlongK _ _ _ _ _ { tmps := #[.agg #[.int .i64 K, .int .i64 V, .int .i64 H, .string BS, .int .i64 T, .int .i64 (fn : Nat), .string S], .slice (some ⟨rb, ro, none⟩) rn rc, .pointer (some ⟨B, 0, none⟩), _, .bool false, _, _, _, _, _, _, _, _, _, _, _, _, _, .slice (some ⟨rb, ro, none⟩) rn rc, .pointer (some ⟨B, 5, none⟩), .int .i64 (fn : Nat), .pointer (some ⟨rb, ro + fn * 1, none⟩), .string R, .agg #[.int .i64 K, .int .i64 V, .int .i64 H, .string BS, .int .i64 T, .int .i64 (fn : Nat), .string S], .slice xa tn xc, .pointer (some ⟨B, 6, none⟩), .string S, _, _, _, _], defers := _ } _
      refine alongK_step ?_
      refine opK_call (vs := [.string R, .int .i64 4, .slice xa tn xc, .string S]) rfl rfl rfl (enters_of Tryd.func26 (by kernel_rfl) rfl) rfl ?_
      with_reducible refine Calls.mono (HV.out _ xa xc hI5) ?_
      rintro e w7 ⟨⟨s0, ok, rfl, hg1, hg2⟩, hU7⟩
      have hA7 : Up wr w7 := Up.trans hA5 hU7
      refine ⟨_, rfl, (fun x => Up wr x), (fun x hx => hx), hA7, ?_⟩
      change AlongK _ _ _ _ _ { tmps := #[.agg #[.int .i64 K, .int .i64 V, .int .i64 H, .string BS, .int .i64 T, .int .i64 (fn : Nat), .string S], .slice (some ⟨rb, ro, none⟩) rn rc, .pointer (some ⟨B, 0, none⟩), _, .bool false, _, _, _, _, _, _, _, _, _, _, _, _, _, .slice (some ⟨rb, ro, none⟩) rn rc, .pointer (some ⟨B, 5, none⟩), .int .i64 (fn : Nat), .pointer (some ⟨rb, ro + fn * 1, none⟩), .string R, .agg #[.int .i64 K, .int .i64 V, .int .i64 H, .string BS, .int .i64 T, .int .i64 (fn : Nat), .string S], .slice xa tn xc, .pointer (some ⟨B, 6, none⟩), .string S, .tuple #[.int .i64 s0, .bool ok], _, _, _], defers := _ } _
      refine alongK_read (.tuple #[.int .i64 s0, .bool ok]) rfl rfl (fun wx hS => ex_move (by rfl) (by rfl) wx) ?_
      change AlongK _ _ _ _ _ { tmps := #[.agg #[.int .i64 K, .int .i64 V, .int .i64 H, .string BS, .int .i64 T, .int .i64 (fn : Nat), .string S], .slice (some ⟨rb, ro, none⟩) rn rc, .pointer (some ⟨B, 0, none⟩), _, .bool false, _, _, _, _, _, _, _, _, _, _, _, _, .tuple #[.int .i64 s0, .bool ok], .slice (some ⟨rb, ro, none⟩) rn rc, .pointer (some ⟨B, 5, none⟩), .int .i64 (fn : Nat), .pointer (some ⟨rb, ro + fn * 1, none⟩), .string R, .agg #[.int .i64 K, .int .i64 V, .int .i64 H, .string BS, .int .i64 T, .int .i64 (fn : Nat), .string S], .slice xa tn xc, .pointer (some ⟨B, 6, none⟩), .string S, .tuple #[.int .i64 s0, .bool ok], _, _, _], defers := _ } _
      refine alongK_read (.int .i64 s0) rfl rfl (fun wx hS => ex_extr (cs := #[.int .i64 s0, .bool ok]) rfl rfl rfl wx) ?_
      change AlongK _ _ _ _ _ { tmps := #[.agg #[.int .i64 K, .int .i64 V, .int .i64 H, .string BS, .int .i64 T, .int .i64 (fn : Nat), .string S], .slice (some ⟨rb, ro, none⟩) rn rc, .pointer (some ⟨B, 0, none⟩), _, .bool false, _, _, _, _, _, _, _, _, _, _, _, _, .tuple #[.int .i64 s0, .bool ok], .slice (some ⟨rb, ro, none⟩) rn rc, .pointer (some ⟨B, 5, none⟩), .int .i64 (fn : Nat), .pointer (some ⟨rb, ro + fn * 1, none⟩), .string R, .agg #[.int .i64 K, .int .i64 V, .int .i64 H, .string BS, .int .i64 T, .int .i64 (fn : Nat), .string S], .slice xa tn xc, .pointer (some ⟨B, 6, none⟩), .string S, .tuple #[.int .i64 s0, .bool ok], .int .i64 s0, _, _], defers := _ } _
      refine alongK_read (.bool ok) rfl rfl (fun wx hS => ex_extr (cs := #[.int .i64 s0, .bool ok]) rfl rfl rfl wx) ?_
      change AlongK _ _ _ _ _ { tmps := #[.agg #[.int .i64 K, .int .i64 V, .int .i64 H, .string BS, .int .i64 T, .int .i64 (fn : Nat), .string S], .slice (some ⟨rb, ro, none⟩) rn rc, .pointer (some ⟨B, 0, none⟩), _, .bool false, _, _, _, _, _, _, _, _, _, _, _, _, .tuple #[.int .i64 s0, .bool ok], .slice (some ⟨rb, ro, none⟩) rn rc, .pointer (some ⟨B, 5, none⟩), .int .i64 (fn : Nat), .pointer (some ⟨rb, ro + fn * 1, none⟩), .string R, .agg #[.int .i64 K, .int .i64 V, .int .i64 H, .string BS, .int .i64 T, .int .i64 (fn : Nat), .string S], .slice xa tn xc, .pointer (some ⟨B, 6, none⟩), .string S, .tuple #[.int .i64 s0, .bool ok], .int .i64 s0, .bool ok, _], defers := _ } _
      refine alongK_read (.int .i64 s0) rfl rfl (fun wx hS => ex_assign (by rfl) (by rfl) wx) ?_
      change AlongK _ _ _ _ _ { tmps := #[.agg #[.int .i64 K, .int .i64 V, .int .i64 H, .string BS, .int .i64 T, .int .i64 (fn : Nat), .string S], .slice (some ⟨rb, ro, none⟩) rn rc, .pointer (some ⟨B, 0, none⟩), _, .bool false, .int .i64 s0, _, _, _, _, _, _, _, _, _, _, _, .tuple #[.int .i64 s0, .bool ok], .slice (some ⟨rb, ro, none⟩) rn rc, .pointer (some ⟨B, 5, none⟩), .int .i64 (fn : Nat), .pointer (some ⟨rb, ro + fn * 1, none⟩), .string R, .agg #[.int .i64 K, .int .i64 V, .int .i64 H, .string BS, .int .i64 T, .int .i64 (fn : Nat), .string S], .slice xa tn xc, .pointer (some ⟨B, 6, none⟩), .string S, .tuple #[.int .i64 s0, .bool ok], .int .i64 s0, .bool ok, _], defers := _ } _
      refine alongK_read (.bool ok) rfl rfl (fun wx hS => ex_assign (by rfl) (by rfl) wx) ?_
      change AlongK _ _ _ _ _ { tmps := #[.agg #[.int .i64 K, .int .i64 V, .int .i64 H, .string BS, .int .i64 T, .int .i64 (fn : Nat), .string S], .slice (some ⟨rb, ro, none⟩) rn rc, .pointer (some ⟨B, 0, none⟩), _, .bool false, .int .i64 s0, .bool ok, _, _, _, _, _, _, _, _, _, _, .tuple #[.int .i64 s0, .bool ok], .slice (some ⟨rb, ro, none⟩) rn rc, .pointer (some ⟨B, 5, none⟩), .int .i64 (fn : Nat), .pointer (some ⟨rb, ro + fn * 1, none⟩), .string R, .agg #[.int .i64 K, .int .i64 V, .int .i64 H, .string BS, .int .i64 T, .int .i64 (fn : Nat), .string S], .slice xa tn xc, .pointer (some ⟨B, 6, none⟩), .string S, .tuple #[.int .i64 s0, .bool ok], .int .i64 s0, .bool ok, _], defers := _ } _
      refine alongK_done ?_
      clear hU7 hA5 hI5 hU5
      have H1 := Lib.hid hg1
      have H2 := Lib.hid hg2
      have HA7 := Lib.hid hA7
      clear hg1 hg2 hA7
      go_wp2
      go_ret
      exact ⟨_, rfl, fun h => (H1.out (HG.out.1 h)).2, fun h => (H2.out fun h2 => h (HG.out.2 h2)).2, Up.trans HUr.out HA7.out⟩
    · have HG : Hid (¬ VtGood v sig ls) := fun h => hfn (by have := h.2.1; rwa [hgt] at this)
      have hfn2 : (ls.length : Int) ≤ v.G := by omega
      generalize VtGood v sig ls = TG at HG ⊢
      generalize strOfNums sig = S at Hc ⊢
      generalize ls.length = rn at hfn2 ⊢
      unfold vtC
      clear hE hrd hrn hrc hu hsl hll hfn hgt hfg hok hvb
      obtain ⟨K, V, H, BL, T, G⟩ := v
      simp only at Hc hfn2 ⊢
      generalize strOfNums BL = BS at Hc ⊢
      go_enter Tryd.func12, Tryd.ntmps12
      go_wp2_with fail
      with_reducible refine Calls.mono (Hc.out _) ?_
      rintro e wr ⟨rfl, hU1⟩
      have hb := (hU1.block w.heap.size (by simp)).trans (heap_alloc_new w (.cells #[.int .i64 K, .int .i64 V, .int .i64 H, .string BS, .int .i64 T, .int .i64 G, .string S] 23))
      have hc5 := (vt_cells hb).2.2.2.2.2.1
      have HUr := Lib.hid (Up.trans (Up.alloc (Up.refl w) _) hU1)
      clear hb hU1
      go_wp2
      go_ret
      exact ⟨_, rfl, fun h => absurd h HG.out, fun _ => rfl, HUr.out⟩
  · have HG : Hid (¬ VtGood v sig ls) := fun h => hE h.1
    have hE9 := vtE_nine hE
    have Hc : Hid (∀ wx, Calls Tryd.prog 15 #[.agg #[.int .i64 v.K, .int .i64 v.V, .int .i64 v.H, .string (strOfNums v.B), .int .i64 v.T, .int .i64 v.G, .string (strOfNums sig)]] wx fun e w' => e = .returned (.int .i64 9) ∧ Up wx w') := fun wx => by have := vtCheck_any v (strOfNums sig) wx; rw [hE9] at this; exact this
    generalize VtGood v sig ls = TG at HG ⊢
    generalize strOfNums sig = S at Hc ⊢
    generalize ls.length = rn at ⊢
    unfold vtC
    clear hE hE9 hrd hrn hrc hu hsl hll hvb
    obtain ⟨K, V, H, BL, T, G⟩ := v
    simp only at Hc ⊢
    generalize strOfNums BL = BS at Hc ⊢
    go_enter Tryd.func12, Tryd.ntmps12
    go_wp2_with fail
    with_reducible refine Calls.mono (Hc.out _) ?_
    rintro e wr ⟨rfl, hU1⟩
    have HUr := Lib.hid (Up.trans (Up.alloc (Up.refl w) _) hU1)
    clear hU1
    go_wp2
    go_ret
    exact ⟨_, rfl, fun h => absurd h HG.out, fun _ => rfl, HUr.out⟩
end
end
end Go.Proofs.YtenhjjbbmmomaaaDoor
