import Derived.Test.YtfenmhddlojahaaBkName
import Derived.Test.YtfenmhddlojahaaBkAlive
import Derived.Test.YtfenmhddlojahaaRefBk
/-
  BlockNames: the walk returns true.
-/
namespace Go.Proofs.Ytfenmhddlojahaa
set_option maxRecDepth 100000
section
set_option linter.unusedVariables false
open Go.RowKit Go.Sort Go.Lib

theorem bkC_one (V H : Int) (P : ByteArray) (JV JH : Int) (JB : ByteArray) (ja : Option Addr) (jn jc : Nat) (ta : Option Addr) (n tc : Nat) (S : ByteArray) : (#[.int .i64 V, .int .i64 H, .string P, .int .i64 JV, .int .i64 JH, .string JB, .slice ja jn jc, .slice ta n tc, .string S] : Array Value).all (·.oneCell') = true := by simp [Value.oneCell']
theorem ex_fillb {o : Oper} {x y : Operand} {ρ : Operand → Value} {W : World} {c0 c1 : Array Value} (hop : o.op = .store 27 x y) (hx : ρ x = .pointer (some ⟨W.heap.size, 0, none⟩)) (hy : ρ y = .agg c1) (h0 : c0.size = 9) (h1 : c1.size = 9) (h2 : c1.all (·.oneCell') = true) :
    (execOp ρ o).run Try.prog (W.alloc (.cells c0 27)) = .ok .skip (W.alloc (.cells c1 27)) := by
  have h1 := ex_storerow (P := Try.prog) (g := W.heap.size) (c0 := c0) (c1 := c1) hop hx hy (W.alloc (.cells c0 27)) 27 (heap_alloc_new W _) (by rw [h1]; exact info_bk) (by rw [h0, h1]) h2
  rwa [World.setRow_alloc_new] at h1

set_option maxHeartbeats 8000000 in
theorem lawBlockNames_any (V H : Int) (P : ByteArray) (JV JH : Int) (JB : ByteArray) (ja : Option Addr) (jn jc : Nat) (ta : Option Addr) (n tc : Nat) (S : ByteArray) (xs : List Ts) (va : Option Addr) (vn vc : Nat) (SG : ByteArray) (w : World) (ht : TArg w (.slice ta n tc) xs) (hsz : n ≤ 9223372036854775807) :
    Calls Try.prog 3 #[.agg (bkC V H P JV JH JB ja jn jc ta n tc S), .slice va vn vc, .string SG] w fun e w' => e = .returned (.bool true) ∧ Up w w' := by
  have HRB : Hid (∀ wx, Up w wx → Calls Try.prog 5 #[.agg (bkC V H P JV JH JB ja jn jc ta n tc S)] wx fun e w' => e = .returned (.int .i64 (bkE V H P JV JH JB xs S)) ∧ Up wx w') := fun wx u => refBlock_any V H P JV JH JB ja jn jc ta n tc S xs wx (ht.up u)
  have HRC : Hid (∀ wx, Up w wx → Calls Try.prog 5 #[.agg (bkC V H P JV JH JB va vn vc ta n tc SG)] wx fun e w' => e = .returned (.int .i64 (bkE V H P JV JH JB xs SG)) ∧ Up wx w') := fun wx u => refBlock_any V H P JV JH JB va vn vc ta n tc SG xs wx (ht.up u)
  have HNO : Hid (¬ BkMay V H P JV JH JB xs S → ∀ wx, Up w wx → Calls Try.prog 6 #[.agg (bkC V H P JV JH JB ja jn jc ta n tc S)] wx fun e w' => e = .returned (.string ⟨#[]⟩) ∧ Up wx w') := fun hm wx u => bkName_no V H P JV JH JB ja jn jc ta n tc S xs wx hm hsz (ht.up u)
  have HYB : Hid (BkMay V H P JV JH JB xs S → ∀ wx, Up w wx → Calls Try.prog 6 #[.agg (bkC V H P JV JH JB ja jn jc ta n tc S)] wx fun e w' => e = .returned (.string (strOfNums (sumB (bkL V H P JV xs).flatten))) ∧ Up wx w') := fun hm wx u => bkName_ok V H P JV JH JB ja jn jc ta n tc S xs wx hm (ht.up u)
  have HYC : Hid (BkMay V H P JV JH JB xs SG → ∀ wx, Up w wx → Calls Try.prog 6 #[.agg (bkC V H P JV JH JB va vn vc ta n tc SG)] wx fun e w' => e = .returned (.string (strOfNums (sumB (bkL V H P JV xs).flatten))) ∧ Up wx w') := fun hm wx u => bkName_ok V H P JV JH JB va vn vc ta n tc SG xs wx hm (ht.up u)
  have HSZ : Hid (((strOfNums (sumB (bkL V H P JV xs).flatten)).size : Int) == 32) := by (have h : ((strOfNums (sumB (bkL V H P JV xs).flatten)).size : Int) == 32 := by rw [strOfNums_size, sumB_length]; rfl); exact h
  generalize strOfNums (sumB (bkL V H P JV xs).flatten) = N at HYB HYC HSZ
  have HEB : Hid ((BkMay V H P JV JH JB xs S → bkE V H P JV JH JB xs S = 0) ∧ (¬ BkMay V H P JV JH JB xs S → bkE V H P JV JH JB xs S = 9)) := ⟨bkE_ok, bkE_no⟩
  have HEC : Hid ((BkMay V H P JV JH JB xs SG → bkE V H P JV JH JB xs SG = 0) ∧ (¬ BkMay V H P JV JH JB xs SG → bkE V H P JV JH JB xs SG = 9)) := ⟨bkE_ok, bkE_no⟩
  generalize bkE V H P JV JH JB xs S = E1 at HRB HEB
  generalize bkE V H P JV JH JB xs SG = E2 at HRC HEC
  generalize BkMay V H P JV JH JB xs S = B1 at HNO HYB HEB
  generalize BkMay V H P JV JH JB xs SG = B2 at HYC HEC
  have HU0 := Lib.hid (Up.alloc (Up.refl w) (.cells (bkC V H P JV JH JB ja jn jc ta n tc S) 27))
  have HB0 := Lib.hid (heap_alloc_new w (.cells (bkC V H P JV JH JB ja jn jc ta n tc S) 27))
  have HAL := Lib.hid (fun wx => bkAlive_any wx)
  unfold bkC at HU0 HB0 HRB HRC HNO HYB HYC ⊢
  clear ht hsz
  go_enter Try.func3, Try.ntmps3
  go_wp2_with fail
  generalize w.alloc (.cells #[.int .i64 V, .int .i64 H, .string P, .int .i64 JV, .int .i64 JH, .string JB, .slice ja jn jc, .slice ta n tc, .string S] 27) = w1 at HU0 HB0 ⊢
  generalize w.heap.size = M at HB0 ⊢
  with_reducible refine Calls.mono (HAL.out _) ?_
  rintro e w2 ⟨rfl, u2⟩
  have HU2 := Lib.hid (Up.trans HU0.out u2)
  have HB2 := Lib.hid ((u2.block _ (lt_of_block HB0.out)).trans HB0.out)
  clear u2 HU0 HB0
  have HU3 : Hid (Up w2 (w2.alloc (.cells #[.int .i64 V, .int .i64 H, .string P, .int .i64 JV, .int .i64 JH, .string JB, .slice va vn vc, .slice ta n tc, .string SG] 27))) := Up.alloc (Up.refl w2) _
  have HC3 := Lib.hid (heap_alloc_new w2 (.cells #[.int .i64 V, .int .i64 H, .string P, .int .i64 JV, .int .i64 JH, .string JB, .slice va vn vc, .slice ta n tc, .string SG] 27))
  have HB3 := Lib.hid ((HU3.out.block _ (lt_of_block HB2.out)).trans HB2.out)
  go_upto_region 5 with (first | (refine wpList_ex rfl (.agg #[.int .i64 V, .int .i64 H, .string P, .int .i64 JV, .int .i64 JH, .string JB, .slice ja jn jc, .slice ta n tc, .string S]) _ (ex_loadrow (x := .tmp 3) rfl rfl _ 27 HB2.out Try.underlying27 rfl info_bk) ?_) | (refine wpList_exs rfl _ (ex_fillb (x := .tmp 7) (y := .tmp 10) (W := w2) rfl rfl rfl rfl rfl (bkC_one _ _ _ _ _ _ _ _ _ _ _ _ _)) ?_))
  generalize w2.alloc (.cells #[.int .i64 V, .int .i64 H, .string P, .int .i64 JV, .int .i64 JH, .string JB, .slice va vn vc, .slice ta n tc, .string SG] 27) = w3 at HU3 HC3 HB3 ⊢
  generalize w2.heap.size = C at HC3 ⊢
  have HUW := Lib.hid (Up.trans HU2.out HU3.out)
  have HBW : Hid (∀ wx, Up w3 wx → wx.heap[M]? = some (.cells #[.int .i64 V, .int .i64 H, .string P, .int .i64 JV, .int .i64 JH, .string JB, .slice ja jn jc, .slice ta n tc, .string S] 27 (0, 0))) := fun wx u => (u.block _ (lt_of_block HB3.out)).trans HB3.out
  have HCW : Hid (∀ wx, Up w3 wx → wx.heap[C]? = some (.cells #[.int .i64 V, .int .i64 H, .string P, .int .i64 JV, .int .i64 JH, .string JB, .slice va vn vc, .slice ta n tc, .string SG] 27 (0, 0))) := fun wx u => (u.block _ (lt_of_block HC3.out)).trans HC3.out
  clear HU2 HB2 HU3 HC3
  by_cases b1 : B1
  · obtain rfl := HEB.out.1 b1
    have HYB2 := Lib.hid (HYB.out b1)
    by_cases b2 : B2
    · obtain rfl := HEC.out.1 b2
      have HYC2 := Lib.hid (HYC.out b2)
      clear HEB HEC HNO HYB HYC b1 b2
      go_wp2_with (refine wpList_ex rfl (.agg #[.int .i64 V, .int .i64 H, .string P, .int .i64 JV, .int .i64 JH, .string JB, .slice ja jn jc, .slice ta n tc, .string S]) _ (ex_loadrow (x := .tmp 3) rfl rfl _ 27 HB3.out Try.underlying27 rfl info_bk) ?_)
      with_reducible refine Calls.mono (HRB.out _ HUW.out) ?_
      rintro e w4 ⟨rfl, u4⟩
      have HU4 := Lib.hid u4
      obtain ⟨c0, c1, c2, c3, c4, c5, c6, c7, c8⟩ := bk_cells (HCW.out _ u4)
      clear u4
      go_wp2_with fail
      with_reducible refine Calls.mono (HRC.out _ (Up.trans HUW.out HU4.out)) ?_
      rintro e wr ⟨rfl, u5⟩
      have HU5 := Lib.hid (Up.trans HU4.out u5)
      have HUR := Lib.hid (Up.trans HUW.out HU5.out)
      clear u5 c0 c1 c2 c3 c4 c5 c6 c7 c8
      have HB : Hid (∀ wx, Up wr wx → wx.heap[M]? = some (.cells #[.int .i64 V, .int .i64 H, .string P, .int .i64 JV, .int .i64 JH, .string JB, .slice ja jn jc, .slice ta n tc, .string S] 27 (0, 0))) := fun wx u => HBW.out wx (Up.trans HU5.out u)
      have HC : Hid (∀ wx, Up wr wx → wx.heap[C]? = some (.cells #[.int .i64 V, .int .i64 H, .string P, .int .i64 JV, .int .i64 JH, .string JB, .slice va vn vc, .slice ta n tc, .string SG] 27 (0, 0))) := fun wx u => HCW.out wx (Up.trans HU5.out u)
      have HNB : Hid (∀ wx, Up wr wx → Calls Try.prog 6 #[.agg #[.int .i64 V, .int .i64 H, .string P, .int .i64 JV, .int .i64 JH, .string JB, .slice ja jn jc, .slice ta n tc, .string S]] wx fun e w' => e = .returned (.string N) ∧ Up wx w') := fun wx u => HYB2.out wx (Up.trans HUR.out u)
      have HNC : Hid (∀ wx, Up wr wx → Calls Try.prog 6 #[.agg #[.int .i64 V, .int .i64 H, .string P, .int .i64 JV, .int .i64 JH, .string JB, .slice va vn vc, .slice ta n tc, .string SG]] wx fun e w' => e = .returned (.string N) ∧ Up wx w') := fun wx u => HYC2.out wx (Up.trans HUR.out u)
      go_wp2_with fail
      refine region_alongK (fun x => Up wr x) (.read 0 (.read 2 (.step 1 (.step 3 (.read 4 (.read 5 (.read 6 (.step 7 (.read 8 (.read 9 (.read 10 (.read 11 (.nil))))))))))))) (by kernel_rfl) rfl (by kernel_rfl) (by kernel_rfl) (fun c a d v w h => by cases d <;> exact h) (Up.drew1 wr) ?_
      refine alongK_read (.agg #[.int .i64 V, .int .i64 H, .string P, .int .i64 JV, .int .i64 JH, .string JB, .slice ja jn jc, .slice ta n tc, .string S]) rfl rfl (fun wx hS => ex_loadrow rfl rfl wx 27 (HB.out wx hS) Try.underlying27 rfl info_bk) ?_
      change AlongK _ _ _ _ _ { tmps := #[_, _, _, .pointer (some ⟨M, 0, none⟩), _, _, .bool false, .pointer (some ⟨C, 0, none⟩), _, _, _, _, _, _, _, _, _, _, _, _, _, _, _, _, _, _, _, _, _, _, _, _, .agg #[.int .i64 V, .int .i64 H, .string P, .int .i64 JV, .int .i64 JH, .string JB, .slice ja jn jc, .slice ta n tc, .string S], _, _, _, _, _, _, _, _, _, _], defers := _ } _
      refine alongK_read (.agg #[.int .i64 V, .int .i64 H, .string P, .int .i64 JV, .int .i64 JH, .string JB, .slice va vn vc, .slice ta n tc, .string SG]) rfl rfl (fun wx hS => ex_loadrow rfl rfl wx 27 (HC.out wx hS) Try.underlying27 rfl info_bk) ?_
      change AlongK _ _ _ _ _ { tmps := #[_, _, _, .pointer (some ⟨M, 0, none⟩), _, _, .bool false, .pointer (some ⟨C, 0, none⟩), _, _, _, _, _, _, _, _, _, _, _, _, _, _, _, _, _, _, _, _, _, _, _, _, .agg #[.int .i64 V, .int .i64 H, .string P, .int .i64 JV, .int .i64 JH, .string JB, .slice ja jn jc, .slice ta n tc, .string S], _, .agg #[.int .i64 V, .int .i64 H, .string P, .int .i64 JV, .int .i64 JH, .string JB, .slice va vn vc, .slice ta n tc, .string SG], _, _, _, _, _, _, _, _], defers := _ } _
      refine alongK_step ?_
      refine opK_call (vs := [.agg #[.int .i64 V, .int .i64 H, .string P, .int .i64 JV, .int .i64 JH, .string JB, .slice ja jn jc, .slice ta n tc, .string S]]) rfl rfl rfl (enters_of Try.func6 (by kernel_rfl) rfl) rfl ?_
      with_reducible refine Calls.mono (HNB.out _ (Up.drew1 wr)) ?_
      rintro e y1 ⟨rfl, hy1⟩
      refine ⟨_, rfl, (fun x => Up wr x), (fun _ h => h), (Up.trans (Up.drew1 wr) hy1), ?_⟩
      change AlongK _ _ _ _ _ { tmps := #[_, _, _, .pointer (some ⟨M, 0, none⟩), _, _, .bool false, .pointer (some ⟨C, 0, none⟩), _, _, _, _, _, _, _, _, _, _, _, _, _, _, _, _, _, _, _, _, _, _, _, _, .agg #[.int .i64 V, .int .i64 H, .string P, .int .i64 JV, .int .i64 JH, .string JB, .slice ja jn jc, .slice ta n tc, .string S], .string N, .agg #[.int .i64 V, .int .i64 H, .string P, .int .i64 JV, .int .i64 JH, .string JB, .slice va vn vc, .slice ta n tc, .string SG], _, _, _, _, _, _, _, _], defers := _ } _
      refine alongK_step ?_
      refine opK_call (vs := [.agg #[.int .i64 V, .int .i64 H, .string P, .int .i64 JV, .int .i64 JH, .string JB, .slice va vn vc, .slice ta n tc, .string SG]]) rfl rfl rfl (enters_of Try.func6 (by kernel_rfl) rfl) rfl ?_
      with_reducible refine Calls.mono (HNC.out _ (Up.trans (Up.drew1 wr) hy1)) ?_
      rintro e y3 ⟨rfl, hy3⟩
      refine ⟨_, rfl, (fun x => Up wr x), (fun _ h => h), (Up.trans (Up.trans (Up.drew1 wr) hy1) hy3), ?_⟩
      change AlongK _ _ _ _ _ { tmps := #[_, _, _, .pointer (some ⟨M, 0, none⟩), _, _, .bool false, .pointer (some ⟨C, 0, none⟩), _, _, _, _, _, _, _, _, _, _, _, _, _, _, _, _, _, _, _, _, _, _, _, _, .agg #[.int .i64 V, .int .i64 H, .string P, .int .i64 JV, .int .i64 JH, .string JB, .slice ja jn jc, .slice ta n tc, .string S], .string N, .agg #[.int .i64 V, .int .i64 H, .string P, .int .i64 JV, .int .i64 JH, .string JB, .slice va vn vc, .slice ta n tc, .string SG], .string N, _, _, _, _, _, _, _], defers := _ } _
      refine alongK_read (.bool true) rfl rfl (fun wx hS => ex_eqs rfl (by rfl) (by rfl) wx) ?_
      change AlongK _ _ _ _ _ { tmps := #[_, _, _, .pointer (some ⟨M, 0, none⟩), _, _, .bool false, .pointer (some ⟨C, 0, none⟩), _, _, _, _, _, _, _, _, _, _, _, _, _, _, _, _, _, _, _, _, _, _, _, _, .agg #[.int .i64 V, .int .i64 H, .string P, .int .i64 JV, .int .i64 JH, .string JB, .slice ja jn jc, .slice ta n tc, .string S], .string N, .agg #[.int .i64 V, .int .i64 H, .string P, .int .i64 JV, .int .i64 JH, .string JB, .slice va vn vc, .slice ta n tc, .string SG], .string N, .bool true, _, _, _, _, _, _], defers := _ } _
      refine alongK_read (.bool true) rfl rfl (fun wx hS => ex_move (by rfl) (by rfl) wx) ?_
      change AlongK _ _ _ _ _ { tmps := #[_, _, _, .pointer (some ⟨M, 0, none⟩), _, _, .bool false, .pointer (some ⟨C, 0, none⟩), _, _, _, _, _, _, _, _, _, _, _, _, _, _, _, _, _, _, _, _, _, _, _, _, .agg #[.int .i64 V, .int .i64 H, .string P, .int .i64 JV, .int .i64 JH, .string JB, .slice ja jn jc, .slice ta n tc, .string S], .string N, .agg #[.int .i64 V, .int .i64 H, .string P, .int .i64 JV, .int .i64 JH, .string JB, .slice va vn vc, .slice ta n tc, .string SG], .string N, .bool true, .bool true, _, _, _, _, _], defers := _ } _
      refine alongK_read (.agg #[.int .i64 V, .int .i64 H, .string P, .int .i64 JV, .int .i64 JH, .string JB, .slice ja jn jc, .slice ta n tc, .string S]) rfl rfl (fun wx hS => ex_loadrow rfl rfl wx 27 (HB.out wx hS) Try.underlying27 rfl info_bk) ?_
      change AlongK _ _ _ _ _ { tmps := #[_, _, _, .pointer (some ⟨M, 0, none⟩), _, _, .bool false, .pointer (some ⟨C, 0, none⟩), _, _, _, _, _, _, _, _, _, _, _, _, _, _, _, _, _, _, _, _, _, _, _, _, .agg #[.int .i64 V, .int .i64 H, .string P, .int .i64 JV, .int .i64 JH, .string JB, .slice ja jn jc, .slice ta n tc, .string S], .string N, .agg #[.int .i64 V, .int .i64 H, .string P, .int .i64 JV, .int .i64 JH, .string JB, .slice va vn vc, .slice ta n tc, .string SG], .string N, .bool true, .bool true, .agg #[.int .i64 V, .int .i64 H, .string P, .int .i64 JV, .int .i64 JH, .string JB, .slice ja jn jc, .slice ta n tc, .string S], _, _, _, _], defers := _ } _
      refine alongK_step ?_
      refine opK_call (vs := [.agg #[.int .i64 V, .int .i64 H, .string P, .int .i64 JV, .int .i64 JH, .string JB, .slice ja jn jc, .slice ta n tc, .string S]]) rfl rfl rfl (enters_of Try.func6 (by kernel_rfl) rfl) rfl ?_
      with_reducible refine Calls.mono (HNB.out _ (Up.trans (Up.trans (Up.drew1 wr) hy1) hy3)) ?_
      rintro e y7 ⟨rfl, hy7⟩
      refine ⟨_, rfl, (fun x => Up wr x), (fun _ h => h), (Up.trans (Up.trans (Up.trans (Up.drew1 wr) hy1) hy3) hy7), ?_⟩
      change AlongK _ _ _ _ _ { tmps := #[_, _, _, .pointer (some ⟨M, 0, none⟩), _, _, .bool false, .pointer (some ⟨C, 0, none⟩), _, _, _, _, _, _, _, _, _, _, _, _, _, _, _, _, _, _, _, _, _, _, _, _, .agg #[.int .i64 V, .int .i64 H, .string P, .int .i64 JV, .int .i64 JH, .string JB, .slice ja jn jc, .slice ta n tc, .string S], .string N, .agg #[.int .i64 V, .int .i64 H, .string P, .int .i64 JV, .int .i64 JH, .string JB, .slice va vn vc, .slice ta n tc, .string SG], .string N, .bool true, .bool true, .agg #[.int .i64 V, .int .i64 H, .string P, .int .i64 JV, .int .i64 JH, .string JB, .slice ja jn jc, .slice ta n tc, .string S], .string N, _, _, _], defers := _ } _
      refine alongK_read (.int .i64 (N.size : Int)) rfl rfl (fun wx hS => ex_lens Try.underlying9 rfl rfl wx) ?_
      change AlongK _ _ _ _ _ { tmps := #[_, _, _, .pointer (some ⟨M, 0, none⟩), _, _, .bool false, .pointer (some ⟨C, 0, none⟩), _, _, _, _, _, _, _, _, _, _, _, _, _, _, _, _, _, _, _, _, _, _, _, _, .agg #[.int .i64 V, .int .i64 H, .string P, .int .i64 JV, .int .i64 JH, .string JB, .slice ja jn jc, .slice ta n tc, .string S], .string N, .agg #[.int .i64 V, .int .i64 H, .string P, .int .i64 JV, .int .i64 JH, .string JB, .slice va vn vc, .slice ta n tc, .string SG], .string N, .bool true, .bool true, .agg #[.int .i64 V, .int .i64 H, .string P, .int .i64 JV, .int .i64 JH, .string JB, .slice ja jn jc, .slice ta n tc, .string S], .string N, .int .i64 (N.size : Int), _, _], defers := _ } _
      refine alongK_read (.bool true) rfl rfl (fun wx hS => ex_eqi rfl rfl rfl HSZ.out wx) ?_
      change AlongK _ _ _ _ _ { tmps := #[_, _, _, .pointer (some ⟨M, 0, none⟩), _, _, .bool false, .pointer (some ⟨C, 0, none⟩), _, _, _, _, _, _, _, _, _, _, _, _, _, _, _, _, _, _, _, _, _, _, _, _, .agg #[.int .i64 V, .int .i64 H, .string P, .int .i64 JV, .int .i64 JH, .string JB, .slice ja jn jc, .slice ta n tc, .string S], .string N, .agg #[.int .i64 V, .int .i64 H, .string P, .int .i64 JV, .int .i64 JH, .string JB, .slice va vn vc, .slice ta n tc, .string SG], .string N, .bool true, .bool true, .agg #[.int .i64 V, .int .i64 H, .string P, .int .i64 JV, .int .i64 JH, .string JB, .slice ja jn jc, .slice ta n tc, .string S], .string N, .int .i64 (N.size : Int), .bool true, _], defers := _ } _
      refine alongK_read (.bool true) rfl rfl (fun wx hS => ex_pickt rfl (by rfl) (by rfl) wx) ?_
      change AlongK _ _ _ _ _ { tmps := #[_, _, _, .pointer (some ⟨M, 0, none⟩), _, _, .bool false, .pointer (some ⟨C, 0, none⟩), _, _, _, _, _, _, _, _, _, _, _, _, _, _, _, _, _, _, _, _, _, _, _, _, .agg #[.int .i64 V, .int .i64 H, .string P, .int .i64 JV, .int .i64 JH, .string JB, .slice ja jn jc, .slice ta n tc, .string S], .string N, .agg #[.int .i64 V, .int .i64 H, .string P, .int .i64 JV, .int .i64 JH, .string JB, .slice va vn vc, .slice ta n tc, .string SG], .string N, .bool true, .bool true, .agg #[.int .i64 V, .int .i64 H, .string P, .int .i64 JV, .int .i64 JH, .string JB, .slice ja jn jc, .slice ta n tc, .string S], .string N, .int .i64 (N.size : Int), .bool true, .bool true], defers := _ } _
      refine alongK_read (.bool true) rfl rfl (fun wx hS => ex_assign (by rfl) (by rfl) wx) ?_
      change AlongK _ _ _ _ _ { tmps := #[_, _, _, .pointer (some ⟨M, 0, none⟩), _, _, .bool true, .pointer (some ⟨C, 0, none⟩), _, _, _, _, _, _, _, _, _, _, _, _, _, _, _, _, _, _, _, _, _, _, _, _, .agg #[.int .i64 V, .int .i64 H, .string P, .int .i64 JV, .int .i64 JH, .string JB, .slice ja jn jc, .slice ta n tc, .string S], .string N, .agg #[.int .i64 V, .int .i64 H, .string P, .int .i64 JV, .int .i64 JH, .string JB, .slice va vn vc, .slice ta n tc, .string SG], .string N, .bool true, .bool true, .agg #[.int .i64 V, .int .i64 H, .string P, .int .i64 JV, .int .i64 JH, .string JB, .slice ja jn jc, .slice ta n tc, .string S], .string N, .int .i64 (N.size : Int), .bool true, .bool true], defers := _ } _
      refine alongK_done ?_
      focus
        have HEND := Lib.hid (Up.trans (Up.trans (Up.trans (Up.drew1 wr) hy1) hy3) hy7)
        go_wp2
        go_ret
        exact ⟨rfl, Up.trans HUR.out HEND.out⟩
    · obtain rfl := HEC.out.2 b2
      clear HEB HEC HNO HYB HYC b1 b2
      go_wp2_with (refine wpList_ex rfl (.agg #[.int .i64 V, .int .i64 H, .string P, .int .i64 JV, .int .i64 JH, .string JB, .slice ja jn jc, .slice ta n tc, .string S]) _ (ex_loadrow (x := .tmp 3) rfl rfl _ 27 HB3.out Try.underlying27 rfl info_bk) ?_)
      with_reducible refine Calls.mono (HRB.out _ HUW.out) ?_
      rintro e w4 ⟨rfl, u4⟩
      have HU4 := Lib.hid u4
      obtain ⟨c0, c1, c2, c3, c4, c5, c6, c7, c8⟩ := bk_cells (HCW.out _ u4)
      clear u4
      go_wp2_with fail
      with_reducible refine Calls.mono (HRC.out _ (Up.trans HUW.out HU4.out)) ?_
      rintro e w5 ⟨rfl, u5⟩
      have HU5 := Lib.hid (Up.trans HU4.out u5)
      have HB5 := Lib.hid (HBW.out _ HU5.out)
      clear u5 c0 c1 c2 c3 c4 c5 c6 c7 c8
      go_wp2_with (refine wpList_ex rfl (.agg #[.int .i64 V, .int .i64 H, .string P, .int .i64 JV, .int .i64 JH, .string JB, .slice ja jn jc, .slice ta n tc, .string S]) _ (ex_loadrow (x := .tmp 3) rfl rfl _ 27 HB5.out Try.underlying27 rfl info_bk) ?_)
      with_reducible refine Calls.mono (HRB.out _ (Up.trans HUW.out HU5.out)) ?_
      rintro e w6 ⟨rfl, u6⟩
      have HU6 := Lib.hid (Up.trans HUW.out (Up.trans HU5.out u6))
      clear u6
      go_wp2
      go_ret
      exact ⟨rfl, HU6.out⟩
  · obtain rfl := HEB.out.2 b1
    have HNO2 := Lib.hid (HNO.out b1)
    clear HEB HEC HNO HYB HYC b1
    go_wp2_with (refine wpList_ex rfl (.agg #[.int .i64 V, .int .i64 H, .string P, .int .i64 JV, .int .i64 JH, .string JB, .slice ja jn jc, .slice ta n tc, .string S]) _ (ex_loadrow (x := .tmp 3) rfl rfl _ 27 HB3.out Try.underlying27 rfl info_bk) ?_)
    with_reducible refine Calls.mono (HRB.out _ HUW.out) ?_
    rintro e w4 ⟨rfl, u4⟩
    have HU4 := Lib.hid u4
    have HB4 := Lib.hid (HBW.out _ u4)
    clear u4
    go_wp2_with (refine wpList_ex rfl (.agg #[.int .i64 V, .int .i64 H, .string P, .int .i64 JV, .int .i64 JH, .string JB, .slice ja jn jc, .slice ta n tc, .string S]) _ (ex_loadrow (x := .tmp 3) rfl rfl _ 27 HB4.out Try.underlying27 rfl info_bk) ?_)
    with_reducible refine Calls.mono (HRB.out _ (Up.trans HUW.out HU4.out)) ?_
    rintro e w5 ⟨rfl, u5⟩
    have HU5 := Lib.hid (Up.trans HU4.out u5)
    obtain ⟨c0, c1, c2, c3, c4, c5, c6, c7, c8⟩ := bk_cells (HBW.out _ HU5.out)
    clear u5
    go_wp2_with fail
    with_reducible refine Calls.mono (HNO2.out _ (Up.trans HUW.out HU5.out)) ?_
    rintro e w6 ⟨rfl, u6⟩
    have HU6 := Lib.hid (Up.trans HUW.out (Up.trans HU5.out u6))
    clear u6 c0 c1 c2 c3 c4 c5 c6 c7 c8
    go_wp2
    go_ret
    exact ⟨rfl, HU6.out⟩
theorem lawBlockNames_in (V H : Int) (P : ByteArray) (JV JH : Int) (JB : ByteArray) (ja : Option Addr) (jn jc : Nat) (ta : Option Addr) (n tc : Nat) (S : ByteArray) (xs : List Ts) (v : Value) (va : Option Addr) (vn vc : Nat) (hv : v = .slice va vn vc) (SG : ByteArray) (w : World) (ht : TArg w (.slice ta n tc) xs) (hsz : n ≤ 9223372036854775807) :
    Calls Try.prog 3 #[.agg (bkC V H P JV JH JB ja jn jc ta n tc S), v, .string SG] w fun e w' => e = .returned (.bool true) ∧ Up w w' := by
  subst hv
  exact lawBlockNames_any V H P JV JH JB ja jn jc ta n tc S xs va vn vc SG w ht hsz
end
end Go.Proofs.Ytfenmhddlojahaa
