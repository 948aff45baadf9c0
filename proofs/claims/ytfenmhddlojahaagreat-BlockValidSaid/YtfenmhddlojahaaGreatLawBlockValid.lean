import Derived.Test.YtfenmhddlojahaaGreatRfBkV
import Derived.Test.YtfenmhddlojahaaGreatBkArg
/-
  BlockValid: the walk returns true.
-/
namespace Go.Proofs.YtfenmhddlojahaaGreat
set_option maxRecDepth 100000
section
set_option linter.unusedVariables false
open Go.RowKit Go.Sort Go.Lib

theorem bool_eq2 (b : Bool) (x y : Operand) (w : World) : (do eqGuard .eql 4 x y (.bool b) (.bool b); binOp .eql 4 (.bool b) (.bool b) : Sem Value).run Tryz.prog w = .ok (.bool true) w := by
  simp [eqGuard, go_sem]
theorem says_bool {f : FuncId} {args : Array Value} {w : World} {P : Prop} {b : Bool} (hb : b = true ↔ P) (h : Calls Tryz.prog f args w (SaysP w P)) : Calls Tryz.prog f args w fun e w' => e = .returned (.bool b) ∧ Up w w' :=
  h.mono fun e w' ⟨⟨b', h1, h2⟩, hu⟩ => ⟨by
    have : b' = b := by
      cases b <;> cases b' <;> simp_all
    rw [h1, this], hu⟩
theorem both_valid (V H : Int) (P : ByteArray) (JV JH : Int) (JB : ByteArray) (ja : Option Addr) (jn jc : Nat) (ta : Option Addr) (n tc : Nat) (S : ByteArray) (xs : List Ts) (vs : List Vs) (ra : Option Addr) (rc : Nat) (ca : Option Addr) (cc : Nat) (q b0 cp : Int) (ls cs : List (List Int)) (w : World) (hsz : n ≤ 9223372036854775807) (ht : TArg w (.slice ta n tc) xs)
    (hv : VArg w (.slice ja jn jc) vs) (hvn : vs.length = jn) (hvz : jn < 4611686018427387904) (hvo : ∀ (j : Nat) (x : Vs), vs[j]? = some x → VsOk x) (hs : Strs w (.slice ra ls.length rc) ls) (hll : ls.length ≤ 9223372036854775807) (hc : Strs w (.slice ca cs.length cc) cs) (hcl : cs.length ≤ 9223372036854775807) :
    ∃ bb : Bool, (∀ wx, Up w wx → Calls Tryz.prog 19 #[.agg (bkC V H P JV JH JB ja jn jc ta n tc S), .agg (cfC ra ls.length rc ca cs.length cc q b0 cp)] wx fun e w' => e = .returned (.bool bb) ∧ Up wx w') ∧
      (∀ wx, Up w wx → Calls Tryz.prog 20 #[.agg (bkC V H P JV JH JB ja jn jc ta n tc S), .agg (cfC ra ls.length rc ca cs.length cc q b0 cp)] wx fun e w' => e = .returned (.bool bb) ∧ Up wx w') := by
  by_cases hm : BkMay V H P JV JH JB xs S
  · obtain ⟨vn, rfl⟩ : ∃ vn : Nat, V = vn := ⟨V.toNat, by have := hm.v; omega⟩
    by_cases hb : BvP vn H P JV JH JB vs S xs ls cs q
    · exact ⟨true, fun wx u => says_bool ⟨fun _ => hb, fun _ => rfl⟩ (bkValid_may vn H P JV JH JB ja jn jc ta n tc S xs vs ra rc ca cc q b0 cp ls cs wx hm (ht.up u) (hv.up u) hvn hvz hvo (hs.up u) hll (hc.up u) hcl),
        fun wx u => says_bool ⟨fun _ => rv_bv.2 hb, fun _ => rfl⟩ (refBkValid_may vn H P JV JH JB ja jn jc ta n tc S xs vs ra rc ca cc q b0 cp ls cs wx hm (ht.up u) (hv.up u) hvn hvz hvo (hs.up u) hll (hc.up u) hcl)⟩
    · exact ⟨false, fun wx u => says_bool ⟨(fun h => by cases h), fun h => absurd h hb⟩ (bkValid_may vn H P JV JH JB ja jn jc ta n tc S xs vs ra rc ca cc q b0 cp ls cs wx hm (ht.up u) (hv.up u) hvn hvz hvo (hs.up u) hll (hc.up u) hcl),
        fun wx u => says_bool ⟨(fun h => by cases h), fun h => absurd (rv_bv.1 h) hb⟩ (refBkValid_may vn H P JV JH JB ja jn jc ta n tc S xs vs ra rc ca cc q b0 cp ls cs wx hm (ht.up u) (hv.up u) hvn hvz hvo (hs.up u) hll (hc.up u) hcl)⟩
  · exact ⟨false, fun wx u => bkValid_no V H P JV JH JB ja jn jc ta n tc S xs _ rfl wx hm hsz (ht.up u), fun wx u => refBkValid_no V H P JV JH JB ja jn jc ta n tc S xs _ wx hm (ht.up u)⟩

set_option maxHeartbeats 4000000 in
theorem lawBlockValid_any (V H : Int) (P : ByteArray) (JV JH : Int) (JB : ByteArray) (ja : Option Addr) (jn jc : Nat) (ta : Option Addr) (n tc : Nat) (S : ByteArray) (xs : List Ts) (vs : List Vs) (ra : Option Addr) (rc : Nat) (ca : Option Addr) (cc : Nat) (q b0 cp : Int) (ls cs : List (List Int)) (w : World) (hsz : n ≤ 9223372036854775807) (ht : TArg w (.slice ta n tc) xs)
    (hv : VArg w (.slice ja jn jc) vs) (hvn : vs.length = jn) (hvz : jn * 72 ≤ 140737488355328) (hvo : ∀ (j : Nat) (x : Vs), vs[j]? = some x → VsOk x) (hs : Strs w (.slice ra ls.length rc) ls) (hll : ls.length ≤ 9223372036854775807) (hc : Strs w (.slice ca cs.length cc) cs) (hcl : cs.length ≤ 9223372036854775807) :
    Calls Tryz.prog 5 #[.agg (bkC V H P JV JH JB ja jn jc ta n tc S), .agg (cfC ra ls.length rc ca cs.length cc q b0 cp)] w fun e w' => e = .returned (.bool true) ∧ Up w w' := by
  obtain ⟨bb, hp, hr⟩ := both_valid V H P JV JH JB ja jn jc ta n tc S xs vs ra rc ca cc q b0 cp ls cs w hsz ht hv hvn (by omega) hvo hs hll hc hcl
  have HP0 := Lib.hid hp
  have HR0 := Lib.hid hr
  have u1 := Up.alloc (Up.refl w) (.cells (bkC V H P JV JH JB ja jn jc ta n tc S) 55)
  have u2 := Up.alloc (Up.refl (w.alloc (.cells (bkC V H P JV JH JB ja jn jc ta n tc S) 55))) (.cells (cfC ra ls.length rc ca cs.length cc q b0 cp) 57)
  have HUR := Lib.hid (Up.trans u1 u2)
  have hb := heap_alloc_new w (.cells (bkC V H P JV JH JB ja jn jc ta n tc S) 55)
  have HB0 := Lib.hid ((u2.block _ (lt_of_block hb)).trans hb)
  have hcf := heap_alloc_new (w.alloc (.cells (bkC V H P JV JH JB ja jn jc ta n tc S) 55)) (.cells (cfC ra ls.length rc ca cs.length cc q b0 cp) 57)
  rw [show (w.alloc (.cells (bkC V H P JV JH JB ja jn jc ta n tc S) 55)).heap.size = w.heap.size + 1 by simp] at hcf
  have HC0 := Lib.hid hcf
  unfold bkC at HUR HB0 HC0 HP0 HR0 ⊢
  unfold cfC at HUR HB0 HC0 HP0 HR0 ⊢
  clear hp hr hsz ht hv hvn hvz hvo hs hll hc hcl u1 u2 hb hcf
  go_enter Tryz.func5, Tryz.ntmps5
  go_wp2_with fail
  generalize (w.alloc (.cells #[.int .i64 V, .int .i64 H, .string P, .int .i64 JV, .int .i64 JH, .string JB, .slice ja jn jc, .slice ta n tc, .string S] 55)).alloc (.cells #[.slice ra ls.length rc, .slice ca cs.length cc, .int .i64 q, .int .i64 b0, .int .i64 cp] 57) = wr at HUR HB0 HC0 ⊢
  generalize w.heap.size + 1 = C at HC0 ⊢
  generalize w.heap.size = M at HB0 ⊢
  have HB : Hid (∀ wx, Up wr wx → wx.heap[M]? = some (.cells #[.int .i64 V, .int .i64 H, .string P, .int .i64 JV, .int .i64 JH, .string JB, .slice ja jn jc, .slice ta n tc, .string S] 55 (0, 0))) := fun wx u => (u.block _ (lt_of_block HB0.out)).trans HB0.out
  have HC : Hid (∀ wx, Up wr wx → wx.heap[C]? = some (.cells #[.slice ra ls.length rc, .slice ca cs.length cc, .int .i64 q, .int .i64 b0, .int .i64 cp] 57 (0, 0))) := fun wx u => (u.block _ (lt_of_block HC0.out)).trans HC0.out
  have HP : Hid (∀ wx, Up wr wx → Calls Tryz.prog 19 #[.agg #[.int .i64 V, .int .i64 H, .string P, .int .i64 JV, .int .i64 JH, .string JB, .slice ja jn jc, .slice ta n tc, .string S], .agg #[.slice ra ls.length rc, .slice ca cs.length cc, .int .i64 q, .int .i64 b0, .int .i64 cp]] wx fun e w' => e = .returned (.bool bb) ∧ Up wx w') := fun wx u => HP0.out wx (Up.trans HUR.out u)
  have HR : Hid (∀ wx, Up wr wx → Calls Tryz.prog 20 #[.agg #[.int .i64 V, .int .i64 H, .string P, .int .i64 JV, .int .i64 JH, .string JB, .slice ja jn jc, .slice ta n tc, .string S], .agg #[.slice ra ls.length rc, .slice ca cs.length cc, .int .i64 q, .int .i64 b0, .int .i64 cp]] wx fun e w' => e = .returned (.bool bb) ∧ Up wx w') := fun wx u => HR0.out wx (Up.trans HUR.out u)
  clear HP0 HR0 HB0 HC0
  refine region_alongK (fun x => Up wr x) (.read 0 (.read 1 (.read 3 (.read 4 (.step 2 (.step 5 (.read 6 (.read 7 (.step 8 (.read 9 (.read 10 (.nil)))))))))))) (by kernel_rfl) rfl (by kernel_rfl) (by kernel_rfl) (fun c a d v w h => by cases d <;> exact h) (Up.drew1 wr) ?_
  refine alongK_read (.agg #[.int .i64 V, .int .i64 H, .string P, .int .i64 JV, .int .i64 JH, .string JB, .slice ja jn jc, .slice ta n tc, .string S]) rfl rfl (fun wx hS => ex_loadrow rfl rfl wx 55 (HB.out wx hS) Tryz.underlying55 rfl info_bk) ?_
  change AlongK _ _ _ _ _ { tmps := #[_, _, .pointer (some ⟨M, 0, none⟩), .pointer (some ⟨C, 0, none⟩), .bool false, .agg #[.int .i64 V, .int .i64 H, .string P, .int .i64 JV, .int .i64 JH, .string JB, .slice ja jn jc, .slice ta n tc, .string S], _, _, _, _, _, _, _, _, _], defers := _ } _
  refine alongK_read (.agg #[.slice ra ls.length rc, .slice ca cs.length cc, .int .i64 q, .int .i64 b0, .int .i64 cp]) rfl rfl (fun wx hS => ex_loadrow rfl rfl wx 57 (HC.out wx hS) Tryz.underlying57 rfl info_cf) ?_
  change AlongK _ _ _ _ _ { tmps := #[_, _, .pointer (some ⟨M, 0, none⟩), .pointer (some ⟨C, 0, none⟩), .bool false, .agg #[.int .i64 V, .int .i64 H, .string P, .int .i64 JV, .int .i64 JH, .string JB, .slice ja jn jc, .slice ta n tc, .string S], .agg #[.slice ra ls.length rc, .slice ca cs.length cc, .int .i64 q, .int .i64 b0, .int .i64 cp], _, _, _, _, _, _, _, _], defers := _ } _
  refine alongK_read (.agg #[.int .i64 V, .int .i64 H, .string P, .int .i64 JV, .int .i64 JH, .string JB, .slice ja jn jc, .slice ta n tc, .string S]) rfl rfl (fun wx hS => ex_loadrow rfl rfl wx 55 (HB.out wx hS) Tryz.underlying55 rfl info_bk) ?_
  change AlongK _ _ _ _ _ { tmps := #[_, _, .pointer (some ⟨M, 0, none⟩), .pointer (some ⟨C, 0, none⟩), .bool false, .agg #[.int .i64 V, .int .i64 H, .string P, .int .i64 JV, .int .i64 JH, .string JB, .slice ja jn jc, .slice ta n tc, .string S], .agg #[.slice ra ls.length rc, .slice ca cs.length cc, .int .i64 q, .int .i64 b0, .int .i64 cp], _, .agg #[.int .i64 V, .int .i64 H, .string P, .int .i64 JV, .int .i64 JH, .string JB, .slice ja jn jc, .slice ta n tc, .string S], _, _, _, _, _, _], defers := _ } _
  refine alongK_read (.agg #[.slice ra ls.length rc, .slice ca cs.length cc, .int .i64 q, .int .i64 b0, .int .i64 cp]) rfl rfl (fun wx hS => ex_loadrow rfl rfl wx 57 (HC.out wx hS) Tryz.underlying57 rfl info_cf) ?_
  change AlongK _ _ _ _ _ { tmps := #[_, _, .pointer (some ⟨M, 0, none⟩), .pointer (some ⟨C, 0, none⟩), .bool false, .agg #[.int .i64 V, .int .i64 H, .string P, .int .i64 JV, .int .i64 JH, .string JB, .slice ja jn jc, .slice ta n tc, .string S], .agg #[.slice ra ls.length rc, .slice ca cs.length cc, .int .i64 q, .int .i64 b0, .int .i64 cp], _, .agg #[.int .i64 V, .int .i64 H, .string P, .int .i64 JV, .int .i64 JH, .string JB, .slice ja jn jc, .slice ta n tc, .string S], .agg #[.slice ra ls.length rc, .slice ca cs.length cc, .int .i64 q, .int .i64 b0, .int .i64 cp], _, _, _, _, _], defers := _ } _
  refine alongK_step ?_
  refine opK_call (vs := [.agg #[.int .i64 V, .int .i64 H, .string P, .int .i64 JV, .int .i64 JH, .string JB, .slice ja jn jc, .slice ta n tc, .string S], .agg #[.slice ra ls.length rc, .slice ca cs.length cc, .int .i64 q, .int .i64 b0, .int .i64 cp]]) rfl rfl rfl (enters_of Tryz.func19 (by kernel_rfl) rfl) rfl ?_
  with_reducible refine Calls.mono (HP.out _ (Up.drew1 wr)) ?_
  rintro e y1 ⟨rfl, hy1⟩
  refine ⟨_, rfl, (fun x => Up wr x), (fun _ h => h), (Up.trans (Up.drew1 wr) hy1), ?_⟩
  change AlongK _ _ _ _ _ { tmps := #[_, _, .pointer (some ⟨M, 0, none⟩), .pointer (some ⟨C, 0, none⟩), .bool false, .agg #[.int .i64 V, .int .i64 H, .string P, .int .i64 JV, .int .i64 JH, .string JB, .slice ja jn jc, .slice ta n tc, .string S], .agg #[.slice ra ls.length rc, .slice ca cs.length cc, .int .i64 q, .int .i64 b0, .int .i64 cp], .bool bb, .agg #[.int .i64 V, .int .i64 H, .string P, .int .i64 JV, .int .i64 JH, .string JB, .slice ja jn jc, .slice ta n tc, .string S], .agg #[.slice ra ls.length rc, .slice ca cs.length cc, .int .i64 q, .int .i64 b0, .int .i64 cp], _, _, _, _, _], defers := _ } _
  refine alongK_step ?_
  refine opK_call (vs := [.agg #[.int .i64 V, .int .i64 H, .string P, .int .i64 JV, .int .i64 JH, .string JB, .slice ja jn jc, .slice ta n tc, .string S], .agg #[.slice ra ls.length rc, .slice ca cs.length cc, .int .i64 q, .int .i64 b0, .int .i64 cp]]) rfl rfl rfl (enters_of Tryz.func20 (by kernel_rfl) rfl) rfl ?_
  with_reducible refine Calls.mono (HR.out _ (Up.trans (Up.drew1 wr) hy1)) ?_
  rintro e y2 ⟨rfl, hy2⟩
  refine ⟨_, rfl, (fun x => Up wr x), (fun _ h => h), (Up.trans (Up.trans (Up.drew1 wr) hy1) hy2), ?_⟩
  change AlongK _ _ _ _ _ { tmps := #[_, _, .pointer (some ⟨M, 0, none⟩), .pointer (some ⟨C, 0, none⟩), .bool false, .agg #[.int .i64 V, .int .i64 H, .string P, .int .i64 JV, .int .i64 JH, .string JB, .slice ja jn jc, .slice ta n tc, .string S], .agg #[.slice ra ls.length rc, .slice ca cs.length cc, .int .i64 q, .int .i64 b0, .int .i64 cp], .bool bb, .agg #[.int .i64 V, .int .i64 H, .string P, .int .i64 JV, .int .i64 JH, .string JB, .slice ja jn jc, .slice ta n tc, .string S], .agg #[.slice ra ls.length rc, .slice ca cs.length cc, .int .i64 q, .int .i64 b0, .int .i64 cp], .bool bb, _, _, _, _], defers := _ } _
  refine alongK_read (.bool true) rfl rfl (fun wx hS => ex_bin rfl rfl rfl wx (bool_eq2 bb _ _ wx)) ?_
  change AlongK _ _ _ _ _ { tmps := #[_, _, .pointer (some ⟨M, 0, none⟩), .pointer (some ⟨C, 0, none⟩), .bool false, .agg #[.int .i64 V, .int .i64 H, .string P, .int .i64 JV, .int .i64 JH, .string JB, .slice ja jn jc, .slice ta n tc, .string S], .agg #[.slice ra ls.length rc, .slice ca cs.length cc, .int .i64 q, .int .i64 b0, .int .i64 cp], .bool bb, .agg #[.int .i64 V, .int .i64 H, .string P, .int .i64 JV, .int .i64 JH, .string JB, .slice ja jn jc, .slice ta n tc, .string S], .agg #[.slice ra ls.length rc, .slice ca cs.length cc, .int .i64 q, .int .i64 b0, .int .i64 cp], .bool bb, .bool true, _, _, _], defers := _ } _
  refine alongK_read (.bool true) rfl rfl (fun wx hS => ex_move (by rfl) (by rfl) wx) ?_
  change AlongK _ _ _ _ _ { tmps := #[_, _, .pointer (some ⟨M, 0, none⟩), .pointer (some ⟨C, 0, none⟩), .bool false, .agg #[.int .i64 V, .int .i64 H, .string P, .int .i64 JV, .int .i64 JH, .string JB, .slice ja jn jc, .slice ta n tc, .string S], .agg #[.slice ra ls.length rc, .slice ca cs.length cc, .int .i64 q, .int .i64 b0, .int .i64 cp], .bool bb, .agg #[.int .i64 V, .int .i64 H, .string P, .int .i64 JV, .int .i64 JH, .string JB, .slice ja jn jc, .slice ta n tc, .string S], .agg #[.slice ra ls.length rc, .slice ca cs.length cc, .int .i64 q, .int .i64 b0, .int .i64 cp], .bool bb, .bool true, .bool true, _, _], defers := _ } _
  refine alongK_step ?_
  refine opK_call (vs := []) rfl rfl rfl (enters_of Tryz.func21 (by kernel_rfl) rfl) rfl ?_
  with_reducible refine Calls.mono (bkAlive_any _) ?_
  rintro e y3 ⟨rfl, hy3⟩
  refine ⟨_, rfl, (fun x => Up wr x), (fun _ h => h), (Up.trans (Up.trans (Up.trans (Up.drew1 wr) hy1) hy2) hy3), ?_⟩
  change AlongK _ _ _ _ _ { tmps := #[_, _, .pointer (some ⟨M, 0, none⟩), .pointer (some ⟨C, 0, none⟩), .bool false, .agg #[.int .i64 V, .int .i64 H, .string P, .int .i64 JV, .int .i64 JH, .string JB, .slice ja jn jc, .slice ta n tc, .string S], .agg #[.slice ra ls.length rc, .slice ca cs.length cc, .int .i64 q, .int .i64 b0, .int .i64 cp], .bool bb, .agg #[.int .i64 V, .int .i64 H, .string P, .int .i64 JV, .int .i64 JH, .string JB, .slice ja jn jc, .slice ta n tc, .string S], .agg #[.slice ra ls.length rc, .slice ca cs.length cc, .int .i64 q, .int .i64 b0, .int .i64 cp], .bool bb, .bool true, .bool true, .bool true, _], defers := _ } _
  refine alongK_read (.bool true) rfl rfl (fun wx hS => ex_pickt rfl (by rfl) (by rfl) wx) ?_
  change AlongK _ _ _ _ _ { tmps := #[_, _, .pointer (some ⟨M, 0, none⟩), .pointer (some ⟨C, 0, none⟩), .bool false, .agg #[.int .i64 V, .int .i64 H, .string P, .int .i64 JV, .int .i64 JH, .string JB, .slice ja jn jc, .slice ta n tc, .string S], .agg #[.slice ra ls.length rc, .slice ca cs.length cc, .int .i64 q, .int .i64 b0, .int .i64 cp], .bool bb, .agg #[.int .i64 V, .int .i64 H, .string P, .int .i64 JV, .int .i64 JH, .string JB, .slice ja jn jc, .slice ta n tc, .string S], .agg #[.slice ra ls.length rc, .slice ca cs.length cc, .int .i64 q, .int .i64 b0, .int .i64 cp], .bool bb, .bool true, .bool true, .bool true, .bool true], defers := _ } _
  refine alongK_read (.bool true) rfl rfl (fun wx hS => ex_assign (by rfl) (by rfl) wx) ?_
  change AlongK _ _ _ _ _ { tmps := #[_, _, .pointer (some ⟨M, 0, none⟩), .pointer (some ⟨C, 0, none⟩), .bool true, .agg #[.int .i64 V, .int .i64 H, .string P, .int .i64 JV, .int .i64 JH, .string JB, .slice ja jn jc, .slice ta n tc, .string S], .agg #[.slice ra ls.length rc, .slice ca cs.length cc, .int .i64 q, .int .i64 b0, .int .i64 cp], .bool bb, .agg #[.int .i64 V, .int .i64 H, .string P, .int .i64 JV, .int .i64 JH, .string JB, .slice ja jn jc, .slice ta n tc, .string S], .agg #[.slice ra ls.length rc, .slice ca cs.length cc, .int .i64 q, .int .i64 b0, .int .i64 cp], .bool bb, .bool true, .bool true, .bool true, .bool true], defers := _ } _
  refine alongK_done ?_
  have HEND := Lib.hid (Up.trans HUR.out (Up.trans (Up.trans (Up.trans (Up.drew1 wr) hy1) hy2) hy3))
  go_wp2
  go_ret
  exact ⟨rfl, HEND.out⟩
end
end Go.Proofs.YtfenmhddlojahaaGreat
