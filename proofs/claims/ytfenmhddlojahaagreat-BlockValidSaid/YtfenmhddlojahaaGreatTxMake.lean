import Derived.Test.YtfenmhddlojahaaGreatTxCheck
import Derived.Test.YtfenmhddlojahaaGreatSgNew
import Derived.Test.YtfenmhddlojahaaGreatTxRead
import Derived.Test.YtfenmhddlojahaaGreatSgSign
import Derived.Test.YtfenmhddlojahaaGreatSgVerify
namespace Go.Proofs.YtfenmhddlojahaaGreat
/-
  tx: a client's key.
-/
section
set_option maxRecDepth 100000
section
set_option linter.unusedVariables false
open Go.RowKit

/-- the seed of a client -/
def cliB (c : Int) : List Int := [99, 108, 105, 101, 110, 116, 48 + c]
theorem cliB_u8s (c : Int) (h : 0 ≤ c ∧ c ≤ 3) : U8s (cliB c) := by
  intro j hj
  have hc : j = 0 ∨ j = 1 ∨ j = 2 ∨ j = 3 ∨ j = 4 ∨ j = 5 ∨ j = 6 := by simp [cliB] at hj; omega
  rcases hc with rfl | rfl | rfl | rfl | rfl | rfl | rfl
  all_goals simp [cliB]
  omega

end
end

/-
  tx: Make with a key that has a leaf left; and of what may not be.
-/
section
set_option maxRecDepth 100000
section
set_option linter.unusedVariables false
open Go.RowKit

theorem one_keyB (s : ByteArray) (v : Value) (k : Int) (hv : v.oneCell' = true) : (#[.string s, v, .int .i64 k] : Array Value).all (·.oneCell') = true := by
  have h1 : (Value.string s).oneCell' = true := by simp [Value.oneCell']
  have h2 : (Value.int .i64 k).oneCell' = true := by simp [Value.oneCell']
  simp [h1, h2, hv]
theorem alloc4 (w : World) (A B C D : Obj) : let W := (((w.alloc A).alloc B).alloc C).alloc D
    W.heap[w.heap.size]? = some A ∧ W.heap[w.heap.size + 1]? = some B ∧ W.heap[w.heap.size + 1 + 1]? = some C ∧ W.heap[w.heap.size + 1 + 1 + 1]? = some D ∧ Up w W := by
  intro W
  have h1 := heap_alloc_new w A
  have h2 := heap_alloc_new (w.alloc A) B
  have h3 := heap_alloc_new ((w.alloc A).alloc B) C
  have h4 := heap_alloc_new (((w.alloc A).alloc B).alloc C) D
  have s1 : (w.alloc A).heap.size = w.heap.size + 1 := by simp
  have s2 : ((w.alloc A).alloc B).heap.size = w.heap.size + 1 + 1 := by simp
  have s3 : (((w.alloc A).alloc B).alloc C).heap.size = w.heap.size + 1 + 1 + 1 := by simp
  rw [s1] at h2
  rw [s2] at h3
  rw [s3] at h4
  have u4 := Up.alloc (Up.refl (((w.alloc A).alloc B).alloc C)) D
  have u3 := Up.trans (Up.alloc (Up.refl ((w.alloc A).alloc B)) C) u4
  have u2 := Up.trans (Up.alloc (Up.refl (w.alloc A)) B) u3
  exact ⟨(u2.block _ (lt_of_block h1)).trans h1, (u3.block _ (lt_of_block h2)).trans h2, (u4.block _ (lt_of_block h3)).trans h3, h4, Up.trans (Up.alloc (Up.refl w) A) u2⟩

end
end

/-
  tx: Valid, of whatever transaction and roots.
-/
section
set_option maxRecDepth 100000
section
set_option linter.unusedVariables false
open Go.RowKit

def TxGood (f t a n : Int) (sig : List Int) (ls : List (List Int)) : Prop :=
  txE f t a n (strOfNums sig) = 0 ∧ f.toNat < ls.length ∧ GoodSig (strOfNums (ls[f.toNat]?.getD [])) 2 (txT f t a n) sig
theorem txE_f {f t a n : Int} {S : ByteArray} (h : txE f t a n S = 0) : 0 ≤ f ∧ f ≤ 3 := by
  unfold txE at h
  split at h
  · rename_i h2; exact h2.1.1
  · cases h
theorem txE_nine {f t a n : Int} {S : ByteArray} (h : txE f t a n S ≠ 0) : txE f t a n S = 9 := by
  unfold txE at h ⊢
  split
  · rename_i h2; rw [if_pos h2] at h; exact absurd rfl h
  · rfl

set_option maxHeartbeats 2000000 in
theorem txValid_any (f t a n : Int) (sig : List Int) (rv : Value) (ls : List (List Int)) (w : World) (hs : Strs w rv ls) (hu : U8s sig) (hsl : sig.length ≤ 9223372036854775807) (hll : ls.length ≤ 9223372036854775807) :
    Calls Tryz.prog 44 #[.agg (txC f t a n (strOfNums sig)), rv] w fun e w' => ∃ b : Bool, e = .returned (.bool b) ∧ (TxGood f t a n sig ls → b = true) ∧ (¬ TxGood f t a n sig ls → b = false) ∧ Up w w' := by
  obtain ⟨ra, rc, rfl, hrc, hrn, hrd⟩ := hs
  by_cases hE : txE f t a n (strOfNums sig) = 0
  · obtain ⟨fn, rfl⟩ : ∃ fn : Nat, f = fn := ⟨f.toNat, by have := (txE_f hE).1; omega⟩
    have Hc : Hid (∀ wx, Calls Tryz.prog 80 #[.agg #[.int .i64 (fn : Nat), .int .i64 t, .int .i64 a, .int .i64 n, .string (strOfNums sig)]] wx fun e w' => e = .returned (.int .i64 0) ∧ Up wx w') := fun wx => by have := check_any fn t a n (strOfNums sig) wx; rw [hE] at this; exact this
    by_cases hfn : fn < ls.length
    · have HG : Hid (TxGood fn t a n sig ls ↔ GoodSig (strOfNums (ls[fn]?.getD [])) 2 (txT fn t a n) sig) := ⟨fun h => h.2.2, fun h => ⟨hE, hfn, h⟩⟩
      have HTx : Hid (∀ wx, Calls Tryz.prog 81 #[.agg #[.int .i64 (fn : Nat), .int .i64 t, .int .i64 a, .int .i64 n, .string (strOfNums sig)]] wx fun e w' => ∃ xa xc, e = .returned (.slice xa 28 xc) ∧ Ints .u8 w' (.slice xa 28 xc) (txT fn t a n) ∧ Up wx w') := by
        intro wx
        refine (txText_ok fn t a n _ wx hE).mono fun e w' ⟨v, h1, h2, h3⟩ => ?_
        rw [txT_length] at h2
        obtain ⟨xa, xc, rfl⟩ := row_shape h2
        exact ⟨xa, xc, h1, Ints.of_row h2, h3⟩
      have HV : Hid (∀ (wx : World) xa xc, Ints .u8 wx (.slice xa 28 xc) (txT fn t a n) → Calls Tryz.prog 78 #[.string (strOfNums (ls[fn]?.getD [])), .int .i64 2, .slice xa 28 xc, .string (strOfNums sig)] wx (SigTold (strOfNums (ls[fn]?.getD [])) 2 (txT fn t a n) sig wx)) :=
        fun wx xa xc hi => verify_any _ 2 _ _ sig wx hi (txT_u8s _ _ _ _) (by rw [txT_length]; omega) hu hsl
      obtain ⟨rb, ro, rfl, hcell⟩ : ∃ b off, ra = some ⟨b, off, none⟩ ∧ ∀ j, j < ls.length → w.cell? ⟨b, off + j, none⟩ = some (.string (strOfNums (ls[j]?.getD []))) := by
        rcases hrd with rfl | h
        · simp at hfn
        · exact h
      have HRw := Lib.hid (hcell fn hfn)
      unfold SigTold at HV
      generalize GoodSig (strOfNums (ls[fn]?.getD [])) 2 (txT fn t a n) sig = GD at HV HG
      generalize TxGood fn t a n sig ls = TG at HG ⊢
      generalize strOfNums (ls[fn]?.getD []) = R at HV HRw
      generalize txT fn t a n = TT at HTx HV
      generalize sigLeaf sig = SL at HV
      generalize strOfNums sig = S at Hc HTx HV ⊢
      have hfn2 : ¬ ((ls.length : Int) ≤ (fn : Int)) := by omega
      generalize ls.length = rn at hfn hfn2 ⊢
      unfold txC
      clear hE hcell hrd hrn hrc hu hsl hll
      go_enter Tryz.func44, Tryz.ntmps44
      go_wp2_with fail
      with_reducible refine Calls.mono (Hc.out _) ?_
      rintro e wr ⟨rfl, hU1⟩
      have hb := (hU1.block w.heap.size (by simp)).trans (heap_alloc_new w (.cells #[.int .i64 (fn : Nat), .int .i64 t, .int .i64 a, .int .i64 n, .string S] 85))
      have hc0 := (tx_cells hb).1
      have HTb := Lib.hid hb
      have HUr := Lib.hid (Up.trans (Up.alloc (Up.refl w) _) hU1)
      have HRt : Hid (∀ wx, Up wr wx → wx.cell? ⟨rb, ro + fn * 1, none⟩ = some (.string R)) := fun wx hx => by rw [Nat.mul_one]; exact later_cell HRw.out (Up.trans HUr.out hx)
      clear hb hU1
      go_wp2
      clear hc0 hfn2
      generalize w.heap.size = B at HTb ⊢
      refine region_alongK (fun x => Up wr x) (.read 0 (.read 1 (.read 2 (.read 3 (.read 4 (.read 5 (.read 7 (.read 8 (.step 6 (.step 9 (.read 10 (.read 11 (.read 12 (.read 13 (.read 14 (.nil)))))))))))))))) (by kernel_rfl) rfl (by kernel_rfl) (by kernel_rfl) (fun c a d v w h => by cases d <;> exact h) (Up.drew1 wr) ?_
      refine alongK_read (.slice (some ⟨rb, ro, none⟩) rn rc) rfl rfl (fun wx hS => ex_move (by rfl) (by rfl) wx) ?_
      change AlongK _ _ _ _ _ { tmps := #[.agg #[.int .i64 (fn : Nat), .int .i64 t, .int .i64 a, .int .i64 n, .string S], .slice (some ⟨rb, ro, none⟩) rn rc, .pointer (some ⟨B, 0, none⟩), _, .bool false, _, _, _, _, _, _, _, _, _, _, _, _, _, .slice (some ⟨rb, ro, none⟩) rn rc, _, _, _, _, _, _, _, _, _, _, _, _], defers := _ } _
      refine alongK_read (.pointer (some ⟨B, 0, none⟩)) rfl rfl (fun wx hS => ex_field rfl rfl wx (by simp [go_sem])) ?_
      change AlongK _ _ _ _ _ { tmps := #[.agg #[.int .i64 (fn : Nat), .int .i64 t, .int .i64 a, .int .i64 n, .string S], .slice (some ⟨rb, ro, none⟩) rn rc, .pointer (some ⟨B, 0, none⟩), _, .bool false, _, _, _, _, _, _, _, _, _, _, _, _, _, .slice (some ⟨rb, ro, none⟩) rn rc, .pointer (some ⟨B, 0, none⟩), _, _, _, _, _, _, _, _, _, _, _], defers := _ } _
      refine alongK_read (.int .i64 (fn : Nat)) rfl rfl (fun wx hS => ex_load Tryz.isAgg3 rfl rfl wx ((tx_cells ((hS.block B (lt_of_block HTb.out)).trans HTb.out)).1)) ?_
      change AlongK _ _ _ _ _ { tmps := #[.agg #[.int .i64 (fn : Nat), .int .i64 t, .int .i64 a, .int .i64 n, .string S], .slice (some ⟨rb, ro, none⟩) rn rc, .pointer (some ⟨B, 0, none⟩), _, .bool false, _, _, _, _, _, _, _, _, _, _, _, _, _, .slice (some ⟨rb, ro, none⟩) rn rc, .pointer (some ⟨B, 0, none⟩), .int .i64 (fn : Nat), _, _, _, _, _, _, _, _, _, _], defers := _ } _
      refine alongK_read (.pointer (some ⟨rb, ro + fn * 1, none⟩)) rfl rfl (fun wx hS => ex_index Tryz.underlying25 Tryz.sizeOf9 rfl rfl rfl (hfn) wx) ?_
      change AlongK _ _ _ _ _ { tmps := #[.agg #[.int .i64 (fn : Nat), .int .i64 t, .int .i64 a, .int .i64 n, .string S], .slice (some ⟨rb, ro, none⟩) rn rc, .pointer (some ⟨B, 0, none⟩), _, .bool false, _, _, _, _, _, _, _, _, _, _, _, _, _, .slice (some ⟨rb, ro, none⟩) rn rc, .pointer (some ⟨B, 0, none⟩), .int .i64 (fn : Nat), .pointer (some ⟨rb, ro + fn * 1, none⟩), _, _, _, _, _, _, _, _, _], defers := _ } _
      refine alongK_read (.string R) rfl rfl (fun wx hS => ex_load Tryz.isAgg9 rfl rfl wx (HRt.out wx hS)) ?_
      change AlongK _ _ _ _ _ { tmps := #[.agg #[.int .i64 (fn : Nat), .int .i64 t, .int .i64 a, .int .i64 n, .string S], .slice (some ⟨rb, ro, none⟩) rn rc, .pointer (some ⟨B, 0, none⟩), _, .bool false, _, _, _, _, _, _, _, _, _, _, _, _, _, .slice (some ⟨rb, ro, none⟩) rn rc, .pointer (some ⟨B, 0, none⟩), .int .i64 (fn : Nat), .pointer (some ⟨rb, ro + fn * 1, none⟩), .string R, _, _, _, _, _, _, _, _], defers := _ } _
      refine alongK_read (.agg #[.int .i64 (fn : Nat), .int .i64 t, .int .i64 a, .int .i64 n, .string S]) rfl rfl (fun wx hS => ex_loadrow rfl rfl wx 85 ((hS.block B (lt_of_block HTb.out)).trans HTb.out) Tryz.underlying85 rfl info_tx) ?_
      change AlongK _ _ _ _ _ { tmps := #[.agg #[.int .i64 (fn : Nat), .int .i64 t, .int .i64 a, .int .i64 n, .string S], .slice (some ⟨rb, ro, none⟩) rn rc, .pointer (some ⟨B, 0, none⟩), _, .bool false, _, _, _, _, _, _, _, _, _, _, _, _, _, .slice (some ⟨rb, ro, none⟩) rn rc, .pointer (some ⟨B, 0, none⟩), .int .i64 (fn : Nat), .pointer (some ⟨rb, ro + fn * 1, none⟩), .string R, .agg #[.int .i64 (fn : Nat), .int .i64 t, .int .i64 a, .int .i64 n, .string S], _, _, _, _, _, _, _], defers := _ } _
      refine alongK_read (.pointer (some ⟨B, 4, none⟩)) rfl rfl (fun wx hS => ex_field rfl rfl wx (by simp [go_sem])) ?_
      change AlongK _ _ _ _ _ { tmps := #[.agg #[.int .i64 (fn : Nat), .int .i64 t, .int .i64 a, .int .i64 n, .string S], .slice (some ⟨rb, ro, none⟩) rn rc, .pointer (some ⟨B, 0, none⟩), _, .bool false, _, _, _, _, _, _, _, _, _, _, _, _, _, .slice (some ⟨rb, ro, none⟩) rn rc, .pointer (some ⟨B, 0, none⟩), .int .i64 (fn : Nat), .pointer (some ⟨rb, ro + fn * 1, none⟩), .string R, .agg #[.int .i64 (fn : Nat), .int .i64 t, .int .i64 a, .int .i64 n, .string S], _, .pointer (some ⟨B, 4, none⟩), _, _, _, _, _], defers := _ } _
      refine alongK_read (.string S) rfl rfl (fun wx hS => ex_load Tryz.isAgg9 rfl rfl wx ((tx_cells ((hS.block B (lt_of_block HTb.out)).trans HTb.out)).2.2.2.2)) ?_
      change AlongK _ _ _ _ _ { tmps := #[.agg #[.int .i64 (fn : Nat), .int .i64 t, .int .i64 a, .int .i64 n, .string S], .slice (some ⟨rb, ro, none⟩) rn rc, .pointer (some ⟨B, 0, none⟩), _, .bool false, _, _, _, _, _, _, _, _, _, _, _, _, _, .slice (some ⟨rb, ro, none⟩) rn rc, .pointer (some ⟨B, 0, none⟩), .int .i64 (fn : Nat), .pointer (some ⟨rb, ro + fn * 1, none⟩), .string R, .agg #[.int .i64 (fn : Nat), .int .i64 t, .int .i64 a, .int .i64 n, .string S], _, .pointer (some ⟨B, 4, none⟩), .string S, _, _, _, _], defers := _ } _
      refine alongK_step ?_
      refine opK_call (vs := [.agg #[.int .i64 (fn : Nat), .int .i64 t, .int .i64 a, .int .i64 n, .string S]]) rfl rfl rfl (enters_of Tryz.func81 (by kernel_rfl) rfl) rfl ?_
      with_reducible refine Calls.mono (HTx.out _) ?_
      rintro e w5 ⟨xa, xc, rfl, hI5, hU5⟩
      have hA5 : Up wr w5 := Up.trans (Up.drew1 wr) hU5
      refine ⟨_, rfl, (fun x => Up wr x), (fun x hx => hx), hA5, ?_⟩
      change AlongK _ _ _ _ _ { tmps := #[.agg #[.int .i64 (fn : Nat), .int .i64 t, .int .i64 a, .int .i64 n, .string S], .slice (some ⟨rb, ro, none⟩) rn rc, .pointer (some ⟨B, 0, none⟩), _, .bool false, _, _, _, _, _, _, _, _, _, _, _, _, _, .slice (some ⟨rb, ro, none⟩) rn rc, .pointer (some ⟨B, 0, none⟩), .int .i64 (fn : Nat), .pointer (some ⟨rb, ro + fn * 1, none⟩), .string R, .agg #[.int .i64 (fn : Nat), .int .i64 t, .int .i64 a, .int .i64 n, .string S], .slice xa 28 xc, .pointer (some ⟨B, 4, none⟩), .string S, _, _, _, _], defers := _ } _
      refine alongK_step ?_
      refine opK_call (vs := [.string R, .int .i64 2, .slice xa 28 xc, .string S]) rfl rfl rfl (enters_of Tryz.func78 (by kernel_rfl) rfl) rfl ?_
      with_reducible refine Calls.mono (HV.out _ xa xc hI5) ?_
      rintro e w7 ⟨⟨s0, ok, rfl, hg1, hg2⟩, hU7⟩
      have hA7 : Up wr w7 := Up.trans hA5 hU7
      refine ⟨_, rfl, (fun x => Up wr x), (fun x hx => hx), hA7, ?_⟩
      change AlongK _ _ _ _ _ { tmps := #[.agg #[.int .i64 (fn : Nat), .int .i64 t, .int .i64 a, .int .i64 n, .string S], .slice (some ⟨rb, ro, none⟩) rn rc, .pointer (some ⟨B, 0, none⟩), _, .bool false, _, _, _, _, _, _, _, _, _, _, _, _, _, .slice (some ⟨rb, ro, none⟩) rn rc, .pointer (some ⟨B, 0, none⟩), .int .i64 (fn : Nat), .pointer (some ⟨rb, ro + fn * 1, none⟩), .string R, .agg #[.int .i64 (fn : Nat), .int .i64 t, .int .i64 a, .int .i64 n, .string S], .slice xa 28 xc, .pointer (some ⟨B, 4, none⟩), .string S, .tuple #[.int .i64 s0, .bool ok], _, _, _], defers := _ } _
      refine alongK_read (.tuple #[.int .i64 s0, .bool ok]) rfl rfl (fun wx hS => ex_move (by rfl) (by rfl) wx) ?_
      change AlongK _ _ _ _ _ { tmps := #[.agg #[.int .i64 (fn : Nat), .int .i64 t, .int .i64 a, .int .i64 n, .string S], .slice (some ⟨rb, ro, none⟩) rn rc, .pointer (some ⟨B, 0, none⟩), _, .bool false, _, _, _, _, _, _, _, _, _, _, _, _, .tuple #[.int .i64 s0, .bool ok], .slice (some ⟨rb, ro, none⟩) rn rc, .pointer (some ⟨B, 0, none⟩), .int .i64 (fn : Nat), .pointer (some ⟨rb, ro + fn * 1, none⟩), .string R, .agg #[.int .i64 (fn : Nat), .int .i64 t, .int .i64 a, .int .i64 n, .string S], .slice xa 28 xc, .pointer (some ⟨B, 4, none⟩), .string S, .tuple #[.int .i64 s0, .bool ok], _, _, _], defers := _ } _
      refine alongK_read (.int .i64 s0) rfl rfl (fun wx hS => ex_extr (cs := #[.int .i64 s0, .bool ok]) rfl rfl rfl wx) ?_
      change AlongK _ _ _ _ _ { tmps := #[.agg #[.int .i64 (fn : Nat), .int .i64 t, .int .i64 a, .int .i64 n, .string S], .slice (some ⟨rb, ro, none⟩) rn rc, .pointer (some ⟨B, 0, none⟩), _, .bool false, _, _, _, _, _, _, _, _, _, _, _, _, .tuple #[.int .i64 s0, .bool ok], .slice (some ⟨rb, ro, none⟩) rn rc, .pointer (some ⟨B, 0, none⟩), .int .i64 (fn : Nat), .pointer (some ⟨rb, ro + fn * 1, none⟩), .string R, .agg #[.int .i64 (fn : Nat), .int .i64 t, .int .i64 a, .int .i64 n, .string S], .slice xa 28 xc, .pointer (some ⟨B, 4, none⟩), .string S, .tuple #[.int .i64 s0, .bool ok], .int .i64 s0, _, _], defers := _ } _
      refine alongK_read (.bool ok) rfl rfl (fun wx hS => ex_extr (cs := #[.int .i64 s0, .bool ok]) rfl rfl rfl wx) ?_
      change AlongK _ _ _ _ _ { tmps := #[.agg #[.int .i64 (fn : Nat), .int .i64 t, .int .i64 a, .int .i64 n, .string S], .slice (some ⟨rb, ro, none⟩) rn rc, .pointer (some ⟨B, 0, none⟩), _, .bool false, _, _, _, _, _, _, _, _, _, _, _, _, .tuple #[.int .i64 s0, .bool ok], .slice (some ⟨rb, ro, none⟩) rn rc, .pointer (some ⟨B, 0, none⟩), .int .i64 (fn : Nat), .pointer (some ⟨rb, ro + fn * 1, none⟩), .string R, .agg #[.int .i64 (fn : Nat), .int .i64 t, .int .i64 a, .int .i64 n, .string S], .slice xa 28 xc, .pointer (some ⟨B, 4, none⟩), .string S, .tuple #[.int .i64 s0, .bool ok], .int .i64 s0, .bool ok, _], defers := _ } _
      refine alongK_read (.int .i64 s0) rfl rfl (fun wx hS => ex_assign (by rfl) (by rfl) wx) ?_
      change AlongK _ _ _ _ _ { tmps := #[.agg #[.int .i64 (fn : Nat), .int .i64 t, .int .i64 a, .int .i64 n, .string S], .slice (some ⟨rb, ro, none⟩) rn rc, .pointer (some ⟨B, 0, none⟩), _, .bool false, .int .i64 s0, _, _, _, _, _, _, _, _, _, _, _, .tuple #[.int .i64 s0, .bool ok], .slice (some ⟨rb, ro, none⟩) rn rc, .pointer (some ⟨B, 0, none⟩), .int .i64 (fn : Nat), .pointer (some ⟨rb, ro + fn * 1, none⟩), .string R, .agg #[.int .i64 (fn : Nat), .int .i64 t, .int .i64 a, .int .i64 n, .string S], .slice xa 28 xc, .pointer (some ⟨B, 4, none⟩), .string S, .tuple #[.int .i64 s0, .bool ok], .int .i64 s0, .bool ok, _], defers := _ } _
      refine alongK_read (.bool ok) rfl rfl (fun wx hS => ex_assign (by rfl) (by rfl) wx) ?_
      change AlongK _ _ _ _ _ { tmps := #[.agg #[.int .i64 (fn : Nat), .int .i64 t, .int .i64 a, .int .i64 n, .string S], .slice (some ⟨rb, ro, none⟩) rn rc, .pointer (some ⟨B, 0, none⟩), _, .bool false, .int .i64 s0, .bool ok, _, _, _, _, _, _, _, _, _, _, .tuple #[.int .i64 s0, .bool ok], .slice (some ⟨rb, ro, none⟩) rn rc, .pointer (some ⟨B, 0, none⟩), .int .i64 (fn : Nat), .pointer (some ⟨rb, ro + fn * 1, none⟩), .string R, .agg #[.int .i64 (fn : Nat), .int .i64 t, .int .i64 a, .int .i64 n, .string S], .slice xa 28 xc, .pointer (some ⟨B, 4, none⟩), .string S, .tuple #[.int .i64 s0, .bool ok], .int .i64 s0, .bool ok, _], defers := _ } _
      refine alongK_done ?_
      clear hU7 hA5 hI5 hU5
      have H1 := Lib.hid hg1
      have H2 := Lib.hid hg2
      have HA7 := Lib.hid hA7
      clear hg1 hg2 hA7
      go_wp2
      go_ret
      exact ⟨_, rfl, fun h => (H1.out (HG.out.1 h)).2, fun h => (H2.out fun h2 => h (HG.out.2 h2)).2, Up.trans HUr.out HA7.out⟩
    · have HG : Hid (¬ TxGood fn t a n sig ls) := fun h => hfn (by simpa using h.2.1)
      have hfn2 : (ls.length : Int) ≤ (fn : Int) := by omega
      generalize TxGood fn t a n sig ls = TG at HG ⊢
      generalize strOfNums sig = S at Hc ⊢
      generalize ls.length = rn at hfn2 ⊢
      unfold txC
      clear hE hrd hrn hrc hu hsl hll hfn
      go_enter Tryz.func44, Tryz.ntmps44
      go_wp2_with fail
      with_reducible refine Calls.mono (Hc.out _) ?_
      rintro e wr ⟨rfl, hU1⟩
      have hb := (hU1.block w.heap.size (by simp)).trans (heap_alloc_new w (.cells #[.int .i64 (fn : Nat), .int .i64 t, .int .i64 a, .int .i64 n, .string S] 85))
      have hc0 := (tx_cells hb).1
      have HUr := Lib.hid (Up.trans (Up.alloc (Up.refl w) _) hU1)
      clear hb hU1
      go_wp2
      go_ret
      exact ⟨_, rfl, fun h => absurd h HG.out, fun _ => rfl, HUr.out⟩
  · have HG : Hid (¬ TxGood f t a n sig ls) := fun h => hE h.1
    have hE9 := txE_nine hE
    have Hc : Hid (∀ wx, Calls Tryz.prog 80 #[.agg #[.int .i64 f, .int .i64 t, .int .i64 a, .int .i64 n, .string (strOfNums sig)]] wx fun e w' => e = .returned (.int .i64 9) ∧ Up wx w') := fun wx => by have := check_any f t a n (strOfNums sig) wx; rw [hE9] at this; exact this
    generalize TxGood f t a n sig ls = TG at HG ⊢
    generalize strOfNums sig = S at Hc ⊢
    generalize ls.length = rn at ⊢
    unfold txC
    clear hE hE9 hrd hrn hrc hu hsl hll
    go_enter Tryz.func44, Tryz.ntmps44
    go_wp2_with fail
    with_reducible refine Calls.mono (Hc.out _) ?_
    rintro e wr ⟨rfl, hU1⟩
    have HUr := Lib.hid (Up.trans (Up.alloc (Up.refl w) _) hU1)
    clear hU1
    go_wp2
    go_ret
    exact ⟨_, rfl, fun h => absurd h HG.out, fun _ => rfl, HUr.out⟩
end
end
end Go.Proofs.YtfenmhddlojahaaGreat
