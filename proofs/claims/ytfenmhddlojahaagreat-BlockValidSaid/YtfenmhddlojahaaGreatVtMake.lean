import Derived.Test.YtfenmhddlojahaaGreatVtCheck
import Derived.Test.YtfenmhddlojahaaGreatVtRead
import Derived.Test.YtfenmhddlojahaaGreatTxMake
import Derived.Test.YtfenmhddlojahaaGreatSgNew
import Derived.Test.YtfenmhddlojahaaGreatSgSign
import Derived.Test.YtfenmhddlojahaaGreatSgVerify
namespace Go.Proofs.YtfenmhddlojahaaGreat
/-
  vote: a replica's key.
-/
section
set_option maxRecDepth 100000
section
set_option linter.unusedVariables false
open Go.RowKit

/-- the seed of a replica -/
def repB (c : Int) : List Int := [114, 101, 112, 108, 105, 99, 97, 48 + c]
theorem repB_u8s (c : Int) (h : 0 ≤ c ∧ c ≤ 6) : U8s (repB c) := by
  intro j hj
  have hc : j = 0 ∨ j = 1 ∨ j = 2 ∨ j = 3 ∨ j = 4 ∨ j = 5 ∨ j = 6 ∨ j = 7 := by simp [repB] at hj; omega
  rcases hc with rfl | rfl | rfl | rfl | rfl | rfl | rfl | rfl
  all_goals simp [repB]
  omega

end
end

/-
  vote: Sign with a key that has a leaf left; and of what may not be.
-/
section
set_option maxRecDepth 100000
section
set_option linter.unusedVariables false
open Go.RowKit

end
end

/-
  vote: Valid, of whatever statement and roots.
-/
section
set_option maxRecDepth 100000
section
set_option linter.unusedVariables false
open Go.RowKit

def VtGood (v : Vt) (sig : List Int) (ls : List (List Int)) : Prop :=
  vtE v (strOfNums sig) = 0 ∧ v.G.toNat < ls.length ∧ GoodSig (strOfNums (ls[v.G.toNat]?.getD [])) 4 (vtT v) sig

set_option maxHeartbeats 2000000 in
theorem vtValid_any (v : Vt) (sig : List Int) (rv : Value) (ls : List (List Int)) (w : World) (hs : Strs w rv ls) (hvb : U8s v.B) (hu : U8s sig) (hsl : sig.length ≤ 9223372036854775807) (hll : ls.length ≤ 9223372036854775807) :
    Calls Tryz.prog 60 #[.agg (vtC v (strOfNums sig)), rv] w fun e w' => ∃ b : Bool, e = .returned (.bool b) ∧ (VtGood v sig ls → b = true) ∧ (¬ VtGood v sig ls → b = false) ∧ Up w w' := by
  obtain ⟨ra, rc, rfl, hrc, hrn, hrd⟩ := hs
  by_cases hE : vtE v (strOfNums sig) = 0
  · have hok := vtMay_ok (vtE_ok hE).1
    have Hc : Hid (∀ wx, Calls Tryz.prog 88 #[.agg #[.int .i64 v.K, .int .i64 v.V, .int .i64 v.H, .string (strOfNums v.B), .int .i64 v.T, .int .i64 v.G, .string (strOfNums sig)]] wx fun e w' => e = .returned (.int .i64 0) ∧ Up wx w') := fun wx => by have := vtCheck_any v (strOfNums sig) wx; rw [hE] at this; exact this
    obtain ⟨fn, hfg⟩ : ∃ fn : Nat, v.G = fn := ⟨v.G.toNat, by have := hok.g.1; omega⟩
    have hgt : v.G.toNat = fn := by omega
    by_cases hfn : fn < ls.length
    · have HG : Hid (VtGood v sig ls ↔ GoodSig (strOfNums (ls[fn]?.getD [])) 4 (vtT v) sig) := ⟨fun h => by have := h.2.2; rwa [hgt] at this, fun h => ⟨hE, by rw [hgt]; exact hfn, by rw [hgt]; exact h⟩⟩
      obtain ⟨tn, htn⟩ : ∃ tn, (vtT v).length = tn := ⟨_, rfl⟩
      have HTx : Hid (∀ wx, Calls Tryz.prog 89 #[.agg #[.int .i64 v.K, .int .i64 v.V, .int .i64 v.H, .string (strOfNums v.B), .int .i64 v.T, .int .i64 v.G, .string (strOfNums sig)]] wx fun e w' => ∃ xa xc, e = .returned (.slice xa tn xc) ∧ Ints .u8 w' (.slice xa tn xc) (vtT v) ∧ Up wx w') := by
        intro wx
        refine (vtText_ok v _ wx hvb hE).mono fun e w' ⟨r, h1, h2, h3⟩ => ?_
        have hi := Ints.of_row h2
        obtain ⟨xa, xc, rfl⟩ := row_shape h2
        rw [htn] at h1 hi
        exact ⟨xa, xc, h1, hi, h3⟩
      have HV : Hid (∀ (wx : World) xa xc, Ints .u8 wx (.slice xa tn xc) (vtT v) → Calls Tryz.prog 78 #[.string (strOfNums (ls[fn]?.getD [])), .int .i64 4, .slice xa tn xc, .string (strOfNums sig)] wx (SigTold (strOfNums (ls[fn]?.getD [])) 4 (vtT v) sig wx)) :=
        fun wx xa xc hi => verify_any _ 4 _ _ sig wx hi (vtT_u8s _ hvb) (by rw [vtT_length]; have := hok.bl; omega) hu hsl
      obtain ⟨rb, ro, rfl, hcell⟩ : ∃ b off, ra = some ⟨b, off, none⟩ ∧ ∀ j, j < ls.length → w.cell? ⟨b, off + j, none⟩ = some (.string (strOfNums (ls[j]?.getD []))) := by
        rcases hrd with rfl | h
        · simp at hfn
        · exact h
      have HRw := Lib.hid (hcell fn hfn)
      unfold SigTold at HV
      generalize GoodSig (strOfNums (ls[fn]?.getD [])) 4 (vtT v) sig = GD at HV HG
      generalize VtGood v sig ls = TG at HG ⊢
      generalize strOfNums (ls[fn]?.getD []) = R at HV HRw
      generalize vtT v = TT at HTx HV
      generalize sigLeaf sig = SL at HV
      generalize strOfNums sig = S at Hc HTx HV ⊢
      have hfn2 : ¬ ((ls.length : Int) ≤ (fn : Int)) := by omega
      generalize ls.length = rn at hfn hfn2 ⊢
      unfold vtC
      clear hE hcell hrd hrn hrc hu hsl hll hvb hok htn hgt
      obtain ⟨K, V, H, BL, T, G⟩ := v
      simp only at Hc HTx hfg ⊢
      subst hfg
      generalize strOfNums BL = BS at Hc HTx ⊢
      go_enter Tryz.func60, Tryz.ntmps60
      go_wp2_with fail
      with_reducible refine Calls.mono (Hc.out _) ?_
      rintro e wr ⟨rfl, hU1⟩
      have hb := (hU1.block w.heap.size (by simp)).trans (heap_alloc_new w (.cells #[.int .i64 K, .int .i64 V, .int .i64 H, .string BS, .int .i64 T, .int .i64 (fn : Nat), .string S] 49))
      have hc5 := (vt_cells hb).2.2.2.2.2.1
      have HTb := Lib.hid hb
      have HUr := Lib.hid (Up.trans (Up.alloc (Up.refl w) _) hU1)
      have HRt : Hid (∀ wx, Up wr wx → wx.cell? ⟨rb, ro + fn * 1, none⟩ = some (.string R)) := fun wx hx => by rw [Nat.mul_one]; exact later_cell HRw.out (Up.trans HUr.out hx)
      clear hb hU1
      go_wp2
      clear hc5 hfn2
      generalize w.heap.size = B at HTb ⊢
      refine region_alongK (fun x => Up wr x) (.read 0 (.read 1 (.read 2 (.read 3 (.read 4 (.read 5 (.read 7 (.read 8 (.step 6 (.step 9 (.read 10 (.read 11 (.read 12 (.read 13 (.read 14 (.nil)))))))))))))))) (by kernel_rfl) rfl (by kernel_rfl) (by kernel_rfl) (fun c a d v w h => by cases d <;> exact h) (Up.drew1 wr) ?_
      refine alongK_read (.slice (some ⟨rb, ro, none⟩) rn rc) rfl rfl (fun wx hS => ex_move (by rfl) (by rfl) wx) ?_
      change AlongK _ _ _ _ _ { tmps := #[.agg #[.int .i64 K, .int .i64 V, .int .i64 H, .string BS, .int .i64 T, .int .i64 (fn : Nat), .string S], .slice (some ⟨rb, ro, none⟩) rn rc, .pointer (some ⟨B, 0, none⟩), _, .bool false, _, _, _, _, _, _, _, _, _, _, _, _, _, .slice (some ⟨rb, ro, none⟩) rn rc, _, _, _, _, _, _, _, _, _, _, _, _], defers := _ } _
      refine alongK_read (.pointer (some ⟨B, 5, none⟩)) rfl rfl (fun wx hS => ex_field rfl rfl wx (by simp [go_sem])) ?_
      change AlongK _ _ _ _ _ { tmps := #[.agg #[.int .i64 K, .int .i64 V, .int .i64 H, .string BS, .int .i64 T, .int .i64 (fn : Nat), .string S], .slice (some ⟨rb, ro, none⟩) rn rc, .pointer (some ⟨B, 0, none⟩), _, .bool false, _, _, _, _, _, _, _, _, _, _, _, _, _, .slice (some ⟨rb, ro, none⟩) rn rc, .pointer (some ⟨B, 5, none⟩), _, _, _, _, _, _, _, _, _, _, _], defers := _ } _
      refine alongK_read (.int .i64 (fn : Nat)) rfl rfl (fun wx hS => ex_load Tryz.isAgg3 rfl rfl wx ((vt_cells ((hS.block B (lt_of_block HTb.out)).trans HTb.out)).2.2.2.2.2.1)) ?_
      change AlongK _ _ _ _ _ { tmps := #[.agg #[.int .i64 K, .int .i64 V, .int .i64 H, .string BS, .int .i64 T, .int .i64 (fn : Nat), .string S], .slice (some ⟨rb, ro, none⟩) rn rc, .pointer (some ⟨B, 0, none⟩), _, .bool false, _, _, _, _, _, _, _, _, _, _, _, _, _, .slice (some ⟨rb, ro, none⟩) rn rc, .pointer (some ⟨B, 5, none⟩), .int .i64 (fn : Nat), _, _, _, _, _, _, _, _, _, _], defers := _ } _
      refine alongK_read (.pointer (some ⟨rb, ro + fn * 1, none⟩)) rfl rfl (fun wx hS => ex_index Tryz.underlying25 Tryz.sizeOf9 rfl rfl rfl (hfn) wx) ?_
      change AlongK _ _ _ _ _ { tmps := #[.agg #[.int .i64 K, .int .i64 V, .int .i64 H, .string BS, .int .i64 T, .int .i64 (fn : Nat), .string S], .slice (some ⟨rb, ro, none⟩) rn rc, .pointer (some ⟨B, 0, none⟩), _, .bool false, _, _, _, _, _, _, _, _, _, _, _, _, _, .slice (some ⟨rb, ro, none⟩) rn rc, .pointer (some ⟨B, 5, none⟩), .int .i64 (fn : Nat), .pointer (some ⟨rb, ro + fn * 1, none⟩), _, _, _, _, _, _, _, _, _], defers := _ } _
      refine alongK_read (.string R) rfl rfl (fun wx hS => ex_load Tryz.isAgg9 rfl rfl wx (HRt.out wx hS)) ?_
      change AlongK _ _ _ _ _ { tmps := #[.agg #[.int .i64 K, .int .i64 V, .int .i64 H, .string BS, .int .i64 T, .int .i64 (fn : Nat), .string S], .slice (some ⟨rb, ro, none⟩) rn rc, .pointer (some ⟨B, 0, none⟩), _, .bool false, _, _, _, _, _, _, _, _, _, _, _, _, _, .slice (some ⟨rb, ro, none⟩) rn rc, .pointer (some ⟨B, 5, none⟩), .int .i64 (fn : Nat), .pointer (some ⟨rb, ro + fn * 1, none⟩), .string R, _, _, _, _, _, _, _, _], defers := _ } _
      refine alongK_read (.agg #[.int .i64 K, .int .i64 V, .int .i64 H, .string BS, .int .i64 T, .int .i64 (fn : Nat), .string S]) rfl rfl (fun wx hS => ex_loadrow rfl rfl wx 49 ((hS.block B (lt_of_block HTb.out)).trans HTb.out) Tryz.underlying49 rfl info_vt) ?_
      change AlongK _ _ _ _ _ { tmps := #[.agg #[.int .i64 K, .int .i64 V, .int .i64 H, .string BS, .int .i64 T, .int .i64 (fn : Nat), .string S], .slice (some ⟨rb, ro, none⟩) rn rc, .pointer (some ⟨B, 0, none⟩), _, .bool false, _, _, _, _, _, _, _, _, _, _, _, _, _, .slice (some ⟨rb, ro, none⟩) rn rc, .pointer (some ⟨B, 5, none⟩), .int .i64 (fn : Nat), .pointer (some ⟨rb, ro + fn * 1, none⟩), .string R, .agg #[.int .i64 K, .int .i64 V, .int .i64 H, .string BS, .int .i64 T, .int .i64 (fn : Nat), .string S], _, _, _, _, _, _, _], defers := _ } _
      refine alongK_read (.pointer (some ⟨B, 6, none⟩)) rfl rfl (fun wx hS => ex_field rfl rfl wx (by simp [go_sem])) ?_
      change AlongK _ _ _ _ _ { tmps := #[.agg #[.int .i64 K, .int .i64 V, .int .i64 H, .string BS, .int .i64 T, .int .i64 (fn : Nat), .string S], .slice (some ⟨rb, ro, none⟩) rn rc, .pointer (some ⟨B, 0, none⟩), _, .bool false, _, _, _, _, _, _, _, _, _, _, _, _, _, .slice (some ⟨rb, ro, none⟩) rn rc, .pointer (some ⟨B, 5, none⟩), .int .i64 (fn : Nat), .pointer (some ⟨rb, ro + fn * 1, none⟩), .string R, .agg #[.int .i64 K, .int .i64 V, .int .i64 H, .string BS, .int .i64 T, .int .i64 (fn : Nat), .string S], _, .pointer (some ⟨B, 6, none⟩), _, _, _, _, _], defers := _ } _
      refine alongK_read (.string S) rfl rfl (fun wx hS => ex_load Tryz.isAgg9 rfl rfl wx ((vt_cells ((hS.block B (lt_of_block HTb.out)).trans HTb.out)).2.2.2.2.2.2)) ?_
      change AlongK _ _ _ _ _ { tmps := #[.agg #[.int .i64 K, .int .i64 V, .int .i64 H, .string BS, .int .i64 T, .int .i64 (fn : Nat), .string S], .slice (some ⟨rb, ro, none⟩) rn rc, .pointer (some ⟨B, 0, none⟩), _, .bool false, _, _, _, _, _, _, _, _, _, _, _, _, _, .slice (some ⟨rb, ro, none⟩) rn rc, .pointer (some ⟨B, 5, none⟩), .int .i64 (fn : Nat), .pointer (some ⟨rb, ro + fn * 1, none⟩), .string R, .agg #[.int .i64 K, .int .i64 V, .int .i64 H, .string BS, .int .i64 T, .int .i64 (fn : Nat), .string S], _, .pointer (some ⟨B, 6, none⟩), .string S, _, _, _, _], defers := _ } _
      refine alongK_step ?_
      refine opK_call (vs := [.agg #[.int .i64 K, .int .i64 V, .int .i64 H, .string BS, .int .i64 T, .int .i64 (fn : Nat), .string S]]) rfl rfl rfl (enters_of Tryz.func89 (by kernel_rfl) rfl) rfl ?_
      with_reducible refine Calls.mono (HTx.out _) ?_
      rintro e w5 ⟨xa, xc, rfl, hI5, hU5⟩
      have hA5 : Up wr w5 := Up.trans (Up.drew1 wr) hU5
      refine ⟨_, rfl, (fun x => Up wr x), (fun x hx => hx), hA5, ?_⟩
      change AlongK _ _ _ _ _ { tmps := #[.agg #[.int .i64 K, .int .i64 V, .int .i64 H, .string BS, .int .i64 T, .int .i64 (fn : Nat), .string S], .slice (some ⟨rb, ro, none⟩) rn rc, .pointer (some ⟨B, 0, none⟩), _, .bool false, _, _, _, _, _, _, _, _, _, _, _, _, _, .slice (some ⟨rb, ro, none⟩) rn rc, .pointer (some ⟨B, 5, none⟩), .int .i64 (fn : Nat), .pointer (some ⟨rb, ro + fn * 1, none⟩), .string R, .agg #[.int .i64 K, .int .i64 V, .int .i64 H, .string BS, .int .i64 T, .int .i64 (fn : Nat), .string S], .slice xa tn xc, .pointer (some ⟨B, 6, none⟩), .string S, _, _, _, _], defers := _ } _
      refine alongK_step ?_
      refine opK_call (vs := [.string R, .int .i64 4, .slice xa tn xc, .string S]) rfl rfl rfl (enters_of Tryz.func78 (by kernel_rfl) rfl) rfl ?_
      with_reducible refine Calls.mono (HV.out _ xa xc hI5) ?_
      rintro e w7 ⟨⟨s0, ok, rfl, hg1, hg2⟩, hU7⟩
      have hA7 : Up wr w7 := Up.trans hA5 hU7
      refine ⟨_, rfl, (fun x => Up wr x), (fun x hx => hx), hA7, ?_⟩
      change AlongK _ _ _ _ _ { tmps := #[.agg #[.int .i64 K, .int .i64 V, .int .i64 H, .string BS, .int .i64 T, .int .i64 (fn : Nat), .string S], .slice (some ⟨rb, ro, none⟩) rn rc, .pointer (some ⟨B, 0, none⟩), _, .bool false, _, _, _, _, _, _, _, _, _, _, _, _, _, .slice (some ⟨rb, ro, none⟩) rn rc, .pointer (some ⟨B, 5, none⟩), .int .i64 (fn : Nat), .pointer (some ⟨rb, ro + fn * 1, none⟩), .string R, .agg #[.int .i64 K, .int .i64 V, .int .i64 H, .string BS, .int .i64 T, .int .i64 (fn : Nat), .string S], .slice xa tn xc, .pointer (some ⟨B, 6, none⟩), .string S, .tuple #[.int .i64 s0, .bool ok], _, _, _], defers := _ } _
      refine alongK_read (.tuple #[.int .i64 s0, .bool ok]) rfl rfl (fun wx hS => ex_move (by rfl) (by rfl) wx) ?_
      change AlongK _ _ _ _ _ { tmps := #[.agg #[.int .i64 K, .int .i64 V, .int .i64 H, .string BS, .int .i64 T, .int .i64 (fn : Nat), .string S], .slice (some ⟨rb, ro, none⟩) rn rc, .pointer (some ⟨B, 0, none⟩), _, .bool false, _, _, _, _, _, _, _, _, _, _, _, _, .tuple #[.int .i64 s0, .bool ok], .slice (some ⟨rb, ro, none⟩) rn rc, .pointer (some ⟨B, 5, none⟩), .int .i64 (fn : Nat), .pointer (some ⟨rb, ro + fn * 1, none⟩), .string R, .agg #[.int .i64 K, .int .i64 V, .int .i64 H, .string BS, .int .i64 T, .int .i64 (fn : Nat), .string S], .slice xa tn xc, .pointer (some ⟨B, 6, none⟩), .string S, .tuple #[.int .i64 s0, .bool ok], _, _, _], defers := _ } _
      refine alongK_read (.int .i64 s0) rfl rfl (fun wx hS => ex_extr (cs := #[.int .i64 s0, .bool ok]) rfl rfl rfl wx) ?_
      change AlongK _ _ _ _ _ { tmps := #[.agg #[.int .i64 K, .int .i64 V, .int .i64 H, .string BS, .int .i64 T, .int .i64 (fn : Nat), .string S], .slice (some ⟨rb, ro, none⟩) rn rc, .pointer (some ⟨B, 0, none⟩), _, .bool false, _, _, _, _, _, _, _, _, _, _, _, _, .tuple #[.int .i64 s0, .bool ok], .slice (some ⟨rb, ro, none⟩) rn rc, .pointer (some ⟨B, 5, none⟩), .int .i64 (fn : Nat), .pointer (some ⟨rb, ro + fn * 1, none⟩), .string R, .agg #[.int .i64 K, .int .i64 V, .int .i64 H, .string BS, .int .i64 T, .int .i64 (fn : Nat), .string S], .slice xa tn xc, .pointer (some ⟨B, 6, none⟩), .string S, .tuple #[.int .i64 s0, .bool ok], .int .i64 s0, _, _], defers := _ } _
      refine alongK_read (.bool ok) rfl rfl (fun wx hS => ex_extr (cs := #[.int .i64 s0, .bool ok]) rfl rfl rfl wx) ?_
      change AlongK _ _ _ _ _ { tmps := #[.agg #[.int .i64 K, .int .i64 V, .int .i64 H, .string BS, .int .i64 T, .int .i64 (fn : Nat), .string S], .slice (some ⟨rb, ro, none⟩) rn rc, .pointer (some ⟨B, 0, none⟩), _, .bool false, _, _, _, _, _, _, _, _, _, _, _, _, .tuple #[.int .i64 s0, .bool ok], .slice (some ⟨rb, ro, none⟩) rn rc, .pointer (some ⟨B, 5, none⟩), .int .i64 (fn : Nat), .pointer (some ⟨rb, ro + fn * 1, none⟩), .string R, .agg #[.int .i64 K, .int .i64 V, .int .i64 H, .string BS, .int .i64 T, .int .i64 (fn : Nat), .string S], .slice xa tn xc, .pointer (some ⟨B, 6, none⟩), .string S, .tuple #[.int .i64 s0, .bool ok], .int .i64 s0, .bool ok, _], defers := _ } _
      refine alongK_read (.int .i64 s0) rfl rfl (fun wx hS => ex_assign (by rfl) (by rfl) wx) ?_
      change AlongK _ _ _ _ _ { tmps := #[.agg #[.int .i64 K, .int .i64 V, .int .i64 H, .string BS, .int .i64 T, .int .i64 (fn : Nat), .string S], .slice (some ⟨rb, ro, none⟩) rn rc, .pointer (some ⟨B, 0, none⟩), _, .bool false, .int .i64 s0, _, _, _, _, _, _, _, _, _, _, _, .tuple #[.int .i64 s0, .bool ok], .slice (some ⟨rb, ro, none⟩) rn rc, .pointer (some ⟨B, 5, none⟩), .int .i64 (fn : Nat), .pointer (some ⟨rb, ro + fn * 1, none⟩), .string R, .agg #[.int .i64 K, .int .i64 V, .int .i64 H, .string BS, .int .i64 T, .int .i64 (fn : Nat), .string S], .slice xa tn xc, .pointer (some ⟨B, 6, none⟩), .string S, .tuple #[.int .i64 s0, .bool ok], .int .i64 s0, .bool ok, _], defers := _ } _
      refine alongK_read (.bool ok) rfl rfl (fun wx hS => ex_assign (by rfl) (by rfl) wx) ?_
      change AlongK _ _ _ _ _ { tmps := #[.agg #[.int .i64 K, .int .i64 V, .int .i64 H, .string BS, .int .i64 T, .int .i64 (fn : Nat), .string S], .slice (some ⟨rb, ro, none⟩) rn rc, .pointer (some ⟨B, 0, none⟩), _, .bool false, .int .i64 s0, .bool ok, _, _, _, _, _, _, _, _, _, _, .tuple #[.int .i64 s0, .bool ok], .slice (some ⟨rb, ro, none⟩) rn rc, .pointer (some ⟨B, 5, none⟩), .int .i64 (fn : Nat), .pointer (some ⟨rb, ro + fn * 1, none⟩), .string R, .agg #[.int .i64 K, .int .i64 V, .int .i64 H, .string BS, .int .i64 T, .int .i64 (fn : Nat), .string S], .slice xa tn xc, .pointer (some ⟨B, 6, none⟩), .string S, .tuple #[.int .i64 s0, .bool ok], .int .i64 s0, .bool ok, _], defers := _ } _
      refine alongK_done ?_
      clear hU7 hA5 hI5 hU5
      have H1 := Lib.hid hg1
      have H2 := Lib.hid hg2
      have HA7 := Lib.hid hA7
      clear hg1 hg2 hA7
      go_wp2
      go_ret
      exact ⟨_, rfl, fun h => (H1.out (HG.out.1 h)).2, fun h => (H2.out fun h2 => h (HG.out.2 h2)).2, Up.trans HUr.out HA7.out⟩
    · have HG : Hid (¬ VtGood v sig ls) := fun h => hfn (by have := h.2.1; rwa [hgt] at this)
      have hfn2 : (ls.length : Int) ≤ v.G := by omega
      generalize VtGood v sig ls = TG at HG ⊢
      generalize strOfNums sig = S at Hc ⊢
      generalize ls.length = rn at hfn2 ⊢
      unfold vtC
      clear hE hrd hrn hrc hu hsl hll hfn hgt hfg hok hvb
      obtain ⟨K, V, H, BL, T, G⟩ := v
      simp only at Hc hfn2 ⊢
      generalize strOfNums BL = BS at Hc ⊢
      go_enter Tryz.func60, Tryz.ntmps60
      go_wp2_with fail
      with_reducible refine Calls.mono (Hc.out _) ?_
      rintro e wr ⟨rfl, hU1⟩
      have hb := (hU1.block w.heap.size (by simp)).trans (heap_alloc_new w (.cells #[.int .i64 K, .int .i64 V, .int .i64 H, .string BS, .int .i64 T, .int .i64 G, .string S] 49))
      have hc5 := (vt_cells hb).2.2.2.2.2.1
      have HUr := Lib.hid (Up.trans (Up.alloc (Up.refl w) _) hU1)
      clear hb hU1
      go_wp2
      go_ret
      exact ⟨_, rfl, fun h => absurd h HG.out, fun _ => rfl, HUr.out⟩
  · have HG : Hid (¬ VtGood v sig ls) := fun h => hE h.1
    have hE9 := vtE_nine hE
    have Hc : Hid (∀ wx, Calls Tryz.prog 88 #[.agg #[.int .i64 v.K, .int .i64 v.V, .int .i64 v.H, .string (strOfNums v.B), .int .i64 v.T, .int .i64 v.G, .string (strOfNums sig)]] wx fun e w' => e = .returned (.int .i64 9) ∧ Up wx w') := fun wx => by have := vtCheck_any v (strOfNums sig) wx; rw [hE9] at this; exact this
    generalize VtGood v sig ls = TG at HG ⊢
    generalize strOfNums sig = S at Hc ⊢
    generalize ls.length = rn at ⊢
    unfold vtC
    clear hE hE9 hrd hrn hrc hu hsl hll hvb
    obtain ⟨K, V, H, BL, T, G⟩ := v
    simp only at Hc ⊢
    generalize strOfNums BL = BS at Hc ⊢
    go_enter Tryz.func60, Tryz.ntmps60
    go_wp2_with fail
    with_reducible refine Calls.mono (Hc.out _) ?_
    rintro e wr ⟨rfl, hU1⟩
    have HUr := Lib.hid (Up.trans (Up.alloc (Up.refl w) _) hU1)
    clear hU1
    go_wp2
    go_ret
    exact ⟨_, rfl, fun h => absurd h HG.out, fun _ => rfl, HUr.out⟩
end
end
end Go.Proofs.YtfenmhddlojahaaGreat
