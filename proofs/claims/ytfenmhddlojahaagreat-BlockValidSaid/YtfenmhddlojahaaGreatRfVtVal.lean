import Derived.Test.YtfenmhddlojahaaGreatRfVtF
import Derived.Test.YtfenmhddlojahaaGreatVtMake
import Derived.Test.YtfenmhddlojahaaGreatRefVerify
import Derived.Test.YtfenmhddlojahaaGreatCtRight
namespace Go.Proofs.YtfenmhddlojahaaGreat
/-
  The reference: whether a statement is valid.
-/
section
set_option maxRecDepth 100000
section
set_option linter.unusedVariables false
open Go.RowKit

set_option maxHeartbeats 2000000 in
theorem refVtValid_any (v : Vt) (sig : List Int) (rv : Value) (ls : List (List Int)) (w : World) (hs : Strs w rv ls) (hvb : U8s v.B) (hu : U8s sig) (hsl : sig.length ≤ 9223372036854775807) (hll : ls.length ≤ 9223372036854775807) :
    Calls Tryz.prog 17 #[.agg (vtC v (strOfNums sig)), rv] w fun e w' => ∃ b : Bool, e = .returned (.bool b) ∧ (VtGood v sig ls → b = true) ∧ (¬ VtGood v sig ls → b = false) ∧ Up w w' := by
  obtain ⟨ra, rc, rfl, hrc, hrn, hrd⟩ := hs
  by_cases hE : vtE v (strOfNums sig) = 0
  · have hok := vtMay_ok (vtE_ok hE).1
    have Hc : Hid (∀ wx, Calls Tryz.prog 36 #[.agg #[.int .i64 v.K, .int .i64 v.V, .int .i64 v.H, .string (strOfNums v.B), .int .i64 v.T, .int .i64 v.G, .string (strOfNums sig)]] wx fun e w' => e = .returned (.int .i64 0) ∧ Up wx w') := fun wx => by have := refVt_any v (strOfNums sig) wx; rw [hE] at this; exact this
    obtain ⟨fn, hfg⟩ : ∃ fn : Nat, v.G = fn := ⟨v.G.toNat, by have := hok.g.1; omega⟩
    have hgt : v.G.toNat = fn := by omega
    by_cases hfn : fn < ls.length
    · have HG : Hid (VtGood v sig ls ↔ GoodSig (strOfNums (ls[fn]?.getD [])) 4 (vtT v) sig) := ⟨fun h => by have := h.2.2; rwa [hgt] at this, fun h => ⟨hE, by rw [hgt]; exact hfn, by rw [hgt]; exact h⟩⟩
      obtain ⟨tn, htn⟩ : ∃ tn, (vtT v).length = tn := ⟨_, rfl⟩
      have HTx : Hid (∀ wx, Calls Tryz.prog 38 #[.agg #[.int .i64 v.K, .int .i64 v.V, .int .i64 v.H, .string (strOfNums v.B), .int .i64 v.T, .int .i64 v.G, .string (strOfNums sig)]] wx fun e w' => ∃ xa xc, e = .returned (.slice xa tn xc) ∧ Ints .u8 w' (.slice xa tn xc) (vtT v) ∧ Up wx w') := by
        intro wx
        refine (refVtText_any v.K v.V v.H v.B v.T v.G _ wx hvb (Nat.le_trans hok.bl (by decide))).mono fun e w' ⟨r, h1, h2, h3⟩ => ?_
        rw [if_pos (show vtE ⟨v.K, v.V, v.H, v.B, v.T, v.G⟩ (strOfNums sig) = 0 from hE)] at h2
        have h4 := h2
        obtain ⟨xa, xc, rfl, _⟩ := h4
        have e9 : (⟨v.K, v.V, v.H, v.B, v.T, v.G⟩ : Vt) = v := rfl
        rw [e9] at h1 h2
        rw [htn] at h1 h2
        exact ⟨xa, xc, h1, h2, h3⟩
      have HV : Hid (∀ (wx : World) xa xc, Ints .u8 wx (.slice xa tn xc) (vtT v) → Calls Tryz.prog 37 #[.string (strOfNums (ls[fn]?.getD [])), .int .i64 4, .slice xa tn xc, .string (strOfNums sig)] wx (SigTold (strOfNums (ls[fn]?.getD [])) 4 (vtT v) sig wx)) :=
        fun wx xa xc hi => refVerify_any _ 4 _ _ sig wx hi (vtT_u8s _ hvb) (by rw [vtT_length]; have := hok.bl; omega) hu hsl
      obtain ⟨rb, ro, rfl, hcell⟩ : ∃ b off, ra = some ⟨b, off, none⟩ ∧ ∀ j, j < ls.length → w.cell? ⟨b, off + j, none⟩ = some (.string (strOfNums (ls[j]?.getD []))) := by
        rcases hrd with rfl | h
        · simp at hfn
        · exact h
      have HRw := Lib.hid (hcell fn hfn)
      unfold SigTold at HV
      generalize GoodSig (strOfNums (ls[fn]?.getD [])) 4 (vtT v) sig = GD at HV HG
      generalize VtGood v sig ls = TG at HG ⊢
      generalize strOfNums (ls[fn]?.getD []) = R at HV HRw
      generalize vtT v = TT at HTx HV
      generalize sigLeaf sig = SL at HV
      generalize strOfNums sig = S at Hc HTx HV ⊢
      have hfn2 : ¬ ((ls.length : Int) ≤ (fn : Int)) := by omega
      generalize ls.length = rn at hfn hfn2 ⊢
      unfold vtC
      clear hE hcell hrd hrn hrc hu hsl hll hvb hok htn hgt
      obtain ⟨K, V, H, BL, T, G⟩ := v
      simp only at Hc HTx hfg ⊢
      subst hfg
      generalize strOfNums BL = BS at Hc HTx ⊢
      go_enter Tryz.func17, Tryz.ntmps17
      go_wp2_with fail
      with_reducible refine Calls.mono (Hc.out _) ?_
      rintro e wr ⟨rfl, hU1⟩
      have hb := (hU1.block w.heap.size (by simp)).trans (heap_alloc_new w (.cells #[.int .i64 K, .int .i64 V, .int .i64 H, .string BS, .int .i64 T, .int .i64 (fn : Nat), .string S] 49))
      have hc5 := (vt_cells hb).2.2.2.2.2.1
      have HTb := Lib.hid hb
      have HUr := Lib.hid (Up.trans (Up.alloc (Up.refl w) _) hU1)
      have HRt : Hid (∀ wx, Up wr wx → wx.cell? ⟨rb, ro + fn * 1, none⟩ = some (.string R)) := fun wx hx => by rw [Nat.mul_one]; exact later_cell HRw.out (Up.trans HUr.out hx)
      clear hb hU1
      go_wp2
      clear hc5 hfn2
      generalize w.heap.size = B at HTb ⊢
      refine region_alongK (fun x => Up wr x) (.read 0 (.read 1 (.read 2 (.read 3 (.read 4 (.read 5 (.read 7 (.read 8 (.step 6 (.step 9 (.read 10 (.read 11 (.read 12 (.read 13 (.read 14 (.nil)))))))))))))))) (by kernel_rfl) rfl (by kernel_rfl) (by kernel_rfl) (fun c a d v w h => by cases d <;> exact h) (Up.drew1 wr) ?_
      refine alongK_read (.slice (some ⟨rb, ro, none⟩) rn rc) rfl rfl (fun wx hS => ex_move (by rfl) (by rfl) wx) ?_
      change AlongK _ _ _ _ _ { tmps := #[.agg #[.int .i64 K, .int .i64 V, .int .i64 H, .string BS, .int .i64 T, .int .i64 (fn : Nat), .string S], .slice (some ⟨rb, ro, none⟩) rn rc, .pointer (some ⟨B, 0, none⟩), _, .bool false, _, _, _, _, _, _, _, _, _, _, _, _, _, .slice (some ⟨rb, ro, none⟩) rn rc, _, _, _, _, _, _, _, _, _, _, _, _], defers := _ } _
      refine alongK_read (.pointer (some ⟨B, 5, none⟩)) rfl rfl (fun wx hS => ex_field rfl rfl wx (by simp [go_sem])) ?_
      change AlongK _ _ _ _ _ { tmps := #[.agg #[.int .i64 K, .int .i64 V, .int .i64 H, .string BS, .int .i64 T, .int .i64 (fn : Nat), .string S], .slice (some ⟨rb, ro, none⟩) rn rc, .pointer (some ⟨B, 0, none⟩), _, .bool false, _, _, _, _, _, _, _, _, _, _, _, _, _, .slice (some ⟨rb, ro, none⟩) rn rc, .pointer (some ⟨B, 5, none⟩), _, _, _, _, _, _, _, _, _, _, _], defers := _ } _
      refine alongK_read (.int .i64 (fn : Nat)) rfl rfl (fun wx hS => ex_load Tryz.isAgg3 rfl rfl wx ((vt_cells ((hS.block B (lt_of_block HTb.out)).trans HTb.out)).2.2.2.2.2.1)) ?_
      change AlongK _ _ _ _ _ { tmps := #[.agg #[.int .i64 K, .int .i64 V, .int .i64 H, .string BS, .int .i64 T, .int .i64 (fn : Nat), .string S], .slice (some ⟨rb, ro, none⟩) rn rc, .pointer (some ⟨B, 0, none⟩), _, .bool false, _, _, _, _, _, _, _, _, _, _, _, _, _, .slice (some ⟨rb, ro, none⟩) rn rc, .pointer (some ⟨B, 5, none⟩), .int .i64 (fn : Nat), _, _, _, _, _, _, _, _, _, _], defers := _ } _
      refine alongK_read (.pointer (some ⟨rb, ro + fn * 1, none⟩)) rfl rfl (fun wx hS => ex_index Tryz.underlying25 Tryz.sizeOf9 rfl rfl rfl (hfn) wx) ?_
      change AlongK _ _ _ _ _ { tmps := #[.agg #[.int .i64 K, .int .i64 V, .int .i64 H, .string BS, .int .i64 T, .int .i64 (fn : Nat), .string S], .slice (some ⟨rb, ro, none⟩) rn rc, .pointer (some ⟨B, 0, none⟩), _, .bool false, _, _, _, _, _, _, _, _, _, _, _, _, _, .slice (some ⟨rb, ro, none⟩) rn rc, .pointer (some ⟨B, 5, none⟩), .int .i64 (fn : Nat), .pointer (some ⟨rb, ro + fn * 1, none⟩), _, _, _, _, _, _, _, _, _], defers := _ } _
      refine alongK_read (.string R) rfl rfl (fun wx hS => ex_load Tryz.isAgg9 rfl rfl wx (HRt.out wx hS)) ?_
      change AlongK _ _ _ _ _ { tmps := #[.agg #[.int .i64 K, .int .i64 V, .int .i64 H, .string BS, .int .i64 T, .int .i64 (fn : Nat), .string S], .slice (some ⟨rb, ro, none⟩) rn rc, .pointer (some ⟨B, 0, none⟩), _, .bool false, _, _, _, _, _, _, _, _, _, _, _, _, _, .slice (some ⟨rb, ro, none⟩) rn rc, .pointer (some ⟨B, 5, none⟩), .int .i64 (fn : Nat), .pointer (some ⟨rb, ro + fn * 1, none⟩), .string R, _, _, _, _, _, _, _, _], defers := _ } _
      refine alongK_read (.agg #[.int .i64 K, .int .i64 V, .int .i64 H, .string BS, .int .i64 T, .int .i64 (fn : Nat), .string S]) rfl rfl (fun wx hS => ex_loadrow rfl rfl wx 49 ((hS.block B (lt_of_block HTb.out)).trans HTb.out) Tryz.underlying49 rfl info_vt) ?_
      change AlongK _ _ _ _ _ { tmps := #[.agg #[.int .i64 K, .int .i64 V, .int .i64 H, .string BS, .int .i64 T, .int .i64 (fn : Nat), .string S], .slice (some ⟨rb, ro, none⟩) rn rc, .pointer (some ⟨B, 0, none⟩), _, .bool false, _, _, _, _, _, _, _, _, _, _, _, _, _, .slice (some ⟨rb, ro, none⟩) rn rc, .pointer (some ⟨B, 5, none⟩), .int .i64 (fn : Nat), .pointer (some ⟨rb, ro + fn * 1, none⟩), .string R, .agg #[.int .i64 K, .int .i64 V, .int .i64 H, .string BS, .int .i64 T, .int .i64 (fn : Nat), .string S], _, _, _, _, _, _, _], defers := _ } _
      refine alongK_read (.pointer (some ⟨B, 6, none⟩)) rfl rfl (fun wx hS => ex_field rfl rfl wx (by simp [go_sem])) ?_
      change AlongK _ _ _ _ _ { tmps := #[.agg #[.int .i64 K, .int .i64 V, .int .i64 H, .string BS, .int .i64 T, .int .i64 (fn : Nat), .string S], .slice (some ⟨rb, ro, none⟩) rn rc, .pointer (some ⟨B, 0, none⟩), _, .bool false, _, _, _, _, _, _, _, _, _, _, _, _, _, .slice (some ⟨rb, ro, none⟩) rn rc, .pointer (some ⟨B, 5, none⟩), .int .i64 (fn : Nat), .pointer (some ⟨rb, ro + fn * 1, none⟩), .string R, .agg #[.int .i64 K, .int .i64 V, .int .i64 H, .string BS, .int .i64 T, .int .i64 (fn : Nat), .string S], _, .pointer (some ⟨B, 6, none⟩), _, _, _, _, _], defers := _ } _
      refine alongK_read (.string S) rfl rfl (fun wx hS => ex_load Tryz.isAgg9 rfl rfl wx ((vt_cells ((hS.block B (lt_of_block HTb.out)).trans HTb.out)).2.2.2.2.2.2)) ?_
      change AlongK _ _ _ _ _ { tmps := #[.agg #[.int .i64 K, .int .i64 V, .int .i64 H, .string BS, .int .i64 T, .int .i64 (fn : Nat), .string S], .slice (some ⟨rb, ro, none⟩) rn rc, .pointer (some ⟨B, 0, none⟩), _, .bool false, _, _, _, _, _, _, _, _, _, _, _, _, _, .slice (some ⟨rb, ro, none⟩) rn rc, .pointer (some ⟨B, 5, none⟩), .int .i64 (fn : Nat), .pointer (some ⟨rb, ro + fn * 1, none⟩), .string R, .agg #[.int .i64 K, .int .i64 V, .int .i64 H, .string BS, .int .i64 T, .int .i64 (fn : Nat), .string S], _, .pointer (some ⟨B, 6, none⟩), .string S, _, _, _, _], defers := _ } _
      refine alongK_step ?_
      refine opK_call (vs := [.agg #[.int .i64 K, .int .i64 V, .int .i64 H, .string BS, .int .i64 T, .int .i64 (fn : Nat), .string S]]) rfl rfl rfl (enters_of Tryz.func38 (by kernel_rfl) rfl) rfl ?_
      with_reducible refine Calls.mono (HTx.out _) ?_
      rintro e w5 ⟨xa, xc, rfl, hI5, hU5⟩
      have hA5 : Up wr w5 := Up.trans (Up.drew1 wr) hU5
      refine ⟨_, rfl, (fun x => Up wr x), (fun x hx => hx), hA5, ?_⟩
      change AlongK _ _ _ _ _ { tmps := #[.agg #[.int .i64 K, .int .i64 V, .int .i64 H, .string BS, .int .i64 T, .int .i64 (fn : Nat), .string S], .slice (some ⟨rb, ro, none⟩) rn rc, .pointer (some ⟨B, 0, none⟩), _, .bool false, _, _, _, _, _, _, _, _, _, _, _, _, _, .slice (some ⟨rb, ro, none⟩) rn rc, .pointer (some ⟨B, 5, none⟩), .int .i64 (fn : Nat), .pointer (some ⟨rb, ro + fn * 1, none⟩), .string R, .agg #[.int .i64 K, .int .i64 V, .int .i64 H, .string BS, .int .i64 T, .int .i64 (fn : Nat), .string S], .slice xa tn xc, .pointer (some ⟨B, 6, none⟩), .string S, _, _, _, _], defers := _ } _
      refine alongK_step ?_
      refine opK_call (vs := [.string R, .int .i64 4, .slice xa tn xc, .string S]) rfl rfl rfl (enters_of Tryz.func37 (by kernel_rfl) rfl) rfl ?_
      with_reducible refine Calls.mono (HV.out _ xa xc hI5) ?_
      rintro e w7 ⟨⟨s0, ok, rfl, hg1, hg2⟩, hU7⟩
      have hA7 : Up wr w7 := Up.trans hA5 hU7
      refine ⟨_, rfl, (fun x => Up wr x), (fun x hx => hx), hA7, ?_⟩
      change AlongK _ _ _ _ _ { tmps := #[.agg #[.int .i64 K, .int .i64 V, .int .i64 H, .string BS, .int .i64 T, .int .i64 (fn : Nat), .string S], .slice (some ⟨rb, ro, none⟩) rn rc, .pointer (some ⟨B, 0, none⟩), _, .bool false, _, _, _, _, _, _, _, _, _, _, _, _, _, .slice (some ⟨rb, ro, none⟩) rn rc, .pointer (some ⟨B, 5, none⟩), .int .i64 (fn : Nat), .pointer (some ⟨rb, ro + fn * 1, none⟩), .string R, .agg #[.int .i64 K, .int .i64 V, .int .i64 H, .string BS, .int .i64 T, .int .i64 (fn : Nat), .string S], .slice xa tn xc, .pointer (some ⟨B, 6, none⟩), .string S, .tuple #[.int .i64 s0, .bool ok], _, _, _], defers := _ } _
      refine alongK_read (.tuple #[.int .i64 s0, .bool ok]) rfl rfl (fun wx hS => ex_move (by rfl) (by rfl) wx) ?_
      change AlongK _ _ _ _ _ { tmps := #[.agg #[.int .i64 K, .int .i64 V, .int .i64 H, .string BS, .int .i64 T, .int .i64 (fn : Nat), .string S], .slice (some ⟨rb, ro, none⟩) rn rc, .pointer (some ⟨B, 0, none⟩), _, .bool false, _, _, _, _, _, _, _, _, _, _, _, _, .tuple #[.int .i64 s0, .bool ok], .slice (some ⟨rb, ro, none⟩) rn rc, .pointer (some ⟨B, 5, none⟩), .int .i64 (fn : Nat), .pointer (some ⟨rb, ro + fn * 1, none⟩), .string R, .agg #[.int .i64 K, .int .i64 V, .int .i64 H, .string BS, .int .i64 T, .int .i64 (fn : Nat), .string S], .slice xa tn xc, .pointer (some ⟨B, 6, none⟩), .string S, .tuple #[.int .i64 s0, .bool ok], _, _, _], defers := _ } _
      refine alongK_read (.int .i64 s0) rfl rfl (fun wx hS => ex_extr (cs := #[.int .i64 s0, .bool ok]) rfl rfl rfl wx) ?_
      change AlongK _ _ _ _ _ { tmps := #[.agg #[.int .i64 K, .int .i64 V, .int .i64 H, .string BS, .int .i64 T, .int .i64 (fn : Nat), .string S], .slice (some ⟨rb, ro, none⟩) rn rc, .pointer (some ⟨B, 0, none⟩), _, .bool false, _, _, _, _, _, _, _, _, _, _, _, _, .tuple #[.int .i64 s0, .bool ok], .slice (some ⟨rb, ro, none⟩) rn rc, .pointer (some ⟨B, 5, none⟩), .int .i64 (fn : Nat), .pointer (some ⟨rb, ro + fn * 1, none⟩), .string R, .agg #[.int .i64 K, .int .i64 V, .int .i64 H, .string BS, .int .i64 T, .int .i64 (fn : Nat), .string S], .slice xa tn xc, .pointer (some ⟨B, 6, none⟩), .string S, .tuple #[.int .i64 s0, .bool ok], .int .i64 s0, _, _], defers := _ } _
      refine alongK_read (.bool ok) rfl rfl (fun wx hS => ex_extr (cs := #[.int .i64 s0, .bool ok]) rfl rfl rfl wx) ?_
      change AlongK _ _ _ _ _ { tmps := #[.agg #[.int .i64 K, .int .i64 V, .int .i64 H, .string BS, .int .i64 T, .int .i64 (fn : Nat), .string S], .slice (some ⟨rb, ro, none⟩) rn rc, .pointer (some ⟨B, 0, none⟩), _, .bool false, _, _, _, _, _, _, _, _, _, _, _, _, .tuple #[.int .i64 s0, .bool ok], .slice (some ⟨rb, ro, none⟩) rn rc, .pointer (some ⟨B, 5, none⟩), .int .i64 (fn : Nat), .pointer (some ⟨rb, ro + fn * 1, none⟩), .string R, .agg #[.int .i64 K, .int .i64 V, .int .i64 H, .string BS, .int .i64 T, .int .i64 (fn : Nat), .string S], .slice xa tn xc, .pointer (some ⟨B, 6, none⟩), .string S, .tuple #[.int .i64 s0, .bool ok], .int .i64 s0, .bool ok, _], defers := _ } _
      refine alongK_read (.int .i64 s0) rfl rfl (fun wx hS => ex_assign (by rfl) (by rfl) wx) ?_
      change AlongK _ _ _ _ _ { tmps := #[.agg #[.int .i64 K, .int .i64 V, .int .i64 H, .string BS, .int .i64 T, .int .i64 (fn : Nat), .string S], .slice (some ⟨rb, ro, none⟩) rn rc, .pointer (some ⟨B, 0, none⟩), _, .bool false, .int .i64 s0, _, _, _, _, _, _, _, _, _, _, _, .tuple #[.int .i64 s0, .bool ok], .slice (some ⟨rb, ro, none⟩) rn rc, .pointer (some ⟨B, 5, none⟩), .int .i64 (fn : Nat), .pointer (some ⟨rb, ro + fn * 1, none⟩), .string R, .agg #[.int .i64 K, .int .i64 V, .int .i64 H, .string BS, .int .i64 T, .int .i64 (fn : Nat), .string S], .slice xa tn xc, .pointer (some ⟨B, 6, none⟩), .string S, .tuple #[.int .i64 s0, .bool ok], .int .i64 s0, .bool ok, _], defers := _ } _
      refine alongK_read (.bool ok) rfl rfl (fun wx hS => ex_assign (by rfl) (by rfl) wx) ?_
      change AlongK _ _ _ _ _ { tmps := #[.agg #[.int .i64 K, .int .i64 V, .int .i64 H, .string BS, .int .i64 T, .int .i64 (fn : Nat), .string S], .slice (some ⟨rb, ro, none⟩) rn rc, .pointer (some ⟨B, 0, none⟩), _, .bool false, .int .i64 s0, .bool ok, _, _, _, _, _, _, _, _, _, _, .tuple #[.int .i64 s0, .bool ok], .slice (some ⟨rb, ro, none⟩) rn rc, .pointer (some ⟨B, 5, none⟩), .int .i64 (fn : Nat), .pointer (some ⟨rb, ro + fn * 1, none⟩), .string R, .agg #[.int .i64 K, .int .i64 V, .int .i64 H, .string BS, .int .i64 T, .int .i64 (fn : Nat), .string S], .slice xa tn xc, .pointer (some ⟨B, 6, none⟩), .string S, .tuple #[.int .i64 s0, .bool ok], .int .i64 s0, .bool ok, _], defers := _ } _
      refine alongK_done ?_
      clear hU7 hA5 hI5 hU5
      have H1 := Lib.hid hg1
      have H2 := Lib.hid hg2
      have HA7 := Lib.hid hA7
      clear hg1 hg2 hA7
      go_wp2
      go_ret
      exact ⟨_, rfl, fun h => (H1.out (HG.out.1 h)).2, fun h => (H2.out fun h2 => h (HG.out.2 h2)).2, Up.trans HUr.out HA7.out⟩
    · have HG : Hid (¬ VtGood v sig ls) := fun h => hfn (by have := h.2.1; rwa [hgt] at this)
      have hfn2 : (ls.length : Int) ≤ v.G := by omega
      generalize VtGood v sig ls = TG at HG ⊢
      generalize strOfNums sig = S at Hc ⊢
      generalize ls.length = rn at hfn2 ⊢
      unfold vtC
      clear hE hrd hrn hrc hu hsl hll hfn hgt hfg hok hvb
      obtain ⟨K, V, H, BL, T, G⟩ := v
      simp only at Hc hfn2 ⊢
      generalize strOfNums BL = BS at Hc ⊢
      go_enter Tryz.func17, Tryz.ntmps17
      go_wp2_with fail
      with_reducible refine Calls.mono (Hc.out _) ?_
      rintro e wr ⟨rfl, hU1⟩
      have hb := (hU1.block w.heap.size (by simp)).trans (heap_alloc_new w (.cells #[.int .i64 K, .int .i64 V, .int .i64 H, .string BS, .int .i64 T, .int .i64 G, .string S] 49))
      have hc5 := (vt_cells hb).2.2.2.2.2.1
      have HUr := Lib.hid (Up.trans (Up.alloc (Up.refl w) _) hU1)
      clear hb hU1
      go_wp2
      go_ret
      exact ⟨_, rfl, fun h => absurd h HG.out, fun _ => rfl, HUr.out⟩
  · have HG : Hid (¬ VtGood v sig ls) := fun h => hE h.1
    have hE9 := vtE_nine hE
    have Hc : Hid (∀ wx, Calls Tryz.prog 36 #[.agg #[.int .i64 v.K, .int .i64 v.V, .int .i64 v.H, .string (strOfNums v.B), .int .i64 v.T, .int .i64 v.G, .string (strOfNums sig)]] wx fun e w' => e = .returned (.int .i64 9) ∧ Up wx w') := fun wx => by have := refVt_any v (strOfNums sig) wx; rw [hE9] at this; exact this
    generalize VtGood v sig ls = TG at HG ⊢
    generalize strOfNums sig = S at Hc ⊢
    generalize ls.length = rn at ⊢
    unfold vtC
    clear hE hE9 hrd hrn hrc hu hsl hll hvb
    obtain ⟨K, V, H, BL, T, G⟩ := v
    simp only at Hc ⊢
    generalize strOfNums BL = BS at Hc ⊢
    go_enter Tryz.func17, Tryz.ntmps17
    go_wp2_with fail
    with_reducible refine Calls.mono (Hc.out _) ?_
    rintro e wr ⟨rfl, hU1⟩
    have HUr := Lib.hid (Up.trans (Up.alloc (Up.refl w) _) hU1)
    clear hU1
    go_wp2
    go_ret
    exact ⟨_, rfl, fun h => absurd h HG.out, fun _ => rfl, HUr.out⟩
end
end

/-
  The reference: certs: what is there for them.
-/
section
set_option maxRecDepth 100000
section
set_option linter.unusedVariables false
open Go.RowKit Go.Sort Go.Lib

theorem VArg.sgn {W : World} {b off n cap : Nat} {xs : List Vs} (h : VArg W (.slice (some ⟨b, off, none⟩) n cap) xs) {i : Nat} {x : Vs} (hx : xs[i]? = some x) : W.cell? ⟨b, off + i * 7 + 5, none⟩ = some (.int .i64 x.1.G) := by
  obtain ⟨a', cap', e, h1, h2, h3⟩ := h
  cases e
  have hi : i < xs.length := (List.getElem?_eq_some_iff.1 hx).1
  rcases h3 with rfl | ⟨b', off', e, h4⟩
  · simp at hi
  · cases e
    rw [Nat.add_assoc, h4 (i * 7 + 5) (by omega), vsF_get xs (i * 7 + 5) (by omega), get_flatK _ _ _ _ (by simp; omega)]
    have e1 : (i * 7 + 5) / 7 = i := by omega
    have e2 : (i * 7 + 5) % 7 = 5 := by omega
    rw [e1, e2]
    have : xs.toArray[i]! = x := by simp [Array.getElem!_eq_getD, Array.getD_eq_getD_getElem?, hx]
    rw [this]; rfl
theorem eqs_any (x y : Operand) (p q : ByteArray) (c : Bool) (hc : c = decide (p = q)) (w : World) : (do eqGuard .eql 9 x y (.string p) (.string q); binOp .eql 9 (.string p) (.string q) : Sem Value).run Tryz.prog w = .ok (.bool c) w := by
  subst hc
  simp [eqGuard, go_sem, toList_dec]
theorem nes_any (x y : Operand) (p q : ByteArray) (c : Bool) (hc : c = !decide (p = q)) (w : World) : (do eqGuard .neq 9 x y (.string p) (.string q); binOp .neq 9 (.string p) (.string q) : Sem Value).run Tryz.prog w = .ok (.bool c) w := by
  subst hc
  rw [neq_str, bne, toList_dec]
theorem sub_one (x y : Operand) (i k : Nat) (h : i = k + 1) (hi : i < 4611686018427387904) (w : World) : (do eqGuard .sub 3 x y (.int .i64 (i : Int)) (.int .i64 1); binOp .sub 3 (.int .i64 (i : Int)) (.int .i64 1) : Sem Value).run Tryz.prog w = .ok (.int .i64 (k : Int)) w := by
  subst h
  simp [eqGuard, go_sem]
  rw [IntKind.wrap_i64]; omega
theorem gtr_any (x y : Operand) (p q : Int) (c : Bool) (hc : c = decide (q < p)) (w : World) : (do eqGuard .gtr 3 x y (.int .i64 p) (.int .i64 q); binOp .gtr 3 (.int .i64 p) (.int .i64 q) : Sem Value).run Tryz.prog w = .ok (.bool c) w := by
  subst hc
  simp [eqGuard, go_sem]
theorem refValid_vs (x : Vs) (hx : VsOk x) (rv : Value) (ls : List (List Int)) (w : World) (hs : Strs w rv ls) (hll : ls.length ≤ 9223372036854775807) :
    Calls Tryz.prog 17 #[.agg (vsA x), rv] w fun e w' => e = .returned (.bool (vgB ls x)) ∧ Up w w' := by
  obtain ⟨h1, _, _, _, _, _, _, h8⟩ := hx
  have h := refVtValid_any x.1 (octsOf x.2) rv ls w hs h1 (octsOf_u8s _) (by rw [octsOf_length]; exact h8) hll
  rw [strOf_octs] at h
  rw [vsA_eq]
  refine h.mono ?_
  rintro e w' ⟨b, rfl, g1, g2, hu⟩
  refine ⟨?_, hu⟩
  unfold vgB
  by_cases hg : VtGood x.1 (octsOf x.2) ls
  · rw [g1 hg]; simp [hg]
  · rw [g2 hg]; simp [hg]

set_option maxHeartbeats 1000000 in
theorem refGenesis_any (w : World) : Calls Tryz.prog 32 #[] w fun e w' => e = .returned (.string (strOfNums gen32)) ∧ Up w w' := by
  obtain ⟨ws, hm, hI, hu⟩ : ∃ ws, (Instr.makeSlice 31 (.int .i64 32) (.int .i64 32)).run Tryz.prog w = .ok (.slice (some ⟨w.heap.size, 0, none⟩) 32 32) ws ∧ Ints .u8 ws (.slice (some ⟨w.heap.size, 0, none⟩) 32 32) gen32 ∧ Up w ws := by
    refine ⟨_, made_u8 32 (by decide) w, ?_, Up.alloc (Up.refl _) _⟩
    refine ⟨_, 32, rfl, by decide, (fun h => by cases h), .inr ⟨w.heap.size, 0, rfl, fun j hj => ?_⟩⟩
    have hj' : j < 32 := by simpa [gen32] using hj
    have h0 : gen32[j]? = some 0 := by unfold gen32; rw [List.getElem?_replicate, if_pos hj']
    rw [Nat.zero_add, cell_of_row _ _ j _ _ _ (heap_alloc_new w _)]
    change _ = some (Value.int .u8 (gen32[j]?.getD 0))
    have e : ((List.replicate 32 (0 : Int)).map (Value.int .u8)).toArray[j]? = some (.int .u8 0) := by rw [List.getElem?_toArray, List.getElem?_map, List.getElem?_replicate, if_pos hj']; rfl
    rw [h0, e]; rfl
  have hc := hI.str
  have HU := Lib.hid hu
  clear hI hu
  go_enter Tryz.func32, Tryz.ntmps32
  go_wp2
  go_ret
  exact ⟨rfl, HU.out⟩

/-- what the statement at a place must be -/
theorem wrong_kind {V H : Int} {B : ByteArray} {ls : List (List Int)} {xs : List Vs} {i : Nat} {x : Vs} (hx : xs[i]? = some x) (h : vsOf V H B x = false) : wrongAt V H B ls xs i = true := by
  unfold wrongAt wrongB; rw [hx]; simp [h]
theorem wrong_valid {V H : Int} {B : ByteArray} {ls : List (List Int)} {xs : List Vs} {i : Nat} {x : Vs} (hx : xs[i]? = some x) (h : vgB ls x = false) : wrongAt V H B ls xs i = true := by
  unfold wrongAt wrongB; rw [hx]; simp [h]
theorem vgB_good {ls : List (List Int)} {x : Vs} (h : vgB ls x = true) : VtGood x.1 (octsOf x.2) ls := by
  unfold vgB at h; simpa using h
theorem right_first {V H : Int} {B : ByteArray} {ls : List (List Int)} {xs : List Vs} {x : Vs} (hx : xs[0]? = some x) (h : vsOf V H B x = true) (hv : vgB ls x = true) : wrongAt V H B ls xs 0 = false := by
  have hg : 0 ≤ x.1.G := (vtMay_ok (vtE_ok (vgB_good hv).1).1).g.1
  unfold wrongAt wrongB lastAt; rw [hx]; simp [h, hv]; omega
theorem right_later {V H : Int} {B : ByteArray} {ls : List (List Int)} {xs : List Vs} {i k : Nat} {x y : Vs} (hi : i = k + 1) (hx : xs[i]? = some x) (hy : xs[k]? = some y) (h : vsOf V H B x = true) (hv : vgB ls x = true) : wrongAt V H B ls xs i = decide (x.1.G ≤ y.1.G) := by
  subst hi
  unfold wrongAt wrongB lastAt
  rw [hx]
  simp [h, hv, hy]
  by_cases hh : x.1.G ≤ y.1.G
  · simp [hh]
  · simp [hh]; omega
end
end
end Go.Proofs.YtfenmhddlojahaaGreat
