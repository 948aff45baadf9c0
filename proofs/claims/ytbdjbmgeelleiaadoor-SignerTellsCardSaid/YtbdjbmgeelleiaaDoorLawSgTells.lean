import Derived.Test.YtbdjbmgeelleiaaDoorSgTold
import Derived.Test.YtbdjbmgeelleiaaDoorAlongX
import Derived.Test.YtbdjbmgeelleiaaDoorOpen
/-
  SignerTells: the walk.
-/
namespace Go.Proofs.YtbdjbmgeelleiaaDoor
set_option maxRecDepth 100000
section
set_option linter.unusedVariables false
open Go.RowKit

set_option maxHeartbeats 8000000 in
theorem lawSgTells_in (seed : List Int) (lv : Value) (ls : List (List Int)) (next : Int) (tv : Value) (text : List Int) (height : Int) (w : World) (hk : KeyIn seed ls next) (hs : Strs w lv ls) (ht : Ints .u8 w tv text) (hut : U8s text) (hlt : text.length ≤ 140737488351232)
    (hh : -9223372036854775808 ≤ height ∧ height ≤ 9223372036854775807) (hT : Tab64 w) (hTS : TabS w) :
    Calls Tryd.prog 3 #[keyV seed lv next, tv, .int .i64 height] w fun e w' => e = .returned (.bool true) ∧ Up w w' := by
  obtain ⟨SG, S2, NX, E, hE, hprog, href⟩ := sig_told seed ls next text hk hut (by omega)
  obtain ⟨RT, C, HT, hC, hroot, hck, hrk, hht, hrh⟩ := key_told seed ls next hk
  obtain ⟨SZ, hSZ, hsz⟩ := size_told height
  have Hprog := Lib.hid (hprog lv tv)
  have Hprog1 : Hid (∀ (wx : World), Up w wx → Calls Tryd.prog 5 #[keyV seed lv next, tv] wx (SignTo ls SG S2 NX E wx)) := Lib.hid fun wx hx => hprog lv tv wx (hs.up hx) (ht.up hx) (hT.up hx)
  have Href : Hid (∀ (wx : World), Up w wx → Calls Tryd.prog 6 #[keyV seed lv next, tv] wx fun e w' => e = .returned (.tuple #[.string SG, .int .i64 E]) ∧ Up wx w') := Lib.hid fun wx hx => href lv tv wx (hs.up hx) (ht.up hx)
  have Hroot : Hid (∀ (wx : World), Up w wx → Calls Tryd.prog 7 #[keyV seed lv next] wx fun e w' => e = .returned (.tuple #[.string RT, .int .i64 C]) ∧ Up wx w') := Lib.hid fun wx hx => hroot lv wx (hs.up hx) (hTS.up hx)
  have Hck0 : Hid (∀ (wx : World), Up w wx → Calls Tryd.prog 9 #[keyV seed lv next] wx fun e w' => e = .returned (.int .i64 C) ∧ Up wx w') := Lib.hid fun wx hx => hck lv wx (hs.up hx) (hTS.up hx)
  have Hrk0 : Hid (∀ (wx : World), Up w wx → Calls Tryd.prog 10 #[keyV seed lv next] wx fun e w' => e = .returned (.int .i64 C) ∧ Up wx w') := Lib.hid fun wx hx => hrk lv wx (hs.up hx) (hTS.up hx)
  have Hht0 : Hid (∀ (wx : World), Up w wx → Calls Tryd.prog 11 #[keyV seed lv next] wx fun e w' => e = .returned (.int .i64 HT) ∧ Up wx w') := Lib.hid fun wx hx => hht lv wx (hs.up hx) (hTS.up hx)
  have Hrh0 : Hid (∀ (wx : World), Up w wx → Calls Tryd.prog 12 #[keyV seed lv next] wx fun e w' => e = .returned (.int .i64 HT) ∧ Up wx w') := Lib.hid fun wx hx => hrh lv wx (hs.up hx) (hTS.up hx)
  have Hsz := Lib.hid hsz
  have Hrr : Hid (C = 0 → ∀ (wx : World), Up w wx → Calls Tryd.prog 15 #[lv] wx fun e w' => e = .returned (.string RT) ∧ Up wx w') := Lib.hid fun h0 wx hx => by
    rcases hC with ⟨_, hok, rfl⟩ | ⟨h9, _⟩
    · have hl16 : ls.length ≤ 16 := by have := hok.pow; omega
      refine refRoot_any lv ls wx (hs.up hx) (fun k => ⟨(hk.fits k).1, ?_⟩) (by omega)
      by_cases h : k < ls.length
      · have := hok.eight k h; omega
      · rw [List.getElem?_eq_none (by omega)]; simp
    · omega
  have Hsame : Hid (E = 0 → ∀ (v2 : Value) (wx : World), Up w wx → Strs wx v2 ls → Calls Tryd.prog 16 #[.agg #[.string S2, v2, .int .i64 NX], keyV seed lv (next + 1)] wx fun e w' => e = .returned (.bool true) ∧ Up wx w') := Lib.hid fun h0 v2 wx hx h => by
    obtain ⟨rfl, rfl, _, _, _⟩ := hE h0
    exact sameKey_any seed v2 lv ls (next + 1) wx h (hs.up hx) (by have := hk.len; omega)
  have Hn : Hid (C = 0 → 0 ≤ next ∧ next ≤ 16) := Lib.hid fun h0 => by
    rcases hC with ⟨_, hok, rfl⟩ | ⟨h9, _⟩
    · have := hok.pow; have := hok.lo; have := hok.hi; omega
    · omega
  have HC : Hid (C = 0 ∨ (C = 9 ∧ RT = ⟨#[]⟩)) := Lib.hid (hC.imp (fun h => h.1) id)
  have HSZ := Lib.hid hSZ
  obtain ⟨a, cap, rfl, _, _, _⟩ := hs
  obtain ⟨ta, tc, rfl, _, _, _⟩ := ht
  clear hprog href hroot hck hrk hht hrh hsz hSZ hC hE hut hlt hk hT hTS Hprog
  unfold keyV at Hprog1 Href Hroot Hck0 Hrk0 Hht0 Hrh0 Hsame ⊢
  generalize strOfNums seed = S at *
  go_enter Tryd.func3, Tryd.ntmps3
  go_wp2_with fail
  have hx0 := heap_alloc_new w (.cells #[.string S, .slice a ls.length cap, .int .i64 next] 24)
  have hal : Up w (w.alloc (.cells #[.string S, .slice a ls.length cap, .int .i64 next] 24)) := Up.alloc (Up.refl w) _
  with_reducible refine Calls.mono (Hprog1.out _ hal) ?_
  rintro e w1 ⟨ra, rn, rc, rfl, h1, h2⟩
  have HX1 := Lib.hid ((h1.block _ (lt_of_block hx0)).trans hx0)
  have HU1 := Lib.hid (hal.trans h1)
  have H2 := Lib.hid h2
  have hal2 : Up w1 (w1.alloc (.cells #[.string S2, .slice ra rn rc, .int .i64 NX] 24)) := Up.alloc (Up.refl w1) _
  have HX2 := Lib.hid ((hal2.block _ (lt_of_block HX1.out)).trans HX1.out)
  have HN2 := Lib.hid (heap_alloc_new w1 (.cells #[.string S2, .slice ra rn rc, .int .i64 NX] 24))
  have HU2 := Lib.hid (HU1.out.trans hal2)
  have HR2 : Hid (E = 0 → Strs (w1.alloc (.cells #[.string S2, .slice ra rn rc, .int .i64 NX] 24)) (.slice ra rn rc) ls) := Lib.hid fun h0 => (h2 h0).1.up hal2
  clear h1 h2 hx0 hal hal2
  go_wp2_with (refine wpList_load_row rfl 24 (.tmp 3) rfl w.heap.size rfl 24 #[.string S, .slice a ls.length cap, .int .i64 next] (0, 0) _ HX2.out Tryd.underlying24 rfl info_key ?_)
  obtain ⟨X, hX⟩ : ∃ X, w1.heap.size = X := ⟨_, rfl⟩
  obtain ⟨w2, hw2⟩ : ∃ w2, w1.alloc (.cells #[.string S2, .slice ra rn rc, .int .i64 NX] 24) = w2 := ⟨_, rfl⟩
  rw [hX] at HN2
  rw [hw2] at HX2 HN2 HU2 HR2
  rw [hX, hw2]
  clear hX hw2
  with_reducible refine Calls.mono (Href.out w2 HU2.out) ?_
  rintro e w3 ⟨rfl, h3⟩
  have HX3 := Lib.hid ((h3.block _ (lt_of_block HX2.out)).trans HX2.out)
  have HN3 := Lib.hid ((h3.block _ (lt_of_block HN2.out)).trans HN2.out)
  have HU3 := Lib.hid (HU2.out.trans h3)
  have HR3 : Hid (E = 0 → Strs w3 (.slice ra rn rc) ls) := Lib.hid fun h0 => (HR2.out h0).up h3
  clear h3
  go_wp2_with (refine wpList_load_row rfl 24 (.tmp 3) rfl w.heap.size rfl 24 #[.string S, .slice a ls.length cap, .int .i64 next] (0, 0) _ HX3.out Tryd.underlying24 rfl info_key ?_)
  with_reducible refine Calls.mono (Hroot.out w3 HU3.out) ?_
  rintro e w6 ⟨rfl, h6⟩
  have HX6 := Lib.hid ((h6.block _ (lt_of_block HX3.out)).trans HX3.out)
  have HN6 := Lib.hid ((h6.block _ (lt_of_block HN3.out)).trans HN3.out)
  have HU6 := Lib.hid (HU3.out.trans h6)
  have HR6 : Hid (E = 0 → Strs w6 (.slice ra rn rc) ls) := Lib.hid fun h0 => (HR3.out h0).up h6
  have HK : Hid (∀ wx, Up w6 wx → wx.heap[w.heap.size]? = some (.cells #[.string S, .slice a ls.length cap, .int .i64 next] 24 (0, 0))) := Lib.hid fun wx hx => (hx.block _ (lt_of_block HX6.out)).trans HX6.out
  have HNK : Hid (∀ wx, Up w6 wx → wx.heap[X]? = some (.cells #[.string S2, .slice ra rn rc, .int .i64 NX] 24 (0, 0))) := Lib.hid fun wx hx => (hx.block _ (lt_of_block HN6.out)).trans HN6.out
  have Hck := Lib.hid (fun wx (hx : Up w6 wx) => Hck0.out wx (HU6.out.trans hx))
  have Hrk := Lib.hid (fun wx (hx : Up w6 wx) => Hrk0.out wx (HU6.out.trans hx))
  have Hht := Lib.hid (fun wx (hx : Up w6 wx) => Hht0.out wx (HU6.out.trans hx))
  have Hrh := Lib.hid (fun wx (hx : Up w6 wx) => Hrh0.out wx (HU6.out.trans hx))
  clear h6
  have hcase : (height < 0 ∧ SZ = 0) ∨ (¬ height < 0 ∧ 4 < height ∧ SZ = 0) ∨ (0 ≤ height ∧ height ≤ 4 ∧ SZ = 90 + 8 * height) := by have := HSZ.out; omega
  rcases hcase with ⟨hh1, rfl⟩ | ⟨hh1, hh2, rfl⟩ | ⟨hh1, hh2, hsz9⟩
  · go_wp2
    refine region_alongK (fun x => Up w6 x) (.read 0 (.read 1 (.read 2 (.read 3 (.read 4 (.read 6 (.step 5 (.read 7 (.read 8 (.read 9 (.read 10 (.read 13 (.step 11 (.step 12 (.step 14 (.read 15 (.read 16 (.read 17 (.read 18 (.read 20 (.step 19 (.step 21 (.read 22 (.read 23 (.read 24 (.read 25 (.read 27 (.step 26 (.read 28 (.read 29 (.read 30 (.step 31 (.read 32 (.read 33 (.nil))))))))))))))))))))))))))))))))))) (by kernel_rfl) rfl (by kernel_rfl) (by kernel_rfl) (fun c a d v w h => by cases d <;> exact h) (Up.drew1 w6) ?_
    refine alongK_read (.string SG) rfl rfl (fun wx hS => ex_move (by rfl) (by rfl) wx) ?_
    change AlongK _ _ _ _ _ { tmps := #[.agg #[.string S, .slice a ls.length cap, .int .i64 next], .slice ta text.length tc, .int .i64 height, .pointer (some ⟨w.heap.size, 0, none⟩), _, _, _, .string SG, .pointer (some ⟨X, 0, none⟩), .int .i64 E, .string SG, .int .i64 E, .string RT, .int .i64 C, .int .i64 0, _, _, _, _, _, _, _, _, _, _, _, _, _, _, _, _, _, _, _, _, _, _, _, _, _, _, _, _, .string SG, _, _, _, _, _, _, _, _, _, _, _, _, _, _, _, _, _, _, _, _, _, _, _, _, _, _, _, _, _, _, _, _, _, _, _, _, _, _, _, _, _, _, _, _, _, _, _, _, _, _, _, _, _, _, _, _, _, _, _, _, _, _, _, _, _, _, _], defers := _ } _
    refine alongK_read (.string SG) rfl rfl (fun wx hS => ex_move (by rfl) (by rfl) wx) ?_
    change AlongK _ _ _ _ _ { tmps := #[.agg #[.string S, .slice a ls.length cap, .int .i64 next], .slice ta text.length tc, .int .i64 height, .pointer (some ⟨w.heap.size, 0, none⟩), _, _, _, .string SG, .pointer (some ⟨X, 0, none⟩), .int .i64 E, .string SG, .int .i64 E, .string RT, .int .i64 C, .int .i64 0, _, _, _, _, _, _, _, _, _, _, _, _, _, _, _, _, _, _, _, _, _, _, _, _, _, _, _, _, .string SG, .string SG, _, _, _, _, _, _, _, _, _, _, _, _, _, _, _, _, _, _, _, _, _, _, _, _, _, _, _, _, _, _, _, _, _, _, _, _, _, _, _, _, _, _, _, _, _, _, _, _, _, _, _, _, _, _, _, _, _, _, _, _, _, _, _, _, _, _], defers := _ } _
    refine alongK_read (.bool false) rfl rfl (fun wx hS => ex_neqs rfl rfl rfl wx) ?_
    change AlongK _ _ _ _ _ { tmps := #[.agg #[.string S, .slice a ls.length cap, .int .i64 next], .slice ta text.length tc, .int .i64 height, .pointer (some ⟨w.heap.size, 0, none⟩), _, _, _, .string SG, .pointer (some ⟨X, 0, none⟩), .int .i64 E, .string SG, .int .i64 E, .string RT, .int .i64 C, .int .i64 0, _, _, _, _, _, _, _, _, _, _, _, _, _, _, _, _, _, _, _, _, _, _, _, _, _, _, _, _, .string SG, .string SG, .bool false, _, _, _, _, _, _, _, _, _, _, _, _, _, _, _, _, _, _, _, _, _, _, _, _, _, _, _, _, _, _, _, _, _, _, _, _, _, _, _, _, _, _, _, _, _, _, _, _, _, _, _, _, _, _, _, _, _, _, _, _, _, _, _, _, _], defers := _ } _
    refine alongK_read (.bool false) rfl rfl (fun wx hS => ex_move (by rfl) (by rfl) wx) ?_
    change AlongK _ _ _ _ _ { tmps := #[.agg #[.string S, .slice a ls.length cap, .int .i64 next], .slice ta text.length tc, .int .i64 height, .pointer (some ⟨w.heap.size, 0, none⟩), _, _, _, .string SG, .pointer (some ⟨X, 0, none⟩), .int .i64 E, .string SG, .int .i64 E, .string RT, .int .i64 C, .int .i64 0, _, _, _, _, _, _, _, _, _, _, _, _, _, _, _, _, _, _, _, _, _, _, _, _, _, _, _, _, .string SG, .string SG, .bool false, .bool false, _, _, _, _, _, _, _, _, _, _, _, _, _, _, _, _, _, _, _, _, _, _, _, _, _, _, _, _, _, _, _, _, _, _, _, _, _, _, _, _, _, _, _, _, _, _, _, _, _, _, _, _, _, _, _, _, _, _, _, _, _, _, _, _], defers := _ } _
    refine alongK_read (.int .i64 E) rfl rfl (fun wx hS => ex_move (by rfl) (by rfl) wx) ?_
    change AlongK _ _ _ _ _ { tmps := #[.agg #[.string S, .slice a ls.length cap, .int .i64 next], .slice ta text.length tc, .int .i64 height, .pointer (some ⟨w.heap.size, 0, none⟩), _, _, _, .string SG, .pointer (some ⟨X, 0, none⟩), .int .i64 E, .string SG, .int .i64 E, .string RT, .int .i64 C, .int .i64 0, _, _, _, _, _, _, _, _, _, _, _, _, _, _, _, _, _, _, _, _, _, _, _, _, _, _, _, _, .string SG, .string SG, .bool false, .bool false, .int .i64 E, _, _, _, _, _, _, _, _, _, _, _, _, _, _, _, _, _, _, _, _, _, _, _, _, _, _, _, _, _, _, _, _, _, _, _, _, _, _, _, _, _, _, _, _, _, _, _, _, _, _, _, _, _, _, _, _, _, _, _, _, _, _, _], defers := _ } _
    refine alongK_read (.int .i64 E) rfl rfl (fun wx hS => ex_move (by rfl) (by rfl) wx) ?_
    change AlongK _ _ _ _ _ { tmps := #[.agg #[.string S, .slice a ls.length cap, .int .i64 next], .slice ta text.length tc, .int .i64 height, .pointer (some ⟨w.heap.size, 0, none⟩), _, _, _, .string SG, .pointer (some ⟨X, 0, none⟩), .int .i64 E, .string SG, .int .i64 E, .string RT, .int .i64 C, .int .i64 0, _, _, _, _, _, _, _, _, _, _, _, _, _, _, _, _, _, _, _, _, _, _, _, _, _, _, _, _, .string SG, .string SG, .bool false, .bool false, .int .i64 E, _, .int .i64 E, _, _, _, _, _, _, _, _, _, _, _, _, _, _, _, _, _, _, _, _, _, _, _, _, _, _, _, _, _, _, _, _, _, _, _, _, _, _, _, _, _, _, _, _, _, _, _, _, _, _, _, _, _, _, _, _, _, _, _, _, _], defers := _ } _
    refine alongK_step ?_
    refine opK_call (vs := [.int .i64 E]) rfl rfl rfl (enters_of Tryd.func8 (by kernel_rfl) rfl) rfl ?_
    with_reducible refine Calls.mono (sgNum_any E _) ?_
    rintro e y1 ⟨rfl, rfl⟩
    refine ⟨_, rfl, (fun x => Up w6 x), (fun x hx => hx), (Up.drew1 w6), ?_⟩
    change AlongK _ _ _ _ _ { tmps := #[.agg #[.string S, .slice a ls.length cap, .int .i64 next], .slice ta text.length tc, .int .i64 height, .pointer (some ⟨w.heap.size, 0, none⟩), _, _, _, .string SG, .pointer (some ⟨X, 0, none⟩), .int .i64 E, .string SG, .int .i64 E, .string RT, .int .i64 C, .int .i64 0, _, _, _, _, _, _, _, _, _, _, _, _, _, _, _, _, _, _, _, _, _, _, _, _, _, _, _, _, .string SG, .string SG, .bool false, .bool false, .int .i64 E, .int .i64 E, .int .i64 E, _, _, _, _, _, _, _, _, _, _, _, _, _, _, _, _, _, _, _, _, _, _, _, _, _, _, _, _, _, _, _, _, _, _, _, _, _, _, _, _, _, _, _, _, _, _, _, _, _, _, _, _, _, _, _, _, _, _, _, _, _], defers := _ } _
    refine alongK_read (.bool false) rfl rfl (fun wx hS => ex_neqi rfl rfl rfl (by simp) wx) ?_
    change AlongK _ _ _ _ _ { tmps := #[.agg #[.string S, .slice a ls.length cap, .int .i64 next], .slice ta text.length tc, .int .i64 height, .pointer (some ⟨w.heap.size, 0, none⟩), _, _, _, .string SG, .pointer (some ⟨X, 0, none⟩), .int .i64 E, .string SG, .int .i64 E, .string RT, .int .i64 C, .int .i64 0, _, _, _, _, _, _, _, _, _, _, _, _, _, _, _, _, _, _, _, _, _, _, _, _, _, _, _, _, .string SG, .string SG, .bool false, .bool false, .int .i64 E, .int .i64 E, .int .i64 E, .bool false, _, _, _, _, _, _, _, _, _, _, _, _, _, _, _, _, _, _, _, _, _, _, _, _, _, _, _, _, _, _, _, _, _, _, _, _, _, _, _, _, _, _, _, _, _, _, _, _, _, _, _, _, _, _, _, _, _, _, _, _], defers := _ } _
    refine alongK_read (.bool false) rfl rfl (fun wx hS => ex_pickf rfl (by rfl) (by rfl) wx) ?_
    change AlongK _ _ _ _ _ { tmps := #[.agg #[.string S, .slice a ls.length cap, .int .i64 next], .slice ta text.length tc, .int .i64 height, .pointer (some ⟨w.heap.size, 0, none⟩), _, _, _, .string SG, .pointer (some ⟨X, 0, none⟩), .int .i64 E, .string SG, .int .i64 E, .string RT, .int .i64 C, .int .i64 0, _, _, _, _, _, _, _, _, _, _, _, _, _, _, _, _, _, _, _, _, _, _, _, _, _, _, _, _, .string SG, .string SG, .bool false, .bool false, .int .i64 E, .int .i64 E, .int .i64 E, .bool false, .bool false, _, _, _, _, _, _, _, _, _, _, _, _, _, _, _, _, _, _, _, _, _, _, _, _, _, _, _, _, _, _, _, _, _, _, _, _, _, _, _, _, _, _, _, _, _, _, _, _, _, _, _, _, _, _, _, _, _, _, _], defers := _ } _
    refine alongK_read (.bool false) rfl rfl (fun wx hS => ex_move (by rfl) (by rfl) wx) ?_
    change AlongK _ _ _ _ _ { tmps := #[.agg #[.string S, .slice a ls.length cap, .int .i64 next], .slice ta text.length tc, .int .i64 height, .pointer (some ⟨w.heap.size, 0, none⟩), _, _, _, .string SG, .pointer (some ⟨X, 0, none⟩), .int .i64 E, .string SG, .int .i64 E, .string RT, .int .i64 C, .int .i64 0, _, _, _, _, _, _, _, _, _, _, _, _, _, _, _, _, _, _, _, _, _, _, _, _, _, _, _, _, .string SG, .string SG, .bool false, .bool false, .int .i64 E, .int .i64 E, .int .i64 E, .bool false, .bool false, .bool false, _, _, _, _, _, _, _, _, _, _, _, _, _, _, _, _, _, _, _, _, _, _, _, _, _, _, _, _, _, _, _, _, _, _, _, _, _, _, _, _, _, _, _, _, _, _, _, _, _, _, _, _, _, _, _, _, _, _], defers := _ } _
    refine alongK_read (.agg #[.string S, .slice a ls.length cap, .int .i64 next]) rfl rfl (fun wx hS => ex_loadrow rfl rfl wx 24 (HK.out wx hS) Tryd.underlying24 rfl info_key) ?_
    change AlongK _ _ _ _ _ { tmps := #[.agg #[.string S, .slice a ls.length cap, .int .i64 next], .slice ta text.length tc, .int .i64 height, .pointer (some ⟨w.heap.size, 0, none⟩), _, _, _, .string SG, .pointer (some ⟨X, 0, none⟩), .int .i64 E, .string SG, .int .i64 E, .string RT, .int .i64 C, .int .i64 0, _, _, _, _, _, _, _, _, _, _, _, _, _, _, _, _, _, _, _, _, _, _, _, _, _, _, _, _, .string SG, .string SG, .bool false, .bool false, .int .i64 E, .int .i64 E, .int .i64 E, .bool false, .bool false, .bool false, .agg #[.string S, .slice a ls.length cap, .int .i64 next], _, _, _, _, _, _, _, _, _, _, _, _, _, _, _, _, _, _, _, _, _, _, _, _, _, _, _, _, _, _, _, _, _, _, _, _, _, _, _, _, _, _, _, _, _, _, _, _, _, _, _, _, _, _, _, _, _], defers := _ } _
    refine alongK_read (.agg #[.string S, .slice a ls.length cap, .int .i64 next]) rfl rfl (fun wx hS => ex_loadrow rfl rfl wx 24 (HK.out wx hS) Tryd.underlying24 rfl info_key) ?_
    change AlongK _ _ _ _ _ { tmps := #[.agg #[.string S, .slice a ls.length cap, .int .i64 next], .slice ta text.length tc, .int .i64 height, .pointer (some ⟨w.heap.size, 0, none⟩), _, _, _, .string SG, .pointer (some ⟨X, 0, none⟩), .int .i64 E, .string SG, .int .i64 E, .string RT, .int .i64 C, .int .i64 0, _, _, _, _, _, _, _, _, _, _, _, _, _, _, _, _, _, _, _, _, _, _, _, _, _, _, _, _, .string SG, .string SG, .bool false, .bool false, .int .i64 E, .int .i64 E, .int .i64 E, .bool false, .bool false, .bool false, .agg #[.string S, .slice a ls.length cap, .int .i64 next], _, _, .agg #[.string S, .slice a ls.length cap, .int .i64 next], _, _, _, _, _, _, _, _, _, _, _, _, _, _, _, _, _, _, _, _, _, _, _, _, _, _, _, _, _, _, _, _, _, _, _, _, _, _, _, _, _, _, _, _, _, _, _, _, _, _, _, _, _, _], defers := _ } _
    refine alongK_step ?_
    refine opK_call (vs := [.agg #[.string S, .slice a ls.length cap, .int .i64 next]]) rfl rfl rfl (enters_of Tryd.func9 (by kernel_rfl) rfl) rfl ?_
    with_reducible refine Calls.mono (Hck.out _ (Up.drew1 w6)) ?_
    rintro e y2 ⟨rfl, hy2⟩
    have HY2 : Hid (Up w6 y2) := Lib.hid ((Up.drew1 w6).trans hy2)
    clear hy2
    refine ⟨_, rfl, (fun x => Up w6 x), (fun x hx => hx), HY2.out, ?_⟩
    change AlongK _ _ _ _ _ { tmps := #[.agg #[.string S, .slice a ls.length cap, .int .i64 next], .slice ta text.length tc, .int .i64 height, .pointer (some ⟨w.heap.size, 0, none⟩), _, _, _, .string SG, .pointer (some ⟨X, 0, none⟩), .int .i64 E, .string SG, .int .i64 E, .string RT, .int .i64 C, .int .i64 0, _, _, _, _, _, _, _, _, _, _, _, _, _, _, _, _, _, _, _, _, _, _, _, _, _, _, _, _, .string SG, .string SG, .bool false, .bool false, .int .i64 E, .int .i64 E, .int .i64 E, .bool false, .bool false, .bool false, .agg #[.string S, .slice a ls.length cap, .int .i64 next], .int .i64 C, _, .agg #[.string S, .slice a ls.length cap, .int .i64 next], _, _, _, _, _, _, _, _, _, _, _, _, _, _, _, _, _, _, _, _, _, _, _, _, _, _, _, _, _, _, _, _, _, _, _, _, _, _, _, _, _, _, _, _, _, _, _, _, _, _, _, _, _, _], defers := _ } _
    refine alongK_step ?_
    refine opK_call (vs := [.int .i64 C]) rfl rfl rfl (enters_of Tryd.func8 (by kernel_rfl) rfl) rfl ?_
    with_reducible refine Calls.mono (sgNum_any C _) ?_
    rintro e y3 ⟨rfl, rfl⟩
    refine ⟨_, rfl, (fun x => Up w6 x), (fun x hx => hx), HY2.out, ?_⟩
    change AlongK _ _ _ _ _ { tmps := #[.agg #[.string S, .slice a ls.length cap, .int .i64 next], .slice ta text.length tc, .int .i64 height, .pointer (some ⟨w.heap.size, 0, none⟩), _, _, _, .string SG, .pointer (some ⟨X, 0, none⟩), .int .i64 E, .string SG, .int .i64 E, .string RT, .int .i64 C, .int .i64 0, _, _, _, _, _, _, _, _, _, _, _, _, _, _, _, _, _, _, _, _, _, _, _, _, _, _, _, _, .string SG, .string SG, .bool false, .bool false, .int .i64 E, .int .i64 E, .int .i64 E, .bool false, .bool false, .bool false, .agg #[.string S, .slice a ls.length cap, .int .i64 next], .int .i64 C, .int .i64 C, .agg #[.string S, .slice a ls.length cap, .int .i64 next], _, _, _, _, _, _, _, _, _, _, _, _, _, _, _, _, _, _, _, _, _, _, _, _, _, _, _, _, _, _, _, _, _, _, _, _, _, _, _, _, _, _, _, _, _, _, _, _, _, _, _, _, _, _], defers := _ } _
    refine alongK_step ?_
    refine opK_call (vs := [.agg #[.string S, .slice a ls.length cap, .int .i64 next]]) rfl rfl rfl (enters_of Tryd.func10 (by kernel_rfl) rfl) rfl ?_
    with_reducible refine Calls.mono (Hrk.out _ HY2.out) ?_
    rintro e y4 ⟨rfl, hy4⟩
    have HY4 : Hid (Up w6 y4) := Lib.hid (HY2.out.trans hy4)
    clear hy4
    refine ⟨_, rfl, (fun x => Up w6 x), (fun x hx => hx), HY4.out, ?_⟩
    change AlongK _ _ _ _ _ { tmps := #[.agg #[.string S, .slice a ls.length cap, .int .i64 next], .slice ta text.length tc, .int .i64 height, .pointer (some ⟨w.heap.size, 0, none⟩), _, _, _, .string SG, .pointer (some ⟨X, 0, none⟩), .int .i64 E, .string SG, .int .i64 E, .string RT, .int .i64 C, .int .i64 0, _, _, _, _, _, _, _, _, _, _, _, _, _, _, _, _, _, _, _, _, _, _, _, _, _, _, _, _, .string SG, .string SG, .bool false, .bool false, .int .i64 E, .int .i64 E, .int .i64 E, .bool false, .bool false, .bool false, .agg #[.string S, .slice a ls.length cap, .int .i64 next], .int .i64 C, .int .i64 C, .agg #[.string S, .slice a ls.length cap, .int .i64 next], .int .i64 C, _, _, _, _, _, _, _, _, _, _, _, _, _, _, _, _, _, _, _, _, _, _, _, _, _, _, _, _, _, _, _, _, _, _, _, _, _, _, _, _, _, _, _, _, _, _, _, _, _, _, _, _, _], defers := _ } _
    refine alongK_read (.bool false) rfl rfl (fun wx hS => ex_neqi rfl rfl rfl (by simp) wx) ?_
    change AlongK _ _ _ _ _ { tmps := #[.agg #[.string S, .slice a ls.length cap, .int .i64 next], .slice ta text.length tc, .int .i64 height, .pointer (some ⟨w.heap.size, 0, none⟩), _, _, _, .string SG, .pointer (some ⟨X, 0, none⟩), .int .i64 E, .string SG, .int .i64 E, .string RT, .int .i64 C, .int .i64 0, _, _, _, _, _, _, _, _, _, _, _, _, _, _, _, _, _, _, _, _, _, _, _, _, _, _, _, _, .string SG, .string SG, .bool false, .bool false, .int .i64 E, .int .i64 E, .int .i64 E, .bool false, .bool false, .bool false, .agg #[.string S, .slice a ls.length cap, .int .i64 next], .int .i64 C, .int .i64 C, .agg #[.string S, .slice a ls.length cap, .int .i64 next], .int .i64 C, .bool false, _, _, _, _, _, _, _, _, _, _, _, _, _, _, _, _, _, _, _, _, _, _, _, _, _, _, _, _, _, _, _, _, _, _, _, _, _, _, _, _, _, _, _, _, _, _, _, _, _, _, _, _], defers := _ } _
    refine alongK_read (.bool false) rfl rfl (fun wx hS => ex_pickf rfl (by rfl) (by rfl) wx) ?_
    change AlongK _ _ _ _ _ { tmps := #[.agg #[.string S, .slice a ls.length cap, .int .i64 next], .slice ta text.length tc, .int .i64 height, .pointer (some ⟨w.heap.size, 0, none⟩), _, _, _, .string SG, .pointer (some ⟨X, 0, none⟩), .int .i64 E, .string SG, .int .i64 E, .string RT, .int .i64 C, .int .i64 0, _, _, _, _, _, _, _, _, _, _, _, _, _, _, _, _, _, _, _, _, _, _, _, _, _, _, _, _, .string SG, .string SG, .bool false, .bool false, .int .i64 E, .int .i64 E, .int .i64 E, .bool false, .bool false, .bool false, .agg #[.string S, .slice a ls.length cap, .int .i64 next], .int .i64 C, .int .i64 C, .agg #[.string S, .slice a ls.length cap, .int .i64 next], .int .i64 C, .bool false, .bool false, _, _, _, _, _, _, _, _, _, _, _, _, _, _, _, _, _, _, _, _, _, _, _, _, _, _, _, _, _, _, _, _, _, _, _, _, _, _, _, _, _, _, _, _, _, _, _, _, _, _, _], defers := _ } _
    refine alongK_read (.bool false) rfl rfl (fun wx hS => ex_move (by rfl) (by rfl) wx) ?_
    change AlongK _ _ _ _ _ { tmps := #[.agg #[.string S, .slice a ls.length cap, .int .i64 next], .slice ta text.length tc, .int .i64 height, .pointer (some ⟨w.heap.size, 0, none⟩), _, _, _, .string SG, .pointer (some ⟨X, 0, none⟩), .int .i64 E, .string SG, .int .i64 E, .string RT, .int .i64 C, .int .i64 0, _, _, _, _, _, _, _, _, _, _, _, _, _, _, _, _, _, _, _, _, _, _, _, _, _, _, _, _, .string SG, .string SG, .bool false, .bool false, .int .i64 E, .int .i64 E, .int .i64 E, .bool false, .bool false, .bool false, .agg #[.string S, .slice a ls.length cap, .int .i64 next], .int .i64 C, .int .i64 C, .agg #[.string S, .slice a ls.length cap, .int .i64 next], .int .i64 C, .bool false, .bool false, .bool false, _, _, _, _, _, _, _, _, _, _, _, _, _, _, _, _, _, _, _, _, _, _, _, _, _, _, _, _, _, _, _, _, _, _, _, _, _, _, _, _, _, _, _, _, _, _, _, _, _, _], defers := _ } _
    refine alongK_read (.agg #[.string S, .slice a ls.length cap, .int .i64 next]) rfl rfl (fun wx hS => ex_loadrow rfl rfl wx 24 (HK.out wx hS) Tryd.underlying24 rfl info_key) ?_
    change AlongK _ _ _ _ _ { tmps := #[.agg #[.string S, .slice a ls.length cap, .int .i64 next], .slice ta text.length tc, .int .i64 height, .pointer (some ⟨w.heap.size, 0, none⟩), _, _, _, .string SG, .pointer (some ⟨X, 0, none⟩), .int .i64 E, .string SG, .int .i64 E, .string RT, .int .i64 C, .int .i64 0, _, _, _, _, _, _, _, _, _, _, _, _, _, _, _, _, _, _, _, _, _, _, _, _, _, _, _, _, .string SG, .string SG, .bool false, .bool false, .int .i64 E, .int .i64 E, .int .i64 E, .bool false, .bool false, .bool false, .agg #[.string S, .slice a ls.length cap, .int .i64 next], .int .i64 C, .int .i64 C, .agg #[.string S, .slice a ls.length cap, .int .i64 next], .int .i64 C, .bool false, .bool false, .bool false, .agg #[.string S, .slice a ls.length cap, .int .i64 next], _, _, _, _, _, _, _, _, _, _, _, _, _, _, _, _, _, _, _, _, _, _, _, _, _, _, _, _, _, _, _, _, _, _, _, _, _, _, _, _, _, _, _, _, _, _, _, _, _], defers := _ } _
    refine alongK_read (.agg #[.string S, .slice a ls.length cap, .int .i64 next]) rfl rfl (fun wx hS => ex_loadrow rfl rfl wx 24 (HK.out wx hS) Tryd.underlying24 rfl info_key) ?_
    change AlongK _ _ _ _ _ { tmps := #[.agg #[.string S, .slice a ls.length cap, .int .i64 next], .slice ta text.length tc, .int .i64 height, .pointer (some ⟨w.heap.size, 0, none⟩), _, _, _, .string SG, .pointer (some ⟨X, 0, none⟩), .int .i64 E, .string SG, .int .i64 E, .string RT, .int .i64 C, .int .i64 0, _, _, _, _, _, _, _, _, _, _, _, _, _, _, _, _, _, _, _, _, _, _, _, _, _, _, _, _, .string SG, .string SG, .bool false, .bool false, .int .i64 E, .int .i64 E, .int .i64 E, .bool false, .bool false, .bool false, .agg #[.string S, .slice a ls.length cap, .int .i64 next], .int .i64 C, .int .i64 C, .agg #[.string S, .slice a ls.length cap, .int .i64 next], .int .i64 C, .bool false, .bool false, .bool false, .agg #[.string S, .slice a ls.length cap, .int .i64 next], _, .agg #[.string S, .slice a ls.length cap, .int .i64 next], _, _, _, _, _, _, _, _, _, _, _, _, _, _, _, _, _, _, _, _, _, _, _, _, _, _, _, _, _, _, _, _, _, _, _, _, _, _, _, _, _, _, _, _, _, _, _], defers := _ } _
    refine alongK_step ?_
    refine opK_call (vs := [.agg #[.string S, .slice a ls.length cap, .int .i64 next]]) rfl rfl rfl (enters_of Tryd.func11 (by kernel_rfl) rfl) rfl ?_
    with_reducible refine Calls.mono (Hht.out _ HY4.out) ?_
    rintro e y5 ⟨rfl, hy5⟩
    have HY5 : Hid (Up w6 y5) := Lib.hid (HY4.out.trans hy5)
    clear hy5
    refine ⟨_, rfl, (fun x => Up w6 x), (fun x hx => hx), HY5.out, ?_⟩
    change AlongK _ _ _ _ _ { tmps := #[.agg #[.string S, .slice a ls.length cap, .int .i64 next], .slice ta text.length tc, .int .i64 height, .pointer (some ⟨w.heap.size, 0, none⟩), _, _, _, .string SG, .pointer (some ⟨X, 0, none⟩), .int .i64 E, .string SG, .int .i64 E, .string RT, .int .i64 C, .int .i64 0, _, _, _, _, _, _, _, _, _, _, _, _, _, _, _, _, _, _, _, _, _, _, _, _, _, _, _, _, .string SG, .string SG, .bool false, .bool false, .int .i64 E, .int .i64 E, .int .i64 E, .bool false, .bool false, .bool false, .agg #[.string S, .slice a ls.length cap, .int .i64 next], .int .i64 C, .int .i64 C, .agg #[.string S, .slice a ls.length cap, .int .i64 next], .int .i64 C, .bool false, .bool false, .bool false, .agg #[.string S, .slice a ls.length cap, .int .i64 next], .int .i64 HT, .agg #[.string S, .slice a ls.length cap, .int .i64 next], _, _, _, _, _, _, _, _, _, _, _, _, _, _, _, _, _, _, _, _, _, _, _, _, _, _, _, _, _, _, _, _, _, _, _, _, _, _, _, _, _, _, _, _, _, _, _], defers := _ } _
    refine alongK_step ?_
    refine opK_call (vs := [.agg #[.string S, .slice a ls.length cap, .int .i64 next]]) rfl rfl rfl (enters_of Tryd.func12 (by kernel_rfl) rfl) rfl ?_
    with_reducible refine Calls.mono (Hrh.out _ HY5.out) ?_
    rintro e y6 ⟨rfl, hy6⟩
    have HY6 : Hid (Up w6 y6) := Lib.hid (HY5.out.trans hy6)
    clear hy6
    refine ⟨_, rfl, (fun x => Up w6 x), (fun x hx => hx), HY6.out, ?_⟩
    change AlongK _ _ _ _ _ { tmps := #[.agg #[.string S, .slice a ls.length cap, .int .i64 next], .slice ta text.length tc, .int .i64 height, .pointer (some ⟨w.heap.size, 0, none⟩), _, _, _, .string SG, .pointer (some ⟨X, 0, none⟩), .int .i64 E, .string SG, .int .i64 E, .string RT, .int .i64 C, .int .i64 0, _, _, _, _, _, _, _, _, _, _, _, _, _, _, _, _, _, _, _, _, _, _, _, _, _, _, _, _, .string SG, .string SG, .bool false, .bool false, .int .i64 E, .int .i64 E, .int .i64 E, .bool false, .bool false, .bool false, .agg #[.string S, .slice a ls.length cap, .int .i64 next], .int .i64 C, .int .i64 C, .agg #[.string S, .slice a ls.length cap, .int .i64 next], .int .i64 C, .bool false, .bool false, .bool false, .agg #[.string S, .slice a ls.length cap, .int .i64 next], .int .i64 HT, .agg #[.string S, .slice a ls.length cap, .int .i64 next], .int .i64 HT, _, _, _, _, _, _, _, _, _, _, _, _, _, _, _, _, _, _, _, _, _, _, _, _, _, _, _, _, _, _, _, _, _, _, _, _, _, _, _, _, _, _, _, _, _, _], defers := _ } _
    refine alongK_read (.bool false) rfl rfl (fun wx hS => ex_neqi rfl rfl rfl (by simp) wx) ?_
    change AlongK _ _ _ _ _ { tmps := #[.agg #[.string S, .slice a ls.length cap, .int .i64 next], .slice ta text.length tc, .int .i64 height, .pointer (some ⟨w.heap.size, 0, none⟩), _, _, _, .string SG, .pointer (some ⟨X, 0, none⟩), .int .i64 E, .string SG, .int .i64 E, .string RT, .int .i64 C, .int .i64 0, _, _, _, _, _, _, _, _, _, _, _, _, _, _, _, _, _, _, _, _, _, _, _, _, _, _, _, _, .string SG, .string SG, .bool false, .bool false, .int .i64 E, .int .i64 E, .int .i64 E, .bool false, .bool false, .bool false, .agg #[.string S, .slice a ls.length cap, .int .i64 next], .int .i64 C, .int .i64 C, .agg #[.string S, .slice a ls.length cap, .int .i64 next], .int .i64 C, .bool false, .bool false, .bool false, .agg #[.string S, .slice a ls.length cap, .int .i64 next], .int .i64 HT, .agg #[.string S, .slice a ls.length cap, .int .i64 next], .int .i64 HT, .bool false, _, _, _, _, _, _, _, _, _, _, _, _, _, _, _, _, _, _, _, _, _, _, _, _, _, _, _, _, _, _, _, _, _, _, _, _, _, _, _, _, _, _, _, _, _], defers := _ } _
    refine alongK_read (.bool false) rfl rfl (fun wx hS => ex_pickf rfl (by rfl) (by rfl) wx) ?_
    change AlongK _ _ _ _ _ { tmps := #[.agg #[.string S, .slice a ls.length cap, .int .i64 next], .slice ta text.length tc, .int .i64 height, .pointer (some ⟨w.heap.size, 0, none⟩), _, _, _, .string SG, .pointer (some ⟨X, 0, none⟩), .int .i64 E, .string SG, .int .i64 E, .string RT, .int .i64 C, .int .i64 0, _, _, _, _, _, _, _, _, _, _, _, _, _, _, _, _, _, _, _, _, _, _, _, _, _, _, _, _, .string SG, .string SG, .bool false, .bool false, .int .i64 E, .int .i64 E, .int .i64 E, .bool false, .bool false, .bool false, .agg #[.string S, .slice a ls.length cap, .int .i64 next], .int .i64 C, .int .i64 C, .agg #[.string S, .slice a ls.length cap, .int .i64 next], .int .i64 C, .bool false, .bool false, .bool false, .agg #[.string S, .slice a ls.length cap, .int .i64 next], .int .i64 HT, .agg #[.string S, .slice a ls.length cap, .int .i64 next], .int .i64 HT, .bool false, .bool false, _, _, _, _, _, _, _, _, _, _, _, _, _, _, _, _, _, _, _, _, _, _, _, _, _, _, _, _, _, _, _, _, _, _, _, _, _, _, _, _, _, _, _, _], defers := _ } _
    refine alongK_read (.bool false) rfl rfl (fun wx hS => ex_move (by rfl) (by rfl) wx) ?_
    change AlongK _ _ _ _ _ { tmps := #[.agg #[.string S, .slice a ls.length cap, .int .i64 next], .slice ta text.length tc, .int .i64 height, .pointer (some ⟨w.heap.size, 0, none⟩), _, _, _, .string SG, .pointer (some ⟨X, 0, none⟩), .int .i64 E, .string SG, .int .i64 E, .string RT, .int .i64 C, .int .i64 0, _, _, _, _, _, _, _, _, _, _, _, _, _, _, _, _, _, _, _, _, _, _, _, _, _, _, _, _, .string SG, .string SG, .bool false, .bool false, .int .i64 E, .int .i64 E, .int .i64 E, .bool false, .bool false, .bool false, .agg #[.string S, .slice a ls.length cap, .int .i64 next], .int .i64 C, .int .i64 C, .agg #[.string S, .slice a ls.length cap, .int .i64 next], .int .i64 C, .bool false, .bool false, .bool false, .agg #[.string S, .slice a ls.length cap, .int .i64 next], .int .i64 HT, .agg #[.string S, .slice a ls.length cap, .int .i64 next], .int .i64 HT, .bool false, .bool false, .bool false, _, _, _, _, _, _, _, _, _, _, _, _, _, _, _, _, _, _, _, _, _, _, _, _, _, _, _, _, _, _, _, _, _, _, _, _, _, _, _, _, _, _, _], defers := _ } _
    refine alongK_read (.int .i64 height) rfl rfl (fun wx hS => ex_move (by rfl) (by rfl) wx) ?_
    change AlongK _ _ _ _ _ { tmps := #[.agg #[.string S, .slice a ls.length cap, .int .i64 next], .slice ta text.length tc, .int .i64 height, .pointer (some ⟨w.heap.size, 0, none⟩), _, _, _, .string SG, .pointer (some ⟨X, 0, none⟩), .int .i64 E, .string SG, .int .i64 E, .string RT, .int .i64 C, .int .i64 0, _, _, _, _, _, _, _, _, _, _, _, _, _, _, _, _, _, _, _, _, _, _, _, _, _, _, _, _, .string SG, .string SG, .bool false, .bool false, .int .i64 E, .int .i64 E, .int .i64 E, .bool false, .bool false, .bool false, .agg #[.string S, .slice a ls.length cap, .int .i64 next], .int .i64 C, .int .i64 C, .agg #[.string S, .slice a ls.length cap, .int .i64 next], .int .i64 C, .bool false, .bool false, .bool false, .agg #[.string S, .slice a ls.length cap, .int .i64 next], .int .i64 HT, .agg #[.string S, .slice a ls.length cap, .int .i64 next], .int .i64 HT, .bool false, .bool false, .bool false, .int .i64 height, _, _, _, _, _, _, _, _, _, _, _, _, _, _, _, _, _, _, _, _, _, _, _, _, _, _, _, _, _, _, _, _, _, _, _, _, _, _, _, _, _, _], defers := _ } _
    refine alongK_read (.int .i64 0) rfl rfl (fun wx hS => ex_move (by rfl) (by rfl) wx) ?_
    change AlongK _ _ _ _ _ { tmps := #[.agg #[.string S, .slice a ls.length cap, .int .i64 next], .slice ta text.length tc, .int .i64 height, .pointer (some ⟨w.heap.size, 0, none⟩), _, _, _, .string SG, .pointer (some ⟨X, 0, none⟩), .int .i64 E, .string SG, .int .i64 E, .string RT, .int .i64 C, .int .i64 0, _, _, _, _, _, _, _, _, _, _, _, _, _, _, _, _, _, _, _, _, _, _, _, _, _, _, _, _, .string SG, .string SG, .bool false, .bool false, .int .i64 E, .int .i64 E, .int .i64 E, .bool false, .bool false, .bool false, .agg #[.string S, .slice a ls.length cap, .int .i64 next], .int .i64 C, .int .i64 C, .agg #[.string S, .slice a ls.length cap, .int .i64 next], .int .i64 C, .bool false, .bool false, .bool false, .agg #[.string S, .slice a ls.length cap, .int .i64 next], .int .i64 HT, .agg #[.string S, .slice a ls.length cap, .int .i64 next], .int .i64 HT, .bool false, .bool false, .bool false, .int .i64 height, _, .int .i64 0, _, _, _, _, _, _, _, _, _, _, _, _, _, _, _, _, _, _, _, _, _, _, _, _, _, _, _, _, _, _, _, _, _, _, _, _, _, _, _, _], defers := _ } _
    refine alongK_step ?_
    refine opK_call (vs := [.int .i64 height]) rfl rfl rfl (enters_of Tryd.func13 (by kernel_rfl) rfl) rfl ?_
    with_reducible refine Calls.mono (Hsz.out _) ?_
    rintro e y7 ⟨rfl, rfl⟩
    refine ⟨_, rfl, (fun x => Up w6 x), (fun x hx => hx), HY6.out, ?_⟩
    change AlongK _ _ _ _ _ { tmps := #[.agg #[.string S, .slice a ls.length cap, .int .i64 next], .slice ta text.length tc, .int .i64 height, .pointer (some ⟨w.heap.size, 0, none⟩), _, _, _, .string SG, .pointer (some ⟨X, 0, none⟩), .int .i64 E, .string SG, .int .i64 E, .string RT, .int .i64 C, .int .i64 0, _, _, _, _, _, _, _, _, _, _, _, _, _, _, _, _, _, _, _, _, _, _, _, _, _, _, _, _, .string SG, .string SG, .bool false, .bool false, .int .i64 E, .int .i64 E, .int .i64 E, .bool false, .bool false, .bool false, .agg #[.string S, .slice a ls.length cap, .int .i64 next], .int .i64 C, .int .i64 C, .agg #[.string S, .slice a ls.length cap, .int .i64 next], .int .i64 C, .bool false, .bool false, .bool false, .agg #[.string S, .slice a ls.length cap, .int .i64 next], .int .i64 HT, .agg #[.string S, .slice a ls.length cap, .int .i64 next], .int .i64 HT, .bool false, .bool false, .bool false, .int .i64 height, .int .i64 0, .int .i64 0, _, _, _, _, _, _, _, _, _, _, _, _, _, _, _, _, _, _, _, _, _, _, _, _, _, _, _, _, _, _, _, _, _, _, _, _, _, _, _, _], defers := _ } _
    refine alongK_read (.bool false) rfl rfl (fun wx hS => ex_neqi rfl rfl rfl (by simp) wx) ?_
    change AlongK _ _ _ _ _ { tmps := #[.agg #[.string S, .slice a ls.length cap, .int .i64 next], .slice ta text.length tc, .int .i64 height, .pointer (some ⟨w.heap.size, 0, none⟩), _, _, _, .string SG, .pointer (some ⟨X, 0, none⟩), .int .i64 E, .string SG, .int .i64 E, .string RT, .int .i64 C, .int .i64 0, _, _, _, _, _, _, _, _, _, _, _, _, _, _, _, _, _, _, _, _, _, _, _, _, _, _, _, _, .string SG, .string SG, .bool false, .bool false, .int .i64 E, .int .i64 E, .int .i64 E, .bool false, .bool false, .bool false, .agg #[.string S, .slice a ls.length cap, .int .i64 next], .int .i64 C, .int .i64 C, .agg #[.string S, .slice a ls.length cap, .int .i64 next], .int .i64 C, .bool false, .bool false, .bool false, .agg #[.string S, .slice a ls.length cap, .int .i64 next], .int .i64 HT, .agg #[.string S, .slice a ls.length cap, .int .i64 next], .int .i64 HT, .bool false, .bool false, .bool false, .int .i64 height, .int .i64 0, .int .i64 0, .bool false, _, _, _, _, _, _, _, _, _, _, _, _, _, _, _, _, _, _, _, _, _, _, _, _, _, _, _, _, _, _, _, _, _, _, _, _, _, _, _], defers := _ } _
    refine alongK_read (.bool false) rfl rfl (fun wx hS => ex_pickf rfl (by rfl) (by rfl) wx) ?_
    change AlongK _ _ _ _ _ { tmps := #[.agg #[.string S, .slice a ls.length cap, .int .i64 next], .slice ta text.length tc, .int .i64 height, .pointer (some ⟨w.heap.size, 0, none⟩), _, _, _, .string SG, .pointer (some ⟨X, 0, none⟩), .int .i64 E, .string SG, .int .i64 E, .string RT, .int .i64 C, .int .i64 0, _, _, _, _, _, _, _, _, _, _, _, _, _, _, _, _, _, _, _, _, _, _, _, _, _, _, _, _, .string SG, .string SG, .bool false, .bool false, .int .i64 E, .int .i64 E, .int .i64 E, .bool false, .bool false, .bool false, .agg #[.string S, .slice a ls.length cap, .int .i64 next], .int .i64 C, .int .i64 C, .agg #[.string S, .slice a ls.length cap, .int .i64 next], .int .i64 C, .bool false, .bool false, .bool false, .agg #[.string S, .slice a ls.length cap, .int .i64 next], .int .i64 HT, .agg #[.string S, .slice a ls.length cap, .int .i64 next], .int .i64 HT, .bool false, .bool false, .bool false, .int .i64 height, .int .i64 0, .int .i64 0, .bool false, .bool false, _, _, _, _, _, _, _, _, _, _, _, _, _, _, _, _, _, _, _, _, _, _, _, _, _, _, _, _, _, _, _, _, _, _, _, _, _, _], defers := _ } _
    refine alongK_read (.bool false) rfl rfl (fun wx hS => ex_move (by rfl) (by rfl) wx) ?_
    change AlongK _ _ _ _ _ { tmps := #[.agg #[.string S, .slice a ls.length cap, .int .i64 next], .slice ta text.length tc, .int .i64 height, .pointer (some ⟨w.heap.size, 0, none⟩), _, _, _, .string SG, .pointer (some ⟨X, 0, none⟩), .int .i64 E, .string SG, .int .i64 E, .string RT, .int .i64 C, .int .i64 0, _, _, _, _, _, _, _, _, _, _, _, _, _, _, _, _, _, _, _, _, _, _, _, _, _, _, _, _, .string SG, .string SG, .bool false, .bool false, .int .i64 E, .int .i64 E, .int .i64 E, .bool false, .bool false, .bool false, .agg #[.string S, .slice a ls.length cap, .int .i64 next], .int .i64 C, .int .i64 C, .agg #[.string S, .slice a ls.length cap, .int .i64 next], .int .i64 C, .bool false, .bool false, .bool false, .agg #[.string S, .slice a ls.length cap, .int .i64 next], .int .i64 HT, .agg #[.string S, .slice a ls.length cap, .int .i64 next], .int .i64 HT, .bool false, .bool false, .bool false, .int .i64 height, .int .i64 0, .int .i64 0, .bool false, .bool false, .bool false, _, _, _, _, _, _, _, _, _, _, _, _, _, _, _, _, _, _, _, _, _, _, _, _, _, _, _, _, _, _, _, _, _, _, _, _, _], defers := _ } _
    refine alongK_step ?_
    refine opK_call (vs := []) rfl rfl rfl (enters_of Tryd.func14 (by kernel_rfl) rfl) rfl ?_
    with_reducible refine Calls.mono (sgAlive_any _) ?_
    rintro e y8 ⟨rfl, rfl⟩
    refine ⟨_, rfl, (fun x => Up w6 x), (fun x hx => hx), HY6.out, ?_⟩
    change AlongK _ _ _ _ _ { tmps := #[.agg #[.string S, .slice a ls.length cap, .int .i64 next], .slice ta text.length tc, .int .i64 height, .pointer (some ⟨w.heap.size, 0, none⟩), _, _, _, .string SG, .pointer (some ⟨X, 0, none⟩), .int .i64 E, .string SG, .int .i64 E, .string RT, .int .i64 C, .int .i64 0, _, _, _, _, _, _, _, _, _, _, _, _, _, _, _, _, _, _, _, _, _, _, _, _, _, _, _, _, .string SG, .string SG, .bool false, .bool false, .int .i64 E, .int .i64 E, .int .i64 E, .bool false, .bool false, .bool false, .agg #[.string S, .slice a ls.length cap, .int .i64 next], .int .i64 C, .int .i64 C, .agg #[.string S, .slice a ls.length cap, .int .i64 next], .int .i64 C, .bool false, .bool false, .bool false, .agg #[.string S, .slice a ls.length cap, .int .i64 next], .int .i64 HT, .agg #[.string S, .slice a ls.length cap, .int .i64 next], .int .i64 HT, .bool false, .bool false, .bool false, .int .i64 height, .int .i64 0, .int .i64 0, .bool false, .bool false, .bool false, .bool true, _, _, _, _, _, _, _, _, _, _, _, _, _, _, _, _, _, _, _, _, _, _, _, _, _, _, _, _, _, _, _, _, _, _, _, _], defers := _ } _
    refine alongK_read (.bool false) rfl rfl (fun wx hS => ex_not (b := true) rfl rfl wx) ?_
    change AlongK _ _ _ _ _ { tmps := #[.agg #[.string S, .slice a ls.length cap, .int .i64 next], .slice ta text.length tc, .int .i64 height, .pointer (some ⟨w.heap.size, 0, none⟩), _, _, _, .string SG, .pointer (some ⟨X, 0, none⟩), .int .i64 E, .string SG, .int .i64 E, .string RT, .int .i64 C, .int .i64 0, _, _, _, _, _, _, _, _, _, _, _, _, _, _, _, _, _, _, _, _, _, _, _, _, _, _, _, _, .string SG, .string SG, .bool false, .bool false, .int .i64 E, .int .i64 E, .int .i64 E, .bool false, .bool false, .bool false, .agg #[.string S, .slice a ls.length cap, .int .i64 next], .int .i64 C, .int .i64 C, .agg #[.string S, .slice a ls.length cap, .int .i64 next], .int .i64 C, .bool false, .bool false, .bool false, .agg #[.string S, .slice a ls.length cap, .int .i64 next], .int .i64 HT, .agg #[.string S, .slice a ls.length cap, .int .i64 next], .int .i64 HT, .bool false, .bool false, .bool false, .int .i64 height, .int .i64 0, .int .i64 0, .bool false, .bool false, .bool false, .bool true, .bool false, _, _, _, _, _, _, _, _, _, _, _, _, _, _, _, _, _, _, _, _, _, _, _, _, _, _, _, _, _, _, _, _, _, _, _], defers := _ } _
    refine alongK_read (.bool false) rfl rfl (fun wx hS => ex_pickf rfl (by rfl) (by rfl) wx) ?_
    change AlongK _ _ _ _ _ { tmps := #[.agg #[.string S, .slice a ls.length cap, .int .i64 next], .slice ta text.length tc, .int .i64 height, .pointer (some ⟨w.heap.size, 0, none⟩), _, _, _, .string SG, .pointer (some ⟨X, 0, none⟩), .int .i64 E, .string SG, .int .i64 E, .string RT, .int .i64 C, .int .i64 0, _, _, _, _, _, _, _, _, _, _, _, _, _, _, _, _, _, _, _, _, _, _, _, _, _, _, _, _, .string SG, .string SG, .bool false, .bool false, .int .i64 E, .int .i64 E, .int .i64 E, .bool false, .bool false, .bool false, .agg #[.string S, .slice a ls.length cap, .int .i64 next], .int .i64 C, .int .i64 C, .agg #[.string S, .slice a ls.length cap, .int .i64 next], .int .i64 C, .bool false, .bool false, .bool false, .agg #[.string S, .slice a ls.length cap, .int .i64 next], .int .i64 HT, .agg #[.string S, .slice a ls.length cap, .int .i64 next], .int .i64 HT, .bool false, .bool false, .bool false, .int .i64 height, .int .i64 0, .int .i64 0, .bool false, .bool false, .bool false, .bool true, .bool false, .bool false, _, _, _, _, _, _, _, _, _, _, _, _, _, _, _, _, _, _, _, _, _, _, _, _, _, _, _, _, _, _, _, _, _, _], defers := _ } _
    refine alongK_done ?_
    go_wp2_with (refine wpList_load_row rfl 24 (.tmp 3) rfl w.heap.size rfl 24 #[.string S, .slice a ls.length cap, .int .i64 next] (0, 0) _ (HK.out _ HY6.out) Tryd.underlying24 rfl info_key ?_)
    with_reducible refine Calls.mono (Hrk.out _ HY6.out) ?_
    rintro e z1 ⟨rfl, hz1⟩
    have HZ1 : Hid (Up w6 z1) := Lib.hid (HY6.out.trans hz1)
    clear hz1
    rcases HC.out with rfl | ⟨rfl, rfl⟩
    · have hn := Hn.out rfl
      have Hrr1 := Lib.hid (Hrr.out rfl)
      have hw1 : IntKind.i64.wrap (next + 1) = next + 1 := IntWalk.i64_in _ (by omega)
      have hz2 : Up z1 (z1.alloc (.cells #[.string S, .slice a ls.length cap, .int .i64 next] 24)) := Up.alloc (Up.refl z1) _
      have hx2 := HK.out _ (HZ1.out.trans hz2)
      have hc2 := cell_of_row _ _ 2 _ _ _ hx2
      simp only [List.getElem?_toArray, List.getElem?_cons_zero, List.getElem?_cons_succ] at hc2
      clear hz2 hx2
      go_wp2_with (refine wpList_load_row rfl 24 (.tmp 3) rfl w.heap.size rfl 24 #[.string S, .slice a ls.length cap, .int .i64 next] (0, 0) _ (HK.out _ HZ1.out) Tryd.underlying24 rfl info_key ?_)
      have hal3 : Up z1 (z1.alloc (.cells #[.string S, .slice a ls.length cap, .int .i64 (next + 1)] 24)) := Up.alloc (Up.refl z1) _
      have hn3 := heap_alloc_new z1 (.cells #[.string S, .slice a ls.length cap, .int .i64 (next + 1)] 24)
      obtain ⟨z3, hz3⟩ : ∃ z3, z1.alloc (.cells #[.string S, .slice a ls.length cap, .int .i64 (next + 1)] 24) = z3 := ⟨_, rfl⟩
      obtain ⟨Y, hY⟩ : ∃ Y, z1.heap.size = Y := ⟨_, rfl⟩
      rw [hz3] at hal3 hn3 ⊢
      rw [hY] at hn3 ⊢
      have HZ3 := Lib.hid (HZ1.out.trans hal3)
      have HN3 := Lib.hid hn3
      have hc1 := cell_of_row _ _ 1 _ _ _ (HK.out _ HZ3.out)
      simp only [List.getElem?_toArray, List.getElem?_cons_zero, List.getElem?_cons_succ] at hc1
      clear hw1 hc2 hal3 hn3 hz3 hY hn
      with_reducible refine Calls.mono (sgNum_any _ _) ?_
      rintro e z4 ⟨rfl, rfl⟩
      go_wp2_with fail
      with_reducible refine Calls.mono (Hrr1.out _ (HU6.out.trans HZ3.out)) ?_
      rintro e z5 ⟨rfl, hz5⟩
      have HZ5 := Lib.hid (HZ3.out.trans hz5)
      have HN5 := Lib.hid ((hz5.block _ (lt_of_block HN3.out)).trans HN3.out)
      clear hz5 hc1
      by_cases hE0 : E = 0
      · have hst := HR6.out hE0
        have Hsm := Lib.hid (Hsame.out hE0 _ z5 (HU6.out.trans HZ5.out) (hst.up HZ5.out))
        clear hst
        subst hE0
        have hx8 := HNK.out _ HZ5.out
        have hx15 := HN5.out
        have p0 := cell_of_row _ _ 0 _ _ _ hx8
        have p1 := cell_of_row _ _ 1 _ _ _ hx8
        have p2 := cell_of_row _ _ 2 _ _ _ hx8
        have q0 := cell_of_row _ _ 0 _ _ _ hx15
        have q1 := cell_of_row _ _ 1 _ _ _ hx15
        have q2 := cell_of_row _ _ 2 _ _ _ hx15
        simp only [List.getElem?_toArray, List.getElem?_cons_zero, List.getElem?_cons_succ] at p0 p1 p2 q0 q1 q2
        clear hx8 hx15
        go_wp2_with fail
        with_reducible refine Calls.mono Hsm.out ?_
        rintro e z6 ⟨rfl, hz6⟩
        have HU9 := Lib.hid ((HU6.out.trans HZ5.out).trans hz6)
        clear hz6 p0 p1 p2 q0 q1 q2
        go_wp2
        go_ret
        exact ⟨rfl, HU9.out⟩
      · have e1 : (E == 0) = false := by rw [beq_eq_false_iff_ne]; exact hE0
        have e2 : (E != 0) = true := by rw [bne, e1]; rfl
        have HU9 := Lib.hid (HU6.out.trans HZ5.out)
        clear hE0
        go_wp2
        go_ret
        exact ⟨rfl, HU9.out⟩
    · go_wp2_with fail
      with_reducible refine Calls.mono (sgNum_any _ _) ?_
      rintro e z2 ⟨rfl, rfl⟩
      have HU9 := Lib.hid (HU6.out.trans HZ1.out)
      go_wp2
      go_ret
      exact ⟨rfl, HU9.out⟩
  · go_wp2
    refine region_alongK (fun x => Up w6 x) (.read 0 (.read 1 (.read 2 (.read 3 (.read 4 (.read 6 (.step 5 (.read 7 (.read 8 (.read 9 (.read 10 (.read 13 (.step 11 (.step 12 (.step 14 (.read 15 (.read 16 (.read 17 (.read 18 (.read 20 (.step 19 (.step 21 (.read 22 (.read 23 (.read 24 (.read 25 (.read 27 (.step 26 (.read 28 (.read 29 (.read 30 (.step 31 (.read 32 (.read 33 (.nil))))))))))))))))))))))))))))))))))) (by kernel_rfl) rfl (by kernel_rfl) (by kernel_rfl) (fun c a d v w h => by cases d <;> exact h) (Up.drew1 w6) ?_
    refine alongK_read (.string SG) rfl rfl (fun wx hS => ex_move (by rfl) (by rfl) wx) ?_
    change AlongK _ _ _ _ _ { tmps := #[.agg #[.string S, .slice a ls.length cap, .int .i64 next], .slice ta text.length tc, .int .i64 height, .pointer (some ⟨w.heap.size, 0, none⟩), _, _, _, .string SG, .pointer (some ⟨X, 0, none⟩), .int .i64 E, .string SG, .int .i64 E, .string RT, .int .i64 C, .int .i64 0, _, _, _, _, _, _, _, _, _, _, _, _, _, _, _, _, _, _, _, _, _, _, _, _, _, _, _, _, .string SG, _, _, _, _, _, _, _, _, _, _, _, _, _, _, _, _, _, _, _, _, _, _, _, _, _, _, _, _, _, _, _, _, _, _, _, _, _, _, _, _, _, _, _, _, _, _, _, _, _, _, _, _, _, _, _, _, _, _, _, _, _, _, _, _, _, _, _], defers := _ } _
    refine alongK_read (.string SG) rfl rfl (fun wx hS => ex_move (by rfl) (by rfl) wx) ?_
    change AlongK _ _ _ _ _ { tmps := #[.agg #[.string S, .slice a ls.length cap, .int .i64 next], .slice ta text.length tc, .int .i64 height, .pointer (some ⟨w.heap.size, 0, none⟩), _, _, _, .string SG, .pointer (some ⟨X, 0, none⟩), .int .i64 E, .string SG, .int .i64 E, .string RT, .int .i64 C, .int .i64 0, _, _, _, _, _, _, _, _, _, _, _, _, _, _, _, _, _, _, _, _, _, _, _, _, _, _, _, _, .string SG, .string SG, _, _, _, _, _, _, _, _, _, _, _, _, _, _, _, _, _, _, _, _, _, _, _, _, _, _, _, _, _, _, _, _, _, _, _, _, _, _, _, _, _, _, _, _, _, _, _, _, _, _, _, _, _, _, _, _, _, _, _, _, _, _, _, _, _, _], defers := _ } _
    refine alongK_read (.bool false) rfl rfl (fun wx hS => ex_neqs rfl rfl rfl wx) ?_
    change AlongK _ _ _ _ _ { tmps := #[.agg #[.string S, .slice a ls.length cap, .int .i64 next], .slice ta text.length tc, .int .i64 height, .pointer (some ⟨w.heap.size, 0, none⟩), _, _, _, .string SG, .pointer (some ⟨X, 0, none⟩), .int .i64 E, .string SG, .int .i64 E, .string RT, .int .i64 C, .int .i64 0, _, _, _, _, _, _, _, _, _, _, _, _, _, _, _, _, _, _, _, _, _, _, _, _, _, _, _, _, .string SG, .string SG, .bool false, _, _, _, _, _, _, _, _, _, _, _, _, _, _, _, _, _, _, _, _, _, _, _, _, _, _, _, _, _, _, _, _, _, _, _, _, _, _, _, _, _, _, _, _, _, _, _, _, _, _, _, _, _, _, _, _, _, _, _, _, _, _, _, _, _], defers := _ } _
    refine alongK_read (.bool false) rfl rfl (fun wx hS => ex_move (by rfl) (by rfl) wx) ?_
    change AlongK _ _ _ _ _ { tmps := #[.agg #[.string S, .slice a ls.length cap, .int .i64 next], .slice ta text.length tc, .int .i64 height, .pointer (some ⟨w.heap.size, 0, none⟩), _, _, _, .string SG, .pointer (some ⟨X, 0, none⟩), .int .i64 E, .string SG, .int .i64 E, .string RT, .int .i64 C, .int .i64 0, _, _, _, _, _, _, _, _, _, _, _, _, _, _, _, _, _, _, _, _, _, _, _, _, _, _, _, _, .string SG, .string SG, .bool false, .bool false, _, _, _, _, _, _, _, _, _, _, _, _, _, _, _, _, _, _, _, _, _, _, _, _, _, _, _, _, _, _, _, _, _, _, _, _, _, _, _, _, _, _, _, _, _, _, _, _, _, _, _, _, _, _, _, _, _, _, _, _, _, _, _, _], defers := _ } _
    refine alongK_read (.int .i64 E) rfl rfl (fun wx hS => ex_move (by rfl) (by rfl) wx) ?_
    change AlongK _ _ _ _ _ { tmps := #[.agg #[.string S, .slice a ls.length cap, .int .i64 next], .slice ta text.length tc, .int .i64 height, .pointer (some ⟨w.heap.size, 0, none⟩), _, _, _, .string SG, .pointer (some ⟨X, 0, none⟩), .int .i64 E, .string SG, .int .i64 E, .string RT, .int .i64 C, .int .i64 0, _, _, _, _, _, _, _, _, _, _, _, _, _, _, _, _, _, _, _, _, _, _, _, _, _, _, _, _, .string SG, .string SG, .bool false, .bool false, .int .i64 E, _, _, _, _, _, _, _, _, _, _, _, _, _, _, _, _, _, _, _, _, _, _, _, _, _, _, _, _, _, _, _, _, _, _, _, _, _, _, _, _, _, _, _, _, _, _, _, _, _, _, _, _, _, _, _, _, _, _, _, _, _, _, _], defers := _ } _
    refine alongK_read (.int .i64 E) rfl rfl (fun wx hS => ex_move (by rfl) (by rfl) wx) ?_
    change AlongK _ _ _ _ _ { tmps := #[.agg #[.string S, .slice a ls.length cap, .int .i64 next], .slice ta text.length tc, .int .i64 height, .pointer (some ⟨w.heap.size, 0, none⟩), _, _, _, .string SG, .pointer (some ⟨X, 0, none⟩), .int .i64 E, .string SG, .int .i64 E, .string RT, .int .i64 C, .int .i64 0, _, _, _, _, _, _, _, _, _, _, _, _, _, _, _, _, _, _, _, _, _, _, _, _, _, _, _, _, .string SG, .string SG, .bool false, .bool false, .int .i64 E, _, .int .i64 E, _, _, _, _, _, _, _, _, _, _, _, _, _, _, _, _, _, _, _, _, _, _, _, _, _, _, _, _, _, _, _, _, _, _, _, _, _, _, _, _, _, _, _, _, _, _, _, _, _, _, _, _, _, _, _, _, _, _, _, _, _], defers := _ } _
    refine alongK_step ?_
    refine opK_call (vs := [.int .i64 E]) rfl rfl rfl (enters_of Tryd.func8 (by kernel_rfl) rfl) rfl ?_
    with_reducible refine Calls.mono (sgNum_any E _) ?_
    rintro e y1 ⟨rfl, rfl⟩
    refine ⟨_, rfl, (fun x => Up w6 x), (fun x hx => hx), (Up.drew1 w6), ?_⟩
    change AlongK _ _ _ _ _ { tmps := #[.agg #[.string S, .slice a ls.length cap, .int .i64 next], .slice ta text.length tc, .int .i64 height, .pointer (some ⟨w.heap.size, 0, none⟩), _, _, _, .string SG, .pointer (some ⟨X, 0, none⟩), .int .i64 E, .string SG, .int .i64 E, .string RT, .int .i64 C, .int .i64 0, _, _, _, _, _, _, _, _, _, _, _, _, _, _, _, _, _, _, _, _, _, _, _, _, _, _, _, _, .string SG, .string SG, .bool false, .bool false, .int .i64 E, .int .i64 E, .int .i64 E, _, _, _, _, _, _, _, _, _, _, _, _, _, _, _, _, _, _, _, _, _, _, _, _, _, _, _, _, _, _, _, _, _, _, _, _, _, _, _, _, _, _, _, _, _, _, _, _, _, _, _, _, _, _, _, _, _, _, _, _, _], defers := _ } _
    refine alongK_read (.bool false) rfl rfl (fun wx hS => ex_neqi rfl rfl rfl (by simp) wx) ?_
    change AlongK _ _ _ _ _ { tmps := #[.agg #[.string S, .slice a ls.length cap, .int .i64 next], .slice ta text.length tc, .int .i64 height, .pointer (some ⟨w.heap.size, 0, none⟩), _, _, _, .string SG, .pointer (some ⟨X, 0, none⟩), .int .i64 E, .string SG, .int .i64 E, .string RT, .int .i64 C, .int .i64 0, _, _, _, _, _, _, _, _, _, _, _, _, _, _, _, _, _, _, _, _, _, _, _, _, _, _, _, _, .string SG, .string SG, .bool false, .bool false, .int .i64 E, .int .i64 E, .int .i64 E, .bool false, _, _, _, _, _, _, _, _, _, _, _, _, _, _, _, _, _, _, _, _, _, _, _, _, _, _, _, _, _, _, _, _, _, _, _, _, _, _, _, _, _, _, _, _, _, _, _, _, _, _, _, _, _, _, _, _, _, _, _, _], defers := _ } _
    refine alongK_read (.bool false) rfl rfl (fun wx hS => ex_pickf rfl (by rfl) (by rfl) wx) ?_
    change AlongK _ _ _ _ _ { tmps := #[.agg #[.string S, .slice a ls.length cap, .int .i64 next], .slice ta text.length tc, .int .i64 height, .pointer (some ⟨w.heap.size, 0, none⟩), _, _, _, .string SG, .pointer (some ⟨X, 0, none⟩), .int .i64 E, .string SG, .int .i64 E, .string RT, .int .i64 C, .int .i64 0, _, _, _, _, _, _, _, _, _, _, _, _, _, _, _, _, _, _, _, _, _, _, _, _, _, _, _, _, .string SG, .string SG, .bool false, .bool false, .int .i64 E, .int .i64 E, .int .i64 E, .bool false, .bool false, _, _, _, _, _, _, _, _, _, _, _, _, _, _, _, _, _, _, _, _, _, _, _, _, _, _, _, _, _, _, _, _, _, _, _, _, _, _, _, _, _, _, _, _, _, _, _, _, _, _, _, _, _, _, _, _, _, _, _], defers := _ } _
    refine alongK_read (.bool false) rfl rfl (fun wx hS => ex_move (by rfl) (by rfl) wx) ?_
    change AlongK _ _ _ _ _ { tmps := #[.agg #[.string S, .slice a ls.length cap, .int .i64 next], .slice ta text.length tc, .int .i64 height, .pointer (some ⟨w.heap.size, 0, none⟩), _, _, _, .string SG, .pointer (some ⟨X, 0, none⟩), .int .i64 E, .string SG, .int .i64 E, .string RT, .int .i64 C, .int .i64 0, _, _, _, _, _, _, _, _, _, _, _, _, _, _, _, _, _, _, _, _, _, _, _, _, _, _, _, _, .string SG, .string SG, .bool false, .bool false, .int .i64 E, .int .i64 E, .int .i64 E, .bool false, .bool false, .bool false, _, _, _, _, _, _, _, _, _, _, _, _, _, _, _, _, _, _, _, _, _, _, _, _, _, _, _, _, _, _, _, _, _, _, _, _, _, _, _, _, _, _, _, _, _, _, _, _, _, _, _, _, _, _, _, _, _, _], defers := _ } _
    refine alongK_read (.agg #[.string S, .slice a ls.length cap, .int .i64 next]) rfl rfl (fun wx hS => ex_loadrow rfl rfl wx 24 (HK.out wx hS) Tryd.underlying24 rfl info_key) ?_
    change AlongK _ _ _ _ _ { tmps := #[.agg #[.string S, .slice a ls.length cap, .int .i64 next], .slice ta text.length tc, .int .i64 height, .pointer (some ⟨w.heap.size, 0, none⟩), _, _, _, .string SG, .pointer (some ⟨X, 0, none⟩), .int .i64 E, .string SG, .int .i64 E, .string RT, .int .i64 C, .int .i64 0, _, _, _, _, _, _, _, _, _, _, _, _, _, _, _, _, _, _, _, _, _, _, _, _, _, _, _, _, .string SG, .string SG, .bool false, .bool false, .int .i64 E, .int .i64 E, .int .i64 E, .bool false, .bool false, .bool false, .agg #[.string S, .slice a ls.length cap, .int .i64 next], _, _, _, _, _, _, _, _, _, _, _, _, _, _, _, _, _, _, _, _, _, _, _, _, _, _, _, _, _, _, _, _, _, _, _, _, _, _, _, _, _, _, _, _, _, _, _, _, _, _, _, _, _, _, _, _, _], defers := _ } _
    refine alongK_read (.agg #[.string S, .slice a ls.length cap, .int .i64 next]) rfl rfl (fun wx hS => ex_loadrow rfl rfl wx 24 (HK.out wx hS) Tryd.underlying24 rfl info_key) ?_
    change AlongK _ _ _ _ _ { tmps := #[.agg #[.string S, .slice a ls.length cap, .int .i64 next], .slice ta text.length tc, .int .i64 height, .pointer (some ⟨w.heap.size, 0, none⟩), _, _, _, .string SG, .pointer (some ⟨X, 0, none⟩), .int .i64 E, .string SG, .int .i64 E, .string RT, .int .i64 C, .int .i64 0, _, _, _, _, _, _, _, _, _, _, _, _, _, _, _, _, _, _, _, _, _, _, _, _, _, _, _, _, .string SG, .string SG, .bool false, .bool false, .int .i64 E, .int .i64 E, .int .i64 E, .bool false, .bool false, .bool false, .agg #[.string S, .slice a ls.length cap, .int .i64 next], _, _, .agg #[.string S, .slice a ls.length cap, .int .i64 next], _, _, _, _, _, _, _, _, _, _, _, _, _, _, _, _, _, _, _, _, _, _, _, _, _, _, _, _, _, _, _, _, _, _, _, _, _, _, _, _, _, _, _, _, _, _, _, _, _, _, _, _, _, _], defers := _ } _
    refine alongK_step ?_
    refine opK_call (vs := [.agg #[.string S, .slice a ls.length cap, .int .i64 next]]) rfl rfl rfl (enters_of Tryd.func9 (by kernel_rfl) rfl) rfl ?_
    with_reducible refine Calls.mono (Hck.out _ (Up.drew1 w6)) ?_
    rintro e y2 ⟨rfl, hy2⟩
    have HY2 : Hid (Up w6 y2) := Lib.hid ((Up.drew1 w6).trans hy2)
    clear hy2
    refine ⟨_, rfl, (fun x => Up w6 x), (fun x hx => hx), HY2.out, ?_⟩
    change AlongK _ _ _ _ _ { tmps := #[.agg #[.string S, .slice a ls.length cap, .int .i64 next], .slice ta text.length tc, .int .i64 height, .pointer (some ⟨w.heap.size, 0, none⟩), _, _, _, .string SG, .pointer (some ⟨X, 0, none⟩), .int .i64 E, .string SG, .int .i64 E, .string RT, .int .i64 C, .int .i64 0, _, _, _, _, _, _, _, _, _, _, _, _, _, _, _, _, _, _, _, _, _, _, _, _, _, _, _, _, .string SG, .string SG, .bool false, .bool false, .int .i64 E, .int .i64 E, .int .i64 E, .bool false, .bool false, .bool false, .agg #[.string S, .slice a ls.length cap, .int .i64 next], .int .i64 C, _, .agg #[.string S, .slice a ls.length cap, .int .i64 next], _, _, _, _, _, _, _, _, _, _, _, _, _, _, _, _, _, _, _, _, _, _, _, _, _, _, _, _, _, _, _, _, _, _, _, _, _, _, _, _, _, _, _, _, _, _, _, _, _, _, _, _, _, _], defers := _ } _
    refine alongK_step ?_
    refine opK_call (vs := [.int .i64 C]) rfl rfl rfl (enters_of Tryd.func8 (by kernel_rfl) rfl) rfl ?_
    with_reducible refine Calls.mono (sgNum_any C _) ?_
    rintro e y3 ⟨rfl, rfl⟩
    refine ⟨_, rfl, (fun x => Up w6 x), (fun x hx => hx), HY2.out, ?_⟩
    change AlongK _ _ _ _ _ { tmps := #[.agg #[.string S, .slice a ls.length cap, .int .i64 next], .slice ta text.length tc, .int .i64 height, .pointer (some ⟨w.heap.size, 0, none⟩), _, _, _, .string SG, .pointer (some ⟨X, 0, none⟩), .int .i64 E, .string SG, .int .i64 E, .string RT, .int .i64 C, .int .i64 0, _, _, _, _, _, _, _, _, _, _, _, _, _, _, _, _, _, _, _, _, _, _, _, _, _, _, _, _, .string SG, .string SG, .bool false, .bool false, .int .i64 E, .int .i64 E, .int .i64 E, .bool false, .bool false, .bool false, .agg #[.string S, .slice a ls.length cap, .int .i64 next], .int .i64 C, .int .i64 C, .agg #[.string S, .slice a ls.length cap, .int .i64 next], _, _, _, _, _, _, _, _, _, _, _, _, _, _, _, _, _, _, _, _, _, _, _, _, _, _, _, _, _, _, _, _, _, _, _, _, _, _, _, _, _, _, _, _, _, _, _, _, _, _, _, _, _, _], defers := _ } _
    refine alongK_step ?_
    refine opK_call (vs := [.agg #[.string S, .slice a ls.length cap, .int .i64 next]]) rfl rfl rfl (enters_of Tryd.func10 (by kernel_rfl) rfl) rfl ?_
    with_reducible refine Calls.mono (Hrk.out _ HY2.out) ?_
    rintro e y4 ⟨rfl, hy4⟩
    have HY4 : Hid (Up w6 y4) := Lib.hid (HY2.out.trans hy4)
    clear hy4
    refine ⟨_, rfl, (fun x => Up w6 x), (fun x hx => hx), HY4.out, ?_⟩
    change AlongK _ _ _ _ _ { tmps := #[.agg #[.string S, .slice a ls.length cap, .int .i64 next], .slice ta text.length tc, .int .i64 height, .pointer (some ⟨w.heap.size, 0, none⟩), _, _, _, .string SG, .pointer (some ⟨X, 0, none⟩), .int .i64 E, .string SG, .int .i64 E, .string RT, .int .i64 C, .int .i64 0, _, _, _, _, _, _, _, _, _, _, _, _, _, _, _, _, _, _, _, _, _, _, _, _, _, _, _, _, .string SG, .string SG, .bool false, .bool false, .int .i64 E, .int .i64 E, .int .i64 E, .bool false, .bool false, .bool false, .agg #[.string S, .slice a ls.length cap, .int .i64 next], .int .i64 C, .int .i64 C, .agg #[.string S, .slice a ls.length cap, .int .i64 next], .int .i64 C, _, _, _, _, _, _, _, _, _, _, _, _, _, _, _, _, _, _, _, _, _, _, _, _, _, _, _, _, _, _, _, _, _, _, _, _, _, _, _, _, _, _, _, _, _, _, _, _, _, _, _, _, _], defers := _ } _
    refine alongK_read (.bool false) rfl rfl (fun wx hS => ex_neqi rfl rfl rfl (by simp) wx) ?_
    change AlongK _ _ _ _ _ { tmps := #[.agg #[.string S, .slice a ls.length cap, .int .i64 next], .slice ta text.length tc, .int .i64 height, .pointer (some ⟨w.heap.size, 0, none⟩), _, _, _, .string SG, .pointer (some ⟨X, 0, none⟩), .int .i64 E, .string SG, .int .i64 E, .string RT, .int .i64 C, .int .i64 0, _, _, _, _, _, _, _, _, _, _, _, _, _, _, _, _, _, _, _, _, _, _, _, _, _, _, _, _, .string SG, .string SG, .bool false, .bool false, .int .i64 E, .int .i64 E, .int .i64 E, .bool false, .bool false, .bool false, .agg #[.string S, .slice a ls.length cap, .int .i64 next], .int .i64 C, .int .i64 C, .agg #[.string S, .slice a ls.length cap, .int .i64 next], .int .i64 C, .bool false, _, _, _, _, _, _, _, _, _, _, _, _, _, _, _, _, _, _, _, _, _, _, _, _, _, _, _, _, _, _, _, _, _, _, _, _, _, _, _, _, _, _, _, _, _, _, _, _, _, _, _, _], defers := _ } _
    refine alongK_read (.bool false) rfl rfl (fun wx hS => ex_pickf rfl (by rfl) (by rfl) wx) ?_
    change AlongK _ _ _ _ _ { tmps := #[.agg #[.string S, .slice a ls.length cap, .int .i64 next], .slice ta text.length tc, .int .i64 height, .pointer (some ⟨w.heap.size, 0, none⟩), _, _, _, .string SG, .pointer (some ⟨X, 0, none⟩), .int .i64 E, .string SG, .int .i64 E, .string RT, .int .i64 C, .int .i64 0, _, _, _, _, _, _, _, _, _, _, _, _, _, _, _, _, _, _, _, _, _, _, _, _, _, _, _, _, .string SG, .string SG, .bool false, .bool false, .int .i64 E, .int .i64 E, .int .i64 E, .bool false, .bool false, .bool false, .agg #[.string S, .slice a ls.length cap, .int .i64 next], .int .i64 C, .int .i64 C, .agg #[.string S, .slice a ls.length cap, .int .i64 next], .int .i64 C, .bool false, .bool false, _, _, _, _, _, _, _, _, _, _, _, _, _, _, _, _, _, _, _, _, _, _, _, _, _, _, _, _, _, _, _, _, _, _, _, _, _, _, _, _, _, _, _, _, _, _, _, _, _, _, _], defers := _ } _
    refine alongK_read (.bool false) rfl rfl (fun wx hS => ex_move (by rfl) (by rfl) wx) ?_
    change AlongK _ _ _ _ _ { tmps := #[.agg #[.string S, .slice a ls.length cap, .int .i64 next], .slice ta text.length tc, .int .i64 height, .pointer (some ⟨w.heap.size, 0, none⟩), _, _, _, .string SG, .pointer (some ⟨X, 0, none⟩), .int .i64 E, .string SG, .int .i64 E, .string RT, .int .i64 C, .int .i64 0, _, _, _, _, _, _, _, _, _, _, _, _, _, _, _, _, _, _, _, _, _, _, _, _, _, _, _, _, .string SG, .string SG, .bool false, .bool false, .int .i64 E, .int .i64 E, .int .i64 E, .bool false, .bool false, .bool false, .agg #[.string S, .slice a ls.length cap, .int .i64 next], .int .i64 C, .int .i64 C, .agg #[.string S, .slice a ls.length cap, .int .i64 next], .int .i64 C, .bool false, .bool false, .bool false, _, _, _, _, _, _, _, _, _, _, _, _, _, _, _, _, _, _, _, _, _, _, _, _, _, _, _, _, _, _, _, _, _, _, _, _, _, _, _, _, _, _, _, _, _, _, _, _, _, _], defers := _ } _
    refine alongK_read (.agg #[.string S, .slice a ls.length cap, .int .i64 next]) rfl rfl (fun wx hS => ex_loadrow rfl rfl wx 24 (HK.out wx hS) Tryd.underlying24 rfl info_key) ?_
    change AlongK _ _ _ _ _ { tmps := #[.agg #[.string S, .slice a ls.length cap, .int .i64 next], .slice ta text.length tc, .int .i64 height, .pointer (some ⟨w.heap.size, 0, none⟩), _, _, _, .string SG, .pointer (some ⟨X, 0, none⟩), .int .i64 E, .string SG, .int .i64 E, .string RT, .int .i64 C, .int .i64 0, _, _, _, _, _, _, _, _, _, _, _, _, _, _, _, _, _, _, _, _, _, _, _, _, _, _, _, _, .string SG, .string SG, .bool false, .bool false, .int .i64 E, .int .i64 E, .int .i64 E, .bool false, .bool false, .bool false, .agg #[.string S, .slice a ls.length cap, .int .i64 next], .int .i64 C, .int .i64 C, .agg #[.string S, .slice a ls.length cap, .int .i64 next], .int .i64 C, .bool false, .bool false, .bool false, .agg #[.string S, .slice a ls.length cap, .int .i64 next], _, _, _, _, _, _, _, _, _, _, _, _, _, _, _, _, _, _, _, _, _, _, _, _, _, _, _, _, _, _, _, _, _, _, _, _, _, _, _, _, _, _, _, _, _, _, _, _, _], defers := _ } _
    refine alongK_read (.agg #[.string S, .slice a ls.length cap, .int .i64 next]) rfl rfl (fun wx hS => ex_loadrow rfl rfl wx 24 (HK.out wx hS) Tryd.underlying24 rfl info_key) ?_
    change AlongK _ _ _ _ _ { tmps := #[.agg #[.string S, .slice a ls.length cap, .int .i64 next], .slice ta text.length tc, .int .i64 height, .pointer (some ⟨w.heap.size, 0, none⟩), _, _, _, .string SG, .pointer (some ⟨X, 0, none⟩), .int .i64 E, .string SG, .int .i64 E, .string RT, .int .i64 C, .int .i64 0, _, _, _, _, _, _, _, _, _, _, _, _, _, _, _, _, _, _, _, _, _, _, _, _, _, _, _, _, .string SG, .string SG, .bool false, .bool false, .int .i64 E, .int .i64 E, .int .i64 E, .bool false, .bool false, .bool false, .agg #[.string S, .slice a ls.length cap, .int .i64 next], .int .i64 C, .int .i64 C, .agg #[.string S, .slice a ls.length cap, .int .i64 next], .int .i64 C, .bool false, .bool false, .bool false, .agg #[.string S, .slice a ls.length cap, .int .i64 next], _, .agg #[.string S, .slice a ls.length cap, .int .i64 next], _, _, _, _, _, _, _, _, _, _, _, _, _, _, _, _, _, _, _, _, _, _, _, _, _, _, _, _, _, _, _, _, _, _, _, _, _, _, _, _, _, _, _, _, _, _, _], defers := _ } _
    refine alongK_step ?_
    refine opK_call (vs := [.agg #[.string S, .slice a ls.length cap, .int .i64 next]]) rfl rfl rfl (enters_of Tryd.func11 (by kernel_rfl) rfl) rfl ?_
    with_reducible refine Calls.mono (Hht.out _ HY4.out) ?_
    rintro e y5 ⟨rfl, hy5⟩
    have HY5 : Hid (Up w6 y5) := Lib.hid (HY4.out.trans hy5)
    clear hy5
    refine ⟨_, rfl, (fun x => Up w6 x), (fun x hx => hx), HY5.out, ?_⟩
    change AlongK _ _ _ _ _ { tmps := #[.agg #[.string S, .slice a ls.length cap, .int .i64 next], .slice ta text.length tc, .int .i64 height, .pointer (some ⟨w.heap.size, 0, none⟩), _, _, _, .string SG, .pointer (some ⟨X, 0, none⟩), .int .i64 E, .string SG, .int .i64 E, .string RT, .int .i64 C, .int .i64 0, _, _, _, _, _, _, _, _, _, _, _, _, _, _, _, _, _, _, _, _, _, _, _, _, _, _, _, _, .string SG, .string SG, .bool false, .bool false, .int .i64 E, .int .i64 E, .int .i64 E, .bool false, .bool false, .bool false, .agg #[.string S, .slice a ls.length cap, .int .i64 next], .int .i64 C, .int .i64 C, .agg #[.string S, .slice a ls.length cap, .int .i64 next], .int .i64 C, .bool false, .bool false, .bool false, .agg #[.string S, .slice a ls.length cap, .int .i64 next], .int .i64 HT, .agg #[.string S, .slice a ls.length cap, .int .i64 next], _, _, _, _, _, _, _, _, _, _, _, _, _, _, _, _, _, _, _, _, _, _, _, _, _, _, _, _, _, _, _, _, _, _, _, _, _, _, _, _, _, _, _, _, _, _, _], defers := _ } _
    refine alongK_step ?_
    refine opK_call (vs := [.agg #[.string S, .slice a ls.length cap, .int .i64 next]]) rfl rfl rfl (enters_of Tryd.func12 (by kernel_rfl) rfl) rfl ?_
    with_reducible refine Calls.mono (Hrh.out _ HY5.out) ?_
    rintro e y6 ⟨rfl, hy6⟩
    have HY6 : Hid (Up w6 y6) := Lib.hid (HY5.out.trans hy6)
    clear hy6
    refine ⟨_, rfl, (fun x => Up w6 x), (fun x hx => hx), HY6.out, ?_⟩
    change AlongK _ _ _ _ _ { tmps := #[.agg #[.string S, .slice a ls.length cap, .int .i64 next], .slice ta text.length tc, .int .i64 height, .pointer (some ⟨w.heap.size, 0, none⟩), _, _, _, .string SG, .pointer (some ⟨X, 0, none⟩), .int .i64 E, .string SG, .int .i64 E, .string RT, .int .i64 C, .int .i64 0, _, _, _, _, _, _, _, _, _, _, _, _, _, _, _, _, _, _, _, _, _, _, _, _, _, _, _, _, .string SG, .string SG, .bool false, .bool false, .int .i64 E, .int .i64 E, .int .i64 E, .bool false, .bool false, .bool false, .agg #[.string S, .slice a ls.length cap, .int .i64 next], .int .i64 C, .int .i64 C, .agg #[.string S, .slice a ls.length cap, .int .i64 next], .int .i64 C, .bool false, .bool false, .bool false, .agg #[.string S, .slice a ls.length cap, .int .i64 next], .int .i64 HT, .agg #[.string S, .slice a ls.length cap, .int .i64 next], .int .i64 HT, _, _, _, _, _, _, _, _, _, _, _, _, _, _, _, _, _, _, _, _, _, _, _, _, _, _, _, _, _, _, _, _, _, _, _, _, _, _, _, _, _, _, _, _, _, _], defers := _ } _
    refine alongK_read (.bool false) rfl rfl (fun wx hS => ex_neqi rfl rfl rfl (by simp) wx) ?_
    change AlongK _ _ _ _ _ { tmps := #[.agg #[.string S, .slice a ls.length cap, .int .i64 next], .slice ta text.length tc, .int .i64 height, .pointer (some ⟨w.heap.size, 0, none⟩), _, _, _, .string SG, .pointer (some ⟨X, 0, none⟩), .int .i64 E, .string SG, .int .i64 E, .string RT, .int .i64 C, .int .i64 0, _, _, _, _, _, _, _, _, _, _, _, _, _, _, _, _, _, _, _, _, _, _, _, _, _, _, _, _, .string SG, .string SG, .bool false, .bool false, .int .i64 E, .int .i64 E, .int .i64 E, .bool false, .bool false, .bool false, .agg #[.string S, .slice a ls.length cap, .int .i64 next], .int .i64 C, .int .i64 C, .agg #[.string S, .slice a ls.length cap, .int .i64 next], .int .i64 C, .bool false, .bool false, .bool false, .agg #[.string S, .slice a ls.length cap, .int .i64 next], .int .i64 HT, .agg #[.string S, .slice a ls.length cap, .int .i64 next], .int .i64 HT, .bool false, _, _, _, _, _, _, _, _, _, _, _, _, _, _, _, _, _, _, _, _, _, _, _, _, _, _, _, _, _, _, _, _, _, _, _, _, _, _, _, _, _, _, _, _, _], defers := _ } _
    refine alongK_read (.bool false) rfl rfl (fun wx hS => ex_pickf rfl (by rfl) (by rfl) wx) ?_
    change AlongK _ _ _ _ _ { tmps := #[.agg #[.string S, .slice a ls.length cap, .int .i64 next], .slice ta text.length tc, .int .i64 height, .pointer (some ⟨w.heap.size, 0, none⟩), _, _, _, .string SG, .pointer (some ⟨X, 0, none⟩), .int .i64 E, .string SG, .int .i64 E, .string RT, .int .i64 C, .int .i64 0, _, _, _, _, _, _, _, _, _, _, _, _, _, _, _, _, _, _, _, _, _, _, _, _, _, _, _, _, .string SG, .string SG, .bool false, .bool false, .int .i64 E, .int .i64 E, .int .i64 E, .bool false, .bool false, .bool false, .agg #[.string S, .slice a ls.length cap, .int .i64 next], .int .i64 C, .int .i64 C, .agg #[.string S, .slice a ls.length cap, .int .i64 next], .int .i64 C, .bool false, .bool false, .bool false, .agg #[.string S, .slice a ls.length cap, .int .i64 next], .int .i64 HT, .agg #[.string S, .slice a ls.length cap, .int .i64 next], .int .i64 HT, .bool false, .bool false, _, _, _, _, _, _, _, _, _, _, _, _, _, _, _, _, _, _, _, _, _, _, _, _, _, _, _, _, _, _, _, _, _, _, _, _, _, _, _, _, _, _, _, _], defers := _ } _
    refine alongK_read (.bool false) rfl rfl (fun wx hS => ex_move (by rfl) (by rfl) wx) ?_
    change AlongK _ _ _ _ _ { tmps := #[.agg #[.string S, .slice a ls.length cap, .int .i64 next], .slice ta text.length tc, .int .i64 height, .pointer (some ⟨w.heap.size, 0, none⟩), _, _, _, .string SG, .pointer (some ⟨X, 0, none⟩), .int .i64 E, .string SG, .int .i64 E, .string RT, .int .i64 C, .int .i64 0, _, _, _, _, _, _, _, _, _, _, _, _, _, _, _, _, _, _, _, _, _, _, _, _, _, _, _, _, .string SG, .string SG, .bool false, .bool false, .int .i64 E, .int .i64 E, .int .i64 E, .bool false, .bool false, .bool false, .agg #[.string S, .slice a ls.length cap, .int .i64 next], .int .i64 C, .int .i64 C, .agg #[.string S, .slice a ls.length cap, .int .i64 next], .int .i64 C, .bool false, .bool false, .bool false, .agg #[.string S, .slice a ls.length cap, .int .i64 next], .int .i64 HT, .agg #[.string S, .slice a ls.length cap, .int .i64 next], .int .i64 HT, .bool false, .bool false, .bool false, _, _, _, _, _, _, _, _, _, _, _, _, _, _, _, _, _, _, _, _, _, _, _, _, _, _, _, _, _, _, _, _, _, _, _, _, _, _, _, _, _, _, _], defers := _ } _
    refine alongK_read (.int .i64 height) rfl rfl (fun wx hS => ex_move (by rfl) (by rfl) wx) ?_
    change AlongK _ _ _ _ _ { tmps := #[.agg #[.string S, .slice a ls.length cap, .int .i64 next], .slice ta text.length tc, .int .i64 height, .pointer (some ⟨w.heap.size, 0, none⟩), _, _, _, .string SG, .pointer (some ⟨X, 0, none⟩), .int .i64 E, .string SG, .int .i64 E, .string RT, .int .i64 C, .int .i64 0, _, _, _, _, _, _, _, _, _, _, _, _, _, _, _, _, _, _, _, _, _, _, _, _, _, _, _, _, .string SG, .string SG, .bool false, .bool false, .int .i64 E, .int .i64 E, .int .i64 E, .bool false, .bool false, .bool false, .agg #[.string S, .slice a ls.length cap, .int .i64 next], .int .i64 C, .int .i64 C, .agg #[.string S, .slice a ls.length cap, .int .i64 next], .int .i64 C, .bool false, .bool false, .bool false, .agg #[.string S, .slice a ls.length cap, .int .i64 next], .int .i64 HT, .agg #[.string S, .slice a ls.length cap, .int .i64 next], .int .i64 HT, .bool false, .bool false, .bool false, .int .i64 height, _, _, _, _, _, _, _, _, _, _, _, _, _, _, _, _, _, _, _, _, _, _, _, _, _, _, _, _, _, _, _, _, _, _, _, _, _, _, _, _, _, _], defers := _ } _
    refine alongK_read (.int .i64 0) rfl rfl (fun wx hS => ex_move (by rfl) (by rfl) wx) ?_
    change AlongK _ _ _ _ _ { tmps := #[.agg #[.string S, .slice a ls.length cap, .int .i64 next], .slice ta text.length tc, .int .i64 height, .pointer (some ⟨w.heap.size, 0, none⟩), _, _, _, .string SG, .pointer (some ⟨X, 0, none⟩), .int .i64 E, .string SG, .int .i64 E, .string RT, .int .i64 C, .int .i64 0, _, _, _, _, _, _, _, _, _, _, _, _, _, _, _, _, _, _, _, _, _, _, _, _, _, _, _, _, .string SG, .string SG, .bool false, .bool false, .int .i64 E, .int .i64 E, .int .i64 E, .bool false, .bool false, .bool false, .agg #[.string S, .slice a ls.length cap, .int .i64 next], .int .i64 C, .int .i64 C, .agg #[.string S, .slice a ls.length cap, .int .i64 next], .int .i64 C, .bool false, .bool false, .bool false, .agg #[.string S, .slice a ls.length cap, .int .i64 next], .int .i64 HT, .agg #[.string S, .slice a ls.length cap, .int .i64 next], .int .i64 HT, .bool false, .bool false, .bool false, .int .i64 height, _, .int .i64 0, _, _, _, _, _, _, _, _, _, _, _, _, _, _, _, _, _, _, _, _, _, _, _, _, _, _, _, _, _, _, _, _, _, _, _, _, _, _, _, _], defers := _ } _
    refine alongK_step ?_
    refine opK_call (vs := [.int .i64 height]) rfl rfl rfl (enters_of Tryd.func13 (by kernel_rfl) rfl) rfl ?_
    with_reducible refine Calls.mono (Hsz.out _) ?_
    rintro e y7 ⟨rfl, rfl⟩
    refine ⟨_, rfl, (fun x => Up w6 x), (fun x hx => hx), HY6.out, ?_⟩
    change AlongK _ _ _ _ _ { tmps := #[.agg #[.string S, .slice a ls.length cap, .int .i64 next], .slice ta text.length tc, .int .i64 height, .pointer (some ⟨w.heap.size, 0, none⟩), _, _, _, .string SG, .pointer (some ⟨X, 0, none⟩), .int .i64 E, .string SG, .int .i64 E, .string RT, .int .i64 C, .int .i64 0, _, _, _, _, _, _, _, _, _, _, _, _, _, _, _, _, _, _, _, _, _, _, _, _, _, _, _, _, .string SG, .string SG, .bool false, .bool false, .int .i64 E, .int .i64 E, .int .i64 E, .bool false, .bool false, .bool false, .agg #[.string S, .slice a ls.length cap, .int .i64 next], .int .i64 C, .int .i64 C, .agg #[.string S, .slice a ls.length cap, .int .i64 next], .int .i64 C, .bool false, .bool false, .bool false, .agg #[.string S, .slice a ls.length cap, .int .i64 next], .int .i64 HT, .agg #[.string S, .slice a ls.length cap, .int .i64 next], .int .i64 HT, .bool false, .bool false, .bool false, .int .i64 height, .int .i64 0, .int .i64 0, _, _, _, _, _, _, _, _, _, _, _, _, _, _, _, _, _, _, _, _, _, _, _, _, _, _, _, _, _, _, _, _, _, _, _, _, _, _, _, _], defers := _ } _
    refine alongK_read (.bool false) rfl rfl (fun wx hS => ex_neqi rfl rfl rfl (by simp) wx) ?_
    change AlongK _ _ _ _ _ { tmps := #[.agg #[.string S, .slice a ls.length cap, .int .i64 next], .slice ta text.length tc, .int .i64 height, .pointer (some ⟨w.heap.size, 0, none⟩), _, _, _, .string SG, .pointer (some ⟨X, 0, none⟩), .int .i64 E, .string SG, .int .i64 E, .string RT, .int .i64 C, .int .i64 0, _, _, _, _, _, _, _, _, _, _, _, _, _, _, _, _, _, _, _, _, _, _, _, _, _, _, _, _, .string SG, .string SG, .bool false, .bool false, .int .i64 E, .int .i64 E, .int .i64 E, .bool false, .bool false, .bool false, .agg #[.string S, .slice a ls.length cap, .int .i64 next], .int .i64 C, .int .i64 C, .agg #[.string S, .slice a ls.length cap, .int .i64 next], .int .i64 C, .bool false, .bool false, .bool false, .agg #[.string S, .slice a ls.length cap, .int .i64 next], .int .i64 HT, .agg #[.string S, .slice a ls.length cap, .int .i64 next], .int .i64 HT, .bool false, .bool false, .bool false, .int .i64 height, .int .i64 0, .int .i64 0, .bool false, _, _, _, _, _, _, _, _, _, _, _, _, _, _, _, _, _, _, _, _, _, _, _, _, _, _, _, _, _, _, _, _, _, _, _, _, _, _, _], defers := _ } _
    refine alongK_read (.bool false) rfl rfl (fun wx hS => ex_pickf rfl (by rfl) (by rfl) wx) ?_
    change AlongK _ _ _ _ _ { tmps := #[.agg #[.string S, .slice a ls.length cap, .int .i64 next], .slice ta text.length tc, .int .i64 height, .pointer (some ⟨w.heap.size, 0, none⟩), _, _, _, .string SG, .pointer (some ⟨X, 0, none⟩), .int .i64 E, .string SG, .int .i64 E, .string RT, .int .i64 C, .int .i64 0, _, _, _, _, _, _, _, _, _, _, _, _, _, _, _, _, _, _, _, _, _, _, _, _, _, _, _, _, .string SG, .string SG, .bool false, .bool false, .int .i64 E, .int .i64 E, .int .i64 E, .bool false, .bool false, .bool false, .agg #[.string S, .slice a ls.length cap, .int .i64 next], .int .i64 C, .int .i64 C, .agg #[.string S, .slice a ls.length cap, .int .i64 next], .int .i64 C, .bool false, .bool false, .bool false, .agg #[.string S, .slice a ls.length cap, .int .i64 next], .int .i64 HT, .agg #[.string S, .slice a ls.length cap, .int .i64 next], .int .i64 HT, .bool false, .bool false, .bool false, .int .i64 height, .int .i64 0, .int .i64 0, .bool false, .bool false, _, _, _, _, _, _, _, _, _, _, _, _, _, _, _, _, _, _, _, _, _, _, _, _, _, _, _, _, _, _, _, _, _, _, _, _, _, _], defers := _ } _
    refine alongK_read (.bool false) rfl rfl (fun wx hS => ex_move (by rfl) (by rfl) wx) ?_
    change AlongK _ _ _ _ _ { tmps := #[.agg #[.string S, .slice a ls.length cap, .int .i64 next], .slice ta text.length tc, .int .i64 height, .pointer (some ⟨w.heap.size, 0, none⟩), _, _, _, .string SG, .pointer (some ⟨X, 0, none⟩), .int .i64 E, .string SG, .int .i64 E, .string RT, .int .i64 C, .int .i64 0, _, _, _, _, _, _, _, _, _, _, _, _, _, _, _, _, _, _, _, _, _, _, _, _, _, _, _, _, .string SG, .string SG, .bool false, .bool false, .int .i64 E, .int .i64 E, .int .i64 E, .bool false, .bool false, .bool false, .agg #[.string S, .slice a ls.length cap, .int .i64 next], .int .i64 C, .int .i64 C, .agg #[.string S, .slice a ls.length cap, .int .i64 next], .int .i64 C, .bool false, .bool false, .bool false, .agg #[.string S, .slice a ls.length cap, .int .i64 next], .int .i64 HT, .agg #[.string S, .slice a ls.length cap, .int .i64 next], .int .i64 HT, .bool false, .bool false, .bool false, .int .i64 height, .int .i64 0, .int .i64 0, .bool false, .bool false, .bool false, _, _, _, _, _, _, _, _, _, _, _, _, _, _, _, _, _, _, _, _, _, _, _, _, _, _, _, _, _, _, _, _, _, _, _, _, _], defers := _ } _
    refine alongK_step ?_
    refine opK_call (vs := []) rfl rfl rfl (enters_of Tryd.func14 (by kernel_rfl) rfl) rfl ?_
    with_reducible refine Calls.mono (sgAlive_any _) ?_
    rintro e y8 ⟨rfl, rfl⟩
    refine ⟨_, rfl, (fun x => Up w6 x), (fun x hx => hx), HY6.out, ?_⟩
    change AlongK _ _ _ _ _ { tmps := #[.agg #[.string S, .slice a ls.length cap, .int .i64 next], .slice ta text.length tc, .int .i64 height, .pointer (some ⟨w.heap.size, 0, none⟩), _, _, _, .string SG, .pointer (some ⟨X, 0, none⟩), .int .i64 E, .string SG, .int .i64 E, .string RT, .int .i64 C, .int .i64 0, _, _, _, _, _, _, _, _, _, _, _, _, _, _, _, _, _, _, _, _, _, _, _, _, _, _, _, _, .string SG, .string SG, .bool false, .bool false, .int .i64 E, .int .i64 E, .int .i64 E, .bool false, .bool false, .bool false, .agg #[.string S, .slice a ls.length cap, .int .i64 next], .int .i64 C, .int .i64 C, .agg #[.string S, .slice a ls.length cap, .int .i64 next], .int .i64 C, .bool false, .bool false, .bool false, .agg #[.string S, .slice a ls.length cap, .int .i64 next], .int .i64 HT, .agg #[.string S, .slice a ls.length cap, .int .i64 next], .int .i64 HT, .bool false, .bool false, .bool false, .int .i64 height, .int .i64 0, .int .i64 0, .bool false, .bool false, .bool false, .bool true, _, _, _, _, _, _, _, _, _, _, _, _, _, _, _, _, _, _, _, _, _, _, _, _, _, _, _, _, _, _, _, _, _, _, _, _], defers := _ } _
    refine alongK_read (.bool false) rfl rfl (fun wx hS => ex_not (b := true) rfl rfl wx) ?_
    change AlongK _ _ _ _ _ { tmps := #[.agg #[.string S, .slice a ls.length cap, .int .i64 next], .slice ta text.length tc, .int .i64 height, .pointer (some ⟨w.heap.size, 0, none⟩), _, _, _, .string SG, .pointer (some ⟨X, 0, none⟩), .int .i64 E, .string SG, .int .i64 E, .string RT, .int .i64 C, .int .i64 0, _, _, _, _, _, _, _, _, _, _, _, _, _, _, _, _, _, _, _, _, _, _, _, _, _, _, _, _, .string SG, .string SG, .bool false, .bool false, .int .i64 E, .int .i64 E, .int .i64 E, .bool false, .bool false, .bool false, .agg #[.string S, .slice a ls.length cap, .int .i64 next], .int .i64 C, .int .i64 C, .agg #[.string S, .slice a ls.length cap, .int .i64 next], .int .i64 C, .bool false, .bool false, .bool false, .agg #[.string S, .slice a ls.length cap, .int .i64 next], .int .i64 HT, .agg #[.string S, .slice a ls.length cap, .int .i64 next], .int .i64 HT, .bool false, .bool false, .bool false, .int .i64 height, .int .i64 0, .int .i64 0, .bool false, .bool false, .bool false, .bool true, .bool false, _, _, _, _, _, _, _, _, _, _, _, _, _, _, _, _, _, _, _, _, _, _, _, _, _, _, _, _, _, _, _, _, _, _, _], defers := _ } _
    refine alongK_read (.bool false) rfl rfl (fun wx hS => ex_pickf rfl (by rfl) (by rfl) wx) ?_
    change AlongK _ _ _ _ _ { tmps := #[.agg #[.string S, .slice a ls.length cap, .int .i64 next], .slice ta text.length tc, .int .i64 height, .pointer (some ⟨w.heap.size, 0, none⟩), _, _, _, .string SG, .pointer (some ⟨X, 0, none⟩), .int .i64 E, .string SG, .int .i64 E, .string RT, .int .i64 C, .int .i64 0, _, _, _, _, _, _, _, _, _, _, _, _, _, _, _, _, _, _, _, _, _, _, _, _, _, _, _, _, .string SG, .string SG, .bool false, .bool false, .int .i64 E, .int .i64 E, .int .i64 E, .bool false, .bool false, .bool false, .agg #[.string S, .slice a ls.length cap, .int .i64 next], .int .i64 C, .int .i64 C, .agg #[.string S, .slice a ls.length cap, .int .i64 next], .int .i64 C, .bool false, .bool false, .bool false, .agg #[.string S, .slice a ls.length cap, .int .i64 next], .int .i64 HT, .agg #[.string S, .slice a ls.length cap, .int .i64 next], .int .i64 HT, .bool false, .bool false, .bool false, .int .i64 height, .int .i64 0, .int .i64 0, .bool false, .bool false, .bool false, .bool true, .bool false, .bool false, _, _, _, _, _, _, _, _, _, _, _, _, _, _, _, _, _, _, _, _, _, _, _, _, _, _, _, _, _, _, _, _, _, _], defers := _ } _
    refine alongK_done ?_
    go_wp2_with (refine wpList_load_row rfl 24 (.tmp 3) rfl w.heap.size rfl 24 #[.string S, .slice a ls.length cap, .int .i64 next] (0, 0) _ (HK.out _ HY6.out) Tryd.underlying24 rfl info_key ?_)
    with_reducible refine Calls.mono (Hrk.out _ HY6.out) ?_
    rintro e z1 ⟨rfl, hz1⟩
    have HZ1 : Hid (Up w6 z1) := Lib.hid (HY6.out.trans hz1)
    clear hz1
    rcases HC.out with rfl | ⟨rfl, rfl⟩
    · have hn := Hn.out rfl
      have Hrr1 := Lib.hid (Hrr.out rfl)
      have hw1 : IntKind.i64.wrap (next + 1) = next + 1 := IntWalk.i64_in _ (by omega)
      have hz2 : Up z1 (z1.alloc (.cells #[.string S, .slice a ls.length cap, .int .i64 next] 24)) := Up.alloc (Up.refl z1) _
      have hx2 := HK.out _ (HZ1.out.trans hz2)
      have hc2 := cell_of_row _ _ 2 _ _ _ hx2
      simp only [List.getElem?_toArray, List.getElem?_cons_zero, List.getElem?_cons_succ] at hc2
      clear hz2 hx2
      go_wp2_with (refine wpList_load_row rfl 24 (.tmp 3) rfl w.heap.size rfl 24 #[.string S, .slice a ls.length cap, .int .i64 next] (0, 0) _ (HK.out _ HZ1.out) Tryd.underlying24 rfl info_key ?_)
      have hal3 : Up z1 (z1.alloc (.cells #[.string S, .slice a ls.length cap, .int .i64 (next + 1)] 24)) := Up.alloc (Up.refl z1) _
      have hn3 := heap_alloc_new z1 (.cells #[.string S, .slice a ls.length cap, .int .i64 (next + 1)] 24)
      obtain ⟨z3, hz3⟩ : ∃ z3, z1.alloc (.cells #[.string S, .slice a ls.length cap, .int .i64 (next + 1)] 24) = z3 := ⟨_, rfl⟩
      obtain ⟨Y, hY⟩ : ∃ Y, z1.heap.size = Y := ⟨_, rfl⟩
      rw [hz3] at hal3 hn3 ⊢
      rw [hY] at hn3 ⊢
      have HZ3 := Lib.hid (HZ1.out.trans hal3)
      have HN3 := Lib.hid hn3
      have hc1 := cell_of_row _ _ 1 _ _ _ (HK.out _ HZ3.out)
      simp only [List.getElem?_toArray, List.getElem?_cons_zero, List.getElem?_cons_succ] at hc1
      clear hw1 hc2 hal3 hn3 hz3 hY hn
      with_reducible refine Calls.mono (sgNum_any _ _) ?_
      rintro e z4 ⟨rfl, rfl⟩
      go_wp2_with fail
      with_reducible refine Calls.mono (Hrr1.out _ (HU6.out.trans HZ3.out)) ?_
      rintro e z5 ⟨rfl, hz5⟩
      have HZ5 := Lib.hid (HZ3.out.trans hz5)
      have HN5 := Lib.hid ((hz5.block _ (lt_of_block HN3.out)).trans HN3.out)
      clear hz5 hc1
      by_cases hE0 : E = 0
      · have hst := HR6.out hE0
        have Hsm := Lib.hid (Hsame.out hE0 _ z5 (HU6.out.trans HZ5.out) (hst.up HZ5.out))
        clear hst
        subst hE0
        have hx8 := HNK.out _ HZ5.out
        have hx15 := HN5.out
        have p0 := cell_of_row _ _ 0 _ _ _ hx8
        have p1 := cell_of_row _ _ 1 _ _ _ hx8
        have p2 := cell_of_row _ _ 2 _ _ _ hx8
        have q0 := cell_of_row _ _ 0 _ _ _ hx15
        have q1 := cell_of_row _ _ 1 _ _ _ hx15
        have q2 := cell_of_row _ _ 2 _ _ _ hx15
        simp only [List.getElem?_toArray, List.getElem?_cons_zero, List.getElem?_cons_succ] at p0 p1 p2 q0 q1 q2
        clear hx8 hx15
        go_wp2_with fail
        with_reducible refine Calls.mono Hsm.out ?_
        rintro e z6 ⟨rfl, hz6⟩
        have HU9 := Lib.hid ((HU6.out.trans HZ5.out).trans hz6)
        clear hz6 p0 p1 p2 q0 q1 q2
        go_wp2
        go_ret
        exact ⟨rfl, HU9.out⟩
      · have e1 : (E == 0) = false := by rw [beq_eq_false_iff_ne]; exact hE0
        have e2 : (E != 0) = true := by rw [bne, e1]; rfl
        have HU9 := Lib.hid (HU6.out.trans HZ5.out)
        clear hE0
        go_wp2
        go_ret
        exact ⟨rfl, HU9.out⟩
    · go_wp2_with fail
      with_reducible refine Calls.mono (sgNum_any _ _) ?_
      rintro e z2 ⟨rfl, rfl⟩
      have HU9 := Lib.hid (HU6.out.trans HZ1.out)
      go_wp2
      go_ret
      exact ⟨rfl, HU9.out⟩
  · have hw8 : IntKind.i64.wrap (8 * height) = 8 * height := IntWalk.i64_in _ (by omega)
    have hw9 : IntKind.i64.wrap (90 + 8 * height) = 90 + 8 * height := IntWalk.i64_in _ (by omega)
    go_wp2
    rw [← hsz9]
    clear hw8 hw9 hsz9
    refine region_alongK (fun x => Up w6 x) (.read 0 (.read 1 (.read 2 (.read 3 (.read 4 (.read 6 (.step 5 (.read 7 (.read 8 (.read 9 (.read 10 (.read 13 (.step 11 (.step 12 (.step 14 (.read 15 (.read 16 (.read 17 (.read 18 (.read 20 (.step 19 (.step 21 (.read 22 (.read 23 (.read 24 (.read 25 (.read 27 (.step 26 (.read 28 (.read 29 (.read 30 (.step 31 (.read 32 (.read 33 (.nil))))))))))))))))))))))))))))))))))) (by kernel_rfl) rfl (by kernel_rfl) (by kernel_rfl) (fun c a d v w h => by cases d <;> exact h) (Up.drew1 w6) ?_
    refine alongK_read (.string SG) rfl rfl (fun wx hS => ex_move (by rfl) (by rfl) wx) ?_
    change AlongK _ _ _ _ _ { tmps := #[.agg #[.string S, .slice a ls.length cap, .int .i64 next], .slice ta text.length tc, .int .i64 height, .pointer (some ⟨w.heap.size, 0, none⟩), _, _, _, .string SG, .pointer (some ⟨X, 0, none⟩), .int .i64 E, .string SG, .int .i64 E, .string RT, .int .i64 C, .int .i64 SZ, _, _, _, _, _, _, _, _, _, _, _, _, _, _, _, _, _, _, _, _, _, _, _, _, _, _, _, _, .string SG, _, _, _, _, _, _, _, _, _, _, _, _, _, _, _, _, _, _, _, _, _, _, _, _, _, _, _, _, _, _, _, _, _, _, _, _, _, _, _, _, _, _, _, _, _, _, _, _, _, _, _, _, _, _, _, _, _, _, _, _, _, _, _, _, _, _, _], defers := _ } _
    refine alongK_read (.string SG) rfl rfl (fun wx hS => ex_move (by rfl) (by rfl) wx) ?_
    change AlongK _ _ _ _ _ { tmps := #[.agg #[.string S, .slice a ls.length cap, .int .i64 next], .slice ta text.length tc, .int .i64 height, .pointer (some ⟨w.heap.size, 0, none⟩), _, _, _, .string SG, .pointer (some ⟨X, 0, none⟩), .int .i64 E, .string SG, .int .i64 E, .string RT, .int .i64 C, .int .i64 SZ, _, _, _, _, _, _, _, _, _, _, _, _, _, _, _, _, _, _, _, _, _, _, _, _, _, _, _, _, .string SG, .string SG, _, _, _, _, _, _, _, _, _, _, _, _, _, _, _, _, _, _, _, _, _, _, _, _, _, _, _, _, _, _, _, _, _, _, _, _, _, _, _, _, _, _, _, _, _, _, _, _, _, _, _, _, _, _, _, _, _, _, _, _, _, _, _, _, _, _], defers := _ } _
    refine alongK_read (.bool false) rfl rfl (fun wx hS => ex_neqs rfl rfl rfl wx) ?_
    change AlongK _ _ _ _ _ { tmps := #[.agg #[.string S, .slice a ls.length cap, .int .i64 next], .slice ta text.length tc, .int .i64 height, .pointer (some ⟨w.heap.size, 0, none⟩), _, _, _, .string SG, .pointer (some ⟨X, 0, none⟩), .int .i64 E, .string SG, .int .i64 E, .string RT, .int .i64 C, .int .i64 SZ, _, _, _, _, _, _, _, _, _, _, _, _, _, _, _, _, _, _, _, _, _, _, _, _, _, _, _, _, .string SG, .string SG, .bool false, _, _, _, _, _, _, _, _, _, _, _, _, _, _, _, _, _, _, _, _, _, _, _, _, _, _, _, _, _, _, _, _, _, _, _, _, _, _, _, _, _, _, _, _, _, _, _, _, _, _, _, _, _, _, _, _, _, _, _, _, _, _, _, _, _], defers := _ } _
    refine alongK_read (.bool false) rfl rfl (fun wx hS => ex_move (by rfl) (by rfl) wx) ?_
    change AlongK _ _ _ _ _ { tmps := #[.agg #[.string S, .slice a ls.length cap, .int .i64 next], .slice ta text.length tc, .int .i64 height, .pointer (some ⟨w.heap.size, 0, none⟩), _, _, _, .string SG, .pointer (some ⟨X, 0, none⟩), .int .i64 E, .string SG, .int .i64 E, .string RT, .int .i64 C, .int .i64 SZ, _, _, _, _, _, _, _, _, _, _, _, _, _, _, _, _, _, _, _, _, _, _, _, _, _, _, _, _, .string SG, .string SG, .bool false, .bool false, _, _, _, _, _, _, _, _, _, _, _, _, _, _, _, _, _, _, _, _, _, _, _, _, _, _, _, _, _, _, _, _, _, _, _, _, _, _, _, _, _, _, _, _, _, _, _, _, _, _, _, _, _, _, _, _, _, _, _, _, _, _, _, _], defers := _ } _
    refine alongK_read (.int .i64 E) rfl rfl (fun wx hS => ex_move (by rfl) (by rfl) wx) ?_
    change AlongK _ _ _ _ _ { tmps := #[.agg #[.string S, .slice a ls.length cap, .int .i64 next], .slice ta text.length tc, .int .i64 height, .pointer (some ⟨w.heap.size, 0, none⟩), _, _, _, .string SG, .pointer (some ⟨X, 0, none⟩), .int .i64 E, .string SG, .int .i64 E, .string RT, .int .i64 C, .int .i64 SZ, _, _, _, _, _, _, _, _, _, _, _, _, _, _, _, _, _, _, _, _, _, _, _, _, _, _, _, _, .string SG, .string SG, .bool false, .bool false, .int .i64 E, _, _, _, _, _, _, _, _, _, _, _, _, _, _, _, _, _, _, _, _, _, _, _, _, _, _, _, _, _, _, _, _, _, _, _, _, _, _, _, _, _, _, _, _, _, _, _, _, _, _, _, _, _, _, _, _, _, _, _, _, _, _, _], defers := _ } _
    refine alongK_read (.int .i64 E) rfl rfl (fun wx hS => ex_move (by rfl) (by rfl) wx) ?_
    change AlongK _ _ _ _ _ { tmps := #[.agg #[.string S, .slice a ls.length cap, .int .i64 next], .slice ta text.length tc, .int .i64 height, .pointer (some ⟨w.heap.size, 0, none⟩), _, _, _, .string SG, .pointer (some ⟨X, 0, none⟩), .int .i64 E, .string SG, .int .i64 E, .string RT, .int .i64 C, .int .i64 SZ, _, _, _, _, _, _, _, _, _, _, _, _, _, _, _, _, _, _, _, _, _, _, _, _, _, _, _, _, .string SG, .string SG, .bool false, .bool false, .int .i64 E, _, .int .i64 E, _, _, _, _, _, _, _, _, _, _, _, _, _, _, _, _, _, _, _, _, _, _, _, _, _, _, _, _, _, _, _, _, _, _, _, _, _, _, _, _, _, _, _, _, _, _, _, _, _, _, _, _, _, _, _, _, _, _, _, _, _], defers := _ } _
    refine alongK_step ?_
    refine opK_call (vs := [.int .i64 E]) rfl rfl rfl (enters_of Tryd.func8 (by kernel_rfl) rfl) rfl ?_
    with_reducible refine Calls.mono (sgNum_any E _) ?_
    rintro e y1 ⟨rfl, rfl⟩
    refine ⟨_, rfl, (fun x => Up w6 x), (fun x hx => hx), (Up.drew1 w6), ?_⟩
    change AlongK _ _ _ _ _ { tmps := #[.agg #[.string S, .slice a ls.length cap, .int .i64 next], .slice ta text.length tc, .int .i64 height, .pointer (some ⟨w.heap.size, 0, none⟩), _, _, _, .string SG, .pointer (some ⟨X, 0, none⟩), .int .i64 E, .string SG, .int .i64 E, .string RT, .int .i64 C, .int .i64 SZ, _, _, _, _, _, _, _, _, _, _, _, _, _, _, _, _, _, _, _, _, _, _, _, _, _, _, _, _, .string SG, .string SG, .bool false, .bool false, .int .i64 E, .int .i64 E, .int .i64 E, _, _, _, _, _, _, _, _, _, _, _, _, _, _, _, _, _, _, _, _, _, _, _, _, _, _, _, _, _, _, _, _, _, _, _, _, _, _, _, _, _, _, _, _, _, _, _, _, _, _, _, _, _, _, _, _, _, _, _, _, _], defers := _ } _
    refine alongK_read (.bool false) rfl rfl (fun wx hS => ex_neqi rfl rfl rfl (by simp) wx) ?_
    change AlongK _ _ _ _ _ { tmps := #[.agg #[.string S, .slice a ls.length cap, .int .i64 next], .slice ta text.length tc, .int .i64 height, .pointer (some ⟨w.heap.size, 0, none⟩), _, _, _, .string SG, .pointer (some ⟨X, 0, none⟩), .int .i64 E, .string SG, .int .i64 E, .string RT, .int .i64 C, .int .i64 SZ, _, _, _, _, _, _, _, _, _, _, _, _, _, _, _, _, _, _, _, _, _, _, _, _, _, _, _, _, .string SG, .string SG, .bool false, .bool false, .int .i64 E, .int .i64 E, .int .i64 E, .bool false, _, _, _, _, _, _, _, _, _, _, _, _, _, _, _, _, _, _, _, _, _, _, _, _, _, _, _, _, _, _, _, _, _, _, _, _, _, _, _, _, _, _, _, _, _, _, _, _, _, _, _, _, _, _, _, _, _, _, _, _], defers := _ } _
    refine alongK_read (.bool false) rfl rfl (fun wx hS => ex_pickf rfl (by rfl) (by rfl) wx) ?_
    change AlongK _ _ _ _ _ { tmps := #[.agg #[.string S, .slice a ls.length cap, .int .i64 next], .slice ta text.length tc, .int .i64 height, .pointer (some ⟨w.heap.size, 0, none⟩), _, _, _, .string SG, .pointer (some ⟨X, 0, none⟩), .int .i64 E, .string SG, .int .i64 E, .string RT, .int .i64 C, .int .i64 SZ, _, _, _, _, _, _, _, _, _, _, _, _, _, _, _, _, _, _, _, _, _, _, _, _, _, _, _, _, .string SG, .string SG, .bool false, .bool false, .int .i64 E, .int .i64 E, .int .i64 E, .bool false, .bool false, _, _, _, _, _, _, _, _, _, _, _, _, _, _, _, _, _, _, _, _, _, _, _, _, _, _, _, _, _, _, _, _, _, _, _, _, _, _, _, _, _, _, _, _, _, _, _, _, _, _, _, _, _, _, _, _, _, _, _], defers := _ } _
    refine alongK_read (.bool false) rfl rfl (fun wx hS => ex_move (by rfl) (by rfl) wx) ?_
    change AlongK _ _ _ _ _ { tmps := #[.agg #[.string S, .slice a ls.length cap, .int .i64 next], .slice ta text.length tc, .int .i64 height, .pointer (some ⟨w.heap.size, 0, none⟩), _, _, _, .string SG, .pointer (some ⟨X, 0, none⟩), .int .i64 E, .string SG, .int .i64 E, .string RT, .int .i64 C, .int .i64 SZ, _, _, _, _, _, _, _, _, _, _, _, _, _, _, _, _, _, _, _, _, _, _, _, _, _, _, _, _, .string SG, .string SG, .bool false, .bool false, .int .i64 E, .int .i64 E, .int .i64 E, .bool false, .bool false, .bool false, _, _, _, _, _, _, _, _, _, _, _, _, _, _, _, _, _, _, _, _, _, _, _, _, _, _, _, _, _, _, _, _, _, _, _, _, _, _, _, _, _, _, _, _, _, _, _, _, _, _, _, _, _, _, _, _, _, _], defers := _ } _
    refine alongK_read (.agg #[.string S, .slice a ls.length cap, .int .i64 next]) rfl rfl (fun wx hS => ex_loadrow rfl rfl wx 24 (HK.out wx hS) Tryd.underlying24 rfl info_key) ?_
    change AlongK _ _ _ _ _ { tmps := #[.agg #[.string S, .slice a ls.length cap, .int .i64 next], .slice ta text.length tc, .int .i64 height, .pointer (some ⟨w.heap.size, 0, none⟩), _, _, _, .string SG, .pointer (some ⟨X, 0, none⟩), .int .i64 E, .string SG, .int .i64 E, .string RT, .int .i64 C, .int .i64 SZ, _, _, _, _, _, _, _, _, _, _, _, _, _, _, _, _, _, _, _, _, _, _, _, _, _, _, _, _, .string SG, .string SG, .bool false, .bool false, .int .i64 E, .int .i64 E, .int .i64 E, .bool false, .bool false, .bool false, .agg #[.string S, .slice a ls.length cap, .int .i64 next], _, _, _, _, _, _, _, _, _, _, _, _, _, _, _, _, _, _, _, _, _, _, _, _, _, _, _, _, _, _, _, _, _, _, _, _, _, _, _, _, _, _, _, _, _, _, _, _, _, _, _, _, _, _, _, _, _], defers := _ } _
    refine alongK_read (.agg #[.string S, .slice a ls.length cap, .int .i64 next]) rfl rfl (fun wx hS => ex_loadrow rfl rfl wx 24 (HK.out wx hS) Tryd.underlying24 rfl info_key) ?_
    change AlongK _ _ _ _ _ { tmps := #[.agg #[.string S, .slice a ls.length cap, .int .i64 next], .slice ta text.length tc, .int .i64 height, .pointer (some ⟨w.heap.size, 0, none⟩), _, _, _, .string SG, .pointer (some ⟨X, 0, none⟩), .int .i64 E, .string SG, .int .i64 E, .string RT, .int .i64 C, .int .i64 SZ, _, _, _, _, _, _, _, _, _, _, _, _, _, _, _, _, _, _, _, _, _, _, _, _, _, _, _, _, .string SG, .string SG, .bool false, .bool false, .int .i64 E, .int .i64 E, .int .i64 E, .bool false, .bool false, .bool false, .agg #[.string S, .slice a ls.length cap, .int .i64 next], _, _, .agg #[.string S, .slice a ls.length cap, .int .i64 next], _, _, _, _, _, _, _, _, _, _, _, _, _, _, _, _, _, _, _, _, _, _, _, _, _, _, _, _, _, _, _, _, _, _, _, _, _, _, _, _, _, _, _, _, _, _, _, _, _, _, _, _, _, _], defers := _ } _
    refine alongK_step ?_
    refine opK_call (vs := [.agg #[.string S, .slice a ls.length cap, .int .i64 next]]) rfl rfl rfl (enters_of Tryd.func9 (by kernel_rfl) rfl) rfl ?_
    with_reducible refine Calls.mono (Hck.out _ (Up.drew1 w6)) ?_
    rintro e y2 ⟨rfl, hy2⟩
    have HY2 : Hid (Up w6 y2) := Lib.hid ((Up.drew1 w6).trans hy2)
    clear hy2
    refine ⟨_, rfl, (fun x => Up w6 x), (fun x hx => hx), HY2.out, ?_⟩
    change AlongK _ _ _ _ _ { tmps := #[.agg #[.string S, .slice a ls.length cap, .int .i64 next], .slice ta text.length tc, .int .i64 height, .pointer (some ⟨w.heap.size, 0, none⟩), _, _, _, .string SG, .pointer (some ⟨X, 0, none⟩), .int .i64 E, .string SG, .int .i64 E, .string RT, .int .i64 C, .int .i64 SZ, _, _, _, _, _, _, _, _, _, _, _, _, _, _, _, _, _, _, _, _, _, _, _, _, _, _, _, _, .string SG, .string SG, .bool false, .bool false, .int .i64 E, .int .i64 E, .int .i64 E, .bool false, .bool false, .bool false, .agg #[.string S, .slice a ls.length cap, .int .i64 next], .int .i64 C, _, .agg #[.string S, .slice a ls.length cap, .int .i64 next], _, _, _, _, _, _, _, _, _, _, _, _, _, _, _, _, _, _, _, _, _, _, _, _, _, _, _, _, _, _, _, _, _, _, _, _, _, _, _, _, _, _, _, _, _, _, _, _, _, _, _, _, _, _], defers := _ } _
    refine alongK_step ?_
    refine opK_call (vs := [.int .i64 C]) rfl rfl rfl (enters_of Tryd.func8 (by kernel_rfl) rfl) rfl ?_
    with_reducible refine Calls.mono (sgNum_any C _) ?_
    rintro e y3 ⟨rfl, rfl⟩
    refine ⟨_, rfl, (fun x => Up w6 x), (fun x hx => hx), HY2.out, ?_⟩
    change AlongK _ _ _ _ _ { tmps := #[.agg #[.string S, .slice a ls.length cap, .int .i64 next], .slice ta text.length tc, .int .i64 height, .pointer (some ⟨w.heap.size, 0, none⟩), _, _, _, .string SG, .pointer (some ⟨X, 0, none⟩), .int .i64 E, .string SG, .int .i64 E, .string RT, .int .i64 C, .int .i64 SZ, _, _, _, _, _, _, _, _, _, _, _, _, _, _, _, _, _, _, _, _, _, _, _, _, _, _, _, _, .string SG, .string SG, .bool false, .bool false, .int .i64 E, .int .i64 E, .int .i64 E, .bool false, .bool false, .bool false, .agg #[.string S, .slice a ls.length cap, .int .i64 next], .int .i64 C, .int .i64 C, .agg #[.string S, .slice a ls.length cap, .int .i64 next], _, _, _, _, _, _, _, _, _, _, _, _, _, _, _, _, _, _, _, _, _, _, _, _, _, _, _, _, _, _, _, _, _, _, _, _, _, _, _, _, _, _, _, _, _, _, _, _, _, _, _, _, _, _], defers := _ } _
    refine alongK_step ?_
    refine opK_call (vs := [.agg #[.string S, .slice a ls.length cap, .int .i64 next]]) rfl rfl rfl (enters_of Tryd.func10 (by kernel_rfl) rfl) rfl ?_
    with_reducible refine Calls.mono (Hrk.out _ HY2.out) ?_
    rintro e y4 ⟨rfl, hy4⟩
    have HY4 : Hid (Up w6 y4) := Lib.hid (HY2.out.trans hy4)
    clear hy4
    refine ⟨_, rfl, (fun x => Up w6 x), (fun x hx => hx), HY4.out, ?_⟩
    change AlongK _ _ _ _ _ { tmps := #[.agg #[.string S, .slice a ls.length cap, .int .i64 next], .slice ta text.length tc, .int .i64 height, .pointer (some ⟨w.heap.size, 0, none⟩), _, _, _, .string SG, .pointer (some ⟨X, 0, none⟩), .int .i64 E, .string SG, .int .i64 E, .string RT, .int .i64 C, .int .i64 SZ, _, _, _, _, _, _, _, _, _, _, _, _, _, _, _, _, _, _, _, _, _, _, _, _, _, _, _, _, .string SG, .string SG, .bool false, .bool false, .int .i64 E, .int .i64 E, .int .i64 E, .bool false, .bool false, .bool false, .agg #[.string S, .slice a ls.length cap, .int .i64 next], .int .i64 C, .int .i64 C, .agg #[.string S, .slice a ls.length cap, .int .i64 next], .int .i64 C, _, _, _, _, _, _, _, _, _, _, _, _, _, _, _, _, _, _, _, _, _, _, _, _, _, _, _, _, _, _, _, _, _, _, _, _, _, _, _, _, _, _, _, _, _, _, _, _, _, _, _, _, _], defers := _ } _
    refine alongK_read (.bool false) rfl rfl (fun wx hS => ex_neqi rfl rfl rfl (by simp) wx) ?_
    change AlongK _ _ _ _ _ { tmps := #[.agg #[.string S, .slice a ls.length cap, .int .i64 next], .slice ta text.length tc, .int .i64 height, .pointer (some ⟨w.heap.size, 0, none⟩), _, _, _, .string SG, .pointer (some ⟨X, 0, none⟩), .int .i64 E, .string SG, .int .i64 E, .string RT, .int .i64 C, .int .i64 SZ, _, _, _, _, _, _, _, _, _, _, _, _, _, _, _, _, _, _, _, _, _, _, _, _, _, _, _, _, .string SG, .string SG, .bool false, .bool false, .int .i64 E, .int .i64 E, .int .i64 E, .bool false, .bool false, .bool false, .agg #[.string S, .slice a ls.length cap, .int .i64 next], .int .i64 C, .int .i64 C, .agg #[.string S, .slice a ls.length cap, .int .i64 next], .int .i64 C, .bool false, _, _, _, _, _, _, _, _, _, _, _, _, _, _, _, _, _, _, _, _, _, _, _, _, _, _, _, _, _, _, _, _, _, _, _, _, _, _, _, _, _, _, _, _, _, _, _, _, _, _, _, _], defers := _ } _
    refine alongK_read (.bool false) rfl rfl (fun wx hS => ex_pickf rfl (by rfl) (by rfl) wx) ?_
    change AlongK _ _ _ _ _ { tmps := #[.agg #[.string S, .slice a ls.length cap, .int .i64 next], .slice ta text.length tc, .int .i64 height, .pointer (some ⟨w.heap.size, 0, none⟩), _, _, _, .string SG, .pointer (some ⟨X, 0, none⟩), .int .i64 E, .string SG, .int .i64 E, .string RT, .int .i64 C, .int .i64 SZ, _, _, _, _, _, _, _, _, _, _, _, _, _, _, _, _, _, _, _, _, _, _, _, _, _, _, _, _, .string SG, .string SG, .bool false, .bool false, .int .i64 E, .int .i64 E, .int .i64 E, .bool false, .bool false, .bool false, .agg #[.string S, .slice a ls.length cap, .int .i64 next], .int .i64 C, .int .i64 C, .agg #[.string S, .slice a ls.length cap, .int .i64 next], .int .i64 C, .bool false, .bool false, _, _, _, _, _, _, _, _, _, _, _, _, _, _, _, _, _, _, _, _, _, _, _, _, _, _, _, _, _, _, _, _, _, _, _, _, _, _, _, _, _, _, _, _, _, _, _, _, _, _, _], defers := _ } _
    refine alongK_read (.bool false) rfl rfl (fun wx hS => ex_move (by rfl) (by rfl) wx) ?_
    change AlongK _ _ _ _ _ { tmps := #[.agg #[.string S, .slice a ls.length cap, .int .i64 next], .slice ta text.length tc, .int .i64 height, .pointer (some ⟨w.heap.size, 0, none⟩), _, _, _, .string SG, .pointer (some ⟨X, 0, none⟩), .int .i64 E, .string SG, .int .i64 E, .string RT, .int .i64 C, .int .i64 SZ, _, _, _, _, _, _, _, _, _, _, _, _, _, _, _, _, _, _, _, _, _, _, _, _, _, _, _, _, .string SG, .string SG, .bool false, .bool false, .int .i64 E, .int .i64 E, .int .i64 E, .bool false, .bool false, .bool false, .agg #[.string S, .slice a ls.length cap, .int .i64 next], .int .i64 C, .int .i64 C, .agg #[.string S, .slice a ls.length cap, .int .i64 next], .int .i64 C, .bool false, .bool false, .bool false, _, _, _, _, _, _, _, _, _, _, _, _, _, _, _, _, _, _, _, _, _, _, _, _, _, _, _, _, _, _, _, _, _, _, _, _, _, _, _, _, _, _, _, _, _, _, _, _, _, _], defers := _ } _
    refine alongK_read (.agg #[.string S, .slice a ls.length cap, .int .i64 next]) rfl rfl (fun wx hS => ex_loadrow rfl rfl wx 24 (HK.out wx hS) Tryd.underlying24 rfl info_key) ?_
    change AlongK _ _ _ _ _ { tmps := #[.agg #[.string S, .slice a ls.length cap, .int .i64 next], .slice ta text.length tc, .int .i64 height, .pointer (some ⟨w.heap.size, 0, none⟩), _, _, _, .string SG, .pointer (some ⟨X, 0, none⟩), .int .i64 E, .string SG, .int .i64 E, .string RT, .int .i64 C, .int .i64 SZ, _, _, _, _, _, _, _, _, _, _, _, _, _, _, _, _, _, _, _, _, _, _, _, _, _, _, _, _, .string SG, .string SG, .bool false, .bool false, .int .i64 E, .int .i64 E, .int .i64 E, .bool false, .bool false, .bool false, .agg #[.string S, .slice a ls.length cap, .int .i64 next], .int .i64 C, .int .i64 C, .agg #[.string S, .slice a ls.length cap, .int .i64 next], .int .i64 C, .bool false, .bool false, .bool false, .agg #[.string S, .slice a ls.length cap, .int .i64 next], _, _, _, _, _, _, _, _, _, _, _, _, _, _, _, _, _, _, _, _, _, _, _, _, _, _, _, _, _, _, _, _, _, _, _, _, _, _, _, _, _, _, _, _, _, _, _, _, _], defers := _ } _
    refine alongK_read (.agg #[.string S, .slice a ls.length cap, .int .i64 next]) rfl rfl (fun wx hS => ex_loadrow rfl rfl wx 24 (HK.out wx hS) Tryd.underlying24 rfl info_key) ?_
    change AlongK _ _ _ _ _ { tmps := #[.agg #[.string S, .slice a ls.length cap, .int .i64 next], .slice ta text.length tc, .int .i64 height, .pointer (some ⟨w.heap.size, 0, none⟩), _, _, _, .string SG, .pointer (some ⟨X, 0, none⟩), .int .i64 E, .string SG, .int .i64 E, .string RT, .int .i64 C, .int .i64 SZ, _, _, _, _, _, _, _, _, _, _, _, _, _, _, _, _, _, _, _, _, _, _, _, _, _, _, _, _, .string SG, .string SG, .bool false, .bool false, .int .i64 E, .int .i64 E, .int .i64 E, .bool false, .bool false, .bool false, .agg #[.string S, .slice a ls.length cap, .int .i64 next], .int .i64 C, .int .i64 C, .agg #[.string S, .slice a ls.length cap, .int .i64 next], .int .i64 C, .bool false, .bool false, .bool false, .agg #[.string S, .slice a ls.length cap, .int .i64 next], _, .agg #[.string S, .slice a ls.length cap, .int .i64 next], _, _, _, _, _, _, _, _, _, _, _, _, _, _, _, _, _, _, _, _, _, _, _, _, _, _, _, _, _, _, _, _, _, _, _, _, _, _, _, _, _, _, _, _, _, _, _], defers := _ } _
    refine alongK_step ?_
    refine opK_call (vs := [.agg #[.string S, .slice a ls.length cap, .int .i64 next]]) rfl rfl rfl (enters_of Tryd.func11 (by kernel_rfl) rfl) rfl ?_
    with_reducible refine Calls.mono (Hht.out _ HY4.out) ?_
    rintro e y5 ⟨rfl, hy5⟩
    have HY5 : Hid (Up w6 y5) := Lib.hid (HY4.out.trans hy5)
    clear hy5
    refine ⟨_, rfl, (fun x => Up w6 x), (fun x hx => hx), HY5.out, ?_⟩
    change AlongK _ _ _ _ _ { tmps := #[.agg #[.string S, .slice a ls.length cap, .int .i64 next], .slice ta text.length tc, .int .i64 height, .pointer (some ⟨w.heap.size, 0, none⟩), _, _, _, .string SG, .pointer (some ⟨X, 0, none⟩), .int .i64 E, .string SG, .int .i64 E, .string RT, .int .i64 C, .int .i64 SZ, _, _, _, _, _, _, _, _, _, _, _, _, _, _, _, _, _, _, _, _, _, _, _, _, _, _, _, _, .string SG, .string SG, .bool false, .bool false, .int .i64 E, .int .i64 E, .int .i64 E, .bool false, .bool false, .bool false, .agg #[.string S, .slice a ls.length cap, .int .i64 next], .int .i64 C, .int .i64 C, .agg #[.string S, .slice a ls.length cap, .int .i64 next], .int .i64 C, .bool false, .bool false, .bool false, .agg #[.string S, .slice a ls.length cap, .int .i64 next], .int .i64 HT, .agg #[.string S, .slice a ls.length cap, .int .i64 next], _, _, _, _, _, _, _, _, _, _, _, _, _, _, _, _, _, _, _, _, _, _, _, _, _, _, _, _, _, _, _, _, _, _, _, _, _, _, _, _, _, _, _, _, _, _, _], defers := _ } _
    refine alongK_step ?_
    refine opK_call (vs := [.agg #[.string S, .slice a ls.length cap, .int .i64 next]]) rfl rfl rfl (enters_of Tryd.func12 (by kernel_rfl) rfl) rfl ?_
    with_reducible refine Calls.mono (Hrh.out _ HY5.out) ?_
    rintro e y6 ⟨rfl, hy6⟩
    have HY6 : Hid (Up w6 y6) := Lib.hid (HY5.out.trans hy6)
    clear hy6
    refine ⟨_, rfl, (fun x => Up w6 x), (fun x hx => hx), HY6.out, ?_⟩
    change AlongK _ _ _ _ _ { tmps := #[.agg #[.string S, .slice a ls.length cap, .int .i64 next], .slice ta text.length tc, .int .i64 height, .pointer (some ⟨w.heap.size, 0, none⟩), _, _, _, .string SG, .pointer (some ⟨X, 0, none⟩), .int .i64 E, .string SG, .int .i64 E, .string RT, .int .i64 C, .int .i64 SZ, _, _, _, _, _, _, _, _, _, _, _, _, _, _, _, _, _, _, _, _, _, _, _, _, _, _, _, _, .string SG, .string SG, .bool false, .bool false, .int .i64 E, .int .i64 E, .int .i64 E, .bool false, .bool false, .bool false, .agg #[.string S, .slice a ls.length cap, .int .i64 next], .int .i64 C, .int .i64 C, .agg #[.string S, .slice a ls.length cap, .int .i64 next], .int .i64 C, .bool false, .bool false, .bool false, .agg #[.string S, .slice a ls.length cap, .int .i64 next], .int .i64 HT, .agg #[.string S, .slice a ls.length cap, .int .i64 next], .int .i64 HT, _, _, _, _, _, _, _, _, _, _, _, _, _, _, _, _, _, _, _, _, _, _, _, _, _, _, _, _, _, _, _, _, _, _, _, _, _, _, _, _, _, _, _, _, _, _], defers := _ } _
    refine alongK_read (.bool false) rfl rfl (fun wx hS => ex_neqi rfl rfl rfl (by simp) wx) ?_
    change AlongK _ _ _ _ _ { tmps := #[.agg #[.string S, .slice a ls.length cap, .int .i64 next], .slice ta text.length tc, .int .i64 height, .pointer (some ⟨w.heap.size, 0, none⟩), _, _, _, .string SG, .pointer (some ⟨X, 0, none⟩), .int .i64 E, .string SG, .int .i64 E, .string RT, .int .i64 C, .int .i64 SZ, _, _, _, _, _, _, _, _, _, _, _, _, _, _, _, _, _, _, _, _, _, _, _, _, _, _, _, _, .string SG, .string SG, .bool false, .bool false, .int .i64 E, .int .i64 E, .int .i64 E, .bool false, .bool false, .bool false, .agg #[.string S, .slice a ls.length cap, .int .i64 next], .int .i64 C, .int .i64 C, .agg #[.string S, .slice a ls.length cap, .int .i64 next], .int .i64 C, .bool false, .bool false, .bool false, .agg #[.string S, .slice a ls.length cap, .int .i64 next], .int .i64 HT, .agg #[.string S, .slice a ls.length cap, .int .i64 next], .int .i64 HT, .bool false, _, _, _, _, _, _, _, _, _, _, _, _, _, _, _, _, _, _, _, _, _, _, _, _, _, _, _, _, _, _, _, _, _, _, _, _, _, _, _, _, _, _, _, _, _], defers := _ } _
    refine alongK_read (.bool false) rfl rfl (fun wx hS => ex_pickf rfl (by rfl) (by rfl) wx) ?_
    change AlongK _ _ _ _ _ { tmps := #[.agg #[.string S, .slice a ls.length cap, .int .i64 next], .slice ta text.length tc, .int .i64 height, .pointer (some ⟨w.heap.size, 0, none⟩), _, _, _, .string SG, .pointer (some ⟨X, 0, none⟩), .int .i64 E, .string SG, .int .i64 E, .string RT, .int .i64 C, .int .i64 SZ, _, _, _, _, _, _, _, _, _, _, _, _, _, _, _, _, _, _, _, _, _, _, _, _, _, _, _, _, .string SG, .string SG, .bool false, .bool false, .int .i64 E, .int .i64 E, .int .i64 E, .bool false, .bool false, .bool false, .agg #[.string S, .slice a ls.length cap, .int .i64 next], .int .i64 C, .int .i64 C, .agg #[.string S, .slice a ls.length cap, .int .i64 next], .int .i64 C, .bool false, .bool false, .bool false, .agg #[.string S, .slice a ls.length cap, .int .i64 next], .int .i64 HT, .agg #[.string S, .slice a ls.length cap, .int .i64 next], .int .i64 HT, .bool false, .bool false, _, _, _, _, _, _, _, _, _, _, _, _, _, _, _, _, _, _, _, _, _, _, _, _, _, _, _, _, _, _, _, _, _, _, _, _, _, _, _, _, _, _, _, _], defers := _ } _
    refine alongK_read (.bool false) rfl rfl (fun wx hS => ex_move (by rfl) (by rfl) wx) ?_
    change AlongK _ _ _ _ _ { tmps := #[.agg #[.string S, .slice a ls.length cap, .int .i64 next], .slice ta text.length tc, .int .i64 height, .pointer (some ⟨w.heap.size, 0, none⟩), _, _, _, .string SG, .pointer (some ⟨X, 0, none⟩), .int .i64 E, .string SG, .int .i64 E, .string RT, .int .i64 C, .int .i64 SZ, _, _, _, _, _, _, _, _, _, _, _, _, _, _, _, _, _, _, _, _, _, _, _, _, _, _, _, _, .string SG, .string SG, .bool false, .bool false, .int .i64 E, .int .i64 E, .int .i64 E, .bool false, .bool false, .bool false, .agg #[.string S, .slice a ls.length cap, .int .i64 next], .int .i64 C, .int .i64 C, .agg #[.string S, .slice a ls.length cap, .int .i64 next], .int .i64 C, .bool false, .bool false, .bool false, .agg #[.string S, .slice a ls.length cap, .int .i64 next], .int .i64 HT, .agg #[.string S, .slice a ls.length cap, .int .i64 next], .int .i64 HT, .bool false, .bool false, .bool false, _, _, _, _, _, _, _, _, _, _, _, _, _, _, _, _, _, _, _, _, _, _, _, _, _, _, _, _, _, _, _, _, _, _, _, _, _, _, _, _, _, _, _], defers := _ } _
    refine alongK_read (.int .i64 height) rfl rfl (fun wx hS => ex_move (by rfl) (by rfl) wx) ?_
    change AlongK _ _ _ _ _ { tmps := #[.agg #[.string S, .slice a ls.length cap, .int .i64 next], .slice ta text.length tc, .int .i64 height, .pointer (some ⟨w.heap.size, 0, none⟩), _, _, _, .string SG, .pointer (some ⟨X, 0, none⟩), .int .i64 E, .string SG, .int .i64 E, .string RT, .int .i64 C, .int .i64 SZ, _, _, _, _, _, _, _, _, _, _, _, _, _, _, _, _, _, _, _, _, _, _, _, _, _, _, _, _, .string SG, .string SG, .bool false, .bool false, .int .i64 E, .int .i64 E, .int .i64 E, .bool false, .bool false, .bool false, .agg #[.string S, .slice a ls.length cap, .int .i64 next], .int .i64 C, .int .i64 C, .agg #[.string S, .slice a ls.length cap, .int .i64 next], .int .i64 C, .bool false, .bool false, .bool false, .agg #[.string S, .slice a ls.length cap, .int .i64 next], .int .i64 HT, .agg #[.string S, .slice a ls.length cap, .int .i64 next], .int .i64 HT, .bool false, .bool false, .bool false, .int .i64 height, _, _, _, _, _, _, _, _, _, _, _, _, _, _, _, _, _, _, _, _, _, _, _, _, _, _, _, _, _, _, _, _, _, _, _, _, _, _, _, _, _, _], defers := _ } _
    refine alongK_read (.int .i64 SZ) rfl rfl (fun wx hS => ex_move (by rfl) (by rfl) wx) ?_
    change AlongK _ _ _ _ _ { tmps := #[.agg #[.string S, .slice a ls.length cap, .int .i64 next], .slice ta text.length tc, .int .i64 height, .pointer (some ⟨w.heap.size, 0, none⟩), _, _, _, .string SG, .pointer (some ⟨X, 0, none⟩), .int .i64 E, .string SG, .int .i64 E, .string RT, .int .i64 C, .int .i64 SZ, _, _, _, _, _, _, _, _, _, _, _, _, _, _, _, _, _, _, _, _, _, _, _, _, _, _, _, _, .string SG, .string SG, .bool false, .bool false, .int .i64 E, .int .i64 E, .int .i64 E, .bool false, .bool false, .bool false, .agg #[.string S, .slice a ls.length cap, .int .i64 next], .int .i64 C, .int .i64 C, .agg #[.string S, .slice a ls.length cap, .int .i64 next], .int .i64 C, .bool false, .bool false, .bool false, .agg #[.string S, .slice a ls.length cap, .int .i64 next], .int .i64 HT, .agg #[.string S, .slice a ls.length cap, .int .i64 next], .int .i64 HT, .bool false, .bool false, .bool false, .int .i64 height, _, .int .i64 SZ, _, _, _, _, _, _, _, _, _, _, _, _, _, _, _, _, _, _, _, _, _, _, _, _, _, _, _, _, _, _, _, _, _, _, _, _, _, _, _, _], defers := _ } _
    refine alongK_step ?_
    refine opK_call (vs := [.int .i64 height]) rfl rfl rfl (enters_of Tryd.func13 (by kernel_rfl) rfl) rfl ?_
    with_reducible refine Calls.mono (Hsz.out _) ?_
    rintro e y7 ⟨rfl, rfl⟩
    refine ⟨_, rfl, (fun x => Up w6 x), (fun x hx => hx), HY6.out, ?_⟩
    change AlongK _ _ _ _ _ { tmps := #[.agg #[.string S, .slice a ls.length cap, .int .i64 next], .slice ta text.length tc, .int .i64 height, .pointer (some ⟨w.heap.size, 0, none⟩), _, _, _, .string SG, .pointer (some ⟨X, 0, none⟩), .int .i64 E, .string SG, .int .i64 E, .string RT, .int .i64 C, .int .i64 SZ, _, _, _, _, _, _, _, _, _, _, _, _, _, _, _, _, _, _, _, _, _, _, _, _, _, _, _, _, .string SG, .string SG, .bool false, .bool false, .int .i64 E, .int .i64 E, .int .i64 E, .bool false, .bool false, .bool false, .agg #[.string S, .slice a ls.length cap, .int .i64 next], .int .i64 C, .int .i64 C, .agg #[.string S, .slice a ls.length cap, .int .i64 next], .int .i64 C, .bool false, .bool false, .bool false, .agg #[.string S, .slice a ls.length cap, .int .i64 next], .int .i64 HT, .agg #[.string S, .slice a ls.length cap, .int .i64 next], .int .i64 HT, .bool false, .bool false, .bool false, .int .i64 height, .int .i64 SZ, .int .i64 SZ, _, _, _, _, _, _, _, _, _, _, _, _, _, _, _, _, _, _, _, _, _, _, _, _, _, _, _, _, _, _, _, _, _, _, _, _, _, _, _, _], defers := _ } _
    refine alongK_read (.bool false) rfl rfl (fun wx hS => ex_neqi rfl rfl rfl (by simp) wx) ?_
    change AlongK _ _ _ _ _ { tmps := #[.agg #[.string S, .slice a ls.length cap, .int .i64 next], .slice ta text.length tc, .int .i64 height, .pointer (some ⟨w.heap.size, 0, none⟩), _, _, _, .string SG, .pointer (some ⟨X, 0, none⟩), .int .i64 E, .string SG, .int .i64 E, .string RT, .int .i64 C, .int .i64 SZ, _, _, _, _, _, _, _, _, _, _, _, _, _, _, _, _, _, _, _, _, _, _, _, _, _, _, _, _, .string SG, .string SG, .bool false, .bool false, .int .i64 E, .int .i64 E, .int .i64 E, .bool false, .bool false, .bool false, .agg #[.string S, .slice a ls.length cap, .int .i64 next], .int .i64 C, .int .i64 C, .agg #[.string S, .slice a ls.length cap, .int .i64 next], .int .i64 C, .bool false, .bool false, .bool false, .agg #[.string S, .slice a ls.length cap, .int .i64 next], .int .i64 HT, .agg #[.string S, .slice a ls.length cap, .int .i64 next], .int .i64 HT, .bool false, .bool false, .bool false, .int .i64 height, .int .i64 SZ, .int .i64 SZ, .bool false, _, _, _, _, _, _, _, _, _, _, _, _, _, _, _, _, _, _, _, _, _, _, _, _, _, _, _, _, _, _, _, _, _, _, _, _, _, _, _], defers := _ } _
    refine alongK_read (.bool false) rfl rfl (fun wx hS => ex_pickf rfl (by rfl) (by rfl) wx) ?_
    change AlongK _ _ _ _ _ { tmps := #[.agg #[.string S, .slice a ls.length cap, .int .i64 next], .slice ta text.length tc, .int .i64 height, .pointer (some ⟨w.heap.size, 0, none⟩), _, _, _, .string SG, .pointer (some ⟨X, 0, none⟩), .int .i64 E, .string SG, .int .i64 E, .string RT, .int .i64 C, .int .i64 SZ, _, _, _, _, _, _, _, _, _, _, _, _, _, _, _, _, _, _, _, _, _, _, _, _, _, _, _, _, .string SG, .string SG, .bool false, .bool false, .int .i64 E, .int .i64 E, .int .i64 E, .bool false, .bool false, .bool false, .agg #[.string S, .slice a ls.length cap, .int .i64 next], .int .i64 C, .int .i64 C, .agg #[.string S, .slice a ls.length cap, .int .i64 next], .int .i64 C, .bool false, .bool false, .bool false, .agg #[.string S, .slice a ls.length cap, .int .i64 next], .int .i64 HT, .agg #[.string S, .slice a ls.length cap, .int .i64 next], .int .i64 HT, .bool false, .bool false, .bool false, .int .i64 height, .int .i64 SZ, .int .i64 SZ, .bool false, .bool false, _, _, _, _, _, _, _, _, _, _, _, _, _, _, _, _, _, _, _, _, _, _, _, _, _, _, _, _, _, _, _, _, _, _, _, _, _, _], defers := _ } _
    refine alongK_read (.bool false) rfl rfl (fun wx hS => ex_move (by rfl) (by rfl) wx) ?_
    change AlongK _ _ _ _ _ { tmps := #[.agg #[.string S, .slice a ls.length cap, .int .i64 next], .slice ta text.length tc, .int .i64 height, .pointer (some ⟨w.heap.size, 0, none⟩), _, _, _, .string SG, .pointer (some ⟨X, 0, none⟩), .int .i64 E, .string SG, .int .i64 E, .string RT, .int .i64 C, .int .i64 SZ, _, _, _, _, _, _, _, _, _, _, _, _, _, _, _, _, _, _, _, _, _, _, _, _, _, _, _, _, .string SG, .string SG, .bool false, .bool false, .int .i64 E, .int .i64 E, .int .i64 E, .bool false, .bool false, .bool false, .agg #[.string S, .slice a ls.length cap, .int .i64 next], .int .i64 C, .int .i64 C, .agg #[.string S, .slice a ls.length cap, .int .i64 next], .int .i64 C, .bool false, .bool false, .bool false, .agg #[.string S, .slice a ls.length cap, .int .i64 next], .int .i64 HT, .agg #[.string S, .slice a ls.length cap, .int .i64 next], .int .i64 HT, .bool false, .bool false, .bool false, .int .i64 height, .int .i64 SZ, .int .i64 SZ, .bool false, .bool false, .bool false, _, _, _, _, _, _, _, _, _, _, _, _, _, _, _, _, _, _, _, _, _, _, _, _, _, _, _, _, _, _, _, _, _, _, _, _, _], defers := _ } _
    refine alongK_step ?_
    refine opK_call (vs := []) rfl rfl rfl (enters_of Tryd.func14 (by kernel_rfl) rfl) rfl ?_
    with_reducible refine Calls.mono (sgAlive_any _) ?_
    rintro e y8 ⟨rfl, rfl⟩
    refine ⟨_, rfl, (fun x => Up w6 x), (fun x hx => hx), HY6.out, ?_⟩
    change AlongK _ _ _ _ _ { tmps := #[.agg #[.string S, .slice a ls.length cap, .int .i64 next], .slice ta text.length tc, .int .i64 height, .pointer (some ⟨w.heap.size, 0, none⟩), _, _, _, .string SG, .pointer (some ⟨X, 0, none⟩), .int .i64 E, .string SG, .int .i64 E, .string RT, .int .i64 C, .int .i64 SZ, _, _, _, _, _, _, _, _, _, _, _, _, _, _, _, _, _, _, _, _, _, _, _, _, _, _, _, _, .string SG, .string SG, .bool false, .bool false, .int .i64 E, .int .i64 E, .int .i64 E, .bool false, .bool false, .bool false, .agg #[.string S, .slice a ls.length cap, .int .i64 next], .int .i64 C, .int .i64 C, .agg #[.string S, .slice a ls.length cap, .int .i64 next], .int .i64 C, .bool false, .bool false, .bool false, .agg #[.string S, .slice a ls.length cap, .int .i64 next], .int .i64 HT, .agg #[.string S, .slice a ls.length cap, .int .i64 next], .int .i64 HT, .bool false, .bool false, .bool false, .int .i64 height, .int .i64 SZ, .int .i64 SZ, .bool false, .bool false, .bool false, .bool true, _, _, _, _, _, _, _, _, _, _, _, _, _, _, _, _, _, _, _, _, _, _, _, _, _, _, _, _, _, _, _, _, _, _, _, _], defers := _ } _
    refine alongK_read (.bool false) rfl rfl (fun wx hS => ex_not (b := true) rfl rfl wx) ?_
    change AlongK _ _ _ _ _ { tmps := #[.agg #[.string S, .slice a ls.length cap, .int .i64 next], .slice ta text.length tc, .int .i64 height, .pointer (some ⟨w.heap.size, 0, none⟩), _, _, _, .string SG, .pointer (some ⟨X, 0, none⟩), .int .i64 E, .string SG, .int .i64 E, .string RT, .int .i64 C, .int .i64 SZ, _, _, _, _, _, _, _, _, _, _, _, _, _, _, _, _, _, _, _, _, _, _, _, _, _, _, _, _, .string SG, .string SG, .bool false, .bool false, .int .i64 E, .int .i64 E, .int .i64 E, .bool false, .bool false, .bool false, .agg #[.string S, .slice a ls.length cap, .int .i64 next], .int .i64 C, .int .i64 C, .agg #[.string S, .slice a ls.length cap, .int .i64 next], .int .i64 C, .bool false, .bool false, .bool false, .agg #[.string S, .slice a ls.length cap, .int .i64 next], .int .i64 HT, .agg #[.string S, .slice a ls.length cap, .int .i64 next], .int .i64 HT, .bool false, .bool false, .bool false, .int .i64 height, .int .i64 SZ, .int .i64 SZ, .bool false, .bool false, .bool false, .bool true, .bool false, _, _, _, _, _, _, _, _, _, _, _, _, _, _, _, _, _, _, _, _, _, _, _, _, _, _, _, _, _, _, _, _, _, _, _], defers := _ } _
    refine alongK_read (.bool false) rfl rfl (fun wx hS => ex_pickf rfl (by rfl) (by rfl) wx) ?_
    change AlongK _ _ _ _ _ { tmps := #[.agg #[.string S, .slice a ls.length cap, .int .i64 next], .slice ta text.length tc, .int .i64 height, .pointer (some ⟨w.heap.size, 0, none⟩), _, _, _, .string SG, .pointer (some ⟨X, 0, none⟩), .int .i64 E, .string SG, .int .i64 E, .string RT, .int .i64 C, .int .i64 SZ, _, _, _, _, _, _, _, _, _, _, _, _, _, _, _, _, _, _, _, _, _, _, _, _, _, _, _, _, .string SG, .string SG, .bool false, .bool false, .int .i64 E, .int .i64 E, .int .i64 E, .bool false, .bool false, .bool false, .agg #[.string S, .slice a ls.length cap, .int .i64 next], .int .i64 C, .int .i64 C, .agg #[.string S, .slice a ls.length cap, .int .i64 next], .int .i64 C, .bool false, .bool false, .bool false, .agg #[.string S, .slice a ls.length cap, .int .i64 next], .int .i64 HT, .agg #[.string S, .slice a ls.length cap, .int .i64 next], .int .i64 HT, .bool false, .bool false, .bool false, .int .i64 height, .int .i64 SZ, .int .i64 SZ, .bool false, .bool false, .bool false, .bool true, .bool false, .bool false, _, _, _, _, _, _, _, _, _, _, _, _, _, _, _, _, _, _, _, _, _, _, _, _, _, _, _, _, _, _, _, _, _, _], defers := _ } _
    refine alongK_done ?_
    go_wp2_with (refine wpList_load_row rfl 24 (.tmp 3) rfl w.heap.size rfl 24 #[.string S, .slice a ls.length cap, .int .i64 next] (0, 0) _ (HK.out _ HY6.out) Tryd.underlying24 rfl info_key ?_)
    with_reducible refine Calls.mono (Hrk.out _ HY6.out) ?_
    rintro e z1 ⟨rfl, hz1⟩
    have HZ1 : Hid (Up w6 z1) := Lib.hid (HY6.out.trans hz1)
    clear hz1
    rcases HC.out with rfl | ⟨rfl, rfl⟩
    · have hn := Hn.out rfl
      have Hrr1 := Lib.hid (Hrr.out rfl)
      have hw1 : IntKind.i64.wrap (next + 1) = next + 1 := IntWalk.i64_in _ (by omega)
      have hz2 : Up z1 (z1.alloc (.cells #[.string S, .slice a ls.length cap, .int .i64 next] 24)) := Up.alloc (Up.refl z1) _
      have hx2 := HK.out _ (HZ1.out.trans hz2)
      have hc2 := cell_of_row _ _ 2 _ _ _ hx2
      simp only [List.getElem?_toArray, List.getElem?_cons_zero, List.getElem?_cons_succ] at hc2
      clear hz2 hx2
      go_wp2_with (refine wpList_load_row rfl 24 (.tmp 3) rfl w.heap.size rfl 24 #[.string S, .slice a ls.length cap, .int .i64 next] (0, 0) _ (HK.out _ HZ1.out) Tryd.underlying24 rfl info_key ?_)
      have hal3 : Up z1 (z1.alloc (.cells #[.string S, .slice a ls.length cap, .int .i64 (next + 1)] 24)) := Up.alloc (Up.refl z1) _
      have hn3 := heap_alloc_new z1 (.cells #[.string S, .slice a ls.length cap, .int .i64 (next + 1)] 24)
      obtain ⟨z3, hz3⟩ : ∃ z3, z1.alloc (.cells #[.string S, .slice a ls.length cap, .int .i64 (next + 1)] 24) = z3 := ⟨_, rfl⟩
      obtain ⟨Y, hY⟩ : ∃ Y, z1.heap.size = Y := ⟨_, rfl⟩
      rw [hz3] at hal3 hn3 ⊢
      rw [hY] at hn3 ⊢
      have HZ3 := Lib.hid (HZ1.out.trans hal3)
      have HN3 := Lib.hid hn3
      have hc1 := cell_of_row _ _ 1 _ _ _ (HK.out _ HZ3.out)
      simp only [List.getElem?_toArray, List.getElem?_cons_zero, List.getElem?_cons_succ] at hc1
      clear hw1 hc2 hal3 hn3 hz3 hY hn
      with_reducible refine Calls.mono (sgNum_any _ _) ?_
      rintro e z4 ⟨rfl, rfl⟩
      go_wp2_with fail
      with_reducible refine Calls.mono (Hrr1.out _ (HU6.out.trans HZ3.out)) ?_
      rintro e z5 ⟨rfl, hz5⟩
      have HZ5 := Lib.hid (HZ3.out.trans hz5)
      have HN5 := Lib.hid ((hz5.block _ (lt_of_block HN3.out)).trans HN3.out)
      clear hz5 hc1
      by_cases hE0 : E = 0
      · have hst := HR6.out hE0
        have Hsm := Lib.hid (Hsame.out hE0 _ z5 (HU6.out.trans HZ5.out) (hst.up HZ5.out))
        clear hst
        subst hE0
        have hx8 := HNK.out _ HZ5.out
        have hx15 := HN5.out
        have p0 := cell_of_row _ _ 0 _ _ _ hx8
        have p1 := cell_of_row _ _ 1 _ _ _ hx8
        have p2 := cell_of_row _ _ 2 _ _ _ hx8
        have q0 := cell_of_row _ _ 0 _ _ _ hx15
        have q1 := cell_of_row _ _ 1 _ _ _ hx15
        have q2 := cell_of_row _ _ 2 _ _ _ hx15
        simp only [List.getElem?_toArray, List.getElem?_cons_zero, List.getElem?_cons_succ] at p0 p1 p2 q0 q1 q2
        clear hx8 hx15
        go_wp2_with fail
        with_reducible refine Calls.mono Hsm.out ?_
        rintro e z6 ⟨rfl, hz6⟩
        have HU9 := Lib.hid ((HU6.out.trans HZ5.out).trans hz6)
        clear hz6 p0 p1 p2 q0 q1 q2
        go_wp2
        go_ret
        exact ⟨rfl, HU9.out⟩
      · have e1 : (E == 0) = false := by rw [beq_eq_false_iff_ne]; exact hE0
        have e2 : (E != 0) = true := by rw [bne, e1]; rfl
        have HU9 := Lib.hid (HU6.out.trans HZ5.out)
        clear hE0
        go_wp2
        go_ret
        exact ⟨rfl, HU9.out⟩
    · go_wp2_with fail
      with_reducible refine Calls.mono (sgNum_any _ _) ?_
      rintro e z2 ⟨rfl, rfl⟩
      have HU9 := Lib.hid (HU6.out.trans HZ1.out)
      go_wp2
      go_ret
      exact ⟨rfl, HU9.out⟩

theorem lawSgTells_any (s : ByteArray) (lv : Value) (ls : List (List Int)) (next : Int) (tv : Value) (text : List Int) (height : Int) (w : World) (hs : Strs w lv ls) (hu : ∀ k : Nat, U8s (ls[k]?.getD []))
    (hl : ls.length ≤ 8796093022208) (hll : ∀ k : Nat, (ls[k]?.getD []).length ≤ 140737488351232) (hss : s.size ≤ 140737488351232) (hn : (Lit.int .i64 next).wf = true)
    (ht : Ints .u8 w tv text) (hut : U8s text) (hT : text.length ≤ 140737488351232) (hh : (Lit.int .i64 height).wf = true) (hT64 : Tab64 w) (hTS : TabS w) :
    Calls Tryd.prog 3 #[.agg #[.string s, lv, .int .i64 next], tv, .int .i64 height] w fun e w' => e = .returned (.bool true) ∧ Below w.heap.size w w' := by
  have h := lawSgTells_in (octsOf s) lv ls next tv text height w ⟨octsOf_u8s s, fun k => ⟨hu k, hll k⟩, hl, by rw [octsOf_length]; exact hss, (i64_of_wf hn).1, (i64_of_wf hn).2⟩ hs ht hut hT (i64_of_wf hh) hT64 hTS
  unfold keyV at h
  rwa [strOf_octs] at h
end
end Go.Proofs.YtbdjbmgeelleiaaDoor
