import Derived.Test.YtgmicppfiapilaaDoorSgSign
/-
  signer: Root; Sign of a key with no leaf left, and of one that may not be.
-/
namespace Go.Proofs.YtgmicppfiapilaaDoor
set_option maxRecDepth 100000
section
set_option linter.unusedVariables false
open Go.RowKit

set_option maxHeartbeats 2000000 in
theorem sgRoot_ok (seed : List Int) (lv : Value) (ls : List (List Int)) (next : Int) (w : World) (hs : Strs w lv ls) (hk : KeyOk seed ls next) (hf : Fits ls) :
    Calls Tryd.prog 8 #[keyV seed lv next] w fun e w' => e = .returned (.tuple #[.string (strOfNums (rootB ls)), .int .i64 0]) ∧ Up w w' := by
  have hl16 : ls.length ≤ 16 := by have := hk.pow; omega
  have Hck : Hid (∀ wx, Up w wx → Calls Tryd.prog 19 #[keyV seed lv next] wx fun e w' => e = .returned (.int .i64 0) ∧ Up wx w') := fun wx hx => check_ok seed lv ls next wx (hs.up hx) hk
  have Hrt : Hid (∀ wx, Up w wx → Calls Tryd.prog 20 #[lv] wx fun e w' => e = .returned (.string (strOfNums (rootB ls))) ∧ Up wx w') := fun wx hx => root_any lv ls wx (hs.up hx) hf (by omega)
  obtain ⟨a, cap, rfl, _, _, _⟩ := hs
  clear hk hf hl16
  generalize strOfNums (rootB ls) = R at Hrt ⊢
  unfold keyV at Hck ⊢
  go_enter Tryd.func8, Tryd.ntmps8
  go_wp2_with fail
  with_reducible refine Calls.mono (Hck.out _ (Up.alloc (Up.refl w) _)) ?_
  rintro e w1 ⟨rfl, hU1⟩
  have hk1 := (hU1.block w.heap.size (by simp)).trans (heap_alloc_new w _)
  have hc1 := cell_of_row _ _ 1 _ _ _ hk1
  simp only [List.getElem?_toArray, List.getElem?_cons_zero, List.getElem?_cons_succ] at hc1
  have HU1 := Lib.hid (Up.trans (Up.alloc (Up.refl w) _) hU1)
  clear hk1 hU1 Hck
  go_wp2_with fail
  with_reducible refine Calls.mono (Hrt.out _ HU1.out) ?_
  rintro e w2 ⟨rfl, hU2⟩
  have HU2 := Lib.hid (Up.trans HU1.out hU2)
  clear hU2
  go_wp2
  go_ret2
  exact ⟨rfl, HU2.out⟩

set_option maxHeartbeats 2000000 in
theorem sgRoot_bad (seed : List Int) (lv : Value) (ls : List (List Int)) (next : Int) (w : World) (hs : Strs w lv ls) (hl : ls.length ≤ 8796093022208) (h8x : ∀ k : Nat, (ls[k]?.getD []).length ≤ 9223372036854775807) (hsl : seed.length ≤ 9223372036854775807) (hn : -9223372036854775808 ≤ next ∧ next ≤ 9223372036854775807) (hk : ¬ KeyOk seed ls next) :
    Calls Tryd.prog 8 #[keyV seed lv next] w fun e w' => e = .returned (.tuple #[.string ⟨#[]⟩, .int .i64 9]) ∧ Up w w' := by
  have Hck : Hid (∀ wx, Up w wx → Calls Tryd.prog 19 #[keyV seed lv next] wx fun e w' => e = .returned (.int .i64 9) ∧ Up wx w') := fun wx hx => check_bad seed lv ls next wx (hs.up hx) hl h8x hsl hn hk
  obtain ⟨a, cap, rfl, _, _, _⟩ := hs
  clear hk hl h8x hsl hn
  unfold keyV at Hck ⊢
  go_enter Tryd.func8, Tryd.ntmps8
  go_wp2_with fail
  with_reducible refine Calls.mono (Hck.out _ (Up.alloc (Up.refl w) _)) ?_
  rintro e w1 ⟨rfl, hU1⟩
  have HU1 := Lib.hid (Up.trans (Up.alloc (Up.refl w) _) hU1)
  clear hU1
  go_wp2
  go_ret2
  exact ⟨rfl, HU1.out⟩

set_option maxHeartbeats 2000000 in
theorem sgSign_full (seed : List Int) (lv : Value) (ls : List (List Int)) (v : Value) (text : List Int) (w : World) (hs : Strs w lv ls) (hk : KeyOk seed ls ls.length) (hv : Ints .u8 w v text) :
    Calls Tryd.prog 17 #[keyV seed lv ls.length, v] w fun e w' => e = .returned (.tuple #[.string ⟨#[]⟩, .agg noKey, .int .i64 17]) ∧ Up w w' := by
  have hl16 : ls.length ≤ 16 := by have := hk.pow; omega
  have Hck : Hid (∀ wx, Up w wx → Calls Tryd.prog 19 #[keyV seed lv ls.length] wx fun e w' => e = .returned (.int .i64 0) ∧ Up wx w') := fun wx hx => check_ok seed lv ls ls.length wx (hs.up hx) hk
  obtain ⟨a, cap, rfl, _, _, _⟩ := hs
  obtain ⟨ta, tc, rfl, _, _, _⟩ := hv
  clear hk
  unfold keyV at Hck ⊢
  go_enter Tryd.func17, Tryd.ntmps17
  go_wp2_with fail
  with_reducible refine Calls.mono (Hck.out _ (Up.alloc (Up.alloc (Up.refl w) _) _)) ?_
  rintro e w1 ⟨rfl, hU1⟩
  have hk1 := (hU1.block w.heap.size (lt_alloc2 w _ _)).trans (heap_alloc2_old w _ _)
  have hr1 := (hU1.block (w.heap.size + 1) (lt_alloc2' w _ _)).trans (heap_alloc2_new w _ _)
  have HU1 := Lib.hid (Up.trans (Up.alloc (Up.alloc (Up.refl w) _) _) hU1)
  have hc1 := cell_of_row _ _ 1 _ _ _ hk1
  have hc2 := cell_of_row _ _ 2 _ _ _ hk1
  simp only [List.getElem?_toArray, List.getElem?_cons_zero, List.getElem?_cons_succ] at hc1 hc2
  clear hk1 hU1 Hck
  go_wp2_with (refine wpList_store_agg rfl 27 (.tmp 5) (.tmp 24) rfl (w.heap.size + 1) _ noKey rfl rfl 27 hr1 info_key rfl (one_key [] _ 0 (by simp [Value.oneCell'])) ?_; intro w2 hg2 hgr2)
  exact bodyPost_ret (results_sign rfl _ _ _ _ _ _ rfl rfl rfl hg2 rfl) rfl ⟨rfl, up_at HU1.out hgr2 (Nat.le_succ _)⟩

set_option maxHeartbeats 2000000 in
theorem sgSign_bad (seed : List Int) (lv : Value) (ls : List (List Int)) (next : Int) (v : Value) (text : List Int) (w : World) (hs : Strs w lv ls) (hl : ls.length ≤ 8796093022208) (h8x : ∀ k : Nat, (ls[k]?.getD []).length ≤ 9223372036854775807) (hsl : seed.length ≤ 9223372036854775807) (hn : -9223372036854775808 ≤ next ∧ next ≤ 9223372036854775807) (hk : ¬ KeyOk seed ls next) (hv : Ints .u8 w v text) :
    Calls Tryd.prog 17 #[keyV seed lv next, v] w fun e w' => e = .returned (.tuple #[.string ⟨#[]⟩, .agg noKey, .int .i64 9]) ∧ Up w w' := by
  have Hck : Hid (∀ wx, Up w wx → Calls Tryd.prog 19 #[keyV seed lv next] wx fun e w' => e = .returned (.int .i64 9) ∧ Up wx w') := fun wx hx => check_bad seed lv ls next wx (hs.up hx) hl h8x hsl hn hk
  obtain ⟨a, cap, rfl, _, _, _⟩ := hs
  obtain ⟨ta, tc, rfl, _, _, _⟩ := hv
  clear hk hl h8x hsl hn
  unfold keyV at Hck ⊢
  go_enter Tryd.func17, Tryd.ntmps17
  go_wp2_with fail
  with_reducible refine Calls.mono (Hck.out _ (Up.alloc (Up.alloc (Up.refl w) _) _)) ?_
  rintro e w1 ⟨rfl, hU1⟩
  have hr1 := (hU1.block (w.heap.size + 1) (lt_alloc2' w _ _)).trans (heap_alloc2_new w _ _)
  have HU1 := Lib.hid (Up.trans (Up.alloc (Up.alloc (Up.refl w) _) _) hU1)
  clear hU1 Hck
  go_wp2_with (refine wpList_store_agg rfl 27 (.tmp 5) (.tmp 16) rfl (w.heap.size + 1) _ noKey rfl rfl 27 hr1 info_key rfl (one_key [] _ 0 (by simp [Value.oneCell'])) ?_; intro w2 hg2 hgr2)
  exact bodyPost_ret (results_sign rfl _ _ _ _ _ _ rfl rfl rfl hg2 rfl) rfl ⟨rfl, up_at HU1.out hgr2 (Nat.le_succ _)⟩
end
end Go.Proofs.YtgmicppfiapilaaDoor
