import Derived.Test.YtnipkhgaceicbaaTrKit
import Derived.Test.YtnipkhgaceicbaaBkArg
/-
  tree: New, isThere, copied, Put.
-/
namespace Go.Proofs.Ytnipkhgaceicbaa
set_option maxRecDepth 100000
section
set_option linter.unusedVariables false
open Go.RowKit Go.Sort Go.Lib

/-- the first block's name -/
def gName : ByteArray := strOfNums gen32
theorem gName_size : gName.size = 32 := by unfold gName; rw [strOfNums_size]; rfl
/-- is one of that name there? -/
def thereT (T : ByteArray → Option Tb) (s : ByteArray) : Bool := (T s).isSome || decide (s = gName)
set_option maxHeartbeats 400000 in
theorem isThere_any {w : World} {g mb n : Nat} {T : ByteArray → Option Tb} (h : TreeAt w g mb n T) (s : ByteArray) (hs : s.size ≤ maxLen) :
    Calls Try.prog 28 #[.pointer (some ⟨g, 0, none⟩), .string s] w fun e w' => e = .returned (.bool (thereT T s)) ∧ Up w w' := by
  have H := Lib.hid (kept_any g _ w h.root)
  have Hm := Lib.hid h.map
  have Hgen : Hid (∀ wx, Calls Try.prog 43 #[] wx fun e w' => e = .returned (.string gName) ∧ Up wx w') := Lib.hid fun wx => genesis_any wx
  have hd : (s.toList == gName.toList) = decide (s = gName) := toList_dec
  have HU1 := Lib.hid (Up.alloc (Up.refl w) (.cells (tbA (atT T s)) 41))
  obtain ⟨RES, hres⟩ : ∃ R, thereT T s = R := ⟨_, rfl⟩
  unfold thereT at hres
  rw [show thereT T s = RES from hres]
  generalize gName = G at Hgen hd hres
  generalize decide (s = G) = D at hd hres
  cases hO : (T s).isSome with
  | true =>
    rw [hO] at hres
    have hres : RES = true := by rw [← hres]; rfl
    subst hres
    have HO := Lib.hid hO
    clear hO
    go_enter Try.func28, Try.ntmps28
    go_wp2_with fail
    with_reducible refine Calls.mono H.out ?_
    rintro e w1 ⟨rfl, rfl⟩
    go_wp2_with (first | (at_lookup; refine wpList_treeAt rfl _ _ rfl Hm.out hs rfl rfl ?_; rw [HO.out]) | (refine wpList_exs rfl _ (ex_fillTb (x := .tmp 5) (y := .tmp 12) (W := w1) rfl rfl rfl rfl) ?_))
    go_ret
    exact ⟨rfl, HU1.out⟩
  | false =>
    rw [hO] at hres
    have hres : RES = D := by rw [← hres]; rfl
    subst hres
    have HO := Lib.hid hO
    clear hO
    go_enter Try.func28, Try.ntmps28
    go_wp2_with fail
    with_reducible refine Calls.mono H.out ?_
    rintro e w1 ⟨rfl, rfl⟩
    go_wp2_with (first | (at_lookup; refine wpList_treeAt rfl _ _ rfl Hm.out hs rfl rfl ?_; rw [HO.out]) | (refine wpList_exs rfl _ (ex_fillTb (x := .tmp 5) (y := .tmp 12) (W := w1) rfl rfl rfl rfl) ?_))
    with_reducible refine Calls.mono (Hgen.out _) ?_
    rintro e w2 ⟨rfl, hU2⟩
    have HU2 := Lib.hid (Up.trans HU1.out hU2)
    clear hU2
    go_wp2
    go_ret
    exact ⟨by first | rfl | simp [hd], HU2.out⟩
/-- no block at all -/
def noT : ByteArray → Option Tb := fun _ => none
theorem treeNew_any (w : World) : Calls Try.prog 16 #[] w fun e w' => ∃ g mb, e = .returned (.pointer (some ⟨g, 0, none⟩)) ∧ TreeAt w' g mb 0 noT ∧ w.heap.size ≤ g ∧ w.heap.size ≤ mb ∧ Up w w' := by
  have hmm := @run_makeMap Try.prog
  have hu1 := Up.alloc (Up.refl w) (.map #[] 0)
  have hT := TextMap.new (P := Try.prog) (k := 9) w
  have hu2 := Up.alloc (Up.refl (w.alloc (.map #[] 0))) (.cells #[.map (some w.heap.size)] 62)
  have hb := heap_alloc_new (w.alloc (.map #[] 0)) (.cells #[.map (some w.heap.size)] 62)
  rw [show (w.alloc (.map #[] 0)).heap.size = w.heap.size + 1 by simp] at hb
  have HT : Hid (TreeAt ((w.alloc (.map #[] 0)).alloc (.cells #[.map (some w.heap.size)] 62)) (w.heap.size + 1) w.heap.size 0 noT) := Lib.hid ⟨hb, hT.up hu2, (fun s x h => by cases h), (fun s x h => by cases h)⟩
  have HU := Lib.hid (hu1.trans hu2)
  clear hu1 hu2 hb hT
  go_enter Try.func16, Try.ntmps16
  go_wp2
  go_ret
  exact ⟨_, _, rfl, HT.out, by simp, Nat.le_refl _, HU.out⟩
end
end Go.Proofs.Ytnipkhgaceicbaa
