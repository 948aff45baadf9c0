import Derived.Deep.QuietTactic
import Derived.BigQuiet
import Derived.Test.YtmohlfeobdfhdaaAcKit
import Derived.Test.YtmohlfeobdfhdaaPoKit
import Derived.Test.YtmohlfeobdfhdaaPoConcat
import Derived.Test.YtmohlfeobdfhdaaPoIdx
/-
  mempool.Drop.
-/
namespace Go.Proofs.Ytmohlfeobdfhdaa
set_option maxRecDepth 100000
section
set_option linter.unusedVariables false
open Go.RowKit Go.Sort Go.Lib

theorem targ_sx {w0 W : World} {blk off : Nat} {dk d0 : Array Ts} (h : SX w0 blk off dk W) (R : RowK tsC 5 w0 blk off d0) (hs : dk.size = d0.size) {k cap : Nat} (hk : k ≤ dk.size) (hc : k ≤ cap) : TArg W (.slice (some ⟨blk, off, none⟩) k cap) (dk.toList.take k) := by
  have hl : (dk.toList.take k).length = k := by rw [List.length_take]; simp; omega
  refine ⟨_, cap, by rw [hl], by rw [hl]; exact hc, (fun e => by cases e), .inr ⟨blk, off, rfl, fun i x hx j hj => ?_⟩⟩
  have hi : i < k := by have := (List.getElem?_eq_some_iff.1 hx).1; omega
  have hH := (h.holds R.hblk R.hH hs) (i * 5 + j) (by rw [size_flatK]; omega)
  have hg := get_flatK tsC 5 dk (i * 5 + j) (by omega)
  rw [show (i * 5 + j) / 5 = i by omega, show (i * 5 + j) % 5 = j by omega] at hg
  have hd : dk[i]! = x := by
    rw [List.getElem?_take_of_lt hi, Array.getElem?_toList] at hx
    simp [Array.getElem!_eq_getD, Array.getD_eq_getD_getElem?, hx]
  rw [hH.1, hg, hd]; rfl
/-- can it not be done any more? -/
def goneP (ac : List Ac) (x : Ts) : Bool := decide (x.1.F < 0) || decide ((ac.length : Int) ≤ x.1.F) || decide (x.1.N < (ac[x.1.F.toNat]?.getD (0, 0)).2)
theorem Gr.drewN (w : World) (q : Nat) : Gr w (w.drewN q) := ⟨q, #[], by rw [grow_empty]⟩

set_option maxHeartbeats 1000000 in
theorem gone_any (g : Nat) (a : Option Addr) (cap : Nat) (ac : List Ac) (x : Ts) (w : World) (hg : w.heap[g]? = some (.cells #[.slice a ac.length cap] 24 (0, 0))) (ha : AArg w (.slice a ac.length cap) ac) :
    Calls Try.prog 17 (#[.agg (tsA x)] ++ #[.pointer (some ⟨g, 0, none⟩)]) w fun e w' => e = .returned (.bool (goneP ac x)) ∧ Gr w w' := by
  obtain ⟨⟨f, t, m, n⟩, sg⟩ := x
  show Calls Try.prog 17 #[.agg #[.int .i64 f, .int .i64 t, .int .i64 m, .int .i64 n, .string sg], .pointer (some ⟨g, 0, none⟩)] w fun e w' => e = .returned (.bool (goneP ac (⟨f, t, m, n⟩, sg))) ∧ Gr w w'
  have h0 := heap_alloc_new w (.cells #[.int .i64 f, .int .i64 t, .int .i64 m, .int .i64 n, .string sg] 29)
  have c0 := tx_cell h0 0 rfl
  have c3 := tx_cell h0 3 rfl
  have hu := Up.alloc (Up.refl w) (.cells #[.int .i64 f, .int .i64 t, .int .i64 m, .int .i64 n, .string sg] 29)
  have cg := later_cell (tx_cell hg 0 (v := .slice a ac.length cap) rfl) hu
  have HG : Hid (∀ q, Gr w ((w.alloc (.cells #[.int .i64 f, .int .i64 t, .int .i64 m, .int .i64 n, .string sg] 29)).drewN q)) := Lib.hid fun q => (Gr.alloc _ _).trans (Gr.drewN _ q)
  have HA := Lib.hid (ha.up hu)
  obtain ⟨k, hk⟩ : ∃ k, ac.length = k := ⟨_, rfl⟩
  have HK := Lib.hid hk
  rw [hk] at cg HA
  clear h0 hu hk hg ha
  by_cases h1 : f < 0
  · have HP : Hid (goneP ac (⟨f, t, m, n⟩, sg) = true) := Lib.hid (by simp [goneP, h1])
    rw [HP.out]
    have d1 : decide (f < 0) = true := decide_eq_true h1
    go_enter Try.func17, Try.ntmps17
    go_wp2
    go_quiet (fail)
    go_wp2
    go_ret
    exact ⟨rfl, HG.out _⟩
  have d1 : decide (f < 0) = false := decide_eq_false h1
  by_cases h2 : (k : Int) ≤ f
  · have HP : Hid (goneP ac (⟨f, t, m, n⟩, sg) = true) := Lib.hid (by simp [goneP, HK.out, h2])
    rw [HP.out]
    have d2 : decide ((k : Int) ≤ f) = true := decide_eq_true h2
    go_enter Try.func17, Try.ntmps17
    go_wp2
    go_quiet (fail)
    go_wp2
    go_ret
    exact ⟨rfl, HG.out _⟩
  obtain ⟨j, rfl⟩ : ∃ j : Nat, f = (j : Int) := ⟨f.toNat, by omega⟩
  have d2 : decide ((k : Int) ≤ (j : Int)) = false := decide_eq_false h2
  have hjk : j < k := by omega
  obtain ⟨y, hy⟩ : ∃ y, ac[j]? = some y := ⟨_, List.getElem?_eq_getElem (by rw [HK.out]; exact hjk)⟩
  have HP : Hid (goneP ac (⟨(j : Int), t, m, n⟩, sg) = decide (n < y.2)) := Lib.hid (by simp [goneP, HK.out, h2, h1, hy])
  rw [HP.out]
  obtain ⟨b, off, rfl⟩ := HA.out.ptr (by have := HK.out; omega)
  have hj2 : (j : Int) < (k : Int) := by omega
  have cy := (HA.out.cells hy).2
  rw [show off + (j * 2 + 1) = off + j * 2 + 1 by omega] at cy
  generalize y.2 = yn at cy ⊢
  clear hy HP
  go_enter Try.func17, Try.ntmps17
  go_wp2
  go_quiet (fail)
  go_wp2
  go_ret
  refine ⟨?_, HG.out _⟩
  simp
  omega
theorem delFuncT_nil (a : Option Addr) (cap : Nat) (fv : Value) (w : World) :
    Calls Try.prog 18 #[.slice a 0 cap, fv] w fun e w' => e = .returned (.slice a 0 cap) ∧ w' = w := by
  have Hi := Lib.hid (tsIndex_zero a cap fv w)
  go_enter Try.func18, Try.ntmps18
  go_wp2_with fail
  with_reducible refine Calls.mono Hi.out ?_
  rintro e w1 ⟨rfl, rfl⟩
  clear Hi
  go_wp2
  go_ret
  exact ⟨rfl, rfl⟩

set_option maxHeartbeats 1000000 in
theorem drop_any (v : Value) (xs : List Ts) (va : Value) (ac : List Ac) (w : World) (hx : TArg w v xs) (hn : xs.length * 48 ≤ 140737488355328) (ha : AArg w va ac) :
    Calls Try.prog 11 #[v, va] w fun e w' => ∃ a k cap, e = .returned (.slice a k cap) ∧ TArg w' (.slice a k cap) (xs.filter fun x => !goneP ac x) ∧ Up w w' := by
  obtain ⟨a, cap, rfl, _⟩ := id ha
  have hu := Up.alloc (Up.refl w) (.cells #[.slice a ac.length cap] 24)
  have hb := heap_alloc_new w (.cells #[.slice a ac.length cap] 24)
  have Hc := Lib.hid (cloneT_any v xs _ (hx.up hu) hn)
  have HG : Hid (∀ W x, Up (w.alloc (.cells #[.slice a ac.length cap] 24)) W → Calls Try.prog 17 (#[.agg (tsA x)] ++ #[.pointer (some ⟨w.heap.size, 0, none⟩)]) W fun e w' => e = .returned (.bool (goneP ac x)) ∧ Gr W w') :=
    Lib.hid fun W x hU => gone_any w.heap.size a cap ac x W ((hU.block _ (lt_of_block hb)).trans hb) ((ha.up hu).up hU)
  have HU := Lib.hid hu
  clear hu hb hx ha
  go_enter Try.func11, Try.ntmps11
  go_wp2_with fail
  with_reducible refine Calls.mono Hc.out ?_
  rintro e w1 ⟨r, rfl, hr, hU1⟩
  generalize w.alloc (.cells #[.slice a ac.length cap] 24) = wb at *
  by_cases hv : r = .slice none 0 0
  · subst hv
    have h0 : xs = [] := by
      rcases hr.2 with ⟨_, h⟩ | ⟨g, c, cur, e, _⟩
      · exact List.eq_nil_of_length_eq_zero h
      · cases e
    have Hd := Lib.hid (delFuncT_nil none 0 (.func (.func 17) #[] #[.pointer (some ⟨w.heap.size, 0, none⟩)]) w1)
    have HU1 := Lib.hid (Up.trans HU.out hU1)
    clear hr hU1 Hc HG HU
    go_wp2_with fail
    with_reducible refine Calls.mono Hd.out ?_
    rintro e w2 ⟨rfl, rfl⟩
    go_wp2
    go_ret
    subst h0
    exact ⟨_, _, _, rfl, ⟨none, 0, rfl, Nat.le_refl _, fun _ => rfl, .inl rfl⟩, HU1.out⟩
  · obtain ⟨g, c, rfl, hg1, hg2, hc1, hc2, R⟩ := row_of_ownsT hr hv
    obtain ⟨n, hnl⟩ : ∃ n, xs.length = n := ⟨_, rfl⟩
    have hsz : xs.toArray.size = n := by simpa using hnl
    rw [hnl] at hn hc1 ⊢
    have Hd := Lib.hid (delFunc_anyT R 17 #[.pointer (some ⟨w.heap.size, 0, none⟩)] (enters_of Try.func17 (by kernel_rfl) rfl) (goneP ac) n c hsz hc1 (by unfold maxLen at hc2; omega) (by omega)
      (fun dk W x _ hS => HG.out W x (sw_upT hU1 hS hg1)) w1 (SWK.start R.hH))
    have HR := Lib.hid R
    have HS : Hid (Up w w1 ∧ w.heap.size ≤ g ∧ n ≤ c ∧ xs.toArray.size = n) := Lib.hid ⟨Up.trans HU.out hU1, Nat.le_trans HU.out.size hg1, hc1, hsz⟩
    clear hr hv R hU1 Hc HG HU hc2 hg1 hg2 hsz
    go_wp2_with fail
    with_reducible refine Calls.mono Hd.out ?_
    rintro e w2 ⟨k, d', rfl, hk, hS, hd, hf⟩
    have HT : Hid (TArg w2 (.slice (some ⟨g, 0, none⟩) k c) (xs.filter fun x => !goneP ac x)) := Lib.hid (by
      have := targ_sx hS HR.out (by rw [hd, HS.out.2.2.2]) (k := k) (cap := c) (by omega) (by have := HS.out.2.2.1; omega)
      rw [hf] at this
      simpa using this)
    have HU2 := Lib.hid (sw_upT HS.out.1 hS HS.out.2.1)
    clear hS hf Hd HR
    go_wp2
    go_ret
    exact ⟨_, _, _, rfl, HT.out, HU2.out⟩
end
end Go.Proofs.Ytmohlfeobdfhdaa
