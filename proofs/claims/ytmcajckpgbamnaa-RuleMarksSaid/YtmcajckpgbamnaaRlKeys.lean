import Derived.RangeFuncNested
import Derived.RangeFuncKeeps
import Derived.Sort.MapsRangeIn
import Derived.TacticsInMore
import Derived.LoopNIn
import Derived.LoopIn
import Derived.RegionIn
import Derived.OwnWalkIn
import Derived.Test.YtmcajckpgbamnaaRlMarkSet
import Derived.Test.YtmcajckpgbamnaaCtKit
import Derived.Test.YtmcajckpgbamnaaAlong
/-
  maps.Keys of a set of marks.
-/
namespace Go.Proofs.Ytmcajckpgbamnaa
set_option maxRecDepth 100000
section
set_option linter.unusedVariables false
open Go.RowKit Go.Maps Go.WideMaps

theorem AbidesFrom.up {β : Type} {B : Nat} {J : β → World → Prop} (h : AbidesFrom B J) {s : β} {X Y : World} (hs : J s X) (hu : Up X Y) : J s Y := h s X Y none hs (grown_up hu none) (fun r e => by cases e)
set_option maxHeartbeats 4000000 in
theorem rlKeys1_in (l Bm b nn : Nat) (L : List Mr) (J Jx : List Mr → World → Prop) (W : World) (hJ : AbidesFrom W.heap.size J) (hJx : AbidesFrom W.heap.size Jx)
    (hY : ∀ pre x W1, J pre W1 → pre.length < L.length → MrOk x → YieldAt Fence.wide 1 Try.prog l #[.agg (mrA x)] W1 fun e W' => (e = .returned (.bool true) ∧ J (pre ++ [x]) W' ∧ KeepsWalks W1 W') ∨ (e = .returned (.bool false) ∧ Jx (pre ++ [x]) W'))
    (hm : W.cell? ⟨Bm, 0, none⟩ = some (.map (some b))) (hs : MarkSet W b nn L) (h0 : J [] W) :
    CallsIn Fence.wide 2 Try.prog 21 #[.func (.yield l) #[] #[], .pointer (some ⟨Bm, 0, none⟩)] W fun e W' => (∃ v, e = .returned v) ∧
      ((∃ ss : List Mr, (ss.Nodup ∧ (∀ x ∈ ss, MrOk x) ∧ ∀ x, MrOk x → (x ∈ ss ↔ x ∈ L)) ∧ J ss W') ∨ (∃ pre : List Mr, True ∧ Jx pre W')) := by
  obtain ⟨D0, hown, hism, hsz, hhas⟩ := hs
  have HY := Lib.hid hY
  have HH := Lib.hid hhas
  have HSz := Lib.hid hsz
  clear hY hhas hsz
  refine callsIn_of_wp Try.func21 rfl trivial ?_ rfl
  simp only [Try.ntmps21, List.size_toArray, List.length_cons, List.length_nil, Nat.reduceAdd, Nat.reduceSub, Array.replicate_succ, Array.replicate_zero, List.push_toArray, List.append_toArray, List.nil_append, List.cons_append]
  gi_wp2_with (gi_at_range; refine wpListIn_range_own _ rfl _ 37 rfl 26 39 msLaw Try.underlying37 _ b nn _ rfl hown ?_; intro w0 hrg0 hg0 hs0)
  go_frame
  gi_loopw [3] (fun _ wr => ∃ (left : Lit → Bool) (cnt : Nat) (ss : List Mr), wr.ranges Try.prog 26 unitElem b W.heap.size nn D0 left cnt ∧ Hid (ss.length + cnt ≤ Maps.size D0) ∧ Hid (CollM D0 left ss) ∧ J ss wr)
    (fun _ wr => wr.rangeLeft b W.heap.size)
  case atStart =>
    exact ⟨_, _, [], hrg0, Lib.hid (by simp), Lib.hid (CollM.start D0), hJ [] W w0 none h0 hg0 (fun r e => by cases e)⟩
  case round =>
    obtain ⟨left, cnt, ss, hrg, hcs, hC, hJs⟩ := hrel
    gi_wp2_with (gi_at_next; refine wpListIn_next_ranges _ rfl _ rfl 26 msLaw unitElem (fun x : Mr => .agg (mrA x)) (fun _ : Unit => .agg #[]) (fun key kl hk => by obtain ⟨x, hx, _⟩ := mrKey_inv hk; exact ⟨x, hx⟩) (fun v y hy => ⟨(), (unitElem_inv hy).1⟩) b W.heap.size nn _ _ _ rfl hrg ?_ ?_)
    · intro hc0 hl0
      gi_wp2
      go_end0
      refine ⟨⟨_, rfl⟩, .inl ⟨ss, ⟨hC.out.1, hC.out.2.1, fun x hx => ?_⟩, hJs⟩⟩
      rw [hC.out.2.2 x hx, HH.out x hx, hl0]; simp
    · intro x c kl y w2 cnt2 hkey hlk hv hat hrg2 hlt hg2 hs2 hen
      obtain ⟨x', ex, hx'⟩ := mrKey_inv hkey
      obtain rfl : x = x' := by
        obtain ⟨x0, x1, x2⟩ := x
        obtain ⟨y0, y1, y2⟩ := x'
        simp only [mrA, Value.agg.injEq, Array.mk.injEq, List.cons.injEq, Value.int.injEq, Value.string.injEq, true_and, and_true] at ex
        obtain ⟨rfl, rfl, rfl⟩ := ex
        rfl
      rw [mrKey hx'] at hkey
      obtain rfl := Option.some.inj hkey
      have hJ2 : J ss w2 := hJ ss wr w2 (some W.heap.size) hJs hg2 (fun r e => by cases e; exact ⟨Nat.le_refl _, hrg.iter_walk⟩)
      have hJ3 : J ss (w2.alloc (.cells (mrA x) 26)) := AbidesFrom.up hJ hJ2 (Up.alloc (Up.refl _) _)
      have hlen : ss.length < L.length := by have := hcs.out; have := HSz.out; omega
      have hyy : YieldAt Fence.wide 1 Try.prog l #[.agg (mrA x)] (w2.alloc (.cells (mrA x) 26)) (TwoWays (fun W' => J (ss ++ [x]) W' ∧ KeepsWalks (w2.alloc (.cells (mrA x) 26)) W') (fun W' => Jx (ss ++ [x]) W')) :=
        YieldAt.mono (HY.out ss x _ hJ3 hlen hx') (fun e W' h => TwoWays.of h)
      have hrg3 := Lib.hid (hrg2.alloc (.cells (mrA x) 26))
      have hC2 := Lib.hid (hC.out.step hx' hlk hat)
      have hLE := Lib.hid hrg.left_eq
      have hLT := Lib.hid hlt
      have hCS := Lib.hid (And.intro hcs.out HSz.out)
      obtain ⟨V, Hh, B⟩ := x
      simp only [mrA] at hyy hrg3 hen ⊢
      obtain ⟨fn, tmps, assign, body, hy, hR⟩ := hyy
      clear hs2 hkey hJs hJ2 hJ3 hrg hrg2 hg2 hlk hat hlen hlt hC hcs
      gi_wp2
      refine RoundIn.mono hR ?_
      intro e w4 hTW
      obtain ⟨bb, rfl, hT, hF⟩ := hTW
      cases bb with
      | true =>
        obtain ⟨hJ4, hk4⟩ := hT rfl
        have hrg4 := hrg3.out.of_walks hk4
        clear hT hF hy hR
        gi_wp2
        go_roundw
        case rel => exact ⟨_, cnt2, ss ++ [⟨V, Hh, B⟩], hrg4, Lib.hid (by have := hCS.out; have := hLT.out; simp; omega), hC2, hJ4⟩
        case measure => rw [hrg4.left_eq, hLE.out]; exact hLT.out
      | false =>
        have hJ4 := hF rfl
        clear hT hF hy hR
        gi_wp2
        refine bodyPost_ret (results_none rfl _ _ _) rfl ?_
        exact ⟨⟨_, rfl⟩, .inr ⟨_, trivial, hJ4⟩⟩
end
end Go.Proofs.Ytmcajckpgbamnaa
