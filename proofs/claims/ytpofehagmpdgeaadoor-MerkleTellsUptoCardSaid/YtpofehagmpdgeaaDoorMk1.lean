import Derived.Shelf.Abstract
import Derived.WalkKit
import Derived.OwnWalkIn
import Derived.TacticsInMore
import Derived.LoopNIn
import Derived.LoopIn
import Derived.Outline
import Derived.Shelf.RegionOpen
import Derived.Test.YtpofehagmpdgeaaDoorRowsB
import Derived.Test.YtpofehagmpdgeaaDoorOver
import Derived.Test.YtpofehagmpdgeaaDoorUps
/-
  both; above and its iterator.
-/
namespace Go.Proofs.YtpofehagmpdgeaaDoor
section
set_option linter.unusedVariables false
open Go.RowKit

set_option maxHeartbeats 1000000 in
theorem both_any (x y : List Int) (w : World) (hx : U8s x ∧ x.length ≤ 140737488351232) (hy : U8s y ∧ y.length ≤ 140737488351232) :
    Calls Tryd.prog 23 #[.string (strOfNums x), .string (strOfNums y)] w fun e w' => e = .returned (.string (strOfNums (bothB x y))) ∧ Up w w' := by
  obtain ⟨a1, c1, w1, hc1, hI1, hU1⟩ := conv_str x hx.1 w
  obtain ⟨a2, c2, w2, hc2, hI2, hU2⟩ := conv_str y hy.1 w1
  have hU := Up.trans hU1 hU2
  have Hs := Lib.hid (short_big (.slice (some ⟨w2.heap.size, 0, none⟩) 2 2) [x, y] (w2.alloc (.cells #[.slice a1 x.length c1, .slice a2 y.length c2] 47)) (Rows8.new2 w2 _ _ _ _ _ _ rfl (hI1.up hU2) hI2) (by simpa using hx.1.append hy.1) (by simp) (by simp; omega))
  have Hf : Hid ((sumB [x, y].flatten).take 8 = bothB x y) := by show _ = _; simp [bothB, shortB]
  rw [Hf.out] at Hs
  clear hI1 hI2 hU1 hU2 Hf
  generalize bothB x y = Z at Hs ⊢
  go_enter Tryd.func23, Tryd.ntmps23
  go_wp2_with fail
  with_reducible refine Calls.mono Hs.out ?_
  rintro e w3 ⟨rfl, hU3⟩
  have hU4 := Up.trans (Up.alloc hU _) hU3
  go_wp2
  go_ret
  exact ⟨rfl, hU4⟩

/-- above(l): l is boxed; the function value captures the box. -/
theorem above_any (v : Value) (w : World) (hv : v.oneCell' = true) :
    Calls Tryd.prog 21 #[v] w fun e w' => e = .returned (.func (.func 29) #[] #[.pointer (some ⟨w.heap.size, 0, none⟩)]) ∧ w.alloc (.cells #[v] 22) = w' := by
  go_enter Tryd.func21, Tryd.ntmps21
  go_wp2
  go_ret
  exact ⟨rfl, rfl⟩
end

section
set_option linter.unusedVariables false
open Go.RowKit Go.Shelf
attribute [local go_sem] Oper.semAt_some

/-- a round's two ways, by what yield hands back -/
def TwoWays (T F : World → Prop) (e : Ending) (W : World) : Prop := ∃ b : Bool, e = .returned (.bool b) ∧ (b = true → T W) ∧ (b = false → F W)
theorem TwoWays.of {T F : World → Prop} {e : Ending} {W : World} (h : (e = .returned (.bool true) ∧ T W) ∨ (e = .returned (.bool false) ∧ F W)) : TwoWays T F e W := by
  rcases h with ⟨rfl, h⟩ | ⟨rfl, h⟩
  · exact ⟨true, rfl, fun _ => h, fun h => (by cases h)⟩
  · exact ⟨false, rfl, fun h => (by cases h), fun _ => h⟩
theorem YieldAt.mono {F : Fence} {m : Nat} {P : Program} {l : Nat} {args : Array Value} {W : World} {R R' : Ending → World → Prop} (h : YieldAt F m P l args W R) (hR : ∀ e W', R e W' → R' e W') : YieldAt F m P l args W R' := by
  obtain ⟨fn, tmps, assign, body, h1, h2⟩ := h
  exact ⟨fn, tmps, assign, body, h1, h2.mono hR⟩

def boxAnd (Bl : Nat) (v : Value) (ls : List (List Int)) (W : World) : Prop := Boxed W Bl 22 v ∧ Strs W v ls
theorem boxAnd.up {Bl : Nat} {v : Value} {ls : List (List Int)} {W W' : World} (h : boxAnd Bl v ls W) (hu : Up W W') : boxAnd Bl v ls W' := ⟨(hu.block _ h.1.lt).trans h.1, h.2.up hu⟩

set_option maxRecDepth 100000 in
set_option maxHeartbeats 2000000 in
theorem above_gives (v : Value) (ls : List (List Int)) (Bl : Nat) (w : World) (hw : boxAnd Bl v ls w) (hf : Fits ls) (hl : ls.length ≤ maxLen) :
    Gives Tryd.prog 29 #[.pointer (some ⟨Bl, 0, none⟩)] (fun x : List Int => .string (strOfNums x)) (fun pre x _ _ => x = cellB ls pre.length ∧ pre.length < (ls.length + 1) / 2) (fun _ W => boxAnd Bl v ls W) (fun xs => xs = upB ls) w := by
  intro l J Jx W hWw hY0 hJ0
  have hY : ∀ k W0 W1, J (upTo (cellB ls) k) W0 → Up W0 W1 → k < (ls.length + 1) / 2 → YieldAt Fence.wide 1 Tryd.prog l #[.string (strOfNums (cellB ls k))] W1 (TwoWays (fun W' => J (upTo (cellB ls) (k + 1)) W' ∧ boxAnd Bl v ls W') (fun W' => Jx (upTo (cellB ls) (k + 1)) W')) := by
    intro k W0 W1 hj hu hk
    refine YieldAt.mono (hY0 (upTo (cellB ls) k) (cellB ls k) W0 W1 hj hu ⟨by rw [upTo_length], by rw [upTo_length]; exact hk⟩) fun e W' h => TwoWays.of ?_
    rw [upTo_succ]; exact h
  have HY := Lib.hid hY
  have HW := Lib.hid (hw.up hWw)
  have HF := Lib.hid hf
  have HJ := Lib.hid hJ0
  have hlen : (ls.length : Int) ≤ 9223372036854775807 := by unfold maxLen at hl; omega
  have hv := (hw.up hWw).2
  obtain ⟨a, cap, rfl, hcap, _, hcell⟩ := id hv
  clear hY0 hY hWw hw hf hJ0 hl hv hcell
  refine callsIn_of_wp Tryd.func29 rfl trivial ?_ rfl
  simp only [Tryd.ntmps29, List.size_toArray, List.length_cons, List.length_nil, Nat.reduceAdd, Nat.reduceSub, Array.replicate_succ, Array.replicate_zero, List.push_toArray, List.append_toArray, List.nil_append, List.cons_append]
  have c0 := HW.out.1.cell
  gi_wp2
  obtain ⟨N, hN⟩ : ∃ N : Nat, ls.length / 2 = N := ⟨_, rfl⟩
  have hdiv : (ls.length : Int) / 2 = (N : Int) := by omega
  generalize hq : (ls.length : Int) / 2 = q
  obtain rfl : q = (N : Int) := hq.symm.trans hdiv
  have HN := Lib.hid hN
  clear hq hdiv hN c0
  gi_loopw [7] (fun i wr => ∃ k : Nat, k ≤ N ∧ i = .int .i64 k ∧ ∃ W0, J (upTo (cellB ls) k) W0 ∧ Up W0 wr ∧ boxAnd Bl (.slice a ls.length cap) ls wr)
    (fun i _ => N - (intOf i).toNat)
  case atStart => exact ⟨0, Nat.zero_le _, rfl, W, HJ.out, Up.refl W, HW.out⟩
  case round =>
    obtain ⟨k, hk, rfl, W0, hJ, hU, hB⟩ := hrel
    have HB := Lib.hid hB
    have HU := Lib.hid hU
    have HJk := Lib.hid hJ
    clear hJ hU hB
    have c0 := HB.out.1.cell
    by_cases hlt : k < N
    · have hkl : 2 * k + 1 < ls.length := by have := HN.out; omega
      obtain ⟨_, _, he, _, _, hcell⟩ := HB.out.2
      simp only [Value.slice.injEq] at he
      obtain ⟨rfl, _, rfl⟩ := he
      rcases hcell with hc | ⟨b, off, rfl, hc⟩
      · rw [hc] at hkl; simp at hkl
      have q1 : IntKind.i64.wrap (2 * (k : Int)) = 2 * (k : Int) := IntWalk.i64_in _ (by omega)
      have hc1 := hc (2 * k) (by omega)
      have hc2 := hc (2 * k + 1) (by omega)
      have hX := HF.out (2 * k)
      have hY := HF.out (2 * k + 1)
      have hcell : cellB ls k = bothB (ls[2 * k]?.getD []) (ls[2 * k + 1]?.getD []) := by unfold cellB; rw [if_pos (by omega)]
      have Hcell := Lib.hid hcell
      generalize ls[2 * k]?.getD [] = X at hc1 hX Hcell
      generalize ls[2 * k + 1]?.getD [] = Y at hc2 hY Hcell
      have HX := Lib.hid hX
      have HYy := Lib.hid hY
      clear hc hcell hX hY
      have hmx : Tryd.prog.follows .mixedOrders = true := by kernel_rfl
      have hkN : k < (ls.length + 1) / 2 := by have := HN.out; omega
      have HkN := Lib.hid hkN
      clear hkN
      gi_wp2
      have hi1 : 2 * (k : Int) < ls.length := by omega
      have hi2 : 2 * (k : Int) + 1 < ls.length := by omega
      have hi3 : (0 : Int) ≤ 2 * (k : Int) := by omega
      have hi4 : (0 : Int) ≤ 2 * (k : Int) + 1 := by omega
      have q2 : IntKind.i64.wrap (2 * (k : Int) + 1) = 2 * (k : Int) + 1 := IntWalk.i64_in _ (by omega)
      have t1 : (2 * (k : Int)).toNat = 2 * k := by omega
      have t2 : (2 * (k : Int) + 1).toNat = 2 * k + 1 := by omega
      gi_region_with_o (first
        | (refine ⟨trivial, ?_⟩; gi_at_call 23; refine CallsIn.mono (callsIn_wide.2 (both_any X Y _ HX.out HYy.out)) ?_; rintro e w2 ⟨rfl, hU2⟩; have hy := HY.out k W0 w2 HJk.out (Up.trans (Up.drew HU.out) hU2) HkN.out; rw [Hcell.out] at hy; obtain ⟨fnY, tmY, asY, bdY, hyr, hR⟩ := hy)
        | (refine RoundIn.mono hR ?_; intro e w3 hTW; obtain ⟨bb, rfl, hT, hF⟩ := hTW))
      all_goals
        clear q1 q2 t1 t2 hi1 hi2 hi3 hi4 hc1 hc2
        cases bb
        · have hx := hF rfl
          clear hT hF
          gi_wp2
          refine bodyPost_ret (results_none rfl _ _ _) rfl ?_
          exact ⟨⟨_, rfl⟩, .inr ⟨_, _, hx, Up.refl _⟩⟩
        · have hx := hT rfl
          clear hT hF
          gi_wp2
          go_roundw
          case rel => exact ⟨k + 1, by omega, by go_num, w3, hx.1, Up.refl _, hx.2⟩
          case measure => simp [intOf]; omega
    · obtain rfl : k = N := by omega
      have hlk := HN.out
      by_cases hodd : ls.length % 2 = 1
      · have hkl : k + k < ls.length := by omega
        obtain ⟨_, _, he, _, _, hcell⟩ := HB.out.2
        simp only [Value.slice.injEq] at he
        obtain ⟨rfl, _, rfl⟩ := he
        rcases hcell with hc | ⟨b, off, rfl, hc⟩
        · rw [hc] at hkl; simp at hkl
        have hc1 := hc (ls.length - 1) (by omega)
        have hcell : cellB ls k = ls[ls.length - 1]?.getD [] := by unfold cellB; rw [if_neg (by omega), show 2 * k = ls.length - 1 from by omega]
        have hy := HY.out k W0 wr HJk.out HU.out (by omega)
        rw [hcell] at hy
        have Hup : Hid (upTo (cellB ls) (k + 1) = upB ls) := by show _ = _; unfold upB; rw [show (ls.length + 1) / 2 = k + 1 from by omega]
        rw [Hup.out] at hy
        generalize ls[ls.length - 1]?.getD [] = X at hc1 hy
        obtain ⟨fnY, tmY, asY, bdY, hyr, hR⟩ := hy
        have i1 : (ls.length : Int) % 2 = 1 := by omega
        have i2 : (0 : Int) ≤ (ls.length : Int) - 1 := by omega
        have i3 : ((ls.length : Int) - 1).toNat = ls.length - 1 := by omega
        clear hc hlk hkl hodd hcell
        gi_wp2
        refine RoundIn.mono hR ?_
        intro e w3 hTW
        obtain ⟨bb, rfl, hT, hF⟩ := hTW
        gi_wp2
        go_end0
        cases bb
        · exact ⟨⟨_, rfl⟩, .inr ⟨_, _, hF rfl, Up.refl _⟩⟩
        · exact ⟨⟨_, rfl⟩, .inl ⟨_, _, rfl, (hT rfl).1, Up.refl _⟩⟩
      · have Hup : Hid (upTo (cellB ls) k = upB ls) := by show _ = _; unfold upB; rw [show (ls.length + 1) / 2 = k from by omega]
        have hj := HJk.out
        rw [Hup.out] at hj
        have HJd := Lib.hid hj
        have i1 : ¬ (ls.length : Int) % 2 = 1 := by omega
        clear hj hlk hodd
        gi_wp2
        go_end0
        exact ⟨⟨_, rfl⟩, .inl ⟨_, _, rfl, HJd.out, HU.out⟩⟩
end
end Go.Proofs.YtpofehagmpdgeaaDoor
