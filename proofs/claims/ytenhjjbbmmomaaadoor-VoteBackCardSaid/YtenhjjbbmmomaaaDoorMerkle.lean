import Derived.Shelf.Abstract
import Derived.WalkKit
import Derived.OwnWalkIn
import Derived.TacticsInMore
import Derived.LoopNIn
import Derived.LoopIn
import Derived.Outline
import Derived.Shelf.RegionOpen
import Derived.Test.YtenhjjbbmmomaaaDoorSha
import Derived.Test.YtenhjjbbmmomaaaDoorStrs
import Derived.Test.YtenhjjbbmmomaaaDoorAlong
import Derived.Test.YtenhjjbbmmomaaaDoorUps
import Derived.Test.YtenhjjbbmmomaaaDoorPow2
import Derived.Test.YtenhjjbbmmomaaaDoorMkPlain
namespace Go.Proofs.YtenhjjbbmmomaaaDoor
section
section
set_option linter.unusedVariables false
open Go.RowKit
/-- above(l): l is boxed; the function value captures the box. -/
theorem above_any (v : Value) (w : World) (hv : v.oneCell' = true) :
    Calls Tryd.prog 85 #[v] w fun e w' => e = .returned (.func (.func 93) #[] #[.pointer (some ⟨w.heap.size, 0, none⟩)]) ∧ w.alloc (.cells #[v] 25) = w' := by
  go_enter Tryd.func85, Tryd.ntmps85
  go_wp2
  go_ret
  exact ⟨rfl, rfl⟩
end

section
set_option linter.unusedVariables false
open Go.RowKit Go.Shelf
attribute [local go_sem] Oper.semAt_some

/-- a round's two ways, by what yield hands back -/
def TwoWays (T F : World → Prop) (e : Ending) (W : World) : Prop := ∃ b : Bool, e = .returned (.bool b) ∧ (b = true → T W) ∧ (b = false → F W)
theorem TwoWays.of {T F : World → Prop} {e : Ending} {W : World} (h : (e = .returned (.bool true) ∧ T W) ∨ (e = .returned (.bool false) ∧ F W)) : TwoWays T F e W := by
  rcases h with ⟨rfl, h⟩ | ⟨rfl, h⟩
  · exact ⟨true, rfl, fun _ => h, fun h => (by cases h)⟩
  · exact ⟨false, rfl, fun h => (by cases h), fun _ => h⟩
theorem YieldAt.mono {F : Fence} {m : Nat} {P : Program} {l : Nat} {args : Array Value} {W : World} {R R' : Ending → World → Prop} (h : YieldAt F m P l args W R) (hR : ∀ e W', R e W' → R' e W') : YieldAt F m P l args W R' := by
  obtain ⟨fn, tmps, assign, body, h1, h2⟩ := h
  exact ⟨fn, tmps, assign, body, h1, h2.mono hR⟩

def boxAnd (Bl : Nat) (v : Value) (ls : List (List Int)) (W : World) : Prop := Boxed W Bl 25 v ∧ Strs W v ls
theorem boxAnd.up {Bl : Nat} {v : Value} {ls : List (List Int)} {W W' : World} (h : boxAnd Bl v ls W) (hu : Up W W') : boxAnd Bl v ls W' := ⟨(hu.block _ h.1.lt).trans h.1, h.2.up hu⟩

set_option maxRecDepth 100000 in
set_option maxHeartbeats 2000000 in
theorem above_gives (v : Value) (ls : List (List Int)) (Bl : Nat) (w : World) (hw : boxAnd Bl v ls w) (hf : Fits ls) (hl : ls.length ≤ maxLen) :
    Gives Tryd.prog 93 #[.pointer (some ⟨Bl, 0, none⟩)] (fun x : List Int => .string (strOfNums x)) (fun pre x _ _ => x = cellB ls pre.length ∧ pre.length < (ls.length + 1) / 2) (fun _ W => boxAnd Bl v ls W) (fun xs => xs = upB ls) w := by
  intro l J Jx W hWw hY0 hJ0
  have hY : ∀ k W0 W1, J (upTo (cellB ls) k) W0 → Up W0 W1 → k < (ls.length + 1) / 2 → YieldAt Fence.wide 1 Tryd.prog l #[.string (strOfNums (cellB ls k))] W1 (TwoWays (fun W' => J (upTo (cellB ls) (k + 1)) W' ∧ boxAnd Bl v ls W') (fun W' => Jx (upTo (cellB ls) (k + 1)) W')) := by
    intro k W0 W1 hj hu hk
    refine YieldAt.mono (hY0 (upTo (cellB ls) k) (cellB ls k) W0 W1 hj hu ⟨by rw [upTo_length], by rw [upTo_length]; exact hk⟩) fun e W' h => TwoWays.of ?_
    rw [upTo_succ]; exact h
  have HY := Lib.hid hY
  have HW := Lib.hid (hw.up hWw)
  have HF := Lib.hid hf
  have HJ := Lib.hid hJ0
  have hlen : (ls.length : Int) ≤ 9223372036854775807 := by unfold maxLen at hl; omega
  have hv := (hw.up hWw).2
  obtain ⟨a, cap, rfl, hcap, _, hcell⟩ := id hv
  clear hY0 hY hWw hw hf hJ0 hl hv hcell
  refine callsIn_of_wp Tryd.func93 rfl trivial ?_ rfl
  simp only [Tryd.ntmps93, List.size_toArray, List.length_cons, List.length_nil, Nat.reduceAdd, Nat.reduceSub, Array.replicate_succ, Array.replicate_zero, List.push_toArray, List.append_toArray, List.nil_append, List.cons_append]
  have c0 := HW.out.1.cell
  gi_wp2
  obtain ⟨N, hN⟩ : ∃ N : Nat, ls.length / 2 = N := ⟨_, rfl⟩
  have hdiv : (ls.length : Int) / 2 = (N : Int) := by omega
  generalize hq : (ls.length : Int) / 2 = q
  obtain rfl : q = (N : Int) := hq.symm.trans hdiv
  have HN := Lib.hid hN
  clear hq hdiv hN c0
  gi_loopw [7] (fun i wr => ∃ k : Nat, k ≤ N ∧ i = .int .i64 k ∧ ∃ W0, J (upTo (cellB ls) k) W0 ∧ Up W0 wr ∧ boxAnd Bl (.slice a ls.length cap) ls wr)
    (fun i _ => N - (intOf i).toNat)
  case atStart => exact ⟨0, Nat.zero_le _, rfl, W, HJ.out, Up.refl W, HW.out⟩
  case round =>
    obtain ⟨k, hk, rfl, W0, hJ, hU, hB⟩ := hrel
    have HB := Lib.hid hB
    have HU := Lib.hid hU
    have HJk := Lib.hid hJ
    clear hJ hU hB
    have c0 := HB.out.1.cell
    by_cases hlt : k < N
    · have hkl : 2 * k + 1 < ls.length := by have := HN.out; omega
      obtain ⟨_, _, he, _, _, hcell⟩ := HB.out.2
      simp only [Value.slice.injEq] at he
      obtain ⟨rfl, _, rfl⟩ := he
      rcases hcell with hc | ⟨b, off, rfl, hc⟩
      · rw [hc] at hkl; simp at hkl
      have q1 : IntKind.i64.wrap (2 * (k : Int)) = 2 * (k : Int) := IntWalk.i64_in _ (by omega)
      have hc1 := hc (2 * k) (by omega)
      have hc2 := hc (2 * k + 1) (by omega)
      have hX := HF.out (2 * k)
      have hY := HF.out (2 * k + 1)
      have hcell : cellB ls k = bothB (ls[2 * k]?.getD []) (ls[2 * k + 1]?.getD []) := by unfold cellB; rw [if_pos (by omega)]
      have Hcell := Lib.hid hcell
      generalize ls[2 * k]?.getD [] = X at hc1 hX Hcell
      generalize ls[2 * k + 1]?.getD [] = Y at hc2 hY Hcell
      have HX := Lib.hid hX
      have HYy := Lib.hid hY
      clear hc hcell hX hY
      have hmx : Tryd.prog.follows .mixedOrders = true := by kernel_rfl
      have hkN : k < (ls.length + 1) / 2 := by have := HN.out; omega
      have HkN := Lib.hid hkN
      clear hkN
      gi_wp2
      have hi1 : 2 * (k : Int) < ls.length := by omega
      have hi2 : 2 * (k : Int) + 1 < ls.length := by omega
      have hi3 : (0 : Int) ≤ 2 * (k : Int) := by omega
      have hi4 : (0 : Int) ≤ 2 * (k : Int) + 1 := by omega
      have q2 : IntKind.i64.wrap (2 * (k : Int) + 1) = 2 * (k : Int) + 1 := IntWalk.i64_in _ (by omega)
      have t1 : (2 * (k : Int)).toNat = 2 * k := by omega
      have t2 : (2 * (k : Int) + 1).toNat = 2 * k + 1 := by omega
      gi_region_with_o (first
        | (refine ⟨trivial, ?_⟩; gi_at_call 74; refine CallsIn.mono (callsIn_wide.2 (both_any X Y _ HX.out HYy.out)) ?_; rintro e w2 ⟨rfl, hU2⟩; have hy := HY.out k W0 w2 HJk.out (Up.trans (Up.drew HU.out) hU2) HkN.out; rw [Hcell.out] at hy; obtain ⟨fnY, tmY, asY, bdY, hyr, hR⟩ := hy)
        | (refine RoundIn.mono hR ?_; intro e w3 hTW; obtain ⟨bb, rfl, hT, hF⟩ := hTW))
      all_goals
        clear q1 q2 t1 t2 hi1 hi2 hi3 hi4 hc1 hc2
        cases bb
        · have hx := hF rfl
          clear hT hF
          gi_wp2
          refine bodyPost_ret (results_none rfl _ _ _) rfl ?_
          exact ⟨⟨_, rfl⟩, .inr ⟨_, _, hx, Up.refl _⟩⟩
        · have hx := hT rfl
          clear hT hF
          gi_wp2
          go_roundw
          case rel => exact ⟨k + 1, by omega, by go_num, w3, hx.1, Up.refl _, hx.2⟩
          case measure => simp [intOf]; omega
    · obtain rfl : k = N := by omega
      have hlk := HN.out
      by_cases hodd : ls.length % 2 = 1
      · have hkl : k + k < ls.length := by omega
        obtain ⟨_, _, he, _, _, hcell⟩ := HB.out.2
        simp only [Value.slice.injEq] at he
        obtain ⟨rfl, _, rfl⟩ := he
        rcases hcell with hc | ⟨b, off, rfl, hc⟩
        · rw [hc] at hkl; simp at hkl
        have hc1 := hc (ls.length - 1) (by omega)
        have hcell : cellB ls k = ls[ls.length - 1]?.getD [] := by unfold cellB; rw [if_neg (by omega), show 2 * k = ls.length - 1 from by omega]
        have hy := HY.out k W0 wr HJk.out HU.out (by omega)
        rw [hcell] at hy
        have Hup : Hid (upTo (cellB ls) (k + 1) = upB ls) := by show _ = _; unfold upB; rw [show (ls.length + 1) / 2 = k + 1 from by omega]
        rw [Hup.out] at hy
        generalize ls[ls.length - 1]?.getD [] = X at hc1 hy
        obtain ⟨fnY, tmY, asY, bdY, hyr, hR⟩ := hy
        have i1 : (ls.length : Int) % 2 = 1 := by omega
        have i2 : (0 : Int) ≤ (ls.length : Int) - 1 := by omega
        have i3 : ((ls.length : Int) - 1).toNat = ls.length - 1 := by omega
        clear hc hlk hkl hodd hcell
        gi_wp2
        refine RoundIn.mono hR ?_
        intro e w3 hTW
        obtain ⟨bb, rfl, hT, hF⟩ := hTW
        gi_wp2
        go_end0
        cases bb
        · exact ⟨⟨_, rfl⟩, .inr ⟨_, _, hF rfl, Up.refl _⟩⟩
        · exact ⟨⟨_, rfl⟩, .inl ⟨_, _, rfl, (hT rfl).1, Up.refl _⟩⟩
      · have Hup : Hid (upTo (cellB ls) k = upB ls) := by show _ = _; unfold upB; rw [show (ls.length + 1) / 2 = k from by omega]
        have hj := HJk.out
        rw [Hup.out] at hj
        have HJd := Lib.hid hj
        have i1 : ¬ (ls.length : Int) % 2 = 1 := by omega
        clear hj hlk hodd
        gi_wp2
        go_end0
        exact ⟨⟨_, rfl⟩, .inl ⟨_, _, rfl, HJd.out, HU.out⟩⟩
end
end

/-
  Up.
-/
section
section
set_option linter.unusedVariables false
open Go.RowKit Go.Shelf
attribute [local go_sem] Oper.semAt_some

theorem strs_own {β : Type} (v : Value) (ls : List (List Int)) : Own (fun (_ : β) W => Strs W v ls) := by
  rintro _ W W' row ⟨a, cap, rfl, h1, h2, h3⟩ hg hr
  refine ⟨a, cap, rfl, h1, h2, h3.imp id ?_⟩
  rintro ⟨b, off, rfl, hc⟩
  exact ⟨b, off, rfl, fun j hj => cell_kept (hc j hj) hg hr⟩
theorem boxAnd_own {β : Type} (Bl : Nat) (v : Value) (ls : List (List Int)) : Own (fun (_ : β) W => boxAnd Bl v ls W) := fun s W W' row h hg hr =>
  ⟨boxed_own Bl 25 (fun (_ : β) => v) s W W' row h.1 hg hr, strs_own v ls s W W' row h.2 hg hr⟩
theorem make_strsB (K : Int) (k : Nat) (hK : K = k) (hk : k ≤ 8796093022208) (u : World) : (Instr.makeSlice 25 (.int .i64 0) (.int .i64 K)).run Tryd.prog u =
      .ok (.slice (some ⟨u.heap.size, 0, none⟩) 0 k) (u.alloc (.cells (madeCells #[.string ⟨#[]⟩] k) 9)) := by
  subst hK
  obtain ⟨i0, hi, hz0, hz1, hz2⟩ := info_parts info_strg
  have h := run_make (P := Tryd.prog) u 25 9 i0 (.string ⟨#[]⟩) Tryd.underlying25 hi hz0 .i64 .i64 0 (k : Int) (by omega) (by omega) (by rw [hz2]; omega) (by omega)
  simpa [hz1, Value.cells] using h

/-- BETWEEN TWO ROUNDS OF A LOOP THAT COLLECTS TEXTS. -/
def CollT (n₀ B Bl : Nat) (lv : Value) (ls : List (List Int)) (w : World) (pre : List (List Int)) (W : World) : Prop :=
  (∃ v, Boxed W B 25 v ∧ W.ownsRow n₀ 9 1 v pre.length (strVs pre) ∧ True) ∧ Below n₀ w W ∧ boxAnd Bl lv ls W
theorem CollT.own {n₀ B Bl : Nat} {lv : Value} {ls : List (List Int)} {w : World} {D : Nat} (h1 : n₀ ≤ w.heap.size) (h2 : n₀ ≤ D) : OwnFrom D (CollT n₀ B Bl lv ls w) :=
  OwnFrom.and (Own.from (holdsRow_own n₀ B 25 9 1 (fun pre => pre.length) (fun pre => strVs pre) (fun _ _ => True)) _)
    (OwnFrom.and (ownFrom_below h1 h2) (Own.from (boxAnd_own Bl lv ls) _))
/-- one round's append: what the walk owes -/
theorem CollT.step {B Bl : Nat} {lv : Value} {ls : List (List Int)} {w : World} {pre : List (List Int)} {W w1 : World} {v v' : Value} {tmp : Obj} {x : List Int}
    (hv : Boxed W B 25 v) (hrow : W.ownsRow w.heap.size 9 1 v pre.length (strVs pre)) (hB : Below w.heap.size w W) (hle : w.heap.size ≤ B)
    (hl : boxAnd Bl lv ls W) (hs : Strs w lv ls) (hne : Bl ≠ B)
    (hown : w1.ownsRow w.heap.size 9 1 v' (pre.length + 1) (strVs pre ++ [.string (strOfNums x)])) (hgrow : (W.alloc tmp).grownBy w1 v.ownBlock) :
    Boxed w1 B 25 v ∧ KeepsOthers W (w1.setCell ⟨B, 0, none⟩ v') ∧ boxAnd Bl lv ls (w1.setCell ⟨B, 0, none⟩ v') ∧ CollT w.heap.size B Bl lv ls w (pre ++ [x]) (w1.setCell ⟨B, 0, none⟩ v') := by
  obtain ⟨hv1, hv2, hr2, hk2, hb2⟩ := hv.appended (by decide) hrow hB.size hle hown hgrow
  have hl1 : Boxed (w1.setCell ⟨B, 0, none⟩ v') Bl 25 lv := ((hl.1.alloc tmp).kept hgrow (hl.1.not_row (by decide) hrow)).other hne v'
  have hbA : boxAnd Bl lv ls (w1.setCell ⟨B, 0, none⟩ v') := ⟨hl1, hs.kept (hB.trans hb2)⟩
  refine ⟨hv1, hk2, hbA, ⟨v', hv2, ?_, trivial⟩, hB.trans hb2, hbA⟩
  rw [List.length_append, strVs_snoc]; exact hr2

set_option maxRecDepth 100000 in
set_option maxHeartbeats 2000000 in
theorem up_any (v : Value) (ls : List (List Int)) (w : World) (hs : Strs w v ls) (hf : Fits ls) (hl : ls.length ≤ 8796093022208) :
    Calls Tryd.prog 73 #[v] w fun e w' => ∃ r, e = .returned r ∧ w'.ownsRow w.heap.size 9 1 r (upB ls).length (strVs (upB ls)) ∧ Up w w' := by
  obtain ⟨i0, hi, hz0, hz1, hz2⟩ := info_parts info_strg
  refine (callsIn_wide (n := 3)).1 ?_
  obtain ⟨a, cap, rfl, hcap, _, _⟩ := id hs
  have HS := Lib.hid hs
  have HF := Lib.hid hf
  obtain ⟨M, hM⟩ : ∃ M : Nat, ls.length - ls.length / 2 = M := ⟨_, rfl⟩
  have hmk := make_strsB ((ls.length : Int) - (ls.length : Int) / 2) M (by omega) (by omega)
  have hM2 : M ≤ 8796093022208 := by omega
  have HM := Lib.hid hM
  clear hs hf hM
  refine callsIn_of_wp_marks Tryd.func73 rfl trivial ?_ rfl
  simp only [Tryd.ntmps73, List.size_toArray, List.length_cons, List.length_nil, Nat.reduceAdd, Nat.reduceSub, Array.replicate_succ, Array.replicate_zero, List.push_toArray, List.append_toArray, List.nil_append, List.cons_append]
  gi_wp2_with (refine ⟨trivial, ?_⟩; gi_at_call 85; refine CallsIn.mono (callsIn_wide.2 (above_any _ _ rfl)) ?_; rintro e w' ⟨rfl, rfl⟩)
  clear hmk
  have r0 := ((World.ownsRow_made (base := w.heap.size) (e := 9) (size := 1) w (madeCells #[.string ⟨#[]⟩] M) M (Nat.le_refl _) (by unfold maxLen; omega) (by first | (rw [size_madeCells]; done) | (rw [size_madeCells]; omega))).alloc (.cells #[.slice (some ⟨w.heap.size, 0, none⟩) 0 M] 25)).alloc (.cells #[.slice a ls.length cap] 25)
  have bO := Boxed.new (w.alloc (.cells (madeCells #[Value.string ⟨#[]⟩] M) 9)) 25 (.slice (some ⟨w.heap.size, 0, none⟩) 0 M)
  have bL := Boxed.new ((w.alloc (.cells (madeCells #[Value.string ⟨#[]⟩] M) 9)).alloc (.cells #[.slice (some ⟨w.heap.size, 0, none⟩) 0 M] 25)) 25 (.slice a ls.length cap)
  simp only [World.size_alloc] at bO bL
  have bO := bO.alloc (.cells #[.slice a ls.length cap] 25)
  have hU0 : Up w (((w.alloc (.cells (madeCells #[Value.string ⟨#[]⟩] M) 9)).alloc (.cells #[.slice (some ⟨w.heap.size, 0, none⟩) 0 M] 25)).alloc (.cells #[.slice a ls.length cap] 25)) :=
    Up.alloc (Up.alloc (Up.alloc (Up.refl w) _) _) _
  have hA0 : boxAnd (w.heap.size + 1 + 1) (.slice a ls.length cap) ls (((w.alloc (.cells (madeCells #[Value.string ⟨#[]⟩] M) 9)).alloc (.cells #[.slice (some ⟨w.heap.size, 0, none⟩) 0 M] 25)).alloc (.cells #[.slice a ls.length cap] 25)) := ⟨bL, HS.out.up hU0⟩
  have hsz : (((w.alloc (.cells (madeCells #[Value.string ⟨#[]⟩] M) 9)).alloc (.cells #[.slice (some ⟨w.heap.size, 0, none⟩) 0 M] 25)).alloc (.cells #[.slice a ls.length cap] 25)).heap.size = w.heap.size + 3 := by simp
  have hGv := above_gives (.slice a ls.length cap) ls (w.heap.size + 1 + 1) _ hA0 HF.out (by unfold maxLen; omega)
  have h0 : CollT w.heap.size (w.heap.size + 1) (w.heap.size + 1 + 1) (.slice a ls.length cap) ls w [] (((w.alloc (.cells (madeCells #[Value.string ⟨#[]⟩] M) 9)).alloc (.cells #[.slice (some ⟨w.heap.size, 0, none⟩) 0 M] 25)).alloc (.cells #[.slice a ls.length cap] 25)) := ⟨⟨_, bO, r0, trivial⟩, hU0, hA0⟩
  generalize (((w.alloc (.cells (madeCells #[Value.string ⟨#[]⟩] M) 9)).alloc (.cells #[.slice (some ⟨w.heap.size, 0, none⟩) 0 M] 25)).alloc (.cells #[.slice a ls.length cap] 25)) = w1 at hGv h0 hsz ⊢
  clear r0 bO bL hU0 hA0
  refine wpIn_over (gf := 93) (lb := #[.pointer (some ⟨w.heap.size + 1 + 1, 0, none⟩)]) rfl (enters_of Tryd.func93 (by kernel_rfl) rfl) hGv rfl
    (fun pre x n => ownFrom_pure (β := Unit) _ (fun _ => x = cellB ls pre.length ∧ pre.length < (ls.length + 1) / 2)) (fun x => Own.from (boxAnd_own _ _ _) _)
    (CollT w.heap.size (w.heap.size + 1) (w.heap.size + 1 + 1) (.slice a ls.length cap) ls w) (fun _ _ _ => False)
    (CollT.own (Nat.le_refl _) (by omega)) (fun _ _ _ _ _ hs _ _ => hs) h0 ?act0 ?assign ?body ?done ?stop
  case assign =>
    intro l x W K hK
    gi_wp2
    exact hK
  case body =>
    rintro l pre x W0 W hl _ _ _ ⟨⟨v, hv, hrow, _⟩, hB, hA⟩ ⟨rfl, hlt⟩
    have hlt : pre.length < 8796093022208 := by omega
    have hc := hv.cell
    have HA := Lib.hid hA
    clear hA
    gi_wp2_with (gi_at_builtin; refine wpListIn_append_own _ rfl _ _ 25 rfl w.heap.size 9 i0 (.string ⟨#[]⟩) 1 16 Tryd.underlying25 hi hz0 hz1 hz2 rfl (by decide) _ _ _ rfl (hrow.alloc _) ⟨W.heap.size, 0, none⟩ 1 1 [.string (strOfNums (cellB ls pre.length))] rfl rfl (cell_one_new _ _ _) (by simp [Value.oneCell']) (by unfold maxLen; omega) (by omega) (by have := hB.size; simp; omega) ?_; intro v' w1 hown' hgrow _; obtain ⟨g', cap', rfl⟩ := ownsRow_succ hown'; obtain ⟨hv1, hk2, hA2, hcoll⟩ := CollT.step hv hrow hB (by omega) HA.out HS.out (by omega) hown' hgrow; have hc1 := hv1.cell; have hf1 := hv1.frozen)
    exact ⟨hk2, hA2, hcoll⟩
  case done =>
    rintro D ys W hD rfl ⟨⟨v, hv, hrow, _⟩, hB, hA⟩ hK
    have hc := hv.cell
    simp only [withMark]
    gi_wp2
    refine ⟨by simp, .inl ⟨_, _, rfl, run_takeDeferred hK, ?_⟩⟩
    refine ⟨_, results_tmp rfl _ _ _, v, rfl, ownsRow_putObj hrow (.deferred none) hK rfl, hB.trans (belowK_b (w := w) (Nat.le_refl _) W D _ _ (by omega) hK rfl rfl)⟩
  case stop =>
    rintro D c pre W _ h _
    exact h.elim
end
end

/-
  rows and its iterator.
-/
section
section
set_option linter.unusedVariables false
open Go.RowKit Go.Shelf
attribute [local go_sem] Oper.semAt_some

theorem rows_any (v : Value) (w : World) (hv : v.oneCell' = true) :
    Calls Tryd.prog 46 #[v] w fun e w' => e = .returned (.func (.func 72) #[] #[.pointer (some ⟨w.heap.size, 0, none⟩)]) ∧ w.alloc (.cells #[v] 25) = w' := by
  go_enter Tryd.func46, Tryd.ntmps46
  go_wp2
  go_ret
  exact ⟨rfl, rfl⟩

/-- what a slice reads from lies below n₀, or at n or beyond it -/
def Lies (n₀ n : Nat) (v : Value) : Prop := ∀ b, v.ownBlock = some b → b < n₀ ∨ n ≤ b
def rowLen : Value → Nat
  | .slice _ n _ => n
  | _ => 0
theorem strs_below {W : World} {v : Value} {ls : List (List Int)} (h : Strs W v ls) (h0 : 0 < ls.length) : ∀ b, v.ownBlock = some b → b < W.heap.size := by
  obtain ⟨a, cap, rfl, _, _, h3⟩ := h
  rcases h3 with rfl | ⟨b, off, rfl, hc⟩
  · simp at h0
  · intro b' hb
    obtain rfl : b = b' := by simpa [Value.ownBlock] using hb
    exact World.block_lt_of_cell? W _ (hc 0 h0)
theorem row_lies {W : World} {base n₀ : Nat} {e : TypeId} {v : Value} {n : Nat} {xs : List Value} (h : W.ownsRow base e 1 v n xs) : Lies n₀ base v := fun b hb => .inr (h.lt b hb).1

/-- what the rows' iterator says of a row that it hands over -/
def RowOk (ls : List (List Int)) (n₀ : Nat) (pre : List (Value × List (List Int))) (x : Value × List (List Int)) (n : Nat) (W : World) : Prop :=
  x.2 = upN ls pre.length ∧ 0 < x.2.length ∧ (∀ j, j < pre.length → 1 < (upN ls j).length) ∧ Lies n₀ n x.1 ∧ Strs W x.1 x.2
/-- what it says when all have come -/
def RowsAll (ls : List (List Int)) (xs : List (Value × List (List Int))) : Prop := (ls = [] ∧ xs = []) ∨ ∃ K, xs.length = K + 1 ∧ (upN ls K).length = 1
theorem RowOk.own {ls : List (List Int)} {n₀ B : Nat} (pre : List (Value × List (List Int))) (x : Value × List (List Int)) (n : Nat) : OwnFrom B (fun (_ : Unit) W => RowOk ls n₀ pre x n W) := by
  rintro s W W' row ⟨h1, h2, h3, h4, h5⟩ hg hr
  exact ⟨h1, h2, h3, h4, strs_own x.1 x.2 () W W' row h5 hg (fun r e => (hr r e).2)⟩

set_option maxRecDepth 100000 in
set_option maxHeartbeats 2000000 in
theorem rows_gives (v : Value) (ls : List (List Int)) (Bl n₀ : Nat) (w : World) (hw : boxAnd Bl v ls w) (hf : Fits ls) (hl : ls.length ≤ 8796093022208) (hn : 0 < ls.length → ∀ b, v.ownBlock = some b → b < n₀) :
    Gives Tryd.prog 72 #[.pointer (some ⟨Bl, 0, none⟩)] (fun x : Value × List (List Int) => x.1) (RowOk ls n₀) (fun x W => Strs W x.1 x.2) (RowsAll ls) w := by
  intro l J Jx W hWw hY0 hJ0
  have hY : ∀ pre W0 W1 rv r, J pre W0 → Up W0 W1 → r = upN ls pre.length → 0 < r.length → (∀ j, j < pre.length → 1 < (upN ls j).length) → Lies n₀ W0.heap.size rv → Strs W1 rv r →
      YieldAt Fence.wide 1 Tryd.prog l #[rv] W1 (TwoWays (fun W' => J (pre ++ [(rv, r)]) W' ∧ Strs W' rv r) (fun W' => Jx (pre ++ [(rv, r)]) W')) := by
    intro pre W0 W1 rv r hj hu h1 h2 h3 h4 h5
    exact YieldAt.mono (hY0 pre (rv, r) W0 W1 hj hu ⟨h1, h2, h3, h4, h5⟩) fun e W' h => TwoWays.of h
  have HY := Lib.hid hY
  have HW := Lib.hid (hw.up hWw)
  have HF := Lib.hid hf
  have HJ := Lib.hid hJ0
  have Hn := Lib.hid hn
  obtain ⟨a, cap, rfl, hcap, _, _⟩ := id (hw.up hWw).2
  clear hY0 hY hWw hw hf hJ0 hn
  refine callsIn_of_wp Tryd.func72 rfl trivial ?_ rfl
  simp only [Tryd.ntmps72, List.size_toArray, List.length_cons, List.length_nil, Nat.reduceAdd, Nat.reduceSub, Array.replicate_succ, Array.replicate_zero, List.push_toArray, List.append_toArray, List.nil_append, List.cons_append]
  have c0 := HW.out.1.cell
  gi_wp2
  clear c0
  gi_loopw [3] (fun rv wr => ∃ (pre : List (Value × List (List Int))) (W0 : World), J pre W0 ∧ Up W0 wr ∧ Strs wr rv (upN ls pre.length) ∧ (∀ j, j < pre.length → 1 < (upN ls j).length) ∧ (0 < ls.length → Lies n₀ W0.heap.size rv))
    (fun rv _ => rowLen rv)
  case atStart => exact ⟨[], W, HJ.out, Up.refl W, HW.out.2, fun j hj => by simp at hj, fun h b hb => .inl (Hn.out h b hb)⟩
  case round =>
    obtain ⟨pre, W0, hJ, hU, hS, hall, hlies⟩ := hrel
    have hle := upN_le ls pre.length
    have hr0 : 0 < (upN ls pre.length).length → 0 < ls.length := fun h => by omega
    have Hr0 := Lib.hid hr0
    have Hall := Lib.hid hall
    have Hlies := Lib.hid hlies
    have HJp := Lib.hid hJ
    have HU := Lib.hid hU
    have HS := Lib.hid hS
    have HFr := Lib.hid (HF.out.upN pre.length)
    have hup : upB (upN ls pre.length) = upN ls (pre.length + 1) := rfl
    have Hup := Lib.hid hup
    have hr : ∃ r, r = upN ls pre.length := ⟨_, rfl⟩
    obtain ⟨r, hr⟩ := hr
    rw [← hr] at HS HFr Hup hle Hr0
    have Hr := Lib.hid hr
    obtain ⟨ra, rc, rfl, hrc, _, hrcell⟩ := id HS.out
    clear hJ hU hS hall hlies hup hr hr0
    by_cases h1 : 1 < r.length
    · rcases hrcell with hx | ⟨b, off, rfl, _⟩
      · rw [hx] at h1; simp at h1
      have hy := HY.out pre W0 wr _ r HJp.out HU.out Hr.out (by omega) Hall.out (Hlies.out (Hr0.out (by omega))) HS.out
      obtain ⟨fnY, tmY, asY, bdY, hyr, hR⟩ := hy
      gi_wp2
      refine RoundIn.mono hR ?_
      intro e w3 hTW
      obtain ⟨bb, rfl, hT, hF⟩ := hTW
      clear hyr hR
      cases bb
      · have hx := hF rfl
        clear hT hF
        gi_wp2
        refine bodyPost_ret (results_none rfl _ _ _) rfl ?_
        exact ⟨⟨_, rfl⟩, .inr ⟨_, _, hx, Up.refl _⟩⟩
      · have hx := hT rfl
        have HX := Lib.hid hx
        have Hu := Lib.hid (up_any _ r w3 hx.2 HFr.out (by omega))
        clear hT hF hx
        gi_wp2_with (refine ⟨trivial, ?_⟩; gi_at_call 73; refine CallsIn.mono (callsIn_wide.2 Hu.out) ?_; rintro e w4 ⟨r4, rfl, hr4, hU4⟩)
        go_roundw
        case rel =>
          refine ⟨pre ++ [(_, r)], w3, HX.out.1, hU4, ?_, ?_, fun _ => row_lies hr4⟩
          · rw [List.length_append, List.length_singleton, ← Hup.out]; exact Strs.of_row hr4
          · intro j hj
            rw [List.length_append, List.length_singleton] at hj
            by_cases e : j = pre.length
            · rw [e, ← Hr.out]; exact h1
            · exact Hall.out j (by omega)
        case measure =>
          have hl4 := upB_length r
          obtain ⟨a4, c4, e4, _⟩ := Strs.of_row hr4
          subst e4
          simp [rowLen]; omega
    · by_cases h2 : r.length = 1
      · rcases hrcell with hx | ⟨b, off, rfl, _⟩
        · rw [hx] at h2; simp at h2
        have hy := HY.out pre W0 wr _ r HJp.out HU.out Hr.out (by omega) Hall.out (Hlies.out (Hr0.out (by omega))) HS.out
        obtain ⟨fnY, tmY, asY, bdY, hyr, hR⟩ := hy
        rw [h2] at hyr ⊢
        gi_wp2
        refine RoundIn.mono hR ?_
        intro e w3 hTW
        obtain ⟨bb, rfl, hT, hF⟩ := hTW
        clear hyr hR
        gi_wp2
        go_end0
        cases bb
        · exact ⟨⟨_, rfl⟩, .inr ⟨_, _, hF rfl, Up.refl _⟩⟩
        · refine ⟨⟨_, rfl⟩, .inl ⟨_, _, .inr ⟨pre.length, by simp, ?_⟩, (hT rfl).1, Up.refl _⟩⟩
          rw [← Hr.out]; exact h2
      · have h0 : r.length = 0 := by omega
        have hls : Hid (ls = [] ∧ pre = []) := by
          show _ ∧ _
          have e0 : ls = [] := by
            rcases Nat.eq_zero_or_pos ls.length with e | e
            · exact List.eq_nil_of_length_eq_zero e
            · have := upN_pos ls e pre.length; rw [← Hr.out] at this; omega
          refine ⟨e0, ?_⟩
          rcases Nat.eq_zero_or_pos pre.length with e | e
          · exact List.eq_nil_of_length_eq_zero e
          · have := Hall.out 0 e; rw [e0] at this; simp [upN] at this
        gi_wp2
        go_end0
        have hj := HJp.out
        exact ⟨⟨_, rfl⟩, .inl ⟨_, _, .inl hls.out, hj, HU.out⟩⟩
end
end

/-
  Root.
-/
section
section
set_option linter.unusedVariables false
open Go.RowKit Go.Shelf
attribute [local go_sem] Oper.semAt_some

/-- a result that lies in a cell of its own: a string -/
theorem results_cell_str {fn : Func} {p : Tmp} (h : fn.results = #[.cell p 9]) (tmps : Array Value) (w : World) (B : Nat) (v : Value) (hp : tmps.getD p undef = .pointer (some ⟨B, 0, none⟩)) (hc : w.cell? ⟨B, 0, none⟩ = some v) :
    (results fn tmps).run Tryd.prog w = .ok v w := by
  have hp' : tmps[p]?.getD undef = .pointer (some ⟨B, 0, none⟩) := by simpa using hp
  simp [results, h, hp', asAddr, loadVar, hc, go_sem]

/-- between two rounds of Root's loop -/
def RootI (n₀ B : Nat) (ls : List (List Int)) (w : World) (pre : List (Value × List (List Int))) (W : World) : Prop :=
  Boxed W B 9 (.string ⟨#[]⟩) ∧ Below n₀ w W ∧ ∀ j, j < pre.length → ¬ (upN ls j).length = 1
def RootX (n₀ B : Nat) (ls : List (List Int)) (w : World) (c : Code) (pre : List (Value × List (List Int))) (W : World) : Prop :=
  c = .ret ∧ Boxed W B 9 (.string (strOfNums (rootB ls))) ∧ Below n₀ w W

set_option maxRecDepth 100000 in
set_option maxHeartbeats 2000000 in
theorem root_any (v : Value) (ls : List (List Int)) (w : World) (hs : Strs w v ls) (hf : Fits ls) (hl : ls.length ≤ 8796093022208) :
    Calls Tryd.prog 21 #[v] w fun e w' => e = .returned (.string (strOfNums (rootB ls))) ∧ Up w w' := by
  refine (callsIn_wide (n := 3)).1 ?_
  obtain ⟨a, cap, rfl, hcap, _, _⟩ := id hs
  have HS := Lib.hid hs
  have HF := Lib.hid hf
  clear hs hf
  refine callsIn_of_wp_marks Tryd.func21 rfl trivial ?_ rfl
  simp only [Tryd.ntmps21, List.size_toArray, List.length_cons, List.length_nil, Nat.reduceAdd, Nat.reduceSub, Array.replicate_succ, Array.replicate_zero, List.push_toArray, List.append_toArray, List.nil_append, List.cons_append]
  gi_wp2_with (refine ⟨trivial, ?_⟩; gi_at_call 46; refine CallsIn.mono (callsIn_wide.2 (rows_any _ _ rfl)) ?_; rintro e w' ⟨rfl, rfl⟩)
  have bO := (Boxed.new w 9 (.string ⟨#[]⟩)).alloc (.cells #[.slice a ls.length cap] 25)
  have bL := Boxed.new (w.alloc (.cells #[.string ⟨#[]⟩] 9)) 25 (.slice a ls.length cap)
  simp only [World.size_alloc] at bL
  have hU0 : Up w ((w.alloc (.cells #[.string ⟨#[]⟩] 9)).alloc (.cells #[.slice a ls.length cap] 25)) := Up.alloc (Up.alloc (Up.refl w) _) _
  have hA0 : boxAnd (w.heap.size + 1) (.slice a ls.length cap) ls ((w.alloc (.cells #[.string ⟨#[]⟩] 9)).alloc (.cells #[.slice a ls.length cap] 25)) := ⟨bL, HS.out.up hU0⟩
  have hsz : ((w.alloc (.cells #[.string ⟨#[]⟩] 9)).alloc (.cells #[.slice a ls.length cap] 25)).heap.size = w.heap.size + 2 := by simp
  have hGv := rows_gives (.slice a ls.length cap) ls (w.heap.size + 1) w.heap.size _ hA0 HF.out hl (strs_below HS.out)
  have h0 : RootI w.heap.size w.heap.size ls w [] ((w.alloc (.cells #[.string ⟨#[]⟩] 9)).alloc (.cells #[.slice a ls.length cap] 25)) := ⟨bO, hU0, fun j hj => by simp at hj⟩
  generalize ((w.alloc (.cells #[.string ⟨#[]⟩] 9)).alloc (.cells #[.slice a ls.length cap] 25)) = w1 at hGv h0 hsz ⊢
  clear bO bL hU0 hA0
  refine wpIn_over (gf := 72) (lb := #[.pointer (some ⟨w.heap.size + 1, 0, none⟩)]) rfl (enters_of Tryd.func72 (by kernel_rfl) rfl) hGv rfl
    (fun pre x n => RowOk.own pre x n) (fun x => Own.from (strs_own _ _) _)
    (RootI w.heap.size w.heap.size ls w) (RootX w.heap.size w.heap.size ls w)
    (OwnFrom.and (Own.from (boxed_own _ _ (fun _ => .string ⟨#[]⟩)) _) (OwnFrom.and (ownFrom_below (Nat.le_refl _) (by omega)) (ownFrom_pure _ (fun pre : List (Value × List (List Int)) => ∀ j, j < pre.length → ¬ (upN ls j).length = 1))))
    (fun c => OwnFrom.and (ownFrom_pure _ (fun _ : List (Value × List (List Int)) => c = .ret)) (OwnFrom.and (Own.from (boxed_own _ _ (fun _ => .string (strOfNums (rootB ls)))) _) (ownFrom_below (Nat.le_refl _) (by omega)))) h0 ?act0 ?assign ?body ?done ?stop
  case assign =>
    intro l x W K hK
    gi_wp2
    exact hK
  case body =>
    rintro l pre ⟨rv, r⟩ W0 W hl _ _ _ ⟨hv, hB, hI⟩ ⟨hr, h0, hall, hlies, hst⟩
    replace hr : r = upN ls pre.length := hr
    replace h0 : 0 < r.length := h0
    replace hst : Strs W rv r := hst
    have HS2 := Lib.hid hst
    obtain ⟨ra, rc, rfl, hrc, _, hrcell⟩ := hst
    rcases hrcell with hx | ⟨b, off, rfl, hc⟩
    · rw [hx] at h0; simp at h0
    have Hr := Lib.hid hr
    have HI := Lib.hid hI
    clear hr hlies hall hI
    by_cases h1 : r.length = 1
    · have hc0 := hc 0 (by omega)
      have hroot : Hid (r[0]?.getD [] = rootB ls) := by
        show _ = _
        have := Hr.out
        subst this
        exact root_at ls _ h1
      rw [hroot.out, Nat.add_zero] at hc0
      have H1 := Lib.hid h1
      clear hc
      have hc1 := hv.cell
      have hf1 := hv.frozen
      have i1 : ((r.length : Int) == 1) = true := by rw [h1]; rfl
      gi_wp2
      exact ⟨KeepsOthers.setCell _ _ _, rfl, hv.set _, hB.setCell (p := ⟨w.heap.size, 0, none⟩) (Nat.le_refl _) _⟩
    · clear hc
      gi_wp2
      refine ⟨KeepsOthers.refl _, HS2.out, hv, hB, fun j hj => ?_⟩
      rw [List.length_append, List.length_singleton] at hj
      by_cases e : j = pre.length
      · rw [e, ← Hr.out]; exact h1
      · exact HI.out j (by omega)
  case done =>
    rintro D ys W hD hall ⟨hv, hB, hI⟩ hK
    have hls : ls = [] := by
      rcases hall with ⟨h, _⟩ | ⟨K, h1, h2⟩
      · exact h
      · exact absurd h2 (hI K (by omega))
    have hroot : Hid (strOfNums (rootB ls) = ⟨#[]⟩) := by show _ = _; rw [hls]; rfl
    have hc := hv.cell
    have hf1 := hv.frozen
    clear hall hI hls
    simp only [withMark]
    gi_wp2
    have hK2 := (KeepsOthers.setCell W ⟨w.heap.size, 0, none⟩ (.string ⟨#[]⟩)).same D _ hK rfl
    refine ⟨by simp, .inl ⟨_, _, rfl, run_takeDeferred hK2, ?_⟩⟩
    have hv3 := ((hv.set (.string ⟨#[]⟩)).kept (grownBy_putObj' _ D (.deferred none)) (by simp; omega))
    refine ⟨_, results_cell_str rfl _ _ _ _ rfl hv3.cell, by rw [hroot.out], ?_⟩
    exact (hB.setCell (p := ⟨w.heap.size, 0, none⟩) (Nat.le_refl _) _).trans (belowK_b (w := w) (Nat.le_refl _) _ D _ _ (by omega) hK2 rfl rfl)
  case stop =>
    rintro D c pre W hD ⟨rfl, hv, hB⟩ hK
    simp only [withMark]
    gi_wp2
    refine ⟨by simp, .inl ⟨_, _, rfl, run_takeDeferred hK, ?_⟩⟩
    have hv3 := (hv.kept (grownBy_putObj' _ D (.deferred none)) (by simp; omega))
    refine ⟨_, results_cell_str rfl _ _ _ _ rfl hv3.cell, rfl, ?_⟩
    exact hB.trans (belowK_b (w := w) (Nat.le_refl _) _ D _ _ (by omega) hK rfl rfl)
end
end

/-
  Path.
-/
section
section
set_option linter.unusedVariables false
open Go.RowKit Go.Shelf
attribute [local go_sem] Oper.semAt_some

/-- how often a power of two can be halved -/
def isPow (n : Nat) : Prop := ∃ K, n = 2 ^ K
theorem isPow_log {n : Nat} : isPow n ↔ n = 2 ^ Nat.log2 n := by
  constructor
  · rintro ⟨K, rfl⟩; rw [Nat.log2_two_pow]
  · exact fun h => ⟨_, h⟩
instance (n : Nat) : Decidable (isPow n) := decidable_of_iff _ isPow_log.symm
/-- Path's two answers -/
def pathE (ls : List (List Int)) (at_ : Int) : Int := if at_ < 0 ∨ (ls.length : Int) ≤ at_ then 4 else if isPow ls.length then 0 else 3
def pathR (ls : List (List Int)) (at_ : Int) : List (List Int) := if at_ < 0 ∨ (ls.length : Int) ≤ at_ then [] else if isPow ls.length then pathB ls at_.toNat (Nat.log2 ls.length) else []

set_option maxHeartbeats 2000000 in
theorem path_out (v : Value) (ls : List (List Int)) (at_ : Int) (w : World) (hs : Strs w v ls) (hl : ls.length ≤ 8796093022208) (hat : -9223372036854775808 ≤ at_ ∧ at_ ≤ 9223372036854775807) (hout : at_ < 0 ∨ (ls.length : Int) ≤ at_) :
    Calls Tryd.prog 37 #[v, .int .i64 at_] w fun e w' => e = .returned (.tuple #[.slice none 0 0, .int .i64 4]) ∧ Up w w' := by
  obtain ⟨a, cap, rfl, hcap, _, _⟩ := hs
  have hU0 : Up w (w.alloc (.cells #[.int .i64 at_] 3)) := Up.alloc (Up.refl w) _
  have hc := (Boxed.new w 3 (.int .i64 at_)).cell
  by_cases h : at_ < 0
  · clear hout
    go_enter Tryd.func37, Tryd.ntmps37
    go_wp2
    go_ret2
    exact ⟨rfl, hU0⟩
  · have h2 : (ls.length : Int) ≤ at_ := by omega
    clear hout
    go_enter Tryd.func37, Tryd.ntmps37
    go_wp2
    go_ret2
    exact ⟨rfl, hU0⟩

set_option maxHeartbeats 2000000 in
theorem path_odd (v : Value) (ls : List (List Int)) (at_ : Int) (w : World) (hs : Strs w v ls) (hl : ls.length ≤ 8796093022208) (h1 : 0 ≤ at_) (h2 : at_ < ls.length) (hodd : ¬ isPow ls.length) :
    Calls Tryd.prog 37 #[v, .int .i64 at_] w fun e w' => e = .returned (.tuple #[.slice none 0 0, .int .i64 3]) ∧ Up w w' := by
  obtain ⟨a, cap, rfl, hcap, _, _⟩ := hs
  have hU0 : Up w (w.alloc (.cells #[.int .i64 at_] 3)) := Up.alloc (Up.refl w) _
  have hc := (Boxed.new w 3 (.int .i64 at_)).cell
  have hwu : IntKind.u64.wrap (ls.length : Int) = (ls.length : Int) := by rw [IntKind.wrap_u64]; omega
  have hcnt : ¬ (cnt ls.length : Int) = 1 := fun h => hodd ((cnt_one ls.length (by omega)).1 (by omega))
  have Ho := Lib.hid (ones_any ls.length (w.alloc (.cells #[.int .i64 at_] 3)) (by omega))
  have hm1 : ¬ at_ < 0 := by omega
  have hm2 : ¬ (ls.length : Int) ≤ at_ := by omega
  generalize cnt ls.length = c at hcnt Ho
  clear hodd
  go_enter Tryd.func37, Tryd.ntmps37
  go_wp2_with fail
  with_reducible refine Calls.mono Ho.out ?_
  rintro e w1 ⟨rfl, rfl⟩
  go_wp2
  go_ret2
  exact ⟨rfl, hU0⟩

/-- between two rounds of Path's loop -/
def PathI (n₀ Bp Ba : Nat) (ls : List (List Int)) (at_ : Nat) (w : World) (pre : List (Value × List (List Int))) (W : World) : Prop :=
  (∃ v, Boxed W Bp 25 v ∧ W.ownsRow n₀ 9 1 v pre.length (strVs (upTo (pathAt ls at_) pre.length)) ∧ True) ∧ Boxed W Ba 3 (.int .i64 ((at_ / 2 ^ pre.length : Nat) : Int)) ∧ Below n₀ w W ∧ ∀ j, j < pre.length → 1 < (upN ls j).length
/-- where the loop was left -/
def PathX (n₀ Bp : Nat) (ls : List (List Int)) (at_ K : Nat) (w : World) (c : Code) (pre : List (Value × List (List Int))) (W : World) : Prop :=
  c = .exit 0 ∧ (∃ v, Boxed W Bp 25 v ∧ W.ownsRow n₀ 9 1 v K (strVs (pathB ls at_ K)) ∧ True) ∧ Below n₀ w W
theorem PathI.own {n₀ Bp Ba D : Nat} {ls : List (List Int)} {at_ : Nat} {w : World} (h1 : n₀ ≤ w.heap.size) (h2 : n₀ ≤ D) : OwnFrom D (PathI n₀ Bp Ba ls at_ w) :=
  OwnFrom.and (Own.from (holdsRow_own n₀ Bp 25 9 1 (fun pre : List (Value × List (List Int)) => pre.length) (fun pre => strVs (upTo (pathAt ls at_) pre.length)) (fun _ _ => True)) _)
    (OwnFrom.and (Own.from (boxed_own _ _ (fun pre : List (Value × List (List Int)) => .int .i64 ((at_ / 2 ^ pre.length : Nat) : Int))) _) (OwnFrom.and (ownFrom_below h1 h2) (ownFrom_pure _ (fun pre : List (Value × List (List Int)) => ∀ j, j < pre.length → 1 < (upN ls j).length))))
theorem PathX.own {n₀ Bp D : Nat} {ls : List (List Int)} {at_ K : Nat} {w : World} (h1 : n₀ ≤ w.heap.size) (h2 : n₀ ≤ D) (c : Code) : OwnFrom D (PathX n₀ Bp ls at_ K w c) :=
  OwnFrom.and (ownFrom_pure _ (fun _ : List (Value × List (List Int)) => c = .exit 0))
    (OwnFrom.and (Own.from (holdsRow_own n₀ Bp 25 9 1 (fun _ : List (Value × List (List Int)) => K) (fun _ => strVs (pathB ls at_ K)) (fun _ _ => True)) _) (ownFrom_below h1 h2))

/-- a slice of strings reads on where its block is as it was -/
theorem strs_block {W X : World} {b off n c : Nat} {ls : List (List Int)} (h : Strs W (.slice (some ⟨b, off, none⟩) n c) ls) (hb : X.heap[b]? = W.heap[b]?) : Strs X (.slice (some ⟨b, off, none⟩) n c) ls := by
  obtain ⟨a, cap, he, h1, h2, h3⟩ := h
  refine ⟨a, cap, he, h1, h2, h3.imp id ?_⟩
  rintro ⟨b', off', rfl, hc⟩
  simp only [Value.slice.injEq, Option.some.injEq, Addr.mk.injEq, and_true] at he
  obtain ⟨⟨rfl, rfl⟩, _, _⟩ := he
  exact ⟨b, off, rfl, fun j hj => (World.cell?_of_block (a := ⟨b, off + j, none⟩) hb).trans (hc j hj)⟩
/-- what Path's append and store leave -/
theorem path_step {W X : World} {Bp Ba b n₀ k : Nat} {v v' : Value} {tmp : Obj} {xs ys : List Value} {u : Value} (hv : Boxed W Bp 25 v) (hrow : W.ownsRow n₀ 9 1 v k xs) (hn : n₀ ≤ W.heap.size) (hp : n₀ ≤ Bp)
    (hA : Boxed W Ba 3 u) (hne : Ba ≠ Bp) (hb1 : b ≠ Bp) (hb2 : some b ≠ v.ownBlock) (hbl : b < W.heap.size)
    (hown : X.ownsRow n₀ 9 1 v' (k + 1) ys) (hgrow : (W.drew.alloc tmp).grownBy X v.ownBlock) :
    Boxed X Bp 25 v ∧ Boxed (X.setCell ⟨Bp, 0, none⟩ v') Bp 25 v' ∧ (X.setCell ⟨Bp, 0, none⟩ v').ownsRow n₀ 9 1 v' (k + 1) ys ∧ KeepsOthers W (X.setCell ⟨Bp, 0, none⟩ v') ∧ Below n₀ W (X.setCell ⟨Bp, 0, none⟩ v') ∧
      Boxed X Ba 3 u ∧ Boxed (X.setCell ⟨Bp, 0, none⟩ v') Ba 3 u ∧ X.heap[b]? = W.heap[b]? ∧ (X.setCell ⟨Bp, 0, none⟩ v').heap[b]? = W.heap[b]? := by
  have hvd : Boxed W.drew Bp 25 v := hv
  have hrd : W.drew.ownsRow n₀ 9 1 v k xs := hrow
  have hAd : Boxed W.drew Ba 3 u := hA
  obtain ⟨h1, h2, h3, h4, h5⟩ := hvd.appended (by decide) hrd hn hp hown hgrow
  have hA1 : Boxed X Ba 3 u := (hAd.alloc tmp).kept hgrow (hAd.not_row (by decide) hrd)
  have e1 : X.heap[b]? = W.heap[b]? := (hgrow.block b (by simp; omega) hb2).trans (Below.heap_alloc W.drew tmp b hbl)
  exact ⟨h1, h2, h3, (KeepsOthers.drew W).trans h4, (Below.drew (Below.refl _ _)).trans h5, hA1, hA1.other hne v', e1, (Below.heap_setCell X ⟨Bp, 0, none⟩ v' b hb1).trans e1⟩

set_option maxRecDepth 100000 in
set_option maxHeartbeats 2000000 in
theorem path_pow (v : Value) (ls : List (List Int)) (at_ K : Nat) (w : World) (hs : Strs w v ls) (hf : Fits ls) (hl : ls.length ≤ 8796093022208) (hK : ls.length = 2 ^ K) (hat : at_ < ls.length) (hT : Tab64 w) :
    Calls Tryd.prog 37 #[v, .int .i64 at_] w fun e w' => ∃ r, e = .returned (.tuple #[r, .int .i64 0]) ∧ w'.ownsRow w.heap.size 9 1 r K (strVs (pathB ls at_ K)) ∧ Up w w' := by
  obtain ⟨i0, hi, hz0, hz1, hz2⟩ := info_parts info_strg
  refine (callsIn_wide (n := 3)).1 ?_
  obtain ⟨a, cap, rfl, hcap, _, _⟩ := id hs
  have HS := Lib.hid hs
  have HF := Lib.hid hf
  have HK := Lib.hid hK
  have hwu : IntKind.u64.wrap (ls.length : Int) = (ls.length : Int) := by rw [IntKind.wrap_u64]; omega
  have hcnt : cnt ls.length = 1 := (cnt_one ls.length (by omega)).2 ⟨K, hK⟩
  have Ho := ones_any ls.length (w.alloc (.cells #[.int .i64 at_] 3)) (by omega)
  rw [hcnt] at Ho
  have Ho := Lib.hid Ho
  have Ht := Lib.hid (tz_any ls.length (w.alloc (.cells #[.int .i64 at_] 3)) (by omega) (hT.up (Up.alloc (Up.refl w) _)))
  have hm1 : ¬ (at_ : Int) < 0 := by omega
  have hm2 : ¬ (ls.length : Int) ≤ (at_ : Int) := by omega
  have hatK : at_ < 2 ^ K := by rw [← hK]; exact hat
  have HatK := Lib.hid hatK
  clear hatK
  have hc0 := (Boxed.new w 3 (.int .i64 at_)).cell
  clear hs hf hcnt hK hT
  refine callsIn_of_wp_marks Tryd.func37 rfl trivial ?_ rfl
  simp only [Tryd.ntmps37, List.size_toArray, List.length_cons, List.length_nil, Nat.reduceAdd, Nat.reduceSub, Array.replicate_succ, Array.replicate_zero, List.push_toArray, List.append_toArray, List.nil_append, List.cons_append]
  gi_wp2_with (first
    | (refine ⟨trivial, ?_⟩; gi_at_call 44; refine CallsIn.mono (callsIn_wide.2 Ho.out) ?_; rintro e w1 ⟨rfl, rfl⟩)
    | (refine ⟨trivial, ?_⟩; gi_at_call 62; refine CallsIn.mono (callsIn_wide.2 Ht.out) ?_; rintro e w1 ⟨k, hk, rfl, rfl⟩; have hmk := make_strs (k : Int) k rfl (by omega))
    | (refine ⟨trivial, ?_⟩; gi_at_call 46; refine CallsIn.mono (callsIn_wide.2 (rows_any _ _ rfl)) ?_; rintro e w' ⟨rfl, rfl⟩))
  clear hmk hc0
  generalize hwd : (((w.alloc (.cells #[.int .i64 at_] 3)).alloc (.cells (madeCells #[.string ⟨#[]⟩] k) 9)).alloc (.cells #[.slice (some ⟨w.heap.size + 1, 0, none⟩) 0 k] 25)).alloc (.cells #[.slice a ls.length cap] 25) = w1
  have hU0 : Up w w1 := by rw [← hwd]; exact Up.alloc (Up.alloc (Up.alloc (Up.alloc (Up.refl w) _) _) _) _
  have hsz : w1.heap.size = w.heap.size + 4 := by rw [← hwd]; simp
  have bA : Boxed w1 w.heap.size 3 (.int .i64 at_) := by rw [← hwd]; exact (((Boxed.new w 3 (.int .i64 at_)).alloc _).alloc _).alloc _
  have bP : Boxed w1 (w.heap.size + 1 + 1) 25 (.slice (some ⟨w.heap.size + 1, 0, none⟩) 0 k) := by
    rw [← hwd]
    have := Boxed.new ((w.alloc (.cells #[.int .i64 at_] 3)).alloc (.cells (madeCells #[.string ⟨#[]⟩] k) 9)) 25 (.slice (some ⟨w.heap.size + 1, 0, none⟩) 0 k)
    simp only [World.size_alloc] at this
    exact this.alloc _
  have bL : Boxed w1 (w.heap.size + 1 + 1 + 1) 25 (.slice a ls.length cap) := by
    rw [← hwd]
    have := Boxed.new (((w.alloc (.cells #[.int .i64 at_] 3)).alloc (.cells (madeCells #[.string ⟨#[]⟩] k) 9)).alloc (.cells #[.slice (some ⟨w.heap.size + 1, 0, none⟩) 0 k] 25)) 25 (.slice a ls.length cap)
    simpa only [World.size_alloc] using this
  have r0 : w1.ownsRow w.heap.size 9 1 (.slice (some ⟨w.heap.size + 1, 0, none⟩) 0 k) 0 [] := by
    rw [← hwd]
    have := World.ownsRow_made (base := w.heap.size) (e := 9) (size := 1) (w.alloc (.cells #[.int .i64 at_] 3)) (madeCells #[.string ⟨#[]⟩] k) k (by simp) (by unfold maxLen; omega) (by first | (rw [size_madeCells]; done) | (rw [size_madeCells]; omega))
    simp only [World.size_alloc] at this
    exact (this.alloc _).alloc _
  have hGv := rows_gives (.slice a ls.length cap) ls (w.heap.size + 1 + 1 + 1) w.heap.size w1 ⟨bL, HS.out.up hU0⟩ HF.out hl (strs_below HS.out)
  have h0 : PathI w.heap.size (w.heap.size + 1 + 1) w.heap.size ls at_ w [] w1 := ⟨⟨_, bP, r0, trivial⟩, by simpa using bA, hU0, fun j hj => by simp at hj⟩
  clear hwd hU0 bA bP bL r0
  have hmx : Tryd.prog.follows .mixedOrders = true := by kernel_rfl
  refine wpIn_over (gf := 72) (lb := #[.pointer (some ⟨w.heap.size + 1 + 1 + 1, 0, none⟩)]) rfl (enters_of Tryd.func72 (by kernel_rfl) rfl) hGv rfl
    (fun pre x n => RowOk.own pre x n) (fun x => Own.from (strs_own _ _) _)
    (PathI w.heap.size (w.heap.size + 1 + 1) w.heap.size ls at_ w) (PathX w.heap.size (w.heap.size + 1 + 1) ls at_ K w)
    (PathI.own (Nat.le_refl _) (by omega)) (PathX.own (Nat.le_refl _) (by omega)) h0 ?act0 ?assign ?body ?done ?stop
  case assign =>
    intro l x W K hK
    gi_wp2
    exact hK
  case body =>
    rintro l pre ⟨rv, r⟩ W0 W hlw ⟨lo, hlo, hlc⟩ ⟨⟨v0, hv0, hr0, _⟩, hA0, _⟩ hgw ⟨⟨v, hv, hrow, _⟩, hA, hB, hI⟩ ⟨hr, h0, hall, hlies, hst⟩
    replace hr : r = upN ls pre.length := hr
    replace h0 : 0 < r.length := h0
    replace hst : Strs W rv r := hst
    replace hlies : Lies w.heap.size W0.heap.size rv := hlies
    have HS2 := Lib.hid hst
    obtain ⟨ra, rc, rfl, hrc, _, hrcell⟩ := hst
    rcases hrcell with hx | ⟨b, off, rfl, hc⟩
    · rw [hx] at h0; simp at h0
    have hkK : pre.length ≤ K := by
      rcases Nat.lt_or_ge K pre.length with h | h
      · have h1 := hI K h
        have h2 := upN_pow ls K HK.out K (Nat.le_refl _)
        rw [Nat.sub_self, Nat.pow_zero] at h2
        omega
      · exact h
    have hrl : r.length = 2 ^ (K - pre.length) := by rw [hr]; exact upN_pow ls K HK.out _ hkK
    have hbl : b < W.heap.size := World.block_lt_of_cell? W _ (hc 0 h0)
    have hlies := hlies b rfl
    -- where the consumer's own blocks lie
    have hv00 : Boxed W (w.heap.size + 1 + 1) 25 v0 := hv0.kept hgw (fun e => by
      have e' : w.heap.size + 1 + 1 = l := by simpa using e
      have := hv0
      rw [e'] at this
      have := this.symm.trans hlo
      simp only [Option.some.injEq] at this
      rw [← this] at hlc
      cases hlc)
    have hvv : v = v0 := by
      have := hv.symm.trans hv00
      simpa using this
    have hb1 : b ≠ w.heap.size + 1 + 1 := by have := hv0.lt; omega
    have hb2 : b ≠ w.heap.size := by have := hA0.lt; omega
    have hb3 : some b ≠ v.ownBlock := by
      intro e
      have := hr0.lt b (by rw [← hvv, e])
      omega
    clear hv00 hv0 hA0 hr0 hvv hgw hlo hlc hlies hall
    have HI := Lib.hid hI
    have Hr := Lib.hid hr
    have Hrl := Lib.hid hrl
    have hcA := hA.cell
    have hcv := hv.cell
    by_cases h1 : r.length = 1
    · have i1 : ((r.length : Int) == 1) = true := by rw [h1]; rfl
      have hKp : Hid (pre.length = K) := by
        show _ = _
        rcases Nat.lt_or_ge pre.length K with h | h
        · have := Nat.one_lt_two_pow (show K - pre.length ≠ 0 by omega)
          omega
        · omega
      clear hc hcA hcv hr hrl hI h1
      gi_wp2
      refine ⟨KeepsOthers.refl _, rfl, ⟨v, hv, ?_, trivial⟩, hB⟩
      rw [hKp.out] at hrow
      exact hrow
    · have hkK2 : pre.length < K := by
        rcases Nat.lt_or_ge pre.length K with h | h
        · exact h
        · rw [show K - pre.length = 0 from by omega] at hrl; exact absurd hrl h1
      obtain ⟨d, hd⟩ : ∃ d, K - pre.length = d + 1 := ⟨K - pre.length - 1, by omega⟩
      have hj := part_lt HatK.out hkK
      rw [hd] at hj hrl
      have hnb := nb_lt hj
      rw [← hrl] at hnb
      have hsmall : at_ / 2 ^ pre.length < 4611686018427387904 := by have := Nat.div_le_self at_ (2 ^ pre.length); omega
      have hxor := i64_xor1 (at_ / 2 ^ pre.length) hsmall
      have hcell := hc (nb (at_ / 2 ^ pre.length)) hnb
      have hT : Hid (r[nb (at_ / 2 ^ pre.length)]?.getD [] = pathAt ls at_ pre.length) := by show _ = _; rw [Hr.out]; rfl
      rw [hT.out] at hcell
      have hup : Hid (upTo (pathAt ls at_) (pre.length + 1) = upTo (pathAt ls at_) pre.length ++ [pathAt ls at_ pre.length]) := upTo_succ _ _
      have hhalf : Hid (at_ / 2 ^ pre.length / 2 = at_ / 2 ^ (pre.length + 1)) := half_step _ _
      have hnbd : (if at_ / 2 ^ pre.length % 2 = 1 then at_ / 2 ^ pre.length - 1 else at_ / 2 ^ pre.length + 1) = nb (at_ / 2 ^ pre.length) := rfl
      rw [hnbd] at hxor
      generalize pathAt ls at_ pre.length = T at hcell hup
      generalize at_ / 2 ^ pre.length = j at hj hnb hsmall hxor hcell hhalf hA hcA
      generalize nb j = m at hnb hxor hcell
      have hplen : pre.length < 8796093022208 := by
        have := Nat.lt_two_pow_self (n := pre.length)
        have h2 := Nat.pow_le_pow_right (show 0 < 2 by omega) hkK
        have h3 := HK.out
        omega
      have i1 : ((r.length : Int) == 1) = false := by simp; omega
      clear hc hr hrl hI hd hT hnbd hj
      gi_wp2
      have hrd : W.drew.ownsRow w.heap.size 9 1 v pre.length (strVs (upTo (pathAt ls at_) pre.length)) := hrow
      refine region_alongF (ro := some l) (n := 1) (fun X => X.cell? ⟨w.heap.size, 0, none⟩ = some (.int .i64 j) ∧ X.cell? ⟨b, off + m, none⟩ = some (.string (strOfNums T)))
        (.read 1 (.read 2 (.read 3 (.read 4 (.read 5 (.fork 0 (.step 6 (.step 7 (.step 8 .nil))) 6 (.step 0 (.step 7 (.step 8 .nil))))))))) hmx rfl (by kernel_rfl) (by kernel_rfl) (by kernel_rfl) (fun c a d v w h => by cases d <;> exact h) ⟨hcA, hcell⟩ ?_
      refine alongF_move (.slice (some ⟨b, off, none⟩) r.length rc) rfl rfl rfl rfl ?_
      change AlongF _ _ _ _ _ _ _ { tmps := #[_, _, _, .pointer (some ⟨w.heap.size, 0, none⟩), _, _, .pointer (some ⟨w.heap.size + 1 + 1, 0, none⟩), .slice (some ⟨b, off, none⟩) r.length rc, _, _, _, _, _, _, _, _, _, _, _, _, _, _, _, _, _, _, _, _, _, _, _, _, _, .slice (some ⟨b, off, none⟩) r.length rc, _, _, _, _, _, _, _, _, _], defers := _ } _
      refine alongF_load (.int .i64 j) Tryd.isAgg3 rfl rfl rfl (fun _ h => h.1) rfl ?_
      change AlongF _ _ _ _ _ _ _ { tmps := #[_, _, _, .pointer (some ⟨w.heap.size, 0, none⟩), _, _, .pointer (some ⟨w.heap.size + 1 + 1, 0, none⟩), .slice (some ⟨b, off, none⟩) r.length rc, _, _, _, _, _, _, _, _, _, _, _, _, _, _, _, _, _, _, _, _, _, _, _, _, _, .slice (some ⟨b, off, none⟩) r.length rc, .int .i64 j, _, _, _, _, _, _, _, _], defers := _ } _
      refine alongF_xor hxor rfl rfl rfl rfl rfl ?_
      change AlongF _ _ _ _ _ _ _ { tmps := #[_, _, _, .pointer (some ⟨w.heap.size, 0, none⟩), _, _, .pointer (some ⟨w.heap.size + 1 + 1, 0, none⟩), .slice (some ⟨b, off, none⟩) r.length rc, _, _, _, _, _, _, _, _, _, _, _, _, _, _, _, _, _, _, _, _, _, _, _, _, _, .slice (some ⟨b, off, none⟩) r.length rc, .int .i64 j, .int .i64 m, _, _, _, _, _, _, _], defers := _ } _
      refine alongF_index Tryd.underlying25 Tryd.sizeOf9 rfl rfl rfl rfl hnb rfl ?_
      change AlongF _ _ _ _ _ _ _ { tmps := #[_, _, _, .pointer (some ⟨w.heap.size, 0, none⟩), _, _, .pointer (some ⟨w.heap.size + 1 + 1, 0, none⟩), .slice (some ⟨b, off, none⟩) r.length rc, _, _, _, _, _, _, _, _, _, _, _, _, _, _, _, _, _, _, _, _, _, _, _, _, _, .slice (some ⟨b, off, none⟩) r.length rc, .int .i64 j, .int .i64 m, .pointer (some ⟨b, off + m, none⟩), _, _, _, _, _, _], defers := _ } _
      refine alongF_load (.string (strOfNums T)) Tryd.isAgg9 rfl rfl rfl (fun _ h => h.2) rfl ?_
      change AlongF _ _ _ _ _ _ _ { tmps := #[_, _, _, .pointer (some ⟨w.heap.size, 0, none⟩), _, _, .pointer (some ⟨w.heap.size + 1 + 1, 0, none⟩), .slice (some ⟨b, off, none⟩) r.length rc, _, _, _, _, _, _, _, _, _, _, _, _, _, _, _, _, _, _, _, _, _, _, _, _, _, .slice (some ⟨b, off, none⟩) r.length rc, .int .i64 j, .int .i64 m, .pointer (some ⟨b, off + m, none⟩), .string (strOfNums T), _, _, _, _, _], defers := _ } _
      have hS1 : (W.drew.alloc (.cells #[.string (strOfNums T)] 9)).cell? ⟨w.heap.size, 0, none⟩ = some (.int .i64 j) ∧ (W.drew.alloc (.cells #[.string (strOfNums T)] 9)).cell? ⟨b, off + m, none⟩ = some (.string (strOfNums T)) :=
        ⟨(hA.alloc (.cells #[.string (strOfNums T)] 9)).cell, (World.cell?_of_block (a := ⟨b, off + m, none⟩) (Below.heap_alloc W _ b hbl)).trans hcell⟩
      refine alongF_fork ?_ ?_
      · refine opF_load v Tryd.isAgg25 rfl rfl rfl hcv rfl ⟨hcA, hcell⟩ ?_
        change AlongF _ _ _ _ _ _ _ { tmps := #[_, _, _, .pointer (some ⟨w.heap.size, 0, none⟩), _, _, .pointer (some ⟨w.heap.size + 1 + 1, 0, none⟩), .slice (some ⟨b, off, none⟩) r.length rc, _, _, _, _, _, _, _, _, _, _, _, _, _, _, _, _, _, _, _, _, _, _, _, _, v, .slice (some ⟨b, off, none⟩) r.length rc, .int .i64 j, .int .i64 m, .pointer (some ⟨b, off + m, none⟩), .string (strOfNums T), _, _, _, _, _], defers := _ } _
        refine alongF_step (opF_one Tryd.underlying25 Tryd.sizeOf9 Tryd.zeroValue9 rfl rfl rfl rfl hS1 ?_)
        change AlongF _ _ _ _ _ _ _ { tmps := #[_, _, _, .pointer (some ⟨w.heap.size, 0, none⟩), _, _, .pointer (some ⟨w.heap.size + 1 + 1, 0, none⟩), .slice (some ⟨b, off, none⟩) r.length rc, _, _, _, _, _, _, _, _, _, _, _, _, _, _, _, _, _, _, _, _, _, _, _, _, v, .slice (some ⟨b, off, none⟩) r.length rc, .int .i64 j, .int .i64 m, .pointer (some ⟨b, off + m, none⟩), .string (strOfNums T), .slice (some ⟨W.drew.heap.size, 0, none⟩) 1 1, _, _, _, _], defers := _ } _
        refine alongF_step (opF_append rfl rfl rfl w.heap.size 9 i0 (.string ⟨#[]⟩) 1 16 Tryd.underlying25 hi hz0 hz1 hz2 rfl (by decide) v pre.length _ rfl (hrd.alloc _) ⟨W.drew.heap.size, 0, none⟩ 1 1 [.string (strOfNums T)] rfl rfl (cell_one_new _ _ _) (by simp [Value.oneCell']) (by unfold maxLen; omega) (by omega) (by have := hB.size; simp; omega) ?_)
        intro v' X hown' hgrow
        obtain ⟨g', cap', rfl⟩ := ownsRow_succ hown'
        obtain ⟨s1, s2, s3, s4, s5, s6, s7, s8, s9⟩ := path_step hv hrow hB.size (by omega) hA (by omega) hb1 hb3 hbl hown' hgrow
        refine ⟨⟨s6.cell, (World.cell?_of_block (a := ⟨b, off + m, none⟩) s8).trans hcell⟩, ?_⟩
        change AlongF _ _ _ _ _ _ _ { tmps := #[_, _, _, .pointer (some ⟨w.heap.size, 0, none⟩), _, _, .pointer (some ⟨w.heap.size + 1 + 1, 0, none⟩), .slice (some ⟨b, off, none⟩) r.length rc, _, _, _, _, _, _, _, _, _, _, _, _, _, _, _, _, _, _, _, _, _, _, _, _, v, .slice (some ⟨b, off, none⟩) r.length rc, .int .i64 j, .int .i64 m, .pointer (some ⟨b, off + m, none⟩), .string (strOfNums T), .slice (some ⟨W.drew.heap.size, 0, none⟩) 1 1, .slice (some ⟨g', 0, none⟩) (pre.length + 1) cap', _, _, _], defers := _ } _
        refine alongF_step (opF_store Tryd.sizeOf25 rfl rfl rfl rfl s1.cell s1.frozen rfl ⟨s7.cell, (World.cell?_of_block (a := ⟨b, off + m, none⟩) s9).trans hcell⟩ ?_)
        refine alongF_done ?_
        change Exit.then _ _ .normal { tmps := #[_, _, _, .pointer (some ⟨w.heap.size, 0, none⟩), _, _, .pointer (some ⟨w.heap.size + 1 + 1, 0, none⟩), .slice (some ⟨b, off, none⟩) r.length rc, _, _, _, _, _, _, _, _, _, _, _, _, _, _, _, _, _, _, _, _, _, _, _, _, v, .slice (some ⟨b, off, none⟩) r.length rc, .int .i64 j, .int .i64 m, .pointer (some ⟨b, off + m, none⟩), .string (strOfNums T), .slice (some ⟨W.drew.heap.size, 0, none⟩) 1 1, .slice (some ⟨g', 0, none⟩) (pre.length + 1) cap', _, _, _], defers := _ } _
        have hst3 := strs_block HS2.out s9
        have hB3 := hB.trans s5
        rw [← strVs_snoc, ← hup.out] at s3
        have hc3 := s7.cell
        have hf3 := s7.frozen
        clear s1 s6 s8 s9 hown' hgrow hcA hcv hcell hxor hS1
        gi_wp2
        refine ⟨s4.trans (KeepsOthers.setCell _ _ _), ?_, ⟨.slice (some ⟨g', 0, none⟩) (pre.length + 1) cap', ?_, ?_, trivial⟩, ?_, ?_, ?_⟩
        · exact strs_block hst3 (Below.heap_setCell _ _ _ b hb2)
        · exact s2.other (by omega) _
        · rw [List.length_append, List.length_singleton]
          exact s3.kept (grownBy_setCell' _ _ _) (.inr (fun e => (s7.not_row (by decide) s3) e.symm))
        · rw [List.length_append, List.length_singleton, ← hhalf.out]
          exact s7.set _
        · exact hB3.setCell (p := ⟨w.heap.size, 0, none⟩) (Nat.le_refl _) _
        · intro q hq
          rw [List.length_append, List.length_singleton] at hq
          by_cases e : q = pre.length
          · rw [e, ← Hr.out]; omega
          · exact HI.out q (by omega)
      · refine opF_one Tryd.underlying25 Tryd.sizeOf9 Tryd.zeroValue9 rfl rfl rfl rfl hS1 ?_
        change AlongF _ _ _ _ _ _ _ { tmps := #[_, _, _, .pointer (some ⟨w.heap.size, 0, none⟩), _, _, .pointer (some ⟨w.heap.size + 1 + 1, 0, none⟩), .slice (some ⟨b, off, none⟩) r.length rc, _, _, _, _, _, _, _, _, _, _, _, _, _, _, _, _, _, _, _, _, _, _, _, _, _, .slice (some ⟨b, off, none⟩) r.length rc, .int .i64 j, .int .i64 m, .pointer (some ⟨b, off + m, none⟩), .string (strOfNums T), .slice (some ⟨W.drew.heap.size, 0, none⟩) 1 1, _, _, _, _], defers := _ } _
        refine alongF_step (opF_load v Tryd.isAgg25 rfl rfl rfl (hv.alloc (.cells #[.string (strOfNums T)] 9)).cell rfl hS1 ?_)
        change AlongF _ _ _ _ _ _ _ { tmps := #[_, _, _, .pointer (some ⟨w.heap.size, 0, none⟩), _, _, .pointer (some ⟨w.heap.size + 1 + 1, 0, none⟩), .slice (some ⟨b, off, none⟩) r.length rc, _, _, _, _, _, _, _, _, _, _, _, _, _, _, _, _, _, _, _, _, _, _, _, _, v, .slice (some ⟨b, off, none⟩) r.length rc, .int .i64 j, .int .i64 m, .pointer (some ⟨b, off + m, none⟩), .string (strOfNums T), .slice (some ⟨W.drew.heap.size, 0, none⟩) 1 1, _, _, _, _], defers := _ } _
        refine alongF_step (opF_append rfl rfl rfl w.heap.size 9 i0 (.string ⟨#[]⟩) 1 16 Tryd.underlying25 hi hz0 hz1 hz2 rfl (by decide) v pre.length _ rfl (hrd.alloc _) ⟨W.drew.heap.size, 0, none⟩ 1 1 [.string (strOfNums T)] rfl rfl (cell_one_new _ _ _) (by simp [Value.oneCell']) (by unfold maxLen; omega) (by omega) (by have := hB.size; simp; omega) ?_)
        intro v' X hown' hgrow
        obtain ⟨g', cap', rfl⟩ := ownsRow_succ hown'
        obtain ⟨s1, s2, s3, s4, s5, s6, s7, s8, s9⟩ := path_step hv hrow hB.size (by omega) hA (by omega) hb1 hb3 hbl hown' hgrow
        refine ⟨⟨s6.cell, (World.cell?_of_block (a := ⟨b, off + m, none⟩) s8).trans hcell⟩, ?_⟩
        change AlongF _ _ _ _ _ _ _ { tmps := #[_, _, _, .pointer (some ⟨w.heap.size, 0, none⟩), _, _, .pointer (some ⟨w.heap.size + 1 + 1, 0, none⟩), .slice (some ⟨b, off, none⟩) r.length rc, _, _, _, _, _, _, _, _, _, _, _, _, _, _, _, _, _, _, _, _, _, _, _, _, v, .slice (some ⟨b, off, none⟩) r.length rc, .int .i64 j, .int .i64 m, .pointer (some ⟨b, off + m, none⟩), .string (strOfNums T), .slice (some ⟨W.drew.heap.size, 0, none⟩) 1 1, .slice (some ⟨g', 0, none⟩) (pre.length + 1) cap', _, _, _], defers := _ } _
        refine alongF_step (opF_store Tryd.sizeOf25 rfl rfl rfl rfl s1.cell s1.frozen rfl ⟨s7.cell, (World.cell?_of_block (a := ⟨b, off + m, none⟩) s9).trans hcell⟩ ?_)
        refine alongF_done ?_
        change Exit.then _ _ .normal { tmps := #[_, _, _, .pointer (some ⟨w.heap.size, 0, none⟩), _, _, .pointer (some ⟨w.heap.size + 1 + 1, 0, none⟩), .slice (some ⟨b, off, none⟩) r.length rc, _, _, _, _, _, _, _, _, _, _, _, _, _, _, _, _, _, _, _, _, _, _, _, _, v, .slice (some ⟨b, off, none⟩) r.length rc, .int .i64 j, .int .i64 m, .pointer (some ⟨b, off + m, none⟩), .string (strOfNums T), .slice (some ⟨W.drew.heap.size, 0, none⟩) 1 1, .slice (some ⟨g', 0, none⟩) (pre.length + 1) cap', _, _, _], defers := _ } _
        have hst3 := strs_block HS2.out s9
        have hB3 := hB.trans s5
        rw [← strVs_snoc, ← hup.out] at s3
        have hc3 := s7.cell
        have hf3 := s7.frozen
        clear s1 s6 s8 s9 hown' hgrow hcA hcv hcell hxor hS1
        gi_wp2
        refine ⟨s4.trans (KeepsOthers.setCell _ _ _), ?_, ⟨.slice (some ⟨g', 0, none⟩) (pre.length + 1) cap', ?_, ?_, trivial⟩, ?_, ?_, ?_⟩
        · exact strs_block hst3 (Below.heap_setCell _ _ _ b hb2)
        · exact s2.other (by omega) _
        · rw [List.length_append, List.length_singleton]
          exact s3.kept (grownBy_setCell' _ _ _) (.inr (fun e => (s7.not_row (by decide) s3) e.symm))
        · rw [List.length_append, List.length_singleton, ← hhalf.out]
          exact s7.set _
        · exact hB3.setCell (p := ⟨w.heap.size, 0, none⟩) (Nat.le_refl _) _
        · intro q hq
          rw [List.length_append, List.length_singleton] at hq
          by_cases e : q = pre.length
          · rw [e, ← Hr.out]; omega
          · exact HI.out q (by omega)
  case done =>
    rintro D ys W hD hall ⟨hv, hA, hB, hI⟩ hK
    exfalso
    rcases hall with ⟨h, _⟩ | ⟨K', h1, h2⟩
    · rw [h] at hat; simp at hat
    · have := hI K' (by omega); omega
  case stop =>
    rintro D c pre W hD ⟨rfl, ⟨v, hv, hrow, _⟩, hB⟩ hK
    have hc := hv.cell
    simp only [withMark]
    gi_wp2
    refine ⟨by simp, .inl ⟨_, _, rfl, run_takeDeferred hK, ?_⟩⟩
    refine ⟨_, results_tmp2 rfl _ _ _, v, rfl, ownsRow_putObj hrow (.deferred none) hK rfl, hB.trans (belowK_b (w := w) (Nat.le_refl _) W D _ _ (by omega) hK rfl rfl)⟩
end
end

/-
  Path, all ways; Climb.
-/
section
section
set_option linter.unusedVariables false
open Go.RowKit

theorem path_any (v : Value) (ls : List (List Int)) (at_ : Int) (w : World) (hs : Strs w v ls) (hf : Fits ls) (hl : ls.length ≤ 8796093022208) (hat : -9223372036854775808 ≤ at_ ∧ at_ ≤ 9223372036854775807) (hT : Tab64 w) :
    Calls Tryd.prog 37 #[v, .int .i64 at_] w fun e w' => ∃ r, e = .returned (.tuple #[r, .int .i64 (pathE ls at_)]) ∧ Strs w' r (pathR ls at_) ∧ Up w w' := by
  unfold pathE pathR
  by_cases hout : at_ < 0 ∨ (ls.length : Int) ≤ at_
  · rw [if_pos hout, if_pos hout]
    exact (path_out v ls at_ w hs hl hat hout).mono fun e w' ⟨h1, h2⟩ => ⟨_, h1, ⟨none, 0, rfl, Nat.le_refl _, fun _ => rfl, .inl rfl⟩, h2⟩
  · rw [if_neg hout, if_neg hout]
    obtain ⟨n, rfl⟩ : ∃ n : Nat, at_ = n := ⟨at_.toNat, by omega⟩
    by_cases hp : isPow ls.length
    · rw [if_pos hp, if_pos hp, Int.toNat_natCast]
      exact (path_pow v ls n _ w hs hf hl (isPow_log.1 hp) (by omega) hT).mono fun e w' ⟨r, h1, h2, h3⟩ => ⟨r, h1, Strs.of_row h2, h3⟩
    · rw [if_neg hp, if_neg hp]
      exact (path_odd v ls n w hs hl (by omega) (by omega) hp).mono fun e w' ⟨h1, h2⟩ => ⟨_, h1, ⟨none, 0, rfl, Nat.le_refl _, fun _ => rfl, .inl rfl⟩, h2⟩

end
end
end Go.Proofs.YtenhjjbbmmomaaaDoor
