import Derived.Test.YtpofehagmpdgeaaDoorMk1
/-
  Up.
-/
namespace Go.Proofs.YtpofehagmpdgeaaDoor
section
set_option linter.unusedVariables false
open Go.RowKit Go.Shelf
attribute [local go_sem] Oper.semAt_some

theorem strs_own {β : Type} (v : Value) (ls : List (List Int)) : Own (fun (_ : β) W => Strs W v ls) := by
  rintro _ W W' row ⟨a, cap, rfl, h1, h2, h3⟩ hg hr
  refine ⟨a, cap, rfl, h1, h2, h3.imp id ?_⟩
  rintro ⟨b, off, rfl, hc⟩
  exact ⟨b, off, rfl, fun j hj => cell_kept (hc j hj) hg hr⟩
theorem boxAnd_own {β : Type} (Bl : Nat) (v : Value) (ls : List (List Int)) : Own (fun (_ : β) W => boxAnd Bl v ls W) := fun s W W' row h hg hr =>
  ⟨boxed_own Bl 22 (fun (_ : β) => v) s W W' row h.1 hg hr, strs_own v ls s W W' row h.2 hg hr⟩
theorem make_strsB (K : Int) (k : Nat) (hK : K = k) (hk : k ≤ 8796093022208) (u : World) : (Instr.makeSlice 22 (.int .i64 0) (.int .i64 K)).run Tryd.prog u =
      .ok (.slice (some ⟨u.heap.size, 0, none⟩) 0 k) (u.alloc (.cells (madeCells #[.string ⟨#[]⟩] k) 9)) := by
  subst hK
  obtain ⟨i0, hi, hz0, hz1, hz2⟩ := info_parts info_strg
  have h := run_make (P := Tryd.prog) u 22 9 i0 (.string ⟨#[]⟩) Tryd.underlying22 hi hz0 .i64 .i64 0 (k : Int) (by omega) (by omega) (by rw [hz2]; omega) (by omega)
  simpa [hz1, Value.cells] using h

/-- BETWEEN TWO ROUNDS OF A LOOP THAT COLLECTS TEXTS. -/
def CollT (n₀ B Bl : Nat) (lv : Value) (ls : List (List Int)) (w : World) (pre : List (List Int)) (W : World) : Prop :=
  (∃ v, Boxed W B 22 v ∧ W.ownsRow n₀ 9 1 v pre.length (strVs pre) ∧ True) ∧ Below n₀ w W ∧ boxAnd Bl lv ls W
theorem CollT.own {n₀ B Bl : Nat} {lv : Value} {ls : List (List Int)} {w : World} {D : Nat} (h1 : n₀ ≤ w.heap.size) (h2 : n₀ ≤ D) : OwnFrom D (CollT n₀ B Bl lv ls w) :=
  OwnFrom.and (Own.from (holdsRow_own n₀ B 22 9 1 (fun pre => pre.length) (fun pre => strVs pre) (fun _ _ => True)) _)
    (OwnFrom.and (ownFrom_below h1 h2) (Own.from (boxAnd_own Bl lv ls) _))
/-- one round's append: what the walk owes -/
theorem CollT.step {B Bl : Nat} {lv : Value} {ls : List (List Int)} {w : World} {pre : List (List Int)} {W w1 : World} {v v' : Value} {tmp : Obj} {x : List Int}
    (hv : Boxed W B 22 v) (hrow : W.ownsRow w.heap.size 9 1 v pre.length (strVs pre)) (hB : Below w.heap.size w W) (hle : w.heap.size ≤ B)
    (hl : boxAnd Bl lv ls W) (hs : Strs w lv ls) (hne : Bl ≠ B)
    (hown : w1.ownsRow w.heap.size 9 1 v' (pre.length + 1) (strVs pre ++ [.string (strOfNums x)])) (hgrow : (W.alloc tmp).grownBy w1 v.ownBlock) :
    Boxed w1 B 22 v ∧ KeepsOthers W (w1.setCell ⟨B, 0, none⟩ v') ∧ boxAnd Bl lv ls (w1.setCell ⟨B, 0, none⟩ v') ∧ CollT w.heap.size B Bl lv ls w (pre ++ [x]) (w1.setCell ⟨B, 0, none⟩ v') := by
  obtain ⟨hv1, hv2, hr2, hk2, hb2⟩ := hv.appended (by decide) hrow hB.size hle hown hgrow
  have hl1 : Boxed (w1.setCell ⟨B, 0, none⟩ v') Bl 22 lv := ((hl.1.alloc tmp).kept hgrow (hl.1.not_row (by decide) hrow)).other hne v'
  have hbA : boxAnd Bl lv ls (w1.setCell ⟨B, 0, none⟩ v') := ⟨hl1, hs.kept (hB.trans hb2)⟩
  refine ⟨hv1, hk2, hbA, ⟨v', hv2, ?_, trivial⟩, hB.trans hb2, hbA⟩
  rw [List.length_append, strVs_snoc]; exact hr2

set_option maxRecDepth 100000 in
set_option maxHeartbeats 2000000 in
theorem up_any (v : Value) (ls : List (List Int)) (w : World) (hs : Strs w v ls) (hf : Fits ls) (hl : ls.length ≤ 8796093022208) :
    Calls Tryd.prog 10 #[v] w fun e w' => ∃ r, e = .returned r ∧ w'.ownsRow w.heap.size 9 1 r (upB ls).length (strVs (upB ls)) ∧ Up w w' := by
  obtain ⟨i0, hi, hz0, hz1, hz2⟩ := info_parts info_strg
  refine (callsIn_wide (n := 3)).1 ?_
  obtain ⟨a, cap, rfl, hcap, _, _⟩ := id hs
  have HS := Lib.hid hs
  have HF := Lib.hid hf
  obtain ⟨M, hM⟩ : ∃ M : Nat, ls.length - ls.length / 2 = M := ⟨_, rfl⟩
  have hmk := make_strsB ((ls.length : Int) - (ls.length : Int) / 2) M (by omega) (by omega)
  have hM2 : M ≤ 8796093022208 := by omega
  have HM := Lib.hid hM
  clear hs hf hM
  refine callsIn_of_wp_marks Tryd.func10 rfl trivial ?_ rfl
  simp only [Tryd.ntmps10, List.size_toArray, List.length_cons, List.length_nil, Nat.reduceAdd, Nat.reduceSub, Array.replicate_succ, Array.replicate_zero, List.push_toArray, List.append_toArray, List.nil_append, List.cons_append]
  gi_wp2_with (refine ⟨trivial, ?_⟩; gi_at_call 21; refine CallsIn.mono (callsIn_wide.2 (above_any _ _ rfl)) ?_; rintro e w' ⟨rfl, rfl⟩)
  clear hmk
  have r0 := ((World.ownsRow_made (base := w.heap.size) (e := 9) (size := 1) w (madeCells #[.string ⟨#[]⟩] M) M (Nat.le_refl _) (by unfold maxLen; omega) (by first | (rw [size_madeCells]; done) | (rw [size_madeCells]; omega))).alloc (.cells #[.slice (some ⟨w.heap.size, 0, none⟩) 0 M] 22)).alloc (.cells #[.slice a ls.length cap] 22)
  have bO := Boxed.new (w.alloc (.cells (madeCells #[Value.string ⟨#[]⟩] M) 9)) 22 (.slice (some ⟨w.heap.size, 0, none⟩) 0 M)
  have bL := Boxed.new ((w.alloc (.cells (madeCells #[Value.string ⟨#[]⟩] M) 9)).alloc (.cells #[.slice (some ⟨w.heap.size, 0, none⟩) 0 M] 22)) 22 (.slice a ls.length cap)
  simp only [World.size_alloc] at bO bL
  have bO := bO.alloc (.cells #[.slice a ls.length cap] 22)
  have hU0 : Up w (((w.alloc (.cells (madeCells #[Value.string ⟨#[]⟩] M) 9)).alloc (.cells #[.slice (some ⟨w.heap.size, 0, none⟩) 0 M] 22)).alloc (.cells #[.slice a ls.length cap] 22)) :=
    Up.alloc (Up.alloc (Up.alloc (Up.refl w) _) _) _
  have hA0 : boxAnd (w.heap.size + 1 + 1) (.slice a ls.length cap) ls (((w.alloc (.cells (madeCells #[Value.string ⟨#[]⟩] M) 9)).alloc (.cells #[.slice (some ⟨w.heap.size, 0, none⟩) 0 M] 22)).alloc (.cells #[.slice a ls.length cap] 22)) := ⟨bL, HS.out.up hU0⟩
  have hsz : (((w.alloc (.cells (madeCells #[Value.string ⟨#[]⟩] M) 9)).alloc (.cells #[.slice (some ⟨w.heap.size, 0, none⟩) 0 M] 22)).alloc (.cells #[.slice a ls.length cap] 22)).heap.size = w.heap.size + 3 := by simp
  have hGv := above_gives (.slice a ls.length cap) ls (w.heap.size + 1 + 1) _ hA0 HF.out (by unfold maxLen; omega)
  have h0 : CollT w.heap.size (w.heap.size + 1) (w.heap.size + 1 + 1) (.slice a ls.length cap) ls w [] (((w.alloc (.cells (madeCells #[Value.string ⟨#[]⟩] M) 9)).alloc (.cells #[.slice (some ⟨w.heap.size, 0, none⟩) 0 M] 22)).alloc (.cells #[.slice a ls.length cap] 22)) := ⟨⟨_, bO, r0, trivial⟩, hU0, hA0⟩
  generalize (((w.alloc (.cells (madeCells #[Value.string ⟨#[]⟩] M) 9)).alloc (.cells #[.slice (some ⟨w.heap.size, 0, none⟩) 0 M] 22)).alloc (.cells #[.slice a ls.length cap] 22)) = w1 at hGv h0 hsz ⊢
  clear r0 bO bL hU0 hA0
  refine wpIn_over (gf := 29) (lb := #[.pointer (some ⟨w.heap.size + 1 + 1, 0, none⟩)]) rfl (enters_of Tryd.func29 (by kernel_rfl) rfl) hGv rfl
    (fun pre x n => ownFrom_pure (β := Unit) _ (fun _ => x = cellB ls pre.length ∧ pre.length < (ls.length + 1) / 2)) (fun x => Own.from (boxAnd_own _ _ _) _)
    (CollT w.heap.size (w.heap.size + 1) (w.heap.size + 1 + 1) (.slice a ls.length cap) ls w) (fun _ _ _ => False)
    (CollT.own (Nat.le_refl _) (by omega)) (fun _ _ _ _ _ hs _ _ => hs) h0 ?act0 ?assign ?body ?done ?stop
  case assign =>
    intro l x W K hK
    gi_wp2
    exact hK
  case body =>
    rintro l pre x W0 W hl _ _ _ ⟨⟨v, hv, hrow, _⟩, hB, hA⟩ ⟨rfl, hlt⟩
    have hlt : pre.length < 8796093022208 := by omega
    have hc := hv.cell
    have HA := Lib.hid hA
    clear hA
    gi_wp2_with (gi_at_builtin; refine wpListIn_append_own _ rfl _ _ 22 rfl w.heap.size 9 i0 (.string ⟨#[]⟩) 1 16 Tryd.underlying22 hi hz0 hz1 hz2 rfl (by decide) _ _ _ rfl (hrow.alloc _) ⟨W.heap.size, 0, none⟩ 1 1 [.string (strOfNums (cellB ls pre.length))] rfl rfl (cell_one_new _ _ _) (by simp [Value.oneCell']) (by unfold maxLen; omega) (by omega) (by have := hB.size; simp; omega) ?_; intro v' w1 hown' hgrow _; obtain ⟨g', cap', rfl⟩ := ownsRow_succ hown'; obtain ⟨hv1, hk2, hA2, hcoll⟩ := CollT.step hv hrow hB (by omega) HA.out HS.out (by omega) hown' hgrow; have hc1 := hv1.cell; have hf1 := hv1.frozen)
    exact ⟨hk2, hA2, hcoll⟩
  case done =>
    rintro D ys W hD rfl ⟨⟨v, hv, hrow, _⟩, hB, hA⟩ hK
    have hc := hv.cell
    simp only [withMark]
    gi_wp2
    refine ⟨by simp, .inl ⟨_, _, rfl, run_takeDeferred hK, ?_⟩⟩
    refine ⟨_, results_tmp rfl _ _ _, v, rfl, ownsRow_putObj hrow (.deferred none) hK rfl, hB.trans (belowK_b (w := w) (Nat.le_refl _) W D _ _ (by omega) hK rfl rfl)⟩
  case stop =>
    rintro D c pre W _ h _
    exact h.elim
end
end Go.Proofs.YtpofehagmpdgeaaDoor
