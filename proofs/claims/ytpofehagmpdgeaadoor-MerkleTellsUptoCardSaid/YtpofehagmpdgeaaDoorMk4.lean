import Derived.Test.YtpofehagmpdgeaaDoorMk3
/-
  Root.
-/
namespace Go.Proofs.YtpofehagmpdgeaaDoor
section
set_option linter.unusedVariables false
open Go.RowKit Go.Shelf
attribute [local go_sem] Oper.semAt_some

/-- a result that lies in a cell of its own: a string -/
theorem results_cell_str {fn : Func} {p : Tmp} (h : fn.results = #[.cell p 9]) (tmps : Array Value) (w : World) (B : Nat) (v : Value) (hp : tmps.getD p undef = .pointer (some ⟨B, 0, none⟩)) (hc : w.cell? ⟨B, 0, none⟩ = some v) :
    (results fn tmps).run Tryd.prog w = .ok v w := by
  have hp' : tmps[p]?.getD undef = .pointer (some ⟨B, 0, none⟩) := by simpa using hp
  simp [results, h, hp', asAddr, loadVar, hc, go_sem]

/-- between two rounds of Root's loop -/
def RootI (n₀ B : Nat) (ls : List (List Int)) (w : World) (pre : List (Value × List (List Int))) (W : World) : Prop :=
  Boxed W B 9 (.string ⟨#[]⟩) ∧ Below n₀ w W ∧ ∀ j, j < pre.length → ¬ (upN ls j).length = 1
def RootX (n₀ B : Nat) (ls : List (List Int)) (w : World) (c : Code) (pre : List (Value × List (List Int))) (W : World) : Prop :=
  c = .ret ∧ Boxed W B 9 (.string (strOfNums (rootB ls))) ∧ Below n₀ w W

set_option maxRecDepth 100000 in
set_option maxHeartbeats 2000000 in
theorem root_any (v : Value) (ls : List (List Int)) (w : World) (hs : Strs w v ls) (hf : Fits ls) (hl : ls.length ≤ 8796093022208) :
    Calls Tryd.prog 12 #[v] w fun e w' => e = .returned (.string (strOfNums (rootB ls))) ∧ Up w w' := by
  refine (callsIn_wide (n := 3)).1 ?_
  obtain ⟨a, cap, rfl, hcap, _, _⟩ := id hs
  have HS := Lib.hid hs
  have HF := Lib.hid hf
  clear hs hf
  refine callsIn_of_wp_marks Tryd.func12 rfl trivial ?_ rfl
  simp only [Tryd.ntmps12, List.size_toArray, List.length_cons, List.length_nil, Nat.reduceAdd, Nat.reduceSub, Array.replicate_succ, Array.replicate_zero, List.push_toArray, List.append_toArray, List.nil_append, List.cons_append]
  gi_wp2_with (refine ⟨trivial, ?_⟩; gi_at_call 20; refine CallsIn.mono (callsIn_wide.2 (rows_any _ _ rfl)) ?_; rintro e w' ⟨rfl, rfl⟩)
  have bO := (Boxed.new w 9 (.string ⟨#[]⟩)).alloc (.cells #[.slice a ls.length cap] 22)
  have bL := Boxed.new (w.alloc (.cells #[.string ⟨#[]⟩] 9)) 22 (.slice a ls.length cap)
  simp only [World.size_alloc] at bL
  have hU0 : Up w ((w.alloc (.cells #[.string ⟨#[]⟩] 9)).alloc (.cells #[.slice a ls.length cap] 22)) := Up.alloc (Up.alloc (Up.refl w) _) _
  have hA0 : boxAnd (w.heap.size + 1) (.slice a ls.length cap) ls ((w.alloc (.cells #[.string ⟨#[]⟩] 9)).alloc (.cells #[.slice a ls.length cap] 22)) := ⟨bL, HS.out.up hU0⟩
  have hsz : ((w.alloc (.cells #[.string ⟨#[]⟩] 9)).alloc (.cells #[.slice a ls.length cap] 22)).heap.size = w.heap.size + 2 := by simp
  have hGv := rows_gives (.slice a ls.length cap) ls (w.heap.size + 1) w.heap.size _ hA0 HF.out hl (strs_below HS.out)
  have h0 : RootI w.heap.size w.heap.size ls w [] ((w.alloc (.cells #[.string ⟨#[]⟩] 9)).alloc (.cells #[.slice a ls.length cap] 22)) := ⟨bO, hU0, fun j hj => by simp at hj⟩
  generalize ((w.alloc (.cells #[.string ⟨#[]⟩] 9)).alloc (.cells #[.slice a ls.length cap] 22)) = w1 at hGv h0 hsz ⊢
  clear bO bL hU0 hA0
  refine wpIn_over (gf := 28) (lb := #[.pointer (some ⟨w.heap.size + 1, 0, none⟩)]) rfl (enters_of Tryd.func28 (by kernel_rfl) rfl) hGv rfl
    (fun pre x n => RowOk.own pre x n) (fun x => Own.from (strs_own _ _) _)
    (RootI w.heap.size w.heap.size ls w) (RootX w.heap.size w.heap.size ls w)
    (OwnFrom.and (Own.from (boxed_own _ _ (fun _ => .string ⟨#[]⟩)) _) (OwnFrom.and (ownFrom_below (Nat.le_refl _) (by omega)) (ownFrom_pure _ (fun pre : List (Value × List (List Int)) => ∀ j, j < pre.length → ¬ (upN ls j).length = 1))))
    (fun c => OwnFrom.and (ownFrom_pure _ (fun _ : List (Value × List (List Int)) => c = .ret)) (OwnFrom.and (Own.from (boxed_own _ _ (fun _ => .string (strOfNums (rootB ls)))) _) (ownFrom_below (Nat.le_refl _) (by omega)))) h0 ?act0 ?assign ?body ?done ?stop
  case assign =>
    intro l x W K hK
    gi_wp2
    exact hK
  case body =>
    rintro l pre ⟨rv, r⟩ W0 W hl _ _ _ ⟨hv, hB, hI⟩ ⟨hr, h0, hall, hlies, hst⟩
    replace hr : r = upN ls pre.length := hr
    replace h0 : 0 < r.length := h0
    replace hst : Strs W rv r := hst
    have HS2 := Lib.hid hst
    obtain ⟨ra, rc, rfl, hrc, _, hrcell⟩ := hst
    rcases hrcell with hx | ⟨b, off, rfl, hc⟩
    · rw [hx] at h0; simp at h0
    have Hr := Lib.hid hr
    have HI := Lib.hid hI
    clear hr hlies hall hI
    by_cases h1 : r.length = 1
    · have hc0 := hc 0 (by omega)
      have hroot : Hid (r[0]?.getD [] = rootB ls) := by
        show _ = _
        have := Hr.out
        subst this
        exact root_at ls _ h1
      rw [hroot.out, Nat.add_zero] at hc0
      have H1 := Lib.hid h1
      clear hc
      have hc1 := hv.cell
      have hf1 := hv.frozen
      have i1 : ((r.length : Int) == 1) = true := by rw [h1]; rfl
      gi_wp2
      exact ⟨KeepsOthers.setCell _ _ _, rfl, hv.set _, hB.setCell (p := ⟨w.heap.size, 0, none⟩) (Nat.le_refl _) _⟩
    · clear hc
      gi_wp2
      refine ⟨KeepsOthers.refl _, HS2.out, hv, hB, fun j hj => ?_⟩
      rw [List.length_append, List.length_singleton] at hj
      by_cases e : j = pre.length
      · rw [e, ← Hr.out]; exact h1
      · exact HI.out j (by omega)
  case done =>
    rintro D ys W hD hall ⟨hv, hB, hI⟩ hK
    have hls : ls = [] := by
      rcases hall with ⟨h, _⟩ | ⟨K, h1, h2⟩
      · exact h
      · exact absurd h2 (hI K (by omega))
    have hroot : Hid (strOfNums (rootB ls) = ⟨#[]⟩) := by show _ = _; rw [hls]; rfl
    have hc := hv.cell
    have hf1 := hv.frozen
    clear hall hI hls
    simp only [withMark]
    gi_wp2
    have hK2 := (KeepsOthers.setCell W ⟨w.heap.size, 0, none⟩ (.string ⟨#[]⟩)).same D _ hK rfl
    refine ⟨by simp, .inl ⟨_, _, rfl, run_takeDeferred hK2, ?_⟩⟩
    have hv3 := ((hv.set (.string ⟨#[]⟩)).kept (grownBy_putObj' _ D (.deferred none)) (by simp; omega))
    refine ⟨_, results_cell_str rfl _ _ _ _ rfl hv3.cell, by rw [hroot.out], ?_⟩
    exact (hB.setCell (p := ⟨w.heap.size, 0, none⟩) (Nat.le_refl _) _).trans (belowK_b (w := w) (Nat.le_refl _) _ D _ _ (by omega) hK2 rfl rfl)
  case stop =>
    rintro D c pre W hD ⟨rfl, hv, hB⟩ hK
    simp only [withMark]
    gi_wp2
    refine ⟨by simp, .inl ⟨_, _, rfl, run_takeDeferred hK, ?_⟩⟩
    have hv3 := (hv.kept (grownBy_putObj' _ D (.deferred none)) (by simp; omega))
    refine ⟨_, results_cell_str rfl _ _ _ _ rfl hv3.cell, rfl, ?_⟩
    exact hB.trans (belowK_b (w := w) (Nat.le_refl _) _ D _ _ (by omega) hK rfl rfl)
end
end Go.Proofs.YtpofehagmpdgeaaDoor
