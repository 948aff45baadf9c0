import Derived.Test.YtpofehagmpdgeaaDoorMk2
/-
  rows and its iterator.
-/
namespace Go.Proofs.YtpofehagmpdgeaaDoor
section
set_option linter.unusedVariables false
open Go.RowKit Go.Shelf
attribute [local go_sem] Oper.semAt_some

theorem rows_any (v : Value) (w : World) (hv : v.oneCell' = true) :
    Calls Tryd.prog 20 #[v] w fun e w' => e = .returned (.func (.func 28) #[] #[.pointer (some ⟨w.heap.size, 0, none⟩)]) ∧ w.alloc (.cells #[v] 22) = w' := by
  go_enter Tryd.func20, Tryd.ntmps20
  go_wp2
  go_ret
  exact ⟨rfl, rfl⟩

/-- what a slice reads from lies below n₀, or at n or beyond it -/
def Lies (n₀ n : Nat) (v : Value) : Prop := ∀ b, v.ownBlock = some b → b < n₀ ∨ n ≤ b
def rowLen : Value → Nat
  | .slice _ n _ => n
  | _ => 0
theorem strs_below {W : World} {v : Value} {ls : List (List Int)} (h : Strs W v ls) (h0 : 0 < ls.length) : ∀ b, v.ownBlock = some b → b < W.heap.size := by
  obtain ⟨a, cap, rfl, _, _, h3⟩ := h
  rcases h3 with rfl | ⟨b, off, rfl, hc⟩
  · simp at h0
  · intro b' hb
    obtain rfl : b = b' := by simpa [Value.ownBlock] using hb
    exact World.block_lt_of_cell? W _ (hc 0 h0)
theorem row_lies {W : World} {base n₀ : Nat} {e : TypeId} {v : Value} {n : Nat} {xs : List Value} (h : W.ownsRow base e 1 v n xs) : Lies n₀ base v := fun b hb => .inr (h.lt b hb).1

/-- what the rows' iterator says of a row that it hands over -/
def RowOk (ls : List (List Int)) (n₀ : Nat) (pre : List (Value × List (List Int))) (x : Value × List (List Int)) (n : Nat) (W : World) : Prop :=
  x.2 = upN ls pre.length ∧ 0 < x.2.length ∧ (∀ j, j < pre.length → 1 < (upN ls j).length) ∧ Lies n₀ n x.1 ∧ Strs W x.1 x.2
/-- what it says when all have come -/
def RowsAll (ls : List (List Int)) (xs : List (Value × List (List Int))) : Prop := (ls = [] ∧ xs = []) ∨ ∃ K, xs.length = K + 1 ∧ (upN ls K).length = 1
theorem RowOk.own {ls : List (List Int)} {n₀ B : Nat} (pre : List (Value × List (List Int))) (x : Value × List (List Int)) (n : Nat) : OwnFrom B (fun (_ : Unit) W => RowOk ls n₀ pre x n W) := by
  rintro s W W' row ⟨h1, h2, h3, h4, h5⟩ hg hr
  exact ⟨h1, h2, h3, h4, strs_own x.1 x.2 () W W' row h5 hg (fun r e => (hr r e).2)⟩

set_option maxRecDepth 100000 in
set_option maxHeartbeats 2000000 in
theorem rows_gives (v : Value) (ls : List (List Int)) (Bl n₀ : Nat) (w : World) (hw : boxAnd Bl v ls w) (hf : Fits ls) (hl : ls.length ≤ 8796093022208) (hn : 0 < ls.length → ∀ b, v.ownBlock = some b → b < n₀) :
    Gives Tryd.prog 28 #[.pointer (some ⟨Bl, 0, none⟩)] (fun x : Value × List (List Int) => x.1) (RowOk ls n₀) (fun x W => Strs W x.1 x.2) (RowsAll ls) w := by
  intro l J Jx W hWw hY0 hJ0
  have hY : ∀ pre W0 W1 rv r, J pre W0 → Up W0 W1 → r = upN ls pre.length → 0 < r.length → (∀ j, j < pre.length → 1 < (upN ls j).length) → Lies n₀ W0.heap.size rv → Strs W1 rv r →
      YieldAt Fence.wide 1 Tryd.prog l #[rv] W1 (TwoWays (fun W' => J (pre ++ [(rv, r)]) W' ∧ Strs W' rv r) (fun W' => Jx (pre ++ [(rv, r)]) W')) := by
    intro pre W0 W1 rv r hj hu h1 h2 h3 h4 h5
    exact YieldAt.mono (hY0 pre (rv, r) W0 W1 hj hu ⟨h1, h2, h3, h4, h5⟩) fun e W' h => TwoWays.of h
  have HY := Lib.hid hY
  have HW := Lib.hid (hw.up hWw)
  have HF := Lib.hid hf
  have HJ := Lib.hid hJ0
  have Hn := Lib.hid hn
  obtain ⟨a, cap, rfl, hcap, _, _⟩ := id (hw.up hWw).2
  clear hY0 hY hWw hw hf hJ0 hn
  refine callsIn_of_wp Tryd.func28 rfl trivial ?_ rfl
  simp only [Tryd.ntmps28, List.size_toArray, List.length_cons, List.length_nil, Nat.reduceAdd, Nat.reduceSub, Array.replicate_succ, Array.replicate_zero, List.push_toArray, List.append_toArray, List.nil_append, List.cons_append]
  have c0 := HW.out.1.cell
  gi_wp2
  clear c0
  gi_loopw [3] (fun rv wr => ∃ (pre : List (Value × List (List Int))) (W0 : World), J pre W0 ∧ Up W0 wr ∧ Strs wr rv (upN ls pre.length) ∧ (∀ j, j < pre.length → 1 < (upN ls j).length) ∧ (0 < ls.length → Lies n₀ W0.heap.size rv))
    (fun rv _ => rowLen rv)
  case atStart => exact ⟨[], W, HJ.out, Up.refl W, HW.out.2, fun j hj => by simp at hj, fun h b hb => .inl (Hn.out h b hb)⟩
  case round =>
    obtain ⟨pre, W0, hJ, hU, hS, hall, hlies⟩ := hrel
    have hle := upN_le ls pre.length
    have hr0 : 0 < (upN ls pre.length).length → 0 < ls.length := fun h => by omega
    have Hr0 := Lib.hid hr0
    have Hall := Lib.hid hall
    have Hlies := Lib.hid hlies
    have HJp := Lib.hid hJ
    have HU := Lib.hid hU
    have HS := Lib.hid hS
    have HFr := Lib.hid (HF.out.upN pre.length)
    have hup : upB (upN ls pre.length) = upN ls (pre.length + 1) := rfl
    have Hup := Lib.hid hup
    have hr : ∃ r, r = upN ls pre.length := ⟨_, rfl⟩
    obtain ⟨r, hr⟩ := hr
    rw [← hr] at HS HFr Hup hle Hr0
    have Hr := Lib.hid hr
    obtain ⟨ra, rc, rfl, hrc, _, hrcell⟩ := id HS.out
    clear hJ hU hS hall hlies hup hr hr0
    by_cases h1 : 1 < r.length
    · rcases hrcell with hx | ⟨b, off, rfl, _⟩
      · rw [hx] at h1; simp at h1
      have hy := HY.out pre W0 wr _ r HJp.out HU.out Hr.out (by omega) Hall.out (Hlies.out (Hr0.out (by omega))) HS.out
      obtain ⟨fnY, tmY, asY, bdY, hyr, hR⟩ := hy
      gi_wp2
      refine RoundIn.mono hR ?_
      intro e w3 hTW
      obtain ⟨bb, rfl, hT, hF⟩ := hTW
      clear hyr hR
      cases bb
      · have hx := hF rfl
        clear hT hF
        gi_wp2
        refine bodyPost_ret (results_none rfl _ _ _) rfl ?_
        exact ⟨⟨_, rfl⟩, .inr ⟨_, _, hx, Up.refl _⟩⟩
      · have hx := hT rfl
        have HX := Lib.hid hx
        have Hu := Lib.hid (up_any _ r w3 hx.2 HFr.out (by omega))
        clear hT hF hx
        gi_wp2_with (refine ⟨trivial, ?_⟩; gi_at_call 10; refine CallsIn.mono (callsIn_wide.2 Hu.out) ?_; rintro e w4 ⟨r4, rfl, hr4, hU4⟩)
        go_roundw
        case rel =>
          refine ⟨pre ++ [(_, r)], w3, HX.out.1, hU4, ?_, ?_, fun _ => row_lies hr4⟩
          · rw [List.length_append, List.length_singleton, ← Hup.out]; exact Strs.of_row hr4
          · intro j hj
            rw [List.length_append, List.length_singleton] at hj
            by_cases e : j = pre.length
            · rw [e, ← Hr.out]; exact h1
            · exact Hall.out j (by omega)
        case measure =>
          have hl4 := upB_length r
          obtain ⟨a4, c4, e4, _⟩ := Strs.of_row hr4
          subst e4
          simp [rowLen]; omega
    · by_cases h2 : r.length = 1
      · rcases hrcell with hx | ⟨b, off, rfl, _⟩
        · rw [hx] at h2; simp at h2
        have hy := HY.out pre W0 wr _ r HJp.out HU.out Hr.out (by omega) Hall.out (Hlies.out (Hr0.out (by omega))) HS.out
        obtain ⟨fnY, tmY, asY, bdY, hyr, hR⟩ := hy
        rw [h2] at hyr ⊢
        gi_wp2
        refine RoundIn.mono hR ?_
        intro e w3 hTW
        obtain ⟨bb, rfl, hT, hF⟩ := hTW
        clear hyr hR
        gi_wp2
        go_end0
        cases bb
        · exact ⟨⟨_, rfl⟩, .inr ⟨_, _, hF rfl, Up.refl _⟩⟩
        · refine ⟨⟨_, rfl⟩, .inl ⟨_, _, .inr ⟨pre.length, by simp, ?_⟩, (hT rfl).1, Up.refl _⟩⟩
          rw [← Hr.out]; exact h2
      · have h0 : r.length = 0 := by omega
        have hls : Hid (ls = [] ∧ pre = []) := by
          show _ ∧ _
          have e0 : ls = [] := by
            rcases Nat.eq_zero_or_pos ls.length with e | e
            · exact List.eq_nil_of_length_eq_zero e
            · have := upN_pos ls e pre.length; rw [← Hr.out] at this; omega
          refine ⟨e0, ?_⟩
          rcases Nat.eq_zero_or_pos pre.length with e | e
          · exact List.eq_nil_of_length_eq_zero e
          · have := Hall.out 0 e; rw [e0] at this; simp [upN] at this
        gi_wp2
        go_end0
        have hj := HJp.out
        exact ⟨⟨_, rfl⟩, .inl ⟨_, _, .inl hls.out, hj, HU.out⟩⟩
end
end Go.Proofs.YtpofehagmpdgeaaDoor
