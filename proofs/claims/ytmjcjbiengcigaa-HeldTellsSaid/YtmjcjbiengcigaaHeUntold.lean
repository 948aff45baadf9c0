import Derived.Test.YtmjcjbiengcigaaHeld
/-
  held: what is not told yet, gone through.
-/
namespace Go.Proofs.Ytmjcjbiengcigaa
set_option maxRecDepth 100000
section
set_option linter.unusedVariables false
open Go.RowKit Go.Shelf
attribute [local go_sem] Oper.semAt_some

/-- n reports from the k-th on -/
def upF (k n : Nat) : List Int := (List.range' k n).map fun i => (2 : Int) ^ i
/-- what is not told yet -/
def unL (B : ByteArray) (T : Int) : List Int := if runs B = true ∧ 0 ≤ T then upF T.toNat (7 - T.toNat) else []
theorem upF_succ (k n : Nat) : upF k (n + 1) = (2 : Int) ^ k :: upF (k + 1) n := by simp [upF, List.range'_succ]
theorem upF_snoc (k n : Nat) : upF k (n + 1) = upF k n ++ [(2 : Int) ^ (k + n)] := by simp [upF, List.range'_concat]
theorem upF_length (k n : Nat) : (upF k n).length = n := by simp [upF]
theorem upF_cut (k n m : Nat) : upF k (n + m) = upF k n ++ upF (k + n) m := by
  induction m with
  | zero => simp [upF]
  | succ m ih => rw [← Nat.add_assoc, upF_snoc, ih, upF_snoc, List.append_assoc, Nat.add_assoc]
set_option maxHeartbeats 2000000 in
theorem untold_gives (V H : Int) (B : ByteArray) (S T : Int) (Bl : Nat) (w : World) (hT : T ≤ 9223372036854775807) (hb : w.heap[Bl]? = some (.cells (heC V H B S T) 25 (0, 0))) :
    Gives Try.prog 14 #[.pointer (some ⟨Bl, 0, none⟩)] (fun x : Int => Value.int .i64 x) (fun pre x _ _ => ∃ rest, unL B T = pre ++ x :: rest) (fun _ _ => True) (fun xs => xs = unL B T) w := by
  intro l J Jx W hWw hY0 hJ0
  have hY : ∀ pre W0 W1 r, J pre W0 → Up W0 W1 → (∃ rest, unL B T = pre ++ r :: rest) →
      YieldAt Fence.wide 1 Try.prog l #[.int .i64 r] W1 (TwoWays (fun W' => J (pre ++ [r]) W') (fun W' => Jx (pre ++ [r]) W')) := by
    intro pre W0 W1 r hj hu h1
    exact YieldAt.mono (hY0 pre r W0 W1 hj hu h1) fun e W' h => by
      rcases h with ⟨rfl, h1, _⟩ | ⟨rfl, h2⟩
      · exact ⟨true, rfl, fun _ => h1, fun h => (by cases h)⟩
      · exact ⟨false, rfl, fun h => (by cases h), fun _ => h2⟩
  have HY := Lib.hid hY
  have HJ := Lib.hid hJ0
  have hrow : W.heap[Bl]? = some (.cells (heC V H B S T) 25 (0, 0)) := (hWw.block Bl (lt_of_block hb)).trans hb
  obtain ⟨_, _, _, _, c4⟩ := tx_cells hrow
  have HRow := Lib.hid hrow
  have HR := Lib.hid (fun wx => running_any V H B S T wx)
  clear hY0 hY hJ0 hb hWw hrow
  obtain ⟨R, hR⟩ : ∃ R, runs B = R := ⟨_, rfl⟩
  rw [hR] at HR
  refine callsIn_of_wp Try.func14 rfl trivial ?_ rfl
  simp only [Try.ntmps14, List.size_toArray, List.length_cons, List.length_nil, Nat.reduceAdd, Nat.reduceSub, Array.replicate_succ, Array.replicate_zero, List.push_toArray, List.append_toArray, List.nil_append, List.cons_append]
  cases R with
  | false =>
    have hun : [] = unL B T := by unfold unL; rw [if_neg (fun h => by rw [hR] at h; cases h.1)]
    gi_wp2_with (refine ⟨trivial, ?_⟩; gi_at_call 9; refine CallsIn.mono (callsIn_wide.2 (HR.out _)) ?_; rintro e w2 ⟨rfl, hU⟩)
    refine bodyPost_ret (results_none rfl _ _ _) rfl ?_
    exact ⟨⟨_, rfl⟩, .inl ⟨[], W, hun, HJ.out, hU⟩⟩
  | true =>
    by_cases h0 : T < 0
    · have hun : [] = unL B T := by unfold unL; rw [if_neg (fun h => by omega)]
      gi_wp2_with (refine ⟨trivial, ?_⟩; gi_at_call 9; refine CallsIn.mono (callsIn_wide.2 (HR.out _)) ?_; rintro e w2 ⟨rfl, hU⟩; have c4' := later_cellF c4 hU)
      refine bodyPost_ret (results_none rfl _ _ _) rfl ?_
      exact ⟨⟨_, rfl⟩, .inl ⟨[], W, hun, HJ.out, hU⟩⟩
    · have hun : unL B T = upF T.toNat (7 - T.toNat) := by unfold unL; rw [if_pos ⟨hR, by omega⟩]
      obtain ⟨t, rfl⟩ : ∃ t : Nat, T = t := ⟨T.toNat, by omega⟩
      rw [Int.toNat_natCast] at hun
      have Hun := Lib.hid hun
      clear hun
      gi_wp2_with (refine ⟨trivial, ?_⟩; gi_at_call 9; refine CallsIn.mono (callsIn_wide.2 (HR.out _)) ?_; rintro e w2 ⟨rfl, hU⟩; have c4' := later_cellF c4 hU)
      have HU := Lib.hid hU
      clear c4 c4' hU
      gi_loopw [3] (fun r wr => ∃ (k : Nat) (W0 : World), k ≤ 7 - t ∧ r = .int .i64 (t + k : Nat) ∧ J (upF t k) W0 ∧ Up W0 wr)
        (fun r _ => 7 - (intOf r).toNat)
      case atStart => exact ⟨0, W, Nat.zero_le _, rfl, HJ.out, HU.out⟩
      case round =>
        obtain ⟨k, W0, hk, rfl, hJ, hu⟩ := hrel
        by_cases hlt : t + k < 7
        · have hun : ∃ rest, unL B (t : Int) = upF t k ++ (2 : Int) ^ (t + k) :: rest := ⟨upF (t + k + 1) (7 - t - k - 1), by
            rw [Hun.out]
            have e : 7 - t = k + (7 - t - k - 1 + 1) := by omega
            conv => lhs; rw [e]
            rw [upF_cut, upF_succ]⟩
          have hy := HY.out _ W0 wr ((2 : Int) ^ (t + k)) hJ hu hun
          have hp : (1 : Int) ≤ 2 ^ (t + k) ∧ (2 : Int) ^ (t + k) ≤ 64 := by
            have : ∀ m : Nat, m < 7 → (1 : Int) ≤ 2 ^ m ∧ (2 : Int) ^ m ≤ 64 := by decide
            exact this _ hlt
          have hw : wrap64 ((2 : Int) ^ (t + k)) = 2 ^ (t + k) := by unfold wrap64; omega
          have HS := Lib.hid (upF_snoc t k)
          have HU0 := Lib.hid hu
          clear hJ hu hun
          obtain ⟨P, hP⟩ : ∃ P, (2 : Int) ^ (t + k) = P := ⟨_, rfl⟩
          replace hw := hw.trans hP
          rw [hP] at hy hp HS
          rw [← HS.out] at hy
          clear hP
          obtain ⟨fnY, tmY, asY, bdY, hyr, hR⟩ := hy
          gi_wp2
          refine RoundIn.mono hR ?_
          intro e w3 hTW
          obtain ⟨bb, rfl, hT, hF⟩ := hTW
          cases bb
          · have hx := hF rfl
            clear hT hF
            gi_wp2
            refine bodyPost_ret (results_none rfl _ _ _) rfl ?_
            exact ⟨⟨_, rfl⟩, .inr ⟨_, _, hx, Up.refl _⟩⟩
          · have hx := hT rfl
            clear hT hF
            gi_wp2
            go_roundw
            case rel => exact ⟨k + 1, w3, by omega, by congr 1, hx, Up.refl _⟩
            case measure => simp [intOf]; omega
        · obtain rfl : k = 7 - t := by omega
          gi_wp2
          go_end0
          exact ⟨⟨_, rfl⟩, .inl ⟨_, _, Hun.out.symm, hJ, hu⟩⟩
end
end Go.Proofs.Ytmjcjbiengcigaa
