import Derived.Test.YtbdjbmgeelleiaaDoorMerkle
import Derived.Test.YtbdjbmgeelleiaaDoorRefShort
import Derived.Test.YtbdjbmgeelleiaaDoorAlong
import Derived.Test.YtbdjbmgeelleiaaDoorRefMerkle
namespace Go.Proofs.YtbdjbmgeelleiaaDoor
set_option maxRecDepth 100000
section
set_option linter.unusedVariables false
open Go.RowKit

theorem pow_mono {a b : Nat} (h : 2 ^ a < 2 ^ b) : a < b := (Nat.pow_lt_pow_iff_right (by omega)).1 h

set_option maxHeartbeats 2000000 in
theorem refPath_out (v : Value) (ls : List (List Int)) (at_ : Int) (w : World) (hs : Strs w v ls) (hout : at_ < 0 ∨ (ls.length : Int) ≤ at_) :
    Calls Tryd.prog 24 #[v, .int .i64 at_] w fun e w' => e = .returned (.tuple #[.slice none 0 0, .int .i64 4]) ∧ w = w' := by
  obtain ⟨a, cap, rfl, hcap, _, _⟩ := hs
  by_cases h : at_ < 0
  · clear hout
    go_enter Tryd.func24, Tryd.ntmps24
    go_wp2
    go_ret2
    exact ⟨rfl, rfl⟩
  · have h2 : (ls.length : Int) ≤ at_ := by omega
    clear hout
    go_enter Tryd.func24, Tryd.ntmps24
    go_wp2
    go_ret2
    exact ⟨rfl, rfl⟩

set_option maxHeartbeats 2000000 in
theorem refPath_odd (v : Value) (ls : List (List Int)) (n : Nat) (w : World) (hs : Strs w v ls) (hl : ls.length ≤ 1048576) (hn : n < ls.length) (hp : ¬ isPow ls.length) :
    Calls Tryd.prog 24 #[v, .int .i64 n] w fun e w' => e = .returned (.tuple #[.slice none 0 0, .int .i64 3]) ∧ w = w' := by
  obtain ⟨a, cap, rfl, hcap, _, _⟩ := hs
  have hn1 : ¬ (n : Int) < 0 := by omega
  have hn2 : ¬ (ls.length : Int) ≤ n := by omega
  have HP := Lib.hid hp
  clear hp
  go_enter Tryd.func24, Tryd.ntmps24
  go_wp2
  go_loop [6] (fun i => ∃ m j : Nat, i = .int .i64 m ∧ Hid (m = 2 ^ j) ∧ m ≤ 2097152 ∧ 0 < m) (fun i => ls.length - (intOf i).toNat)
  case atStart => exact ⟨1, 0, rfl, rfl, by omega, by omega⟩
  case round =>
    obtain ⟨m, j, rfl, Hm, hm20, hm0⟩ := hrel
    by_cases hlt : m < ls.length
    · have q1 : IntKind.i64.wrap (2 * (m : Int)) = 2 * (m : Int) := IntWalk.i64_in _ (by omega)
      go_wp2
      go_round
      case rel => exact ⟨2 * m, j + 1, by go_num, by show _ = _; rw [Hm.out, Nat.pow_succ]; omega, by omega, by omega⟩
      case measure => simp [intOf]; omega
    · have hne : ¬ (m : Int) = (ls.length : Int) := fun e => HP.out ⟨j, by have := Hm.out; omega⟩
      go_wp2
      go_ret2
      exact ⟨rfl, rfl⟩

set_option maxHeartbeats 4000000 in
theorem refPath_pow (v : Value) (ls : List (List Int)) (n K : Nat) (w : World) (hs : Strs w v ls) (hf : Tiny ls) (hl : ls.length ≤ 1048576) (hn : n < ls.length) (hK : ls.length = 2 ^ K) :
    Calls Tryd.prog 24 #[v, .int .i64 n] w fun e w' => ∃ r, e = .returned (.tuple #[r, .int .i64 0]) ∧ w'.ownsRow w.heap.size 9 1 r K (strVs (pathB ls n K)) ∧ Up w w' := by
  obtain ⟨i0, hi, hz0, hz1, hz2⟩ := info_parts info_strg
  have HS := Lib.hid hs
  have HF := Lib.hid hf
  have HK := Lib.hid hK
  have HnK : Hid (n < 2 ^ K) := by show _ < _; rw [← hK]; exact hn
  obtain ⟨a, cap, rfl, hcap, _, _⟩ := hs
  have hn1 : ¬ (n : Int) < 0 := by omega
  have hn2 : ¬ (ls.length : Int) ≤ n := by omega
  have hKs : K ≤ 1048576 := by have := Nat.lt_two_pow_self (n := K); omega
  clear hf hK
  go_enter Tryd.func24, Tryd.ntmps24
  go_wp2
  go_loop [6] (fun i => ∃ m j : Nat, i = .int .i64 m ∧ Hid (m = 2 ^ j ∧ (j = 0 ∨ 2 ^ j < 2 * ls.length)) ∧ m ≤ 2097152 ∧ 0 < m) (fun i => ls.length - (intOf i).toNat)
  case atStart => exact ⟨1, 0, rfl, ⟨rfl, .inl rfl⟩, by omega, by omega⟩
  case round =>
    obtain ⟨m, j, rfl, Hm, hm20, hm0⟩ := hrel
    by_cases hlt : m < ls.length
    · have q1 : IntKind.i64.wrap (2 * (m : Int)) = 2 * (m : Int) := IntWalk.i64_in _ (by omega)
      go_wp2
      go_round
      case rel => exact ⟨2 * m, j + 1, by go_num, ⟨by rw [Hm.out.1, Nat.pow_succ]; omega, .inr (by have := Hm.out.1; rw [Nat.pow_succ]; omega)⟩, by omega, by omega⟩
      case measure => simp [intOf]; omega
    · have hm : m = ls.length := by
        obtain ⟨h1, h2⟩ := Hm.out
        have h3 := HK.out
        have h4 : j ≤ K := by
          rcases h2 with h2 | h2
          · omega
          · rw [h3, show 2 * 2 ^ K = 2 ^ (K + 1) from by rw [Nat.pow_succ]; omega] at h2
            have := pow_mono h2
            omega
        have h5 := Nat.pow_le_pow_right (show 0 < 2 by omega) h4
        omega
      have heq : ((m : Int) == (ls.length : Int)) = true := by rw [beq_iff_eq]; omega
      have hlt2 : ¬ (m : Int) < ls.length := by omega
      subst hm
      clear heq hlt2 hlt hm20 hm0 Hm
      go_wp2
      go_loopw [0, 1, 7] (fun lv i o wr => ∃ k : Nat, k ≤ K ∧ i = .int .i64 ((n / 2 ^ k : Nat) : Int) ∧ Strs wr lv (upN ls k) ∧ wr.ownsRow w.heap.size 9 1 o k (strVs (upTo (pathAt ls n) k)) ∧ Up w wr ∧ ∀ b, lv.ownBlock = some b → some b ≠ o.ownBlock) (fun lv _ _ _ => rowLen lv)
      case atStart => exact ⟨0, Nat.zero_le _, by simp, HS.out, World.ownsRow_nil _ _ _ _, Up.refl w, fun b _ => by simp [Value.ownBlock]⟩
      case round =>
        obtain ⟨k, hk, rfl, hS, hrow, hB, hsep⟩ := hrel
        have HFr := Lib.hid (HF.out.upN k)
        have hle := upN_le ls k
        have hrl := upN_pow ls K HK.out k hk
        have Hr1 : Hid (upB (upN ls k) = upN ls (k + 1)) := rfl
        have hjK := part_lt HnK.out hk
        have Hup : Hid (upTo (pathAt ls n) (k + 1) = upTo (pathAt ls n) k ++ [pathAt ls n k]) := upTo_succ _ _
        have hT : (upN ls k)[nb (n / 2 ^ k)]?.getD [] = pathAt ls n k := rfl
        have Hh : Hid (n / 2 ^ k / 2 = n / 2 ^ (k + 1)) := half_step _ _
        have hjn : n / 2 ^ k ≤ n := Nat.div_le_self _ _
        generalize upN ls k = r at hS HFr hle hrl Hr1 hT
        have HSr := Lib.hid hS
        have Hrow := Lib.hid hrow
        clear hrow
        by_cases h1 : 1 < r.length
        · obtain ⟨ra, rc, rfl, hrc, _, hrcell⟩ := hS
          rcases hrcell with hx | ⟨b, off, rfl, hc⟩
          · rw [hx] at h1; simp at h1
          have hkK : k < K := by
            rcases Nat.lt_or_ge k K with h | h
            · exact h
            · rw [show K - k = 0 from by omega] at hrl; omega
          obtain ⟨d, hd⟩ : ∃ d, K - k = d + 1 := ⟨K - k - 1, by omega⟩
          rw [hd] at hjK hrl
          have hnb := nb_lt hjK
          rw [← hrl] at hnb
          have hcT := hc (nb (n / 2 ^ k)) hnb
          rw [hT] at hcT
          have hbl : b < wr.heap.size := World.block_lt_of_cell? wr _ (hc 0 (by omega))
          have hsep := hsep b rfl
          generalize pathAt ls n k = T at hcT Hup
          generalize n / 2 ^ k = j at hjn hnb hcT Hh hjK ⊢
          clear hc hT hd hrl hjK
          by_cases hj : j % 2 = 1
          · obtain ⟨q, hq⟩ : ∃ q : Nat, nb j = q := ⟨_, rfl⟩
            have hq1 : (j : Int) - 1 = (q : Int) := by rw [← hq]; unfold nb; rw [if_pos hj]; omega
            have hji : (j : Int) % 2 = 1 := by omega
            rw [hq] at hcT hnb
            clear hq hj
            go_wp2_with (at_builtin; refine wpList_append_own _ rfl (.tmp 32) (.tmp 38) 22 rfl w.heap.size 9 i0 (.string ⟨#[]⟩) 1 16 Tryd.underlying22 hi hz0 hz1 hz2 rfl (by decide) u7 k _ rfl (Hrow.out.alloc _) ⟨wr.heap.size, 0, none⟩ 1 1 [.string (strOfNums T)] rfl rfl (cell_one_new _ _ _) (by simp [Value.oneCell']) (by unfold maxLen; omega) (by omega) (by have := hB.size; simp; omega) ?_; intro v' w3 hown' hgrow _)
            have hB3 : Up w w3 := (Up.alloc hB _).grown hgrow (by have := hB.size; simp; omega) (fun q e => (Hrow.out.lt q e).1)
            have e3 : w3.heap[b]? = wr.heap[b]? := (hgrow.block b (by simp; omega) hsep).trans (Below.heap_alloc wr _ b hbl)
            have Hu := Lib.hid (refUp_any _ r w3 (strs_block HSr.out e3) HFr.out (by omega))
            have hlv := hown'.lt
            obtain ⟨g', cap', rfl⟩ := ownsRow_succ hown'
            rw [← strVs_snoc, ← Hup.out] at hown'
            have Hown := Lib.hid hown'
            clear hown' hgrow e3 hcT
            with_reducible refine Calls.mono Hu.out ?_
            rintro e w4 ⟨r4, rfl, hr4, hU4⟩
            have hB4 := Up.trans hB3 hU4
            have HS4 := Lib.hid (Strs.of_row hr4)
            have hlies : ∀ q, r4.ownBlock = some q → w3.heap.size ≤ q := fun q e => (hr4.lt q e).1
            have hl4 := Lib.hid (upB_length r)
            have Hg := hlv g' rfl
            obtain ⟨a4, c4, rfl, _, _, _⟩ := HS4.out
            have Hown4 := Lib.hid (ownsRow_up Hown.out hU4)
            clear hr4 hU4 Hu Hown
            go_wp2
            go_roundw
            case rel => exact ⟨k + 1, by omega, by rw [← Hh.out]; go_num, by rw [← Hr1.out]; exact HS4.out, Hown4.out, hB4, fun q e1 e2 => by
              have h1 := hlies q e1
              have h2 : q = g' := by simpa [Value.ownBlock] using e2
              omega⟩
            case measure => have := hl4.out; simp [rowLen]; omega
          · have hq : nb j = j + 1 := by unfold nb; rw [if_neg hj]
            have hji : ¬ (j : Int) % 2 = 1 := by omega
            rw [hq] at hcT hnb
            clear hq hj
            go_wp2_with (at_builtin; refine wpList_append_own _ rfl (.tmp 40) (.tmp 46) 22 rfl w.heap.size 9 i0 (.string ⟨#[]⟩) 1 16 Tryd.underlying22 hi hz0 hz1 hz2 rfl (by decide) u7 k _ rfl (Hrow.out.alloc _) ⟨wr.heap.size, 0, none⟩ 1 1 [.string (strOfNums T)] rfl rfl (cell_one_new _ _ _) (by simp [Value.oneCell']) (by unfold maxLen; omega) (by omega) (by have := hB.size; simp; omega) ?_; intro v' w3 hown' hgrow _)
            have hB3 : Up w w3 := (Up.alloc hB _).grown hgrow (by have := hB.size; simp; omega) (fun q e => (Hrow.out.lt q e).1)
            have e3 : w3.heap[b]? = wr.heap[b]? := (hgrow.block b (by simp; omega) hsep).trans (Below.heap_alloc wr _ b hbl)
            have Hu := Lib.hid (refUp_any _ r w3 (strs_block HSr.out e3) HFr.out (by omega))
            have hlv := hown'.lt
            obtain ⟨g', cap', rfl⟩ := ownsRow_succ hown'
            rw [← strVs_snoc, ← Hup.out] at hown'
            have Hown := Lib.hid hown'
            clear hown' hgrow e3 hcT
            with_reducible refine Calls.mono Hu.out ?_
            rintro e w4 ⟨r4, rfl, hr4, hU4⟩
            have hB4 := Up.trans hB3 hU4
            have HS4 := Lib.hid (Strs.of_row hr4)
            have hlies : ∀ q, r4.ownBlock = some q → w3.heap.size ≤ q := fun q e => (hr4.lt q e).1
            have hl4 := Lib.hid (upB_length r)
            have Hg := hlv g' rfl
            obtain ⟨a4, c4, rfl, _, _, _⟩ := HS4.out
            have Hown4 := Lib.hid (ownsRow_up Hown.out hU4)
            clear hr4 hU4 Hu Hown
            go_wp2
            go_roundw
            case rel => exact ⟨k + 1, by omega, by rw [← Hh.out]; go_num, by rw [← Hr1.out]; exact HS4.out, Hown4.out, hB4, fun q e1 e2 => by
              have h1 := hlies q e1
              have h2 : q = g' := by simpa [Value.ownBlock] using e2
              omega⟩
            case measure => have := hl4.out; simp [rowLen]; omega
        · have hkK : Hid (k = K) := by
            show _ = _
            rcases Nat.lt_or_ge k K with h | h
            · have := Nat.one_lt_two_pow (show K - k ≠ 0 by omega)
              omega
            · omega
          obtain ⟨ra, rc, rfl, hrc, _, _⟩ := hS
          clear hT hrl hjK
          go_wp2
          go_ret2
          have hr2 := Hrow.out
          rw [hkK.out] at hr2
          exact ⟨_, rfl, hr2, hB⟩

theorem refPath_any (v : Value) (ls : List (List Int)) (at_ : Int) (w : World) (hs : Strs w v ls) (hf : Tiny ls) (hl : ls.length ≤ 1048576) :
    Calls Tryd.prog 24 #[v, .int .i64 at_] w fun e w' => ∃ r, e = .returned (.tuple #[r, .int .i64 (pathE ls at_)]) ∧ Strs w' r (pathR ls at_) ∧ Up w w' := by
  unfold pathE pathR
  by_cases hout : at_ < 0 ∨ (ls.length : Int) ≤ at_
  · rw [if_pos hout, if_pos hout]
    refine (refPath_out v ls at_ w hs hout).mono ?_
    rintro e w' ⟨h1, rfl⟩
    exact ⟨_, h1, ⟨none, 0, rfl, Nat.le_refl _, fun _ => rfl, .inl rfl⟩, Up.refl _⟩
  · rw [if_neg hout, if_neg hout]
    obtain ⟨n, rfl⟩ : ∃ n : Nat, at_ = n := ⟨at_.toNat, by omega⟩
    by_cases hp : isPow ls.length
    · rw [if_pos hp, if_pos hp, Int.toNat_natCast]
      exact (refPath_pow v ls n _ w hs hf hl (by omega) (isPow_log.1 hp)).mono fun e w' ⟨r, h1, h2, h3⟩ => ⟨r, h1, Strs.of_row h2, h3⟩
    · rw [if_neg hp, if_neg hp]
      refine (refPath_odd v ls n w hs hl (by omega) hp).mono ?_
      rintro e w' ⟨h1, rfl⟩
      exact ⟨_, h1, ⟨none, 0, rfl, Nat.le_refl _, fun _ => rfl, .inl rfl⟩, Up.refl _⟩
end
end Go.Proofs.YtbdjbmgeelleiaaDoor
