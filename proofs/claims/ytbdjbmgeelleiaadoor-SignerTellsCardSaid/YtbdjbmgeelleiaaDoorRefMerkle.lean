import Derived.Test.YtbdjbmgeelleiaaDoorMerkle
import Derived.Test.YtbdjbmgeelleiaaDoorRefShort
import Derived.Test.YtbdjbmgeelleiaaDoorAlong
namespace Go.Proofs.YtbdjbmgeelleiaaDoor
set_option maxRecDepth 100000
/-
  The reference: Up, Root, Path, Climb.
-/
section
section
set_option linter.unusedVariables false
open Go.RowKit



set_option maxHeartbeats 2000000 in
theorem refUp_any (v : Value) (ls : List (List Int)) (w : World) (hs : Strs w v ls) (hf : Tiny ls) (hl : ls.length ≤ 1048576) :
    Calls Tryd.prog 34 #[v] w fun e w' => ∃ r, e = .returned r ∧ w'.ownsRow w.heap.size 9 1 r (upB ls).length (strVs (upB ls)) ∧ Up w w' := by
  obtain ⟨i0, hi, hz0, hz1, hz2⟩ := info_parts info_strg
  obtain ⟨a, cap, rfl, hcap, _, _⟩ := id hs
  have HS := Lib.hid hs
  have HF := Lib.hid hf
  have hmx : Tryd.prog.follows .mixedOrders = true := by kernel_rfl
  clear hs hf
  obtain ⟨N, hN⟩ : ∃ N, (ls.length + 1) / 2 = N := ⟨_, rfl⟩
  have Hup : Hid (upTo (cellB ls) N = upB ls) := by show _ = _; rw [← hN]; rfl
  have HN := Lib.hid hN
  clear hN
  go_enter Tryd.func34, Tryd.ntmps34
  go_wp2
  go_loopw [3, 4] (fun o i wr => ∃ k m : Nat, k ≤ N ∧ i = .int .i64 m ∧ Hid (m = 2 * k) ∧ wr.ownsRow w.heap.size 9 1 o k (strVs (upTo (cellB ls) k)) ∧ Up w wr)
    (fun _ i _ => ls.length + 2 - (intOf i).toNat)
  case atStart => exact ⟨0, 0, Nat.zero_le _, rfl, rfl, World.ownsRow_nil _ _ _ _, Up.refl w⟩
  case round =>
    obtain ⟨k, m, hk, rfl, Hm, hrow, hB⟩ := hrel
    have Hs : Hid (upTo (cellB ls) (k + 1) = upTo (cellB ls) k ++ [cellB ls k]) := upTo_succ _ _
    by_cases hlt : m < ls.length
    · have hkN : k < N := by have := HN.out; have := Hm.out; omega
      obtain ⟨_, _, he, _, _, hcell⟩ := HS.out
      simp only [Value.slice.injEq] at he
      obtain ⟨rfl, _, rfl⟩ := he
      rcases hcell with hx | ⟨b, off, rfl, _⟩
      · rw [hx] at hlt; simp at hlt
      have hm1 : (0 : Int) ≤ (m : Int) := by omega
      have hk20 : k ≤ 1048576 := by have := Hm.out; omega
      by_cases hlast : m + 1 < ls.length
      · have HcX := Lib.hid (strs_cell HS.out m hlt)
        have HcY := Lib.hid (strs_cell HS.out (m + 1) hlast)
        have hX := HF.out m
        have hY := HF.out (m + 1)
        have hcl : cellB ls k = bothB (ls[m]?.getD []) (ls[m + 1]?.getD []) := by
          have := Hm.out
          unfold cellB
          rw [if_pos (by omega), show 2 * k = m from by omega]
        generalize ls[m]?.getD [] = X at HcX hX hcl
        generalize ls[m + 1]?.getD [] = Y at HcY hY hcl
        obtain ⟨Z, hZ⟩ : ∃ Z, X ++ Y = Z := ⟨_, rfl⟩
        have Hcat : Hid (strOfNums X ++ strOfNums Y = strOfNums Z) := by show _ = _; rw [strOfNums_append, hZ]
        have HZu : Hid (U8s Z) := by show U8s Z; rw [← hZ]; exact hX.1.append hY.1
        have HZl : Hid (Z.length ≤ 2097152) := by show _ ≤ _; rw [← hZ, List.length_append]; have := hX.2; have := hY.2; omega
        have Hcell : Hid (shortB Z = cellB ls k) := by show _ = _; rw [hcl, ← hZ]; rfl
        have Hrow := Lib.hid hrow
        have hne : ¬ (m : Int) = (ls.length : Int) - 1 := by omega
        clear hZ hX hY hcl hrow
        go_wp2
        refine (wpIn_wide (n := 0)).1 ?_
        refine region_alongF (ro := none) (Up w) (.read 0 (.read 1 (.read 2 (.read 3 (.read 4 (.read 5 (.read 6 (.read 7 (.read 8 (.read 9 (.read 10 (.step 11 (.step 12 (.step 13 (.step 14 (.read 15 .nil)))))))))))))))) hmx rfl (by kernel_rfl) (by kernel_rfl) (by kernel_rfl) (fun c a d v w h => by cases d <;> exact h) (Up.drew hB) ?_
        refine alongF_move u3 rfl rfl rfl rfl ?_
        change AlongF _ _ _ _ _ _ _ { tmps := #[.slice (some ⟨b, off, none⟩) ls.length cap, _, _, u3, .int .i64 m, _, _, _, _, _, _, _, _, _, _, _, _, _, _, _, _, _, _, u3, _, _, _, _, _, _, _, _, _, _, _, _, _, _, _], defers := _ } _
        refine alongF_move (.slice (some ⟨b, off, none⟩) ls.length cap) rfl rfl rfl rfl ?_
        change AlongF _ _ _ _ _ _ _ { tmps := #[.slice (some ⟨b, off, none⟩) ls.length cap, _, _, u3, .int .i64 m, _, _, _, _, _, _, _, _, _, _, _, _, _, _, _, _, _, _, u3, .slice (some ⟨b, off, none⟩) ls.length cap, _, _, _, _, _, _, _, _, _, _, _, _, _, _], defers := _ } _
        refine alongF_move (.int .i64 m) rfl rfl rfl rfl ?_
        change AlongF _ _ _ _ _ _ _ { tmps := #[.slice (some ⟨b, off, none⟩) ls.length cap, _, _, u3, .int .i64 m, _, _, _, _, _, _, _, _, _, _, _, _, _, _, _, _, _, _, u3, .slice (some ⟨b, off, none⟩) ls.length cap, .int .i64 m, _, _, _, _, _, _, _, _, _, _, _, _, _], defers := _ } _
        refine alongF_index Tryd.underlying22 Tryd.sizeOf9 rfl rfl rfl rfl (show m < ls.length by omega) rfl ?_
        change AlongF _ _ _ _ _ _ _ { tmps := #[.slice (some ⟨b, off, none⟩) ls.length cap, _, _, u3, .int .i64 m, _, _, _, _, _, _, _, _, _, _, _, _, _, _, _, _, _, _, u3, .slice (some ⟨b, off, none⟩) ls.length cap, .int .i64 m, .pointer (some ⟨b, off + m, none⟩), _, _, _, _, _, _, _, _, _, _, _, _], defers := _ } _
        refine alongF_load (.string (strOfNums X)) Tryd.isAgg9 rfl rfl rfl HcX.out rfl ?_
        change AlongF _ _ _ _ _ _ _ { tmps := #[.slice (some ⟨b, off, none⟩) ls.length cap, _, _, u3, .int .i64 m, _, _, _, _, _, _, _, _, _, _, _, _, _, _, _, _, _, _, u3, .slice (some ⟨b, off, none⟩) ls.length cap, .int .i64 m, .pointer (some ⟨b, off + m, none⟩), .string (strOfNums X), _, _, _, _, _, _, _, _, _, _, _], defers := _ } _
        refine alongF_move (.slice (some ⟨b, off, none⟩) ls.length cap) rfl rfl rfl rfl ?_
        change AlongF _ _ _ _ _ _ _ { tmps := #[.slice (some ⟨b, off, none⟩) ls.length cap, _, _, u3, .int .i64 m, _, _, _, _, _, _, _, _, _, _, _, _, _, _, _, _, _, _, u3, .slice (some ⟨b, off, none⟩) ls.length cap, .int .i64 m, .pointer (some ⟨b, off + m, none⟩), .string (strOfNums X), .slice (some ⟨b, off, none⟩) ls.length cap, _, _, _, _, _, _, _, _, _, _], defers := _ } _
        refine alongF_move (.int .i64 m) rfl rfl rfl rfl ?_
        change AlongF _ _ _ _ _ _ _ { tmps := #[.slice (some ⟨b, off, none⟩) ls.length cap, _, _, u3, .int .i64 m, _, _, _, _, _, _, _, _, _, _, _, _, _, _, _, _, _, _, u3, .slice (some ⟨b, off, none⟩) ls.length cap, .int .i64 m, .pointer (some ⟨b, off + m, none⟩), .string (strOfNums X), .slice (some ⟨b, off, none⟩) ls.length cap, .int .i64 m, _, _, _, _, _, _, _, _, _], defers := _ } _
        refine alongF_add (s := ((m + 1 : Nat) : Int)) (by rw [IntWalk.i64_in _ (by omega)]; omega) rfl rfl rfl rfl rfl ?_
        change AlongF _ _ _ _ _ _ _ { tmps := #[.slice (some ⟨b, off, none⟩) ls.length cap, _, _, u3, .int .i64 m, _, _, _, _, _, _, _, _, _, _, _, _, _, _, _, _, _, _, u3, .slice (some ⟨b, off, none⟩) ls.length cap, .int .i64 m, .pointer (some ⟨b, off + m, none⟩), .string (strOfNums X), .slice (some ⟨b, off, none⟩) ls.length cap, .int .i64 m, .int .i64 ((m + 1 : Nat) : Int), _, _, _, _, _, _, _, _], defers := _ } _
        refine alongF_index Tryd.underlying22 Tryd.sizeOf9 rfl rfl rfl rfl (show m + 1 < ls.length by omega) rfl ?_
        change AlongF _ _ _ _ _ _ _ { tmps := #[.slice (some ⟨b, off, none⟩) ls.length cap, _, _, u3, .int .i64 m, _, _, _, _, _, _, _, _, _, _, _, _, _, _, _, _, _, _, u3, .slice (some ⟨b, off, none⟩) ls.length cap, .int .i64 m, .pointer (some ⟨b, off + m, none⟩), .string (strOfNums X), .slice (some ⟨b, off, none⟩) ls.length cap, .int .i64 m, .int .i64 ((m + 1 : Nat) : Int), .pointer (some ⟨b, off + (m + 1), none⟩), _, _, _, _, _, _, _], defers := _ } _
        refine alongF_load (.string (strOfNums Y)) Tryd.isAgg9 rfl rfl rfl HcY.out rfl ?_
        change AlongF _ _ _ _ _ _ _ { tmps := #[.slice (some ⟨b, off, none⟩) ls.length cap, _, _, u3, .int .i64 m, _, _, _, _, _, _, _, _, _, _, _, _, _, _, _, _, _, _, u3, .slice (some ⟨b, off, none⟩) ls.length cap, .int .i64 m, .pointer (some ⟨b, off + m, none⟩), .string (strOfNums X), .slice (some ⟨b, off, none⟩) ls.length cap, .int .i64 m, .int .i64 ((m + 1 : Nat) : Int), .pointer (some ⟨b, off + (m + 1), none⟩), .string (strOfNums Y), _, _, _, _, _, _], defers := _ } _
        refine alongF_cat (s := strOfNums Z) Hcat.out (by rw [strOfNums_size]; have := HZl.out; omega) rfl rfl rfl rfl rfl ?_
        change AlongF _ _ _ _ _ _ _ { tmps := #[.slice (some ⟨b, off, none⟩) ls.length cap, _, _, u3, .int .i64 m, _, _, _, _, _, _, _, _, _, _, _, _, _, _, _, _, _, _, u3, .slice (some ⟨b, off, none⟩) ls.length cap, .int .i64 m, .pointer (some ⟨b, off + m, none⟩), .string (strOfNums X), .slice (some ⟨b, off, none⟩) ls.length cap, .int .i64 m, .int .i64 ((m + 1 : Nat) : Int), .pointer (some ⟨b, off + (m + 1), none⟩), .string (strOfNums Y), .string (strOfNums Z), _, _, _, _, _], defers := _ } _
        obtain ⟨za, zc, w2, hconv, hI2, hU2⟩ := conv_str Z HZu.out wr.drew
        have hB2 : Up w w2 := Up.trans (Up.drew hB) hU2
        refine alongF_step (opF_conv _ w2 rfl rfl rfl hconv rfl hB2 ?_)
        change AlongF _ _ _ _ _ _ _ { tmps := #[.slice (some ⟨b, off, none⟩) ls.length cap, _, _, u3, .int .i64 m, _, _, _, _, _, _, _, _, _, _, _, _, _, _, _, _, _, _, u3, .slice (some ⟨b, off, none⟩) ls.length cap, .int .i64 m, .pointer (some ⟨b, off + m, none⟩), .string (strOfNums X), .slice (some ⟨b, off, none⟩) ls.length cap, .int .i64 m, .int .i64 ((m + 1 : Nat) : Int), .pointer (some ⟨b, off + (m + 1), none⟩), .string (strOfNums Y), .string (strOfNums Z), .slice za Z.length zc, _, _, _, _], defers := _ } _
        refine alongF_step (opF_call (vs := [.slice za Z.length zc]) rfl rfl rfl (enters_of Tryd.func52 (by kernel_rfl) rfl) rfl ?_)
        with_reducible refine Calls.mono (refShort_any _ Z w2 hI2 HZu.out (by have := HZl.out; omega)) ?_
        rintro e w3 ⟨rfl, hU3⟩
        rw [Hcell.out]
        have hB3 : Up w w3 := Up.trans hB2 hU3
        have hrow3 := ownsRow_up Hrow.out (Up.trans (Up.trans (Up.drew1 wr) hU2) hU3)
        refine ⟨_, rfl, hB3, ?_⟩
        change AlongF _ _ _ _ _ _ _ { tmps := #[.slice (some ⟨b, off, none⟩) ls.length cap, _, _, u3, .int .i64 m, _, _, _, _, _, _, _, _, _, _, _, _, _, _, _, _, _, _, u3, .slice (some ⟨b, off, none⟩) ls.length cap, .int .i64 m, .pointer (some ⟨b, off + m, none⟩), .string (strOfNums X), .slice (some ⟨b, off, none⟩) ls.length cap, .int .i64 m, .int .i64 ((m + 1 : Nat) : Int), .pointer (some ⟨b, off + (m + 1), none⟩), .string (strOfNums Y), .string (strOfNums Z), .slice za Z.length zc, .string (strOfNums (cellB ls k)), _, _, _], defers := _ } _
        refine alongF_step (opF_one Tryd.underlying22 Tryd.sizeOf9 Tryd.zeroValue9 rfl rfl rfl rfl (Up.alloc hB3 _) ?_)
        change AlongF _ _ _ _ _ _ _ { tmps := #[.slice (some ⟨b, off, none⟩) ls.length cap, _, _, u3, .int .i64 m, _, _, _, _, _, _, _, _, _, _, _, _, _, _, _, _, _, _, u3, .slice (some ⟨b, off, none⟩) ls.length cap, .int .i64 m, .pointer (some ⟨b, off + m, none⟩), .string (strOfNums X), .slice (some ⟨b, off, none⟩) ls.length cap, .int .i64 m, .int .i64 ((m + 1 : Nat) : Int), .pointer (some ⟨b, off + (m + 1), none⟩), .string (strOfNums Y), .string (strOfNums Z), .slice za Z.length zc, .string (strOfNums (cellB ls k)), .slice (some ⟨w3.heap.size, 0, none⟩) 1 1, _, _], defers := _ } _
        refine alongF_step (opF_append rfl rfl rfl w.heap.size 9 i0 (.string ⟨#[]⟩) 1 16 Tryd.underlying22 hi hz0 hz1 hz2 rfl (by decide) u3 k _ rfl (hrow3.alloc _) ⟨w3.heap.size, 0, none⟩ 1 1 [.string (strOfNums (cellB ls k))] rfl rfl (cell_one_new _ _ _) (by simp [Value.oneCell']) (by unfold maxLen; omega) (by omega) (by have := hB3.size; simp; omega) ?_)
        intro v4 w4 hown' hgrow
        have hB4 : Up w w4 := Below.grown (Up.alloc hB3 _) hgrow (by have := hB3.size; simp; omega) (fun q e => (hrow3.lt q e).1)
        refine ⟨hB4, ?_⟩
        change AlongF _ _ _ _ _ _ _ { tmps := #[.slice (some ⟨b, off, none⟩) ls.length cap, _, _, u3, .int .i64 m, _, _, _, _, _, _, _, _, _, _, _, _, _, _, _, _, _, _, u3, .slice (some ⟨b, off, none⟩) ls.length cap, .int .i64 m, .pointer (some ⟨b, off + m, none⟩), .string (strOfNums X), .slice (some ⟨b, off, none⟩) ls.length cap, .int .i64 m, .int .i64 ((m + 1 : Nat) : Int), .pointer (some ⟨b, off + (m + 1), none⟩), .string (strOfNums Y), .string (strOfNums Z), .slice za Z.length zc, .string (strOfNums (cellB ls k)), .slice (some ⟨w3.heap.size, 0, none⟩) 1 1, v4, _], defers := _ } _
        refine alongF_assign v4 rfl rfl rfl rfl ?_
        refine alongF_done ?_
        change (_ : Exit → Act → World → Prop) .normal { tmps := #[.slice (some ⟨b, off, none⟩) ls.length cap, _, _, v4, .int .i64 m, _, _, _, _, _, _, _, _, _, _, _, _, _, _, _, _, _, _, u3, .slice (some ⟨b, off, none⟩) ls.length cap, .int .i64 m, .pointer (some ⟨b, off + m, none⟩), .string (strOfNums X), .slice (some ⟨b, off, none⟩) ls.length cap, .int .i64 m, .int .i64 ((m + 1 : Nat) : Int), .pointer (some ⟨b, off + (m + 1), none⟩), .string (strOfNums Y), .string (strOfNums Z), .slice za Z.length zc, .string (strOfNums (cellB ls k)), .slice (some ⟨w3.heap.size, 0, none⟩) 1 1, v4, _], defers := _ } _
        rw [← strVs_snoc, ← Hs.out] at hown'
        clear hgrow
        go_wp2
        go_roundw
        case rel => exact ⟨k + 1, m + 2, by omega, by go_num, by show _ = _; have := Hm.out; omega, hown', hB4⟩
        case measure => simp [intOf]; omega
      · have hcX := strs_cell HS.out m hlt wr hB
        have hcl : cellB ls k = ls[m]?.getD [] := by
          have := Hm.out
          unfold cellB
          rw [if_neg (by omega), show 2 * k = m from by omega]
        rw [← hcl] at hcX
        have heq : ((m : Int) == (ls.length : Int) - 1) = true := by simp; omega
        have Hrow := Lib.hid hrow
        clear hrow hcl
        go_wp2_with (at_builtin; refine wpList_append_own _ rfl (.tmp 16) (.tmp 21) 22 rfl w.heap.size 9 i0 (.string ⟨#[]⟩) 1 16 Tryd.underlying22 hi hz0 hz1 hz2 rfl (by decide) _ k _ rfl (Hrow.out.alloc _) ⟨wr.heap.size, 0, none⟩ 1 1 [.string (strOfNums (cellB ls k))] rfl rfl (cell_one_new _ _ _) (by simp [Value.oneCell']) (by unfold maxLen; omega) (by omega) (by have := hB.size; simp; omega) ?_; intro v' w3 hown' hgrow _)
        rw [← strVs_snoc, ← Hs.out] at hown'
        go_roundw
        case rel => exact ⟨k + 1, m + 2, by omega, by go_num, by show _ = _; have := Hm.out; omega, hown', (Up.alloc hB _).grown hgrow (by have := hB.size; simp; omega) (fun q e => (Hrow.out.lt q e).1)⟩
        case measure => simp [intOf]; omega
    · obtain rfl : k = N := by have := HN.out; have := Hm.out; omega
      rw [Hup.out] at hrow
      have Hrow := Lib.hid hrow
      have hlen : Hid (k = (upB ls).length) := by show _ = _; rw [upB_length]; exact HN.out.symm
      clear hrow
      go_wp2
      go_ret
      exact ⟨_, rfl, by rw [← hlen.out]; exact Hrow.out, hB⟩
end
end

/-
  The reference: Root, Climb, Path.
-/
section
section
set_option linter.unusedVariables false
open Go.RowKit

set_option maxHeartbeats 1000000 in
theorem refRoot_any (v : Value) (ls : List (List Int)) (w : World) (hs : Strs w v ls) (hf : Tiny ls) (hl : ls.length ≤ 1048576) :
    Calls Tryd.prog 15 #[v] w fun e w' => e = .returned (.string (strOfNums (rootB ls))) ∧ Up w w' := by
  have HS := Lib.hid hs
  have HF := Lib.hid hf
  obtain ⟨a, cap, rfl, hcap, _, _⟩ := hs
  clear hf
  go_enter Tryd.func15, Tryd.ntmps15
  go_wp2
  go_loopw [0] (fun rv wr => ∃ k : Nat, Strs wr rv (upN ls k) ∧ Up w wr) (fun rv _ => rowLen rv)
  case atStart => exact ⟨0, HS.out, Up.refl w⟩
  case round =>
    obtain ⟨k, hS, hB⟩ := hrel
    have hle := upN_le ls k
    have HFk := Lib.hid (HF.out.upN k)
    have Hroot := Lib.hid (root_at ls k)
    have Hnil : Hid ((upN ls k).length = 0 → rootB ls = []) := fun h => by
      rcases Nat.eq_zero_or_pos ls.length with e | e
      · rw [List.eq_nil_of_length_eq_zero e]; rfl
      · have := upN_pos ls e k; omega
    have Hup : Hid (upB (upN ls k) = upN ls (k + 1)) := rfl
    generalize upN ls k = r at hS hle HFk Hroot Hnil Hup
    have HSr := Lib.hid hS
    obtain ⟨ra, rc, rfl, hrc, _, hrcell⟩ := hS
    by_cases h1 : 1 < r.length
    · have Hu := Lib.hid (refUp_any _ r wr HSr.out HFk.out (by omega))
      clear hrcell
      go_wp2_with fail
      with_reducible refine Calls.mono Hu.out ?_
      rintro e w2 ⟨r2, rfl, hr2, hU2⟩
      have hB2 := Up.trans hB hU2
      have HS2 := Lib.hid (Strs.of_row hr2)
      have hl2 := Lib.hid (upB_length r)
      obtain ⟨a2, c2, rfl, _, _, _⟩ := HS2.out
      clear hr2 hU2 Hu
      go_wp2
      go_roundw
      case rel => exact ⟨k + 1, by rw [← Hup.out]; exact HS2.out, hB2⟩
      case measure => have := hl2.out; simp [rowLen]; omega
    · by_cases h2 : r.length = 1
      · rcases hrcell with hx | ⟨b, off, rfl, hc⟩
        · rw [hx] at h2; simp at h2
        have hc0 := hc 0 (by omega)
        rw [Hroot.out h2, Nat.add_zero] at hc0
        clear hc Hroot
        have i1 : ((r.length : Int) == 0) = false := by rw [beq_eq_false_iff_ne]; omega
        have i2 : ¬ (1 : Int) < r.length := by omega
        have i3 : 0 < r.length := by omega
        clear h1 h2
        go_wp2
        go_ret
        exact ⟨rfl, hB⟩
      · have h0 : r.length = 0 := by omega
        have hnil : Hid (strOfNums (rootB ls) = ⟨#[]⟩) := by show _ = _; rw [Hnil.out h0]; rfl
        have i1 : ((r.length : Int) == 0) = true := by rw [beq_iff_eq]; omega
        have i2 : ¬ (1 : Int) < r.length := by omega
        clear h0 h1 h2 hrcell
        go_wp2
        go_ret
        exact ⟨by rw [hnil.out]; rfl, hB⟩

end
end
end Go.Proofs.YtbdjbmgeelleiaaDoor
