import Derived.Deep.QuietTactic
import Derived.BigQuiet
import Derived.IntWalk
import Derived.Test.YtfenmhddlojahaaGreatRefSha
import Derived.Test.YtfenmhddlojahaaGreatWots
import Derived.Test.YtfenmhddlojahaaGreatWotsSigs
import Derived.Test.YtfenmhddlojahaaGreatOct
import Derived.Test.YtfenmhddlojahaaGreatGrowth
namespace Go.Proofs.YtfenmhddlojahaaGreat
set_option maxRecDepth 100000
/-
  The reference: Parts, Chain.
-/
section
set_option linter.unusedVariables false
open Go.RowKit

set_option maxHeartbeats 1000000 in
theorem refChain_any (zs : List Int) (n : Int) (w : World) (hu : U8s zs) (hl : zs.length ≤ 140737488355200) :
    Calls Tryz.prog 99 #[.string (strOfNums zs), .int .i64 n] w fun e w' => e = .returned (.string (strOfNums (chainB zs (stepsN n)))) ∧ Up w w' := by
  obtain ⟨K, hK⟩ : ∃ K, stepsN n = K := ⟨_, rfl⟩
  have hLK : ∀ k : Nat, k < K ↔ ((k : Int) < n ∧ k < 3) := by
    intro k; rw [← hK]; unfold stepsN; omega
  have HLK := Lib.hid hLK
  have hK3 : K ≤ 3 := by rw [← hK]; exact stepsN_le n
  rw [hK]
  clear hK hLK
  go_enter Tryz.func99, Tryz.ntmps99
  go_wp2
  go_loopw [0, 5] (fun s i wr => ∃ k : Nat, k ≤ K ∧ i = .int .i64 k ∧ s = .string (strOfNums (chainB zs k)) ∧ Up w wr)
    (fun _ i _ => K - (intOf i).toNat)
  case atStart => exact ⟨0, Nat.zero_le _, rfl, rfl, Up.refl w⟩
  case round =>
    obtain ⟨k, hk, rfl, rfl, hB⟩ := hrel
    by_cases hlt : k < K
    · obtain ⟨hd1, hd2⟩ := (HLK.out k).1 hlt
      have hux := chainB_u8s zs hu k
      have hlx := chainB_le zs 140737488355200 (by omega) hl k
      have hs : chainB zs (k + 1) = shortB (chainB zs k) := rfl
      generalize chainB zs k = x at hux hlx hs ⊢
      have Hs := Lib.hid hs
      obtain ⟨a, c, w1, hconv, hI, hU1⟩ := conv_str x hux wr
      have HI := Lib.hid hI
      have Hux := Lib.hid hux
      clear hs hI hux
      go_wp2_with (go_at_call 97; (with_reducible refine Calls.mono (refShort_any _ x _ HI.out Hux.out hlx) ?_); rintro e w2 ⟨rfl, hU2⟩)
      go_roundw
      case rel => exact ⟨k + 1, by omega, by go_num, by rw [Hs.out], Up.trans (Up.trans hB hU1) hU2⟩
      case measure => simp [intOf]; omega
    · obtain rfl : k = K := by omega
      by_cases hd : (k : Int) < n
      · have hd3 : ¬ k < 3 := fun h => hlt ((HLK.out k).2 ⟨hd, h⟩)
        go_wp2
        go_ret
        exact ⟨rfl, hB⟩
      · go_wp2
        go_ret
        exact ⟨rfl, hB⟩

set_option maxHeartbeats 2000000 in
theorem refParts_any (v : Value) (bs : List Int) (w : World) (hv : Ints .u8 w v bs) (hu : U8s bs) (hl : bs.length ≤ 140737488355200) :
    Calls Tryz.prog 98 #[v] w fun e w' => ∃ r, e = .returned r ∧ w'.ownsRow w.heap.size 3 1 r 11 ((partsB bs).map (Value.int .i64)) ∧ Up w w' := by
  obtain ⟨i0, hi, hz0, hz1, hz2⟩ := info_parts info_int
  have Hs := Lib.hid (refSha_any v bs w hv hu hl)
  have hb := numB_range bs
  have hn2 := numB_two bs
  have h0 := (sumB_u8s bs).at _ 0
  have h1 := (sumB_u8s bs).at _ 1
  have Hl := Lib.hid (sumB_length bs)
  have hlr := left8_range (numB bs)
  have hpj : (digsB (numB bs) 8).map (Value.int .i64) ++ [.int .i64 (leftB (digsB (numB bs) 8) / 16 % 4), .int .i64 (leftB (digsB (numB bs) 8) / 4 % 4), .int .i64 (leftB (digsB (numB bs) 8) % 4)] = (partsB bs).map (Value.int .i64) := by
    unfold partsB
    rw [List.map_append]
    congr 1
    generalize leftB (digsB (numB bs) 8) = L
    have e3 : digsB L 3 = [L / 16 % 4, L / 4 % 4, L / 1 % 4] := rfl
    rw [e3, Int.ediv_one]
    rfl
  obtain ⟨a, cap, rfl, _, _, _⟩ := hv
  clear hu hl
  generalize partsB bs = PB at hpj ⊢
  generalize numB bs = n at hb hn2 hlr hpj
  generalize sumB bs = Z at Hs h0 h1 hn2 Hl
  have Hn2 := Lib.hid hn2
  have Hpj := Lib.hid hpj
  clear hn2 hpj
  go_enter Tryz.func98, Tryz.ntmps98
  go_wp2_with fail
  with_reducible refine Calls.mono Hs.out ?_
  rintro e w1 ⟨r1, rfl, hr1, hU1⟩
  have hU1 : Up w w1 := hU1
  obtain ⟨g1, c1, rfl, hc1⟩ := row_slice hr1 (by omega)
  have hI1 := Ints.of_row hr1
  have c0 := hI1.at0 0 (by rw [Hl.out]; omega)
  have c2 := hI1.at0 1 (by rw [Hl.out]; omega)
  clear hr1 hI1 Hs
  generalize Z[0]?.getD 0 = z0 at h0 c0 Hn2
  generalize Z[1]?.getD 0 = z1 at h1 c2 Hn2
  have q1 : IntKind.i64.wrap z0 = z0 := IntWalk.i64_in _ (by omega)
  have q2 : IntKind.i64.wrap z1 = z1 := IntWalk.i64_in _ (by omega)
  have q3 : IntKind.i64.wrap (z0 * 256) = z0 * 256 := IntWalk.i64_in _ (by omega)
  have q4 : IntKind.i64.wrap (z0 * 256 + z1) = z0 * 256 + z1 := IntWalk.i64_in _ (by omega)
  go_wp2
  go_quiet (fail)
  rw [← Hn2.out]
  have hU2 : Up w (w1.drewN nq) := Up.drewN hU1 nq
  generalize w1.drewN nq = w2 at hU2 ⊢
  clear q1 q2 q3 q4 c0 c2 Hn2 h0 h1 hU1
  go_wp2
  go_loopw [5, 6, 7] (fun o s i wr => ∃ k : Nat, k ≤ 8 ∧ i = .int .i64 ((7 : Int) - k) ∧ s = .int .i64 (leftB (digsTo n 8 k)) ∧ wr.ownsRow w.heap.size 3 1 o k ((digsTo n 8 k).map (Value.int .i64)) ∧ Up w wr)
    (fun _ _ i _ => (intOf i + 1).toNat)
  case atStart => exact ⟨0, Nat.zero_le _, rfl, rfl, World.ownsRow_nil _ _ _ _, hU2⟩
  case round =>
    clear hU2
    obtain ⟨k, hk, rfl, rfl, hrow, hB⟩ := hrel
    have hsr := leftB_range (digsTo n 8 k) (fun j => by
      by_cases h : j < k
      · simp [digsTo, h]; omega
      · rw [List.getElem?_eq_none (by rw [digsTo_length]; omega)]; decide)
    rw [digsTo_length] at hsr
    by_cases hlt : k < 8
    · obtain ⟨m, hm⟩ : ∃ m : Nat, (7 : Int) - k = m := ⟨7 - k, by omega⟩
      have hm2 : 8 - 1 - k = m := by omega
      have hm3 : m < 8 := by omega
      have hs := digsTo_succ n 8 k
      rw [hm2, ← two_four] at hs
      have hls : leftB (digsTo n 8 (k + 1)) = leftB (digsTo n 8 k) + (3 - n / 2 ^ (2 * m) % 4) := by rw [hs, leftB_snoc]
      have hq0 : 0 ≤ n / 2 ^ (2 * m) := Int.ediv_nonneg hb.1 (Int.le_of_lt (Int.pow_pos (by decide)))
      obtain ⟨q, hq⟩ : ∃ q, n / 2 ^ (2 * m) = q := ⟨_, rfl⟩
      rw [hq] at hs hls hq0
      have Hk := Lib.hid hm
      rw [hm]
      generalize leftB (digsTo n 8 k) = s at hsr hls ⊢
      have Hs := Lib.hid hs
      have Hls := Lib.hid hls
      have Hrow := Lib.hid hrow
      clear hm hm2 hs hls hrow
      go_wp2_with (at_builtin; refine wpList_append_own _ rfl (.tmp 31) (.tmp 33) 96 rfl w.heap.size 3 i0 (.int .i64 0) 1 8 Tryz.underlying96 hi hz0 hz1 hz2 rfl (by decide) _ k _ rfl (Hrow.out.alloc _) ⟨wr.heap.size, 0, none⟩ 1 1 [.int .i64 (q % 4)] rfl rfl (cell_one_new _ _ _) (by simp [Value.oneCell']) (by unfold maxLen; omega) (by omega) (by have := hB.size; simp; omega) ?_; intro v' w3 hown' hgrow _)
      go_roundw
      case rel => exact ⟨k + 1, by omega, by have := Hk.out; go_num, by rw [Hls.out]; go_num, by rw [Hs.out, List.map_append]; exact hown', (Up.alloc hB _).grown hgrow (by have := hB.size; simp; omega) (fun q e => (Hrow.out.lt q e).1)⟩
      case measure => simp [intOf]
    · obtain rfl : k = 8 := by omega
      rw [digsTo_all] at hrow ⊢
      generalize hL : leftB (digsB n 8) = L at hlr Hpj ⊢
      generalize digsB n 8 = D at hrow Hpj
      have hd : (7 : Int) - ((8 : Nat) : Int) = -1 := by decide
      rw [hd]
      clear hL hd hsr
      go_wp2_with (at_builtin; refine wpList_append_own _ rfl (.tmp 39) (.tmp 48) 96 rfl w.heap.size 3 i0 (.int .i64 0) 1 8 Tryz.underlying96 hi hz0 hz1 hz2 rfl (by decide) _ 8 _ rfl (hrow.alloc _) ⟨wr.heap.size, 0, none⟩ 3 3 [.int .i64 (L / 16 % 4), .int .i64 (L / 4 % 4), .int .i64 (L % 4)] rfl rfl (cells_new _ _ _ rfl _) (by simp [Value.oneCell']) (by unfold maxLen; omega) (by omega) (by have := hB.size; simp; omega) ?_; intro v' w3 hown' hgrow _)
      rw [Hpj.out] at hown'
      have hU3 : Up w w3 := (Up.alloc hB _).grown hgrow (by have := hB.size; simp; omega) (fun q e => (hrow.lt q e).1)
      go_ret
      exact ⟨_, rfl, hown', hU3⟩
end

/-
  The reference: Secret, Leaf.
-/
section
set_option linter.unusedVariables false
open Go.RowKit

theorem refPut_own (n : Int) (hn : -9223372036854775808 ≤ n ∧ n ≤ 9223372036854775807) (k : Nat) (hk : 0 < k ∧ k ≤ 8) (w : World) :
    Calls Tryz.prog 57 #[.int .i64 n, .int .i64 k] w fun e w' => ∃ g c, e = .returned (.slice (some ⟨g, 0, none⟩) k c) ∧ (∀ j u, ((octAll (IntKind.u64.wrap n) k).map (Value.int .u8))[j]? = some u → w'.cell? ((⟨g, 0, none⟩ : Addr).add j) = some u) ∧ Up w w' := by
  refine (refPut_any n k hn (by omega) k (by omega) w).mono ?_
  rintro e w' ⟨v, rfl, hr, hU⟩
  obtain ⟨g, c, rfl, _⟩ := row_slice hr hk.1
  exact ⟨g, c, rfl, row_cells hr, hU⟩

theorem seed_so_far (zs : List Int) (leaf place : Int) : ((((wotsB ++ octAll (IntKind.u64.wrap zs.length) 2) ++ zs) ++ octAll (IntKind.u64.wrap leaf) 4) ++ octAll (IntKind.u64.wrap place) 1) = seedB zs leaf place := by
  simp [seedB]

end

section
set_option linter.unusedVariables false
open Go.RowKit

theorem upTo_flat_succ (f : Nat → List Int) (k : Nat) : (upTo f (k + 1)).flatten = (upTo f k).flatten ++ f k := by rw [upTo_succ, List.flatten_append]; simp

end
end Go.Proofs.YtfenmhddlojahaaGreat
