import Derived.Lib.SlBytesConst
import Derived.Deep.QuietTactic
import Derived.BigQuiet
import Derived.Test.YtaepdmmlejdifaaJnFrames
import Derived.Test.YtaepdmmlejdifaaRefGet
namespace Go.Proofs.Ytaepdmmlejdifaa
/-
  What the page of journal says, as the statements' own functions reckon it; the page's example.
-/
section
set_option maxRecDepth 100000
section
set_option linter.unusedVariables false
open Go.RowKit

theorem jnAlive_any (w : World) : Calls Try.prog 11 #[] w fun e w' => e = .returned (.bool true) ∧ Up w w' := by
  have kc := fun (w : World) (C : Array Value) (n c : Nat) => Lib.run_convert_bytes_const (P := Try.prog) w 22 5 C n c Try.underlying22 Try.underlying5
  have hi2 := Ints.newf w .u8 5 #[.int .u8 97] (1, 2) [97] _ 1 rfl rfl rfl
  have Hf : Hid (Calls Try.prog 7 #[.slice (some ⟨w.heap.size, 0, none⟩) 1 1] (w.alloc (.cells #[.int .u8 97] 5 (1, 2))) fun e w' => ∃ a c, e = .returned (.tuple #[.slice a 4 c, .int .i64 0]) ∧ w'.ownsRow (w.alloc (.cells #[.int .u8 97] 5 (1, 2))).heap.size 5 1 (.slice a 4 c) 4 (([0, 0, 1, 97] : List Int).map (Value.int .u8)) ∧ Up (w.alloc (.cells #[.int .u8 97] 5 (1, 2))) w') := Lib.hid (frameFn_any _ [97] (w.alloc (.cells #[.int .u8 97] 5 (1, 2))) hi2 (by decide))
  clear hi2
  go_enter Try.func11, Try.ntmps11
  go_wp2_with fail
  with_reducible refine Calls.mono Hf.out ?_
  rintro e w1 ⟨a1, c1, rfl, h1, u1⟩
  have hconv := (Ints.of_row h1).str
  rw [show strOfNums [0, 0, 1, 97] = ⟨#[0, 0, 1, 97]⟩ from rfl] at hconv
  have U1 := Lib.hid (Up.trans (Up.alloc (Up.refl w) _) u1)
  clear h1 u1
  go_wp2
  go_ret
  exact ⟨rfl, U1.out⟩

theorem Rows8.all {W : World} {v : Value} {ls : List (List Int)} (h : Rows8 W v ls) : ∃ a c, v = .slice a ls.length c ∧ ∀ W', Up W W' → ∀ j, j < ls.length → ∃ b off, a = some ⟨b, off, none⟩ ∧ ∃ a1 c1, W'.cell? ⟨b, off + j, none⟩ = some (.slice a1 (ls[j]?.getD []).length c1) ∧ ∀ W2, Up W W2 → (convert 22 9 (.slice a1 (ls[j]?.getD []).length c1)).run Try.prog W2 = .ok (.string (strOfNums (ls[j]?.getD []))) W2 := by
  obtain ⟨a, c, rfl, hc, hn, hcell⟩ := id h
  refine ⟨a, c, rfl, fun W' hu j hj => ?_⟩
  rcases hcell with rfl | ⟨b, off, rfl, hcs⟩
  · simp at hj
  · obtain ⟨u, h1, h2⟩ := hcs j hj
    obtain ⟨a1, c1, rfl, h3⟩ := id h2
    exact ⟨b, off, rfl, a1, c1, later_cellF h1 hu, fun W2 hu2 => (h2.up hu2).str⟩
set_option maxHeartbeats 2000000 in
theorem lists_any (v u : Value) (ls : List (List Int)) (w : World) (hv : Rows8 w v ls) (hu : Rows8 w u ls) (hl : ls.length ≤ 9223372036854775807) :
    Calls Try.prog 10 #[v, u] w fun e w' => e = .returned (.bool true) ∧ Up w w' := by
  obtain ⟨a1, c1, rfl, H1⟩ := hv.all
  obtain ⟨a2, c2, rfl, H2⟩ := hu.all
  have H1 := Lib.hid H1
  have H2 := Lib.hid H2
  clear hv hu
  go_enter Try.func10, Try.ntmps10
  go_wp2
  go_loopw [5] (fun i wr => ∃ k : Nat, k ≤ ls.length ∧ i = .int .i64 k ∧ Up w wr) (fun i _ => ls.length - (intOf i).toNat)
  case atStart => exact ⟨0, Nat.zero_le _, rfl, Up.refl w⟩
  case round =>
    obtain ⟨k, hk, rfl, hB⟩ := hrel
    by_cases hlt : k < ls.length
    · obtain ⟨b1, o1, rfl, x1, y1, g1, k1⟩ := H1.out wr hB k hlt
      obtain ⟨b2, o2, rfl, x2, y2, g2, k2⟩ := H2.out wr hB k hlt
      have q1 : ∀ m, (convert 22 9 (.slice x1 (ls[k]?.getD []).length y1)).run Try.prog (wr.drewN m) = .ok (.string (strOfNums (ls[k]?.getD []))) (wr.drewN m) := fun m => k1 _ (Up.drewN hB m)
      have q2 : ∀ m, (convert 22 9 (.slice x2 (ls[k]?.getD []).length y2)).run Try.prog (wr.drewN m) = .ok (.string (strOfNums (ls[k]?.getD []))) (wr.drewN m) := fun m => k2 _ (Up.drewN hB m)
      have q1' := k1 wr.drew (Up.drew hB)
      have q2' := k2 wr.drew (Up.drew hB)
      have HB := Lib.hid hB
      clear k1 k2 hB
      generalize strOfNums (ls[k]?.getD []) = d at q1 q2 q1' q2'
      generalize (ls[k]?.getD []).length = m0 at g1 g2 q1 q2 q1' q2'
      go_wp2
      go_region
      have hB2 := Up.drew HB.out
      clear q1 q2 q1' q2' g1 g2
      go_wp2
      go_roundw
      case rel => exact ⟨k + 1, by omega, by go_num, hB2⟩
      case measure => simp [intOf]; omega
    · obtain rfl : k = ls.length := by omega
      go_wp2
      go_ret
      exact ⟨rfl, hB⟩
set_option maxHeartbeats 2000000 in
theorem refScan_any (v : Value) (bs : List Int) (w : World) (hv : Ints .u8 w v bs) (hu : U8s bs) (hlen : bs.length ≤ 2000000) :
    Calls Try.prog 9 #[v] w fun e w' => ∃ r, e = .returned (.tuple #[r, .int .i64 ((scan bs).2 : Nat)]) ∧ Rows8 w' r (scan bs).1 ∧ Up w w' := by
  obtain ⟨i0, hi, hz0, hz1, hz2⟩ := info_parts info_row8
  obtain ⟨a, cap, rfl, hcap, _, _⟩ := id hv
  have Hv := Lib.hid hv
  have Hu := Lib.hid hu
  clear hv hu
  go_enter Try.func9, Try.ntmps9
  go_wp2
  go_loopw [4, 5] (fun out i wr => ∃ (k : Nat) (us : List Value) (done : List (List Int)), k ≤ bs.length ∧ 3 * done.length ≤ k ∧ i = .int .i64 k ∧ (scan bs).1 = done ++ (scan (bs.drop k)).1 ∧ (scan bs).2 = k + (scan (bs.drop k)).2 ∧ wr.ownsRow w.heap.size 22 1 out done.length us ∧ us.length = done.length ∧ (∀ j, j < done.length → Ints .u8 w (us.getD j undef) (done[j]?.getD [])) ∧ Up w wr)
    (fun _ i _ => bs.length - (intOf i).toNat)
  case atStart => exact ⟨0, [], [], Nat.zero_le _, Nat.zero_le _, rfl, rfl, by simp, World.ownsRow_nil _ _ _ _, rfl, fun j hj => by simp at hj, Up.refl w⟩
  case round =>
    obtain ⟨k, us, done, hk, h3k, rfl, hs1, hs2, hrow, hul, hel, hU⟩ := hrel
    have hdl : (bs.drop k).length = bs.length - k := List.length_drop
    have Hel := Lib.hid hel
    have HU := Lib.hid hU
    have Hrow := Lib.hid hrow
    obtain ⟨ao, co, rfl⟩ := row_shape hrow
    clear hel hU hrow
    by_cases h3 : bs.length - k < 3
    · have hw : ¬ Whole3 (bs.drop k) := fun h => by have := h.1; omega
      rw [scan_end hw] at hs1 hs2
      simp only [List.append_nil, Nat.add_zero] at hs1 hs2
      have Hs1 := Lib.hid hs1
      have Hs2 := Lib.hid hs2
      have q : ¬ (3 ≤ (bs.length : Int) - k) := by omega
      clear hs1 hs2 hw hdl h3
      go_wp2
      go_ret2
      refine ⟨_, by rw [Hs2.out]; rfl, ?_, HU.out⟩
      rw [Hs1.out]
      exact (RowsF.of_row (F := fun _ => True) Hrow.out hul (fun _ _ => trivial) fun j hj => IntsF.of ((Hel.out j hj).up HU.out) (fun _ _ => trivial)).rows
    · have hg0 := len3_range (bs.drop k)
      obtain ⟨G, hG⟩ : ∃ G : Nat, len3 (bs.drop k) = G := ⟨(len3 (bs.drop k)).toNat, by omega⟩
      obtain ⟨a1, c1, hc1, hc1i⟩ := cut_mid a bs.length cap k 3 (by omega) hcap
      have hcut1 : (Instr.sliceAt 22 (.slice a bs.length cap) (some (.int .i64 k)) (some (.int .i64 ((k : Int) + 3))) none).run Try.prog wr = .ok (.slice a1 3 c1) wr := hc1 wr
      have Hg := Lib.hid (refGet_any (.slice a1 3 c1) ((bs.drop k).take 3) wr ((hc1i w bs Hv.out).up HU.out) ((Hu.out.drop k).take 3) (by rw [List.length_take]; omega))
      rw [show getB ((bs.drop k).take 3) = (G : Int) from hG] at Hg
      have q : 3 ≤ (bs.length : Int) - k := by omega
      by_cases hw : Whole3 (bs.drop k)
      · obtain ⟨_, w2, w3⟩ := id hw
        rw [scan_on hw] at hs1 hs2
        rw [hG] at w2 w3
        rw [hG, Int.toNat_natCast, List.drop_drop] at hs1 hs2
        obtain ⟨a2, c2, hc2, hc2i⟩ := cut_mid a bs.length cap (k + 3) G (by omega) hcap
        have hcut2 : ∀ x : World, (Instr.sliceAt 22 (.slice a bs.length cap) (some (.int .i64 ((k : Int) + 3))) (some (.int .i64 ((k : Int) + 3 + G))) none).run Try.prog x = .ok (.slice a2 G c2) x := by
          intro x
          have := hc2 x
          rw [show (((k + 3 : Nat) : Int)) = (k : Int) + 3 from by omega] at this
          exact this
        have hcutw := hcut2 wr
        have hri := hc2i w bs Hv.out
        rw [show (bs.drop (k + 3)).take G = ((bs.drop k).drop 3).take G from by rw [List.drop_drop]] at hri
        have Hs1 := Lib.hid hs1
        have Hs2 := Lib.hid hs2
        have Hri := Lib.hid hri
        have q2 : (G : Int) ≤ 16384 := by omega
        have q3 : (G : Int) ≤ (bs.length : Int) - k - 3 := by omega
        clear hs1 hs2 hri hw hdl h3 hc1 hc1i hc2 hc2i hcut2 hG hg0 w2 w3
        go_wp2_with fail
        with_reducible refine Calls.mono Hg.out ?_
        rintro e w9 ⟨rfl, rfl⟩
        go_wp2_with (at_builtin; go_loud (refine wpList_append_own_src _ rfl (.tmp 31) (.tmp 40) 26 rfl w.heap.size 22 i0 (.slice none 0 0) 1 24 Try.underlying26 hi hz0 hz1 hz2 rfl (by decide) _ done.length us rfl (ownsRow_up Hrow.out (Up.alloc (Up.refl wr) _)) (some ⟨wr.heap.size, 0, none⟩) 1 1 [.slice a2 G c2] rfl (fun e => by cases e) rfl (fun ad e => by cases e; exact cell_one_new _ _ _) (by simp [Value.oneCell']) (by unfold maxLen; omega) (by omega) (by have := HU.out.size; simp; omega) ?_; intro v' w4 hown' hgrow _; have Hown := Lib.hid hown'; have Hgrow := Lib.hid hgrow; clear hown' hgrow))
        go_roundw
        case rel => exact ⟨k + (3 + G), us ++ [.slice a2 G c2], done ++ [((bs.drop k).drop 3).take G], by omega, by rw [List.length_append, List.length_singleton]; omega, by go_num, by rw [Hs1.out]; simp, by rw [Hs2.out]; simp; omega, by rw [List.length_append]; exact Hown.out, by simp [hul], fun j hj => by
          rw [List.length_append, List.length_singleton] at hj
          by_cases e : j = done.length
          · subst e
            rw [← hul, last_getD, hul]
            simpa using Hri.out
          · rw [undef_getD (by omega), List.getElem?_append_left (by omega)]
            exact Hel.out j (by omega), up_row (Up.alloc HU.out _) (ownsRow_up Hrow.out (Up.alloc (Up.refl wr) _)) Hgrow.out (Nat.le_refl _)⟩
        case measure => simp [intOf]; omega
      · have hn : 16384 < (G : Int) ∨ ((G : Int) ≤ 16384 ∧ (bs.length : Int) - k - 3 < G) := by
          unfold Whole3 at hw
          rw [hG] at hw
          omega
        rw [scan_end hw] at hs1 hs2
        simp only [List.append_nil, Nat.add_zero] at hs1 hs2
        have Hs1 := Lib.hid hs1
        have Hs2 := Lib.hid hs2
        clear hs1 hs2 hw hdl h3 hc1 hc1i hG hg0
        go_wp2_with fail
        with_reducible refine Calls.mono Hg.out ?_
        rintro e w9 ⟨rfl, rfl⟩
        rcases hn with hn | ⟨hn, hn2⟩
        all_goals
          go_wp2
          go_ret2
          refine ⟨_, by rw [Hs2.out]; rfl, ?_, HU.out⟩
          rw [Hs1.out]
          exact (RowsF.of_row (F := fun _ => True) Hrow.out hul (fun _ _ => trivial) fun j hj => IntsF.of ((Hel.out j hj).up HU.out) (fun _ _ => trivial)).rows
end
end
end Go.Proofs.Ytaepdmmlejdifaa
