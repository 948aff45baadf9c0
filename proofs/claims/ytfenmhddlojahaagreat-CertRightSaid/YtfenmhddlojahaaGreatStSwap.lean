import Derived.Test.YtfenmhddlojahaaGreatStKit
namespace Go.Proofs.YtfenmhddlojahaaGreat
/-
  The sort of statements: stretches changed for one another.
-/
section
set_option maxRecDepth 100000
section
set_option linter.unusedVariables false
open Go.RowKit Go.Sort Go.Lib

/-- two places changed for one another -/
theorem sw_swp {w0 W : World} {blk off : Nat} {d d0 : Array Vs} (h : SW w0 blk off d W) (R : RowK vsC 7 w0 blk off d0) (hs : d.size = d0.size) (i j : Nat) (hi : i < d.size) (hj : j < d.size) {x y : Vs} (hx : d[i]! = x) (hy : d[j]! = y) :
    SW w0 blk off (d.setIfInBounds i y) (W.drew.setCells blk (off + i * 7) (vsC y)) ∧ SW w0 blk off (swp d i j) ((W.drew.setCells blk (off + i * 7) (vsC y)).setCells blk (off + j * 7) (vsC x)) := by
  have h1 := SWK.put h.drew R i hi y
  have h2 := SWK.put h1 R j (by rw [Array.size_setIfInBounds]; exact hj) x
  refine ⟨h1, ?_⟩
  unfold swp
  rw [hx, hy]
  exact h2

set_option maxHeartbeats 1000000 in
theorem swapRange_any {w0 : World} {blk off : Nat} {d0 : Array Vs} (R : RowK vsC 7 w0 blk off d0) (n cap m a b : Nat) (fv : Value) (P X Y Z T : List Vs) (hn : n = d0.size) (hsz : n < 4611686018427387904)
    (ha : a = P.length) (hX : X.length = m) (hZ : Z.length = m) (hb : b = P.length + m + Y.length) (d : Array Vs) (hd : d.toList = P ++ (X ++ (Y ++ (Z ++ T)))) (hdn : d.size = n) (w : World) (S : SW w0 blk off d w) :
    Calls Tryz.prog 154 #[.slice (some ⟨blk, off, none⟩) n cap, .int .i64 (a : Nat), .int .i64 (b : Nat), .int .i64 (m : Nat), fv] w fun e w' => e = .returned (.tuple #[]) ∧ ∃ d' : Array Vs, SW w0 blk off d' w' ∧ d'.toList = P ++ (Z ++ (Y ++ (X ++ T))) := by
  have hlen : P.length + (m + (Y.length + (m + T.length))) = n := by
    have := congrArg List.length hd
    simp [hX, hZ] at this
    omega
  have hbm : b + m ≤ n := by omega
  have ham : a + m ≤ n := by omega
  have S0 := Lib.hid S
  have HN := Lib.hid hn
  have HD := Lib.hid hd
  have HDN := Lib.hid hdn
  have HDZ : Hid (∀ dk : Array Vs, dk.size = n → dk.size = d0.size) := fun dk h => h.trans hn
  clear S hd hdn hn
  go_enter Tryz.func154, Tryz.ntmps154
  go_wp2
  go_loopw [10] (fun vi wr => ∃ i : Nat, ∃ dk : Array Vs, vi = .int .i64 (i : Nat) ∧ i ≤ m ∧ Hid (SW w0 blk off dk wr) ∧ Hid (dk.toList = P ++ (Z.take i ++ (X.drop i ++ (Y ++ (X.take i ++ (Z.drop i ++ T)))))))
    (fun vi _ => m - (intOf vi).toNat)
  case atStart => exact ⟨0, d, rfl, Nat.zero_le _, S0, Lib.hid (by simpa using HD.out)⟩
  case round =>
    obtain ⟨i, dk, rfl, hi, HS, HL⟩ := hrel
    by_cases hlt : i < m
    · obtain ⟨x, X2, eX⟩ : ∃ x X2, X.drop i = x :: X2 := ⟨_, _, List.drop_eq_getElem_cons (by omega)⟩
      obtain ⟨z, Z2, eZ⟩ : ∃ z Z2, Z.drop i = z :: Z2 := ⟨_, _, List.drop_eq_getElem_cons (by omega)⟩
      have tX : X.take (i + 1) = X.take i ++ [x] := by
        rw [List.take_succ_eq_append_getElem (by omega)]; congr 2
        have := List.drop_eq_getElem_cons (show i < X.length by omega); rw [eX] at this; exact (List.cons.inj this).1.symm
      have tZ : Z.take (i + 1) = Z.take i ++ [z] := by
        rw [List.take_succ_eq_append_getElem (by omega)]; congr 2
        have := List.drop_eq_getElem_cons (show i < Z.length by omega); rw [eZ] at this; exact (List.cons.inj this).1.symm
      have dX : X.drop (i + 1) = X2 := by rw [← List.drop_drop, eX]; rfl
      have dZ : Z.drop (i + 1) = Z2 := by rw [← List.drop_drop, eZ]; rfl
      have hL := HL.out
      rw [eX, eZ] at hL
      have hL' : dk.toList = (P ++ Z.take i) ++ x :: ((X2 ++ (Y ++ X.take i)) ++ z :: (Z2 ++ T)) := by rw [hL]; simp
      have lX2 : X2.length + (i + 1) = m := by rw [← dX, List.length_drop]; omega
      have la : a + i = (P ++ Z.take i).length := by rw [List.length_append, List.length_take]; omega
      have lb : b + i = (P ++ Z.take i).length + 1 + (X2 ++ (Y ++ X.take i)).length := by simp only [List.length_append, List.length_take]; omega
      have hdk : dk.size = n := by
        have := congrArg List.length HL.out
        simp only [Array.length_toList, List.length_append, List.length_take, List.length_drop] at this
        omega
      have hx : dk[a + i]! = x := bang_at' hL' la
      have hy : dk[b + i]! = z := bang_at' (L := (P ++ Z.take i) ++ x :: (X2 ++ (Y ++ X.take i))) (R := Z2 ++ T) (by rw [hL']; simp) (by rw [lb]; simp; omega)
      have hsw := swp_far hL' la lb
      have HS2 := sw_swp HS.out R (HDZ.out _ hdk) (a + i) (b + i) (by omega) (by omega) hx hy
      have HS1 := Lib.hid HS2.1
      have HR2 : Hid (SW w0 blk off (swp dk (a + i) (b + i)) ((wr.drew.setCells blk (off + (a + i) * 7) (vsC z)).setCells blk (off + (b + i) * 7) (vsC x)) ∧ (swp dk (a + i) (b + i)).toList = P ++ (Z.take (i + 1) ++ (X.drop (i + 1) ++ (Y ++ (X.take (i + 1) ++ (Z.drop (i + 1) ++ T)))))) :=
        ⟨HS2.2, by rw [hsw.1, tX, tZ, dX, dZ]; simp⟩
      have Hn : Hid (dk.size = d0.size) := HDZ.out _ hdk
      have Hn1 : Hid ((dk.setIfInBounds (a + i) z).size = d0.size) := Lib.hid (by rw [Array.size_setIfInBounds]; exact HDZ.out _ hdk)
      have Hx := Lib.hid hx
      have Hy := Lib.hid hy
      have HS := Lib.hid HS.out.drew
      have HI := Lib.hid (And.intro (show a + i < dk.size by omega) (show b + i < dk.size by omega))
      clear HS2 hsw hx hy hL hL' tX tZ dX dZ eX eZ HL lX2 la lb hdk
      have HA := Lib.hid (And.intro ha hb)
      clear ha hb
      generalize wr = wz at HS HS1 HR2 ⊢
      generalize x = xv at Hx HR2 ⊢
      generalize z = yv at Hy HS1 Hn1 HR2 ⊢
      have hjd : (i : Int) < (m : Int) := by omega
      go_wp2_with fail
      refine region_alongK (fun _ => True) (.read 0 (.read 1 (.read 2 (.read 3 (.read 4 (.read 5 (.read 6 (.read 7 (.read 8 (.read 9 (.read 10 (.read 11 (.read 12 (.read 14 (.read 15 (.read 16 (.read 17 (.read 18 (.fork 13 (.step 19 (.read 20 (.step 21 (.read 22 (.step 23 (.nil)))))) 19 (.step 13 (.read 20 (.step 21 (.read 22 (.step 23 (.nil))))))))))))))))))))))))) (by kernel_rfl) rfl (by kernel_rfl) (by kernel_rfl) (fun c a d v w h => by cases d <;> exact h) (trivial) ?_
      refine alongK_read (.slice (some ⟨blk, off, none⟩) n cap) rfl rfl (fun wx hS => ex_move (by rfl) (by rfl) wx) ?_
      change AlongK _ _ _ _ _ { tmps := #[.slice (some ⟨blk, off, none⟩) n cap, .int .i64 ((a : Nat) : Int), .int .i64 ((b : Nat) : Int), .int .i64 ((m : Nat) : Int), _, _, _, _, _, _, .int .i64 ((i : Nat) : Int), _, _, _, _, _, .slice (some ⟨blk, off, none⟩) n cap, _, _, _, _, _, _, _, _, _, _, _, _, _, _, _, _, _, _, _, _, _], defers := _ } _
      refine alongK_read (.int .i64 ((a : Nat) : Int)) rfl rfl (fun wx hS => ex_move (by rfl) (by rfl) wx) ?_
      change AlongK _ _ _ _ _ { tmps := #[.slice (some ⟨blk, off, none⟩) n cap, .int .i64 ((a : Nat) : Int), .int .i64 ((b : Nat) : Int), .int .i64 ((m : Nat) : Int), _, _, _, _, _, _, .int .i64 ((i : Nat) : Int), _, _, _, _, _, .slice (some ⟨blk, off, none⟩) n cap, .int .i64 ((a : Nat) : Int), _, _, _, _, _, _, _, _, _, _, _, _, _, _, _, _, _, _, _, _], defers := _ } _
      refine alongK_read (.int .i64 ((i : Nat) : Int)) rfl rfl (fun wx hS => ex_move (by rfl) (by rfl) wx) ?_
      change AlongK _ _ _ _ _ { tmps := #[.slice (some ⟨blk, off, none⟩) n cap, .int .i64 ((a : Nat) : Int), .int .i64 ((b : Nat) : Int), .int .i64 ((m : Nat) : Int), _, _, _, _, _, _, .int .i64 ((i : Nat) : Int), _, _, _, _, _, .slice (some ⟨blk, off, none⟩) n cap, .int .i64 ((a : Nat) : Int), .int .i64 ((i : Nat) : Int), _, _, _, _, _, _, _, _, _, _, _, _, _, _, _, _, _, _, _], defers := _ } _
      refine alongK_read (.int .i64 ((a + i : Nat) : Int)) rfl rfl (fun wx hS => ex_bin rfl rfl rfl wx (bin_add _ _ a i (by omega) wx)) ?_
      change AlongK _ _ _ _ _ { tmps := #[.slice (some ⟨blk, off, none⟩) n cap, .int .i64 ((a : Nat) : Int), .int .i64 ((b : Nat) : Int), .int .i64 ((m : Nat) : Int), _, _, _, _, _, _, .int .i64 ((i : Nat) : Int), _, _, _, _, _, .slice (some ⟨blk, off, none⟩) n cap, .int .i64 ((a : Nat) : Int), .int .i64 ((i : Nat) : Int), .int .i64 ((a + i : Nat) : Int), _, _, _, _, _, _, _, _, _, _, _, _, _, _, _, _, _, _], defers := _ } _
      refine alongK_read (.slice (some ⟨blk, off, none⟩) n cap) rfl rfl (fun wx hS => ex_move (by rfl) (by rfl) wx) ?_
      change AlongK _ _ _ _ _ { tmps := #[.slice (some ⟨blk, off, none⟩) n cap, .int .i64 ((a : Nat) : Int), .int .i64 ((b : Nat) : Int), .int .i64 ((m : Nat) : Int), _, _, _, _, _, _, .int .i64 ((i : Nat) : Int), _, _, _, _, _, .slice (some ⟨blk, off, none⟩) n cap, .int .i64 ((a : Nat) : Int), .int .i64 ((i : Nat) : Int), .int .i64 ((a + i : Nat) : Int), .slice (some ⟨blk, off, none⟩) n cap, _, _, _, _, _, _, _, _, _, _, _, _, _, _, _, _, _], defers := _ } _
      refine alongK_read (.int .i64 ((b : Nat) : Int)) rfl rfl (fun wx hS => ex_move (by rfl) (by rfl) wx) ?_
      change AlongK _ _ _ _ _ { tmps := #[.slice (some ⟨blk, off, none⟩) n cap, .int .i64 ((a : Nat) : Int), .int .i64 ((b : Nat) : Int), .int .i64 ((m : Nat) : Int), _, _, _, _, _, _, .int .i64 ((i : Nat) : Int), _, _, _, _, _, .slice (some ⟨blk, off, none⟩) n cap, .int .i64 ((a : Nat) : Int), .int .i64 ((i : Nat) : Int), .int .i64 ((a + i : Nat) : Int), .slice (some ⟨blk, off, none⟩) n cap, .int .i64 ((b : Nat) : Int), _, _, _, _, _, _, _, _, _, _, _, _, _, _, _, _], defers := _ } _
      refine alongK_read (.int .i64 ((i : Nat) : Int)) rfl rfl (fun wx hS => ex_move (by rfl) (by rfl) wx) ?_
      change AlongK _ _ _ _ _ { tmps := #[.slice (some ⟨blk, off, none⟩) n cap, .int .i64 ((a : Nat) : Int), .int .i64 ((b : Nat) : Int), .int .i64 ((m : Nat) : Int), _, _, _, _, _, _, .int .i64 ((i : Nat) : Int), _, _, _, _, _, .slice (some ⟨blk, off, none⟩) n cap, .int .i64 ((a : Nat) : Int), .int .i64 ((i : Nat) : Int), .int .i64 ((a + i : Nat) : Int), .slice (some ⟨blk, off, none⟩) n cap, .int .i64 ((b : Nat) : Int), .int .i64 ((i : Nat) : Int), _, _, _, _, _, _, _, _, _, _, _, _, _, _, _], defers := _ } _
      refine alongK_read (.int .i64 ((b + i : Nat) : Int)) rfl rfl (fun wx hS => ex_bin rfl rfl rfl wx (bin_add _ _ b i (by omega) wx)) ?_
      change AlongK _ _ _ _ _ { tmps := #[.slice (some ⟨blk, off, none⟩) n cap, .int .i64 ((a : Nat) : Int), .int .i64 ((b : Nat) : Int), .int .i64 ((m : Nat) : Int), _, _, _, _, _, _, .int .i64 ((i : Nat) : Int), _, _, _, _, _, .slice (some ⟨blk, off, none⟩) n cap, .int .i64 ((a : Nat) : Int), .int .i64 ((i : Nat) : Int), .int .i64 ((a + i : Nat) : Int), .slice (some ⟨blk, off, none⟩) n cap, .int .i64 ((b : Nat) : Int), .int .i64 ((i : Nat) : Int), .int .i64 ((b + i : Nat) : Int), _, _, _, _, _, _, _, _, _, _, _, _, _, _], defers := _ } _
      refine alongK_read (.slice (some ⟨blk, off, none⟩) n cap) rfl rfl (fun wx hS => ex_move (by rfl) (by rfl) wx) ?_
      change AlongK _ _ _ _ _ { tmps := #[.slice (some ⟨blk, off, none⟩) n cap, .int .i64 ((a : Nat) : Int), .int .i64 ((b : Nat) : Int), .int .i64 ((m : Nat) : Int), _, _, _, _, _, _, .int .i64 ((i : Nat) : Int), _, _, _, _, _, .slice (some ⟨blk, off, none⟩) n cap, .int .i64 ((a : Nat) : Int), .int .i64 ((i : Nat) : Int), .int .i64 ((a + i : Nat) : Int), .slice (some ⟨blk, off, none⟩) n cap, .int .i64 ((b : Nat) : Int), .int .i64 ((i : Nat) : Int), .int .i64 ((b + i : Nat) : Int), .slice (some ⟨blk, off, none⟩) n cap, _, _, _, _, _, _, _, _, _, _, _, _, _], defers := _ } _
      refine alongK_read (.int .i64 ((b : Nat) : Int)) rfl rfl (fun wx hS => ex_move (by rfl) (by rfl) wx) ?_
      change AlongK _ _ _ _ _ { tmps := #[.slice (some ⟨blk, off, none⟩) n cap, .int .i64 ((a : Nat) : Int), .int .i64 ((b : Nat) : Int), .int .i64 ((m : Nat) : Int), _, _, _, _, _, _, .int .i64 ((i : Nat) : Int), _, _, _, _, _, .slice (some ⟨blk, off, none⟩) n cap, .int .i64 ((a : Nat) : Int), .int .i64 ((i : Nat) : Int), .int .i64 ((a + i : Nat) : Int), .slice (some ⟨blk, off, none⟩) n cap, .int .i64 ((b : Nat) : Int), .int .i64 ((i : Nat) : Int), .int .i64 ((b + i : Nat) : Int), .slice (some ⟨blk, off, none⟩) n cap, .int .i64 ((b : Nat) : Int), _, _, _, _, _, _, _, _, _, _, _, _], defers := _ } _
      refine alongK_read (.int .i64 ((i : Nat) : Int)) rfl rfl (fun wx hS => ex_move (by rfl) (by rfl) wx) ?_
      change AlongK _ _ _ _ _ { tmps := #[.slice (some ⟨blk, off, none⟩) n cap, .int .i64 ((a : Nat) : Int), .int .i64 ((b : Nat) : Int), .int .i64 ((m : Nat) : Int), _, _, _, _, _, _, .int .i64 ((i : Nat) : Int), _, _, _, _, _, .slice (some ⟨blk, off, none⟩) n cap, .int .i64 ((a : Nat) : Int), .int .i64 ((i : Nat) : Int), .int .i64 ((a + i : Nat) : Int), .slice (some ⟨blk, off, none⟩) n cap, .int .i64 ((b : Nat) : Int), .int .i64 ((i : Nat) : Int), .int .i64 ((b + i : Nat) : Int), .slice (some ⟨blk, off, none⟩) n cap, .int .i64 ((b : Nat) : Int), .int .i64 ((i : Nat) : Int), _, _, _, _, _, _, _, _, _, _, _], defers := _ } _
      refine alongK_read (.int .i64 ((b + i : Nat) : Int)) rfl rfl (fun wx hS => ex_bin rfl rfl rfl wx (bin_add _ _ b i (by omega) wx)) ?_
      change AlongK _ _ _ _ _ { tmps := #[.slice (some ⟨blk, off, none⟩) n cap, .int .i64 ((a : Nat) : Int), .int .i64 ((b : Nat) : Int), .int .i64 ((m : Nat) : Int), _, _, _, _, _, _, .int .i64 ((i : Nat) : Int), _, _, _, _, _, .slice (some ⟨blk, off, none⟩) n cap, .int .i64 ((a : Nat) : Int), .int .i64 ((i : Nat) : Int), .int .i64 ((a + i : Nat) : Int), .slice (some ⟨blk, off, none⟩) n cap, .int .i64 ((b : Nat) : Int), .int .i64 ((i : Nat) : Int), .int .i64 ((b + i : Nat) : Int), .slice (some ⟨blk, off, none⟩) n cap, .int .i64 ((b : Nat) : Int), .int .i64 ((i : Nat) : Int), .int .i64 ((b + i : Nat) : Int), _, _, _, _, _, _, _, _, _, _], defers := _ } _
      refine alongK_read (.pointer (some ⟨blk, off + (b + i) * 7, none⟩)) rfl rfl (fun wx hS => ex_index Tryz.underlying22 Tryz.sizeOf49 rfl rfl rfl (by omega) wx) ?_
      change AlongK _ _ _ _ _ { tmps := #[.slice (some ⟨blk, off, none⟩) n cap, .int .i64 ((a : Nat) : Int), .int .i64 ((b : Nat) : Int), .int .i64 ((m : Nat) : Int), _, _, _, _, _, _, .int .i64 ((i : Nat) : Int), _, _, _, _, _, .slice (some ⟨blk, off, none⟩) n cap, .int .i64 ((a : Nat) : Int), .int .i64 ((i : Nat) : Int), .int .i64 ((a + i : Nat) : Int), .slice (some ⟨blk, off, none⟩) n cap, .int .i64 ((b : Nat) : Int), .int .i64 ((i : Nat) : Int), .int .i64 ((b + i : Nat) : Int), .slice (some ⟨blk, off, none⟩) n cap, .int .i64 ((b : Nat) : Int), .int .i64 ((i : Nat) : Int), .int .i64 ((b + i : Nat) : Int), .pointer (some ⟨blk, off + (b + i) * 7, none⟩), _, _, _, _, _, _, _, _, _], defers := _ } _
      refine alongK_read (.slice (some ⟨blk, off, none⟩) n cap) rfl rfl (fun wx hS => ex_move (by rfl) (by rfl) wx) ?_
      change AlongK _ _ _ _ _ { tmps := #[.slice (some ⟨blk, off, none⟩) n cap, .int .i64 ((a : Nat) : Int), .int .i64 ((b : Nat) : Int), .int .i64 ((m : Nat) : Int), _, _, _, _, _, _, .int .i64 ((i : Nat) : Int), _, _, _, _, _, .slice (some ⟨blk, off, none⟩) n cap, .int .i64 ((a : Nat) : Int), .int .i64 ((i : Nat) : Int), .int .i64 ((a + i : Nat) : Int), .slice (some ⟨blk, off, none⟩) n cap, .int .i64 ((b : Nat) : Int), .int .i64 ((i : Nat) : Int), .int .i64 ((b + i : Nat) : Int), .slice (some ⟨blk, off, none⟩) n cap, .int .i64 ((b : Nat) : Int), .int .i64 ((i : Nat) : Int), .int .i64 ((b + i : Nat) : Int), .pointer (some ⟨blk, off + (b + i) * 7, none⟩), _, .slice (some ⟨blk, off, none⟩) n cap, _, _, _, _, _, _, _], defers := _ } _
      refine alongK_read (.int .i64 ((a : Nat) : Int)) rfl rfl (fun wx hS => ex_move (by rfl) (by rfl) wx) ?_
      change AlongK _ _ _ _ _ { tmps := #[.slice (some ⟨blk, off, none⟩) n cap, .int .i64 ((a : Nat) : Int), .int .i64 ((b : Nat) : Int), .int .i64 ((m : Nat) : Int), _, _, _, _, _, _, .int .i64 ((i : Nat) : Int), _, _, _, _, _, .slice (some ⟨blk, off, none⟩) n cap, .int .i64 ((a : Nat) : Int), .int .i64 ((i : Nat) : Int), .int .i64 ((a + i : Nat) : Int), .slice (some ⟨blk, off, none⟩) n cap, .int .i64 ((b : Nat) : Int), .int .i64 ((i : Nat) : Int), .int .i64 ((b + i : Nat) : Int), .slice (some ⟨blk, off, none⟩) n cap, .int .i64 ((b : Nat) : Int), .int .i64 ((i : Nat) : Int), .int .i64 ((b + i : Nat) : Int), .pointer (some ⟨blk, off + (b + i) * 7, none⟩), _, .slice (some ⟨blk, off, none⟩) n cap, .int .i64 ((a : Nat) : Int), _, _, _, _, _, _], defers := _ } _
      refine alongK_read (.int .i64 ((i : Nat) : Int)) rfl rfl (fun wx hS => ex_move (by rfl) (by rfl) wx) ?_
      change AlongK _ _ _ _ _ { tmps := #[.slice (some ⟨blk, off, none⟩) n cap, .int .i64 ((a : Nat) : Int), .int .i64 ((b : Nat) : Int), .int .i64 ((m : Nat) : Int), _, _, _, _, _, _, .int .i64 ((i : Nat) : Int), _, _, _, _, _, .slice (some ⟨blk, off, none⟩) n cap, .int .i64 ((a : Nat) : Int), .int .i64 ((i : Nat) : Int), .int .i64 ((a + i : Nat) : Int), .slice (some ⟨blk, off, none⟩) n cap, .int .i64 ((b : Nat) : Int), .int .i64 ((i : Nat) : Int), .int .i64 ((b + i : Nat) : Int), .slice (some ⟨blk, off, none⟩) n cap, .int .i64 ((b : Nat) : Int), .int .i64 ((i : Nat) : Int), .int .i64 ((b + i : Nat) : Int), .pointer (some ⟨blk, off + (b + i) * 7, none⟩), _, .slice (some ⟨blk, off, none⟩) n cap, .int .i64 ((a : Nat) : Int), .int .i64 ((i : Nat) : Int), _, _, _, _, _], defers := _ } _
      refine alongK_read (.int .i64 ((a + i : Nat) : Int)) rfl rfl (fun wx hS => ex_bin rfl rfl rfl wx (bin_add _ _ a i (by omega) wx)) ?_
      change AlongK _ _ _ _ _ { tmps := #[.slice (some ⟨blk, off, none⟩) n cap, .int .i64 ((a : Nat) : Int), .int .i64 ((b : Nat) : Int), .int .i64 ((m : Nat) : Int), _, _, _, _, _, _, .int .i64 ((i : Nat) : Int), _, _, _, _, _, .slice (some ⟨blk, off, none⟩) n cap, .int .i64 ((a : Nat) : Int), .int .i64 ((i : Nat) : Int), .int .i64 ((a + i : Nat) : Int), .slice (some ⟨blk, off, none⟩) n cap, .int .i64 ((b : Nat) : Int), .int .i64 ((i : Nat) : Int), .int .i64 ((b + i : Nat) : Int), .slice (some ⟨blk, off, none⟩) n cap, .int .i64 ((b : Nat) : Int), .int .i64 ((i : Nat) : Int), .int .i64 ((b + i : Nat) : Int), .pointer (some ⟨blk, off + (b + i) * 7, none⟩), _, .slice (some ⟨blk, off, none⟩) n cap, .int .i64 ((a : Nat) : Int), .int .i64 ((i : Nat) : Int), .int .i64 ((a + i : Nat) : Int), _, _, _, _], defers := _ } _
      refine alongK_read (.pointer (some ⟨blk, off + (a + i) * 7, none⟩)) rfl rfl (fun wx hS => ex_index Tryz.underlying22 Tryz.sizeOf49 rfl rfl rfl (by omega) wx) ?_
      change AlongK _ _ _ _ _ { tmps := #[.slice (some ⟨blk, off, none⟩) n cap, .int .i64 ((a : Nat) : Int), .int .i64 ((b : Nat) : Int), .int .i64 ((m : Nat) : Int), _, _, _, _, _, _, .int .i64 ((i : Nat) : Int), _, _, _, _, _, .slice (some ⟨blk, off, none⟩) n cap, .int .i64 ((a : Nat) : Int), .int .i64 ((i : Nat) : Int), .int .i64 ((a + i : Nat) : Int), .slice (some ⟨blk, off, none⟩) n cap, .int .i64 ((b : Nat) : Int), .int .i64 ((i : Nat) : Int), .int .i64 ((b + i : Nat) : Int), .slice (some ⟨blk, off, none⟩) n cap, .int .i64 ((b : Nat) : Int), .int .i64 ((i : Nat) : Int), .int .i64 ((b + i : Nat) : Int), .pointer (some ⟨blk, off + (b + i) * 7, none⟩), _, .slice (some ⟨blk, off, none⟩) n cap, .int .i64 ((a : Nat) : Int), .int .i64 ((i : Nat) : Int), .int .i64 ((a + i : Nat) : Int), .pointer (some ⟨blk, off + (a + i) * 7, none⟩), _, _, _], defers := _ } _
      refine alongK_fork ?_ ?_
      refine opK_run (.agg (vsA yv)) wz.drew rfl rfl (ex_elem rfl rfl HS.out R Hn.out HI.out.2 Hy.out) (fun _ => True) (fun _ h => h) trivial ?_
      change AlongK _ _ _ _ _ { tmps := #[.slice (some ⟨blk, off, none⟩) n cap, .int .i64 ((a : Nat) : Int), .int .i64 ((b : Nat) : Int), .int .i64 ((m : Nat) : Int), _, _, _, _, _, _, .int .i64 ((i : Nat) : Int), _, _, _, _, _, .slice (some ⟨blk, off, none⟩) n cap, .int .i64 ((a : Nat) : Int), .int .i64 ((i : Nat) : Int), .int .i64 ((a + i : Nat) : Int), .slice (some ⟨blk, off, none⟩) n cap, .int .i64 ((b : Nat) : Int), .int .i64 ((i : Nat) : Int), .int .i64 ((b + i : Nat) : Int), .slice (some ⟨blk, off, none⟩) n cap, .int .i64 ((b : Nat) : Int), .int .i64 ((i : Nat) : Int), .int .i64 ((b + i : Nat) : Int), .pointer (some ⟨blk, off + (b + i) * 7, none⟩), .agg (vsA yv), .slice (some ⟨blk, off, none⟩) n cap, .int .i64 ((a : Nat) : Int), .int .i64 ((i : Nat) : Int), .int .i64 ((a + i : Nat) : Int), .pointer (some ⟨blk, off + (a + i) * 7, none⟩), _, _, _], defers := _ } _
      refine alongK_step ?_
      refine opK_run (.agg (vsA xv)) wz.drew rfl rfl (ex_elem rfl rfl HS.out R Hn.out HI.out.1 Hx.out) (fun _ => True) (fun _ h => h) trivial ?_
      change AlongK _ _ _ _ _ { tmps := #[.slice (some ⟨blk, off, none⟩) n cap, .int .i64 ((a : Nat) : Int), .int .i64 ((b : Nat) : Int), .int .i64 ((m : Nat) : Int), _, _, _, _, _, _, .int .i64 ((i : Nat) : Int), _, _, _, _, _, .slice (some ⟨blk, off, none⟩) n cap, .int .i64 ((a : Nat) : Int), .int .i64 ((i : Nat) : Int), .int .i64 ((a + i : Nat) : Int), .slice (some ⟨blk, off, none⟩) n cap, .int .i64 ((b : Nat) : Int), .int .i64 ((i : Nat) : Int), .int .i64 ((b + i : Nat) : Int), .slice (some ⟨blk, off, none⟩) n cap, .int .i64 ((b : Nat) : Int), .int .i64 ((i : Nat) : Int), .int .i64 ((b + i : Nat) : Int), .pointer (some ⟨blk, off + (b + i) * 7, none⟩), .agg (vsA yv), .slice (some ⟨blk, off, none⟩) n cap, .int .i64 ((a : Nat) : Int), .int .i64 ((i : Nat) : Int), .int .i64 ((a + i : Nat) : Int), .pointer (some ⟨blk, off + (a + i) * 7, none⟩), .agg (vsA xv), _, _], defers := _ } _
      refine alongK_read (.pointer (some ⟨blk, off + (a + i) * 7, none⟩)) rfl rfl (fun wx hS => ex_index Tryz.underlying22 Tryz.sizeOf49 rfl rfl rfl (by omega) wx) ?_
      change AlongK _ _ _ _ _ { tmps := #[.slice (some ⟨blk, off, none⟩) n cap, .int .i64 ((a : Nat) : Int), .int .i64 ((b : Nat) : Int), .int .i64 ((m : Nat) : Int), _, _, _, _, _, _, .int .i64 ((i : Nat) : Int), _, _, _, _, _, .slice (some ⟨blk, off, none⟩) n cap, .int .i64 ((a : Nat) : Int), .int .i64 ((i : Nat) : Int), .int .i64 ((a + i : Nat) : Int), .slice (some ⟨blk, off, none⟩) n cap, .int .i64 ((b : Nat) : Int), .int .i64 ((i : Nat) : Int), .int .i64 ((b + i : Nat) : Int), .slice (some ⟨blk, off, none⟩) n cap, .int .i64 ((b : Nat) : Int), .int .i64 ((i : Nat) : Int), .int .i64 ((b + i : Nat) : Int), .pointer (some ⟨blk, off + (b + i) * 7, none⟩), .agg (vsA yv), .slice (some ⟨blk, off, none⟩) n cap, .int .i64 ((a : Nat) : Int), .int .i64 ((i : Nat) : Int), .int .i64 ((a + i : Nat) : Int), .pointer (some ⟨blk, off + (a + i) * 7, none⟩), .agg (vsA xv), .pointer (some ⟨blk, off + (a + i) * 7, none⟩), _], defers := _ } _
      refine alongK_step ?_
      refine opK_store (wz.drew.setCells blk (off + (a + i) * 7) (vsC yv)) rfl rfl (ex_put rfl rfl yv rfl HS.out R Hn.out HI.out.1) (fun _ => True) (fun _ h => h) trivial ?_
      change AlongK _ _ _ _ _ { tmps := #[.slice (some ⟨blk, off, none⟩) n cap, .int .i64 ((a : Nat) : Int), .int .i64 ((b : Nat) : Int), .int .i64 ((m : Nat) : Int), _, _, _, _, _, _, .int .i64 ((i : Nat) : Int), _, _, _, _, _, .slice (some ⟨blk, off, none⟩) n cap, .int .i64 ((a : Nat) : Int), .int .i64 ((i : Nat) : Int), .int .i64 ((a + i : Nat) : Int), .slice (some ⟨blk, off, none⟩) n cap, .int .i64 ((b : Nat) : Int), .int .i64 ((i : Nat) : Int), .int .i64 ((b + i : Nat) : Int), .slice (some ⟨blk, off, none⟩) n cap, .int .i64 ((b : Nat) : Int), .int .i64 ((i : Nat) : Int), .int .i64 ((b + i : Nat) : Int), .pointer (some ⟨blk, off + (b + i) * 7, none⟩), .agg (vsA yv), .slice (some ⟨blk, off, none⟩) n cap, .int .i64 ((a : Nat) : Int), .int .i64 ((i : Nat) : Int), .int .i64 ((a + i : Nat) : Int), .pointer (some ⟨blk, off + (a + i) * 7, none⟩), .agg (vsA xv), .pointer (some ⟨blk, off + (a + i) * 7, none⟩), _], defers := _ } _
      refine alongK_read (.pointer (some ⟨blk, off + (b + i) * 7, none⟩)) rfl rfl (fun wx hS => ex_index Tryz.underlying22 Tryz.sizeOf49 rfl rfl rfl (by omega) wx) ?_
      change AlongK _ _ _ _ _ { tmps := #[.slice (some ⟨blk, off, none⟩) n cap, .int .i64 ((a : Nat) : Int), .int .i64 ((b : Nat) : Int), .int .i64 ((m : Nat) : Int), _, _, _, _, _, _, .int .i64 ((i : Nat) : Int), _, _, _, _, _, .slice (some ⟨blk, off, none⟩) n cap, .int .i64 ((a : Nat) : Int), .int .i64 ((i : Nat) : Int), .int .i64 ((a + i : Nat) : Int), .slice (some ⟨blk, off, none⟩) n cap, .int .i64 ((b : Nat) : Int), .int .i64 ((i : Nat) : Int), .int .i64 ((b + i : Nat) : Int), .slice (some ⟨blk, off, none⟩) n cap, .int .i64 ((b : Nat) : Int), .int .i64 ((i : Nat) : Int), .int .i64 ((b + i : Nat) : Int), .pointer (some ⟨blk, off + (b + i) * 7, none⟩), .agg (vsA yv), .slice (some ⟨blk, off, none⟩) n cap, .int .i64 ((a : Nat) : Int), .int .i64 ((i : Nat) : Int), .int .i64 ((a + i : Nat) : Int), .pointer (some ⟨blk, off + (a + i) * 7, none⟩), .agg (vsA xv), .pointer (some ⟨blk, off + (a + i) * 7, none⟩), .pointer (some ⟨blk, off + (b + i) * 7, none⟩)], defers := _ } _
      refine alongK_step ?_
      refine opK_store ((wz.drew.setCells blk (off + (a + i) * 7) (vsC yv)).setCells blk (off + (b + i) * 7) (vsC xv)) rfl rfl (ex_put rfl rfl xv rfl HS1.out R Hn1.out (by rw [Array.size_setIfInBounds]; exact HI.out.2)) (fun _ => True) (fun _ h => h) trivial ?_
      change AlongK _ _ _ _ _ { tmps := #[.slice (some ⟨blk, off, none⟩) n cap, .int .i64 ((a : Nat) : Int), .int .i64 ((b : Nat) : Int), .int .i64 ((m : Nat) : Int), _, _, _, _, _, _, .int .i64 ((i : Nat) : Int), _, _, _, _, _, .slice (some ⟨blk, off, none⟩) n cap, .int .i64 ((a : Nat) : Int), .int .i64 ((i : Nat) : Int), .int .i64 ((a + i : Nat) : Int), .slice (some ⟨blk, off, none⟩) n cap, .int .i64 ((b : Nat) : Int), .int .i64 ((i : Nat) : Int), .int .i64 ((b + i : Nat) : Int), .slice (some ⟨blk, off, none⟩) n cap, .int .i64 ((b : Nat) : Int), .int .i64 ((i : Nat) : Int), .int .i64 ((b + i : Nat) : Int), .pointer (some ⟨blk, off + (b + i) * 7, none⟩), .agg (vsA yv), .slice (some ⟨blk, off, none⟩) n cap, .int .i64 ((a : Nat) : Int), .int .i64 ((i : Nat) : Int), .int .i64 ((a + i : Nat) : Int), .pointer (some ⟨blk, off + (a + i) * 7, none⟩), .agg (vsA xv), .pointer (some ⟨blk, off + (a + i) * 7, none⟩), .pointer (some ⟨blk, off + (b + i) * 7, none⟩)], defers := _ } _
      refine alongK_done ?_
      focus
        clear HS HS1 Hx Hy Hn1 Hn
        generalize (wz.drew.setCells blk (off + (a + i) * 7) (vsC yv)).setCells blk (off + (b + i) * 7) (vsC xv) = w2 at HR2 ⊢
        go_wp2
        go_roundw
        case rel => exact ⟨i + 1, _, by go_num, by omega, Lib.hid HR2.out.1, Lib.hid HR2.out.2⟩
        case measure => simp [intOf]; omega
      rotate_left
      refine opK_run (.agg (vsA xv)) wz.drew rfl rfl (ex_elem rfl rfl HS.out R Hn.out HI.out.1 Hx.out) (fun _ => True) (fun _ h => h) trivial ?_
      change AlongK _ _ _ _ _ { tmps := #[.slice (some ⟨blk, off, none⟩) n cap, .int .i64 ((a : Nat) : Int), .int .i64 ((b : Nat) : Int), .int .i64 ((m : Nat) : Int), _, _, _, _, _, _, .int .i64 ((i : Nat) : Int), _, _, _, _, _, .slice (some ⟨blk, off, none⟩) n cap, .int .i64 ((a : Nat) : Int), .int .i64 ((i : Nat) : Int), .int .i64 ((a + i : Nat) : Int), .slice (some ⟨blk, off, none⟩) n cap, .int .i64 ((b : Nat) : Int), .int .i64 ((i : Nat) : Int), .int .i64 ((b + i : Nat) : Int), .slice (some ⟨blk, off, none⟩) n cap, .int .i64 ((b : Nat) : Int), .int .i64 ((i : Nat) : Int), .int .i64 ((b + i : Nat) : Int), .pointer (some ⟨blk, off + (b + i) * 7, none⟩), _, .slice (some ⟨blk, off, none⟩) n cap, .int .i64 ((a : Nat) : Int), .int .i64 ((i : Nat) : Int), .int .i64 ((a + i : Nat) : Int), .pointer (some ⟨blk, off + (a + i) * 7, none⟩), .agg (vsA xv), _, _], defers := _ } _
      refine alongK_step ?_
      refine opK_run (.agg (vsA yv)) wz.drew rfl rfl (ex_elem rfl rfl HS.out R Hn.out HI.out.2 Hy.out) (fun _ => True) (fun _ h => h) trivial ?_
      change AlongK _ _ _ _ _ { tmps := #[.slice (some ⟨blk, off, none⟩) n cap, .int .i64 ((a : Nat) : Int), .int .i64 ((b : Nat) : Int), .int .i64 ((m : Nat) : Int), _, _, _, _, _, _, .int .i64 ((i : Nat) : Int), _, _, _, _, _, .slice (some ⟨blk, off, none⟩) n cap, .int .i64 ((a : Nat) : Int), .int .i64 ((i : Nat) : Int), .int .i64 ((a + i : Nat) : Int), .slice (some ⟨blk, off, none⟩) n cap, .int .i64 ((b : Nat) : Int), .int .i64 ((i : Nat) : Int), .int .i64 ((b + i : Nat) : Int), .slice (some ⟨blk, off, none⟩) n cap, .int .i64 ((b : Nat) : Int), .int .i64 ((i : Nat) : Int), .int .i64 ((b + i : Nat) : Int), .pointer (some ⟨blk, off + (b + i) * 7, none⟩), .agg (vsA yv), .slice (some ⟨blk, off, none⟩) n cap, .int .i64 ((a : Nat) : Int), .int .i64 ((i : Nat) : Int), .int .i64 ((a + i : Nat) : Int), .pointer (some ⟨blk, off + (a + i) * 7, none⟩), .agg (vsA xv), _, _], defers := _ } _
      refine alongK_read (.pointer (some ⟨blk, off + (a + i) * 7, none⟩)) rfl rfl (fun wx hS => ex_index Tryz.underlying22 Tryz.sizeOf49 rfl rfl rfl (by omega) wx) ?_
      change AlongK _ _ _ _ _ { tmps := #[.slice (some ⟨blk, off, none⟩) n cap, .int .i64 ((a : Nat) : Int), .int .i64 ((b : Nat) : Int), .int .i64 ((m : Nat) : Int), _, _, _, _, _, _, .int .i64 ((i : Nat) : Int), _, _, _, _, _, .slice (some ⟨blk, off, none⟩) n cap, .int .i64 ((a : Nat) : Int), .int .i64 ((i : Nat) : Int), .int .i64 ((a + i : Nat) : Int), .slice (some ⟨blk, off, none⟩) n cap, .int .i64 ((b : Nat) : Int), .int .i64 ((i : Nat) : Int), .int .i64 ((b + i : Nat) : Int), .slice (some ⟨blk, off, none⟩) n cap, .int .i64 ((b : Nat) : Int), .int .i64 ((i : Nat) : Int), .int .i64 ((b + i : Nat) : Int), .pointer (some ⟨blk, off + (b + i) * 7, none⟩), .agg (vsA yv), .slice (some ⟨blk, off, none⟩) n cap, .int .i64 ((a : Nat) : Int), .int .i64 ((i : Nat) : Int), .int .i64 ((a + i : Nat) : Int), .pointer (some ⟨blk, off + (a + i) * 7, none⟩), .agg (vsA xv), .pointer (some ⟨blk, off + (a + i) * 7, none⟩), _], defers := _ } _
      refine alongK_step ?_
      refine opK_store (wz.drew.setCells blk (off + (a + i) * 7) (vsC yv)) rfl rfl (ex_put rfl rfl yv rfl HS.out R Hn.out HI.out.1) (fun _ => True) (fun _ h => h) trivial ?_
      change AlongK _ _ _ _ _ { tmps := #[.slice (some ⟨blk, off, none⟩) n cap, .int .i64 ((a : Nat) : Int), .int .i64 ((b : Nat) : Int), .int .i64 ((m : Nat) : Int), _, _, _, _, _, _, .int .i64 ((i : Nat) : Int), _, _, _, _, _, .slice (some ⟨blk, off, none⟩) n cap, .int .i64 ((a : Nat) : Int), .int .i64 ((i : Nat) : Int), .int .i64 ((a + i : Nat) : Int), .slice (some ⟨blk, off, none⟩) n cap, .int .i64 ((b : Nat) : Int), .int .i64 ((i : Nat) : Int), .int .i64 ((b + i : Nat) : Int), .slice (some ⟨blk, off, none⟩) n cap, .int .i64 ((b : Nat) : Int), .int .i64 ((i : Nat) : Int), .int .i64 ((b + i : Nat) : Int), .pointer (some ⟨blk, off + (b + i) * 7, none⟩), .agg (vsA yv), .slice (some ⟨blk, off, none⟩) n cap, .int .i64 ((a : Nat) : Int), .int .i64 ((i : Nat) : Int), .int .i64 ((a + i : Nat) : Int), .pointer (some ⟨blk, off + (a + i) * 7, none⟩), .agg (vsA xv), .pointer (some ⟨blk, off + (a + i) * 7, none⟩), _], defers := _ } _
      refine alongK_read (.pointer (some ⟨blk, off + (b + i) * 7, none⟩)) rfl rfl (fun wx hS => ex_index Tryz.underlying22 Tryz.sizeOf49 rfl rfl rfl (by omega) wx) ?_
      change AlongK _ _ _ _ _ { tmps := #[.slice (some ⟨blk, off, none⟩) n cap, .int .i64 ((a : Nat) : Int), .int .i64 ((b : Nat) : Int), .int .i64 ((m : Nat) : Int), _, _, _, _, _, _, .int .i64 ((i : Nat) : Int), _, _, _, _, _, .slice (some ⟨blk, off, none⟩) n cap, .int .i64 ((a : Nat) : Int), .int .i64 ((i : Nat) : Int), .int .i64 ((a + i : Nat) : Int), .slice (some ⟨blk, off, none⟩) n cap, .int .i64 ((b : Nat) : Int), .int .i64 ((i : Nat) : Int), .int .i64 ((b + i : Nat) : Int), .slice (some ⟨blk, off, none⟩) n cap, .int .i64 ((b : Nat) : Int), .int .i64 ((i : Nat) : Int), .int .i64 ((b + i : Nat) : Int), .pointer (some ⟨blk, off + (b + i) * 7, none⟩), .agg (vsA yv), .slice (some ⟨blk, off, none⟩) n cap, .int .i64 ((a : Nat) : Int), .int .i64 ((i : Nat) : Int), .int .i64 ((a + i : Nat) : Int), .pointer (some ⟨blk, off + (a + i) * 7, none⟩), .agg (vsA xv), .pointer (some ⟨blk, off + (a + i) * 7, none⟩), .pointer (some ⟨blk, off + (b + i) * 7, none⟩)], defers := _ } _
      refine alongK_step ?_
      refine opK_store ((wz.drew.setCells blk (off + (a + i) * 7) (vsC yv)).setCells blk (off + (b + i) * 7) (vsC xv)) rfl rfl (ex_put rfl rfl xv rfl HS1.out R Hn1.out (by rw [Array.size_setIfInBounds]; exact HI.out.2)) (fun _ => True) (fun _ h => h) trivial ?_
      change AlongK _ _ _ _ _ { tmps := #[.slice (some ⟨blk, off, none⟩) n cap, .int .i64 ((a : Nat) : Int), .int .i64 ((b : Nat) : Int), .int .i64 ((m : Nat) : Int), _, _, _, _, _, _, .int .i64 ((i : Nat) : Int), _, _, _, _, _, .slice (some ⟨blk, off, none⟩) n cap, .int .i64 ((a : Nat) : Int), .int .i64 ((i : Nat) : Int), .int .i64 ((a + i : Nat) : Int), .slice (some ⟨blk, off, none⟩) n cap, .int .i64 ((b : Nat) : Int), .int .i64 ((i : Nat) : Int), .int .i64 ((b + i : Nat) : Int), .slice (some ⟨blk, off, none⟩) n cap, .int .i64 ((b : Nat) : Int), .int .i64 ((i : Nat) : Int), .int .i64 ((b + i : Nat) : Int), .pointer (some ⟨blk, off + (b + i) * 7, none⟩), .agg (vsA yv), .slice (some ⟨blk, off, none⟩) n cap, .int .i64 ((a : Nat) : Int), .int .i64 ((i : Nat) : Int), .int .i64 ((a + i : Nat) : Int), .pointer (some ⟨blk, off + (a + i) * 7, none⟩), .agg (vsA xv), .pointer (some ⟨blk, off + (a + i) * 7, none⟩), .pointer (some ⟨blk, off + (b + i) * 7, none⟩)], defers := _ } _
      refine alongK_done ?_
      focus
        clear HS HS1 Hx Hy Hn1 Hn
        generalize (wz.drew.setCells blk (off + (a + i) * 7) (vsC yv)).setCells blk (off + (b + i) * 7) (vsC xv) = w2 at HR2 ⊢
        go_wp2
        go_roundw
        case rel => exact ⟨i + 1, _, by go_num, by omega, Lib.hid HR2.out.1, Lib.hid HR2.out.2⟩
        case measure => simp [intOf]; omega
    · obtain rfl : i = m := by omega
      go_wp2
      go_end0
      refine ⟨rfl, dk, HS.out, ?_⟩
      have := HL.out
      rw [List.take_of_length_le (by omega), List.take_of_length_le (by omega), List.drop_of_length_le (by omega), List.drop_of_length_le (by omega)] at this
      simpa using this
end
end

/-
  The sort of statements: two stretches, the one behind the other, change places.
-/
section
set_option maxRecDepth 100000
section
set_option linter.unusedVariables false
open Go.RowKit Go.Sort Go.Lib

/-- where a rotation is -/
def Rot (P U V T : List Vs) (m i j : Nat) (dk : Array Vs) : Prop :=
  ∃ L U' V' R', U'.length = i ∧ V'.length = j ∧ dk.toList = P ++ (L ++ (U' ++ (V' ++ (R' ++ T)))) ∧ P.length + (L.length + i) = m ∧ L ++ (V' ++ (U' ++ R')) = V ++ U
theorem Rot.len {P U V T : List Vs} {m i j : Nat} {dk : Array Vs} (h : Rot P U V T m i j dk) : dk.size = P.length + (U.length + (V.length + T.length)) ∧ i ≤ m ∧ m + j ≤ dk.size := by
  obtain ⟨L, U', V', R', h1, h2, h3, h4, h5⟩ := h
  have a := congrArg List.length h3
  have b := congrArg List.length h5
  simp only [Array.length_toList, List.length_append] at a b
  omega

/-- one call of swapRange, on a rotation's way -/
theorem rot_swap {w0 : World} {blk off : Nat} {d0 : Array Vs} (R : RowK vsC 7 w0 blk off d0) (n cap : Nat) (fv : Value) (hn : n = d0.size) (hsz : n < 4611686018427387904) {P U V T : List Vs} {m i j : Nat} {dk : Array Vs} (h : Rot P U V T m i j dk) (hdn : dk.size = n) (w : World) (S : SW w0 blk off dk w) :
    (j < i → Calls Tryz.prog 154 #[.slice (some ⟨blk, off, none⟩) n cap, .int .i64 ((m : Int) - i), .int .i64 m, .int .i64 j, fv] w fun e w' => e = .returned (.tuple #[]) ∧ ∃ d' : Array Vs, SW w0 blk off d' w' ∧ Rot P U V T m (i - j) j d') ∧
    (i < j → Calls Tryz.prog 154 #[.slice (some ⟨blk, off, none⟩) n cap, .int .i64 ((m : Int) - i), .int .i64 ((m : Int) + j - i), .int .i64 i, fv] w fun e w' => e = .returned (.tuple #[]) ∧ ∃ d' : Array Vs, SW w0 blk off d' w' ∧ Rot P U V T m i (j - i) d') ∧
    (i = j → Calls Tryz.prog 154 #[.slice (some ⟨blk, off, none⟩) n cap, .int .i64 ((m : Int) - i), .int .i64 m, .int .i64 i, fv] w fun e w' => e = .returned (.tuple #[]) ∧ ∃ d' : Array Vs, SW w0 blk off d' w' ∧ d'.toList = P ++ (V ++ (U ++ T))) := by
  obtain ⟨L, U', V', R', h1, h2, h3, h4, h5⟩ := h
  have e1 : (m : Int) - i = ((m - i : Nat) : Int) := by omega
  rw [e1]
  refine ⟨fun hij => ?_, fun hij => ?_, fun hij => ?_⟩
  · refine (swapRange_any R n cap j (m - i) m fv (P ++ L) (U'.take j) (U'.drop j) V' (R' ++ T) hn hsz (by simp; omega) (by simp; omega) h2 (by simp; omega) dk (by rw [h3]; simp [← List.append_assoc (U'.take j)]) hdn w S).mono ?_
    rintro e w' ⟨rfl, d', hS, hl⟩
    refine ⟨rfl, d', hS, L ++ V', U'.drop j, U'.take j, R', by simp; omega, by simp; omega, by rw [hl]; simp, by simp; omega, ?_⟩
    rw [← h5]
    simp [← List.append_assoc (U'.take j)]
  · have e2 : (m : Int) + j - i = ((m + j - i : Nat) : Int) := by omega
    rw [e2]
    refine (swapRange_any R n cap i (m - i) (m + j - i) fv (P ++ L) U' (V'.take (j - i)) (V'.drop (j - i)) (R' ++ T) hn hsz (by simp; omega) h1 (by simp; omega) (by simp; omega) dk (by rw [h3]; simp [← List.append_assoc (V'.take (j - i))]) hdn w S).mono ?_
    rintro e w' ⟨rfl, d', hS, hl⟩
    refine ⟨rfl, d', hS, L, V'.drop (j - i), V'.take (j - i), U' ++ R', by simp; omega, by simp; omega, by rw [hl]; simp, by omega, ?_⟩
    rw [← h5]
    simp [← List.append_assoc (V'.take (j - i))]
  · subst hij
    refine (swapRange_any R n cap i (m - i) m fv (P ++ L) U' [] V' (R' ++ T) hn hsz (by simp; omega) h1 h2 (by simp; omega) dk (by rw [h3]; simp) hdn w S).mono ?_
    rintro e w' ⟨rfl, d', hS, hl⟩
    refine ⟨rfl, d', hS, ?_⟩
    rw [hl]
    have : P ++ (V ++ (U ++ T)) = P ++ ((V ++ U) ++ T) := by simp
    rw [this, ← h5]
    simp

set_option maxHeartbeats 1000000 in
theorem rotate_any {w0 : World} {blk off : Nat} {d0 : Array Vs} (R : RowK vsC 7 w0 blk off d0) (n cap a m b : Nat) (fv : Value) (P U V T : List Vs) (hn : n = d0.size) (hsz : n < 4611686018427387904)
    (ha : a = P.length) (hm : m = P.length + U.length) (hb : b = P.length + (U.length + V.length)) (hU : 0 < U.length) (hV : 0 < V.length) (d : Array Vs) (hd : d.toList = P ++ (U ++ (V ++ T))) (hdn : d.size = n) (w : World) (S : SW w0 blk off d w) :
    Calls Tryz.prog 141 #[.slice (some ⟨blk, off, none⟩) n cap, .int .i64 (a : Nat), .int .i64 (m : Nat), .int .i64 (b : Nat), fv] w fun e w' => e = .returned (.tuple #[]) ∧ ∃ d' : Array Vs, SW w0 blk off d' w' ∧ d'.toList = P ++ (V ++ (U ++ T)) := by
  have hlen : P.length + (U.length + (V.length + T.length)) = n := by
    have := congrArg List.length hd
    simp at this
    omega
  obtain ⟨ui, hui⟩ : ∃ k, U.length = k := ⟨_, rfl⟩
  obtain ⟨vj, hvj⟩ : ∃ k, V.length = k := ⟨_, rfl⟩
  have h0 : Rot P U V T m ui vj d := ⟨[], U, V, [], hui, hvj, by simpa using hd, by simp; omega, by simp⟩
  have e1 : (m : Int) - a = ui := by omega
  have e2 : (b : Int) - m = vj := by omega
  have b1 : (m : Int) ≤ n := by omega
  have b2 : (b : Int) ≤ n := by omega
  have HS0 := Lib.hid S
  have H0 := Lib.hid h0
  have HL : Hid (∀ (i j : Nat) (dk : Array Vs), Rot P U V T m i j dk → dk.size = n ∧ i ≤ m ∧ m + j ≤ n) := fun i j dk h => by
    have := h.len
    omega
  have HC := Lib.hid (fun i j dk (h : Rot P U V T m i j dk) hdn w S => rot_swap R n cap fv hn hsz h hdn w S)
  have hu0 : 0 < ui := by omega
  have hv0 : 0 < vj := by omega
  have HE := Lib.hid (And.intro e1 e2)
  have w1 : IntKind.i64.wrap ((m : Int) - a) = ui := by rw [IntKind.wrap_i64]; omega
  have w2 : IntKind.i64.wrap ((b : Int) - m) = vj := by rw [IntKind.wrap_i64]; omega
  clear h0 hd hdn S hU hV hb hm ha hlen hui hvj e1 e2 hn
  go_enter Tryz.func141, Tryz.ntmps141
  go_wp2
  have HW : Hid (∀ (i j : Nat), i ≤ m → m + j ≤ n → IntKind.i64.wrap ((m : Int) - i) = (m : Int) - i ∧ IntKind.i64.wrap ((m : Int) + j) = (m : Int) + j ∧ IntKind.i64.wrap ((m : Int) + j - i) = (m : Int) + j - i ∧ (j ≤ i → IntKind.i64.wrap ((i : Int) - j) = (i : Int) - j) ∧ (i ≤ j → IntKind.i64.wrap ((j : Int) - i) = (j : Int) - i)) := fun i j h1 h2 => by
    refine ⟨?_, ?_, ?_, fun h => ?_, fun h => ?_⟩ <;> (rw [IntKind.wrap_i64]; omega)
  clear w1 w2
  go_loopw [10, 11] (fun vi vj wr => ∃ i j : Nat, ∃ dk : Array Vs, vi = .int .i64 (i : Nat) ∧ vj = .int .i64 (j : Nat) ∧ 0 < i ∧ 0 < j ∧ Hid (SW w0 blk off dk wr) ∧ Hid (Rot P U V T m i j dk))
    (fun vi vj _ => (intOf vi).toNat + (intOf vj).toNat)
  case atStart => exact ⟨ui, vj, d, rfl, rfl, hu0, hv0, HS0, H0⟩
  case round =>
    obtain ⟨i, j, dk, rfl, rfl, hi, hj, HS, HR⟩ := hrel
    obtain ⟨hdn, him, hjn⟩ := HL.out _ _ _ HR.out
    have Hc := Lib.hid (HC.out _ _ _ HR.out hdn wr HS.out)
    obtain ⟨x1, x2, x3, x4, x5⟩ := HW.out i j him hjn
    clear hdn
    by_cases h : i = j
    · subst h
      have e1 : ((i : Int) != (i : Int)) = false := by simp
      have Hc3 := Lib.hid (Hc.out.2.2 rfl)
      clear Hc
      go_wp2_with fail
      with_reducible refine Calls.mono Hc3.out ?_
      rintro e w1 ⟨rfl, d', hS, hl⟩
      go_wp2
      go_end0
      exact ⟨rfl, d', hS, hl⟩
    · have e1 : ((i : Int) != (j : Int)) = true := by simp; omega
      by_cases hlt : j < i
      · have hz : (j : Int) < (i : Int) := by omega
        have x6 := x4 (by omega)
        have Hc3 := Lib.hid (Hc.out.1 hlt)
        clear Hc
        clear x3 x4 x5
        go_wp2_with fail
        with_reducible refine Calls.mono Hc3.out ?_
        rintro e w1 ⟨rfl, d', hS, hl⟩
        have HS1 := Lib.hid hS
        have HL1 := Lib.hid hl
        clear hS hl
        go_wp2
        go_roundw
        case rel => exact ⟨i - j, j, d', by congr 1; omega, rfl, by omega, hj, HS1, HL1⟩
        case measure => simp [intOf]; omega
      · have hz : ¬ (j : Int) < (i : Int) := by omega
        have x6 := x5 (by omega)
        have Hc3 := Lib.hid (Hc.out.2.1 (by omega))
        clear Hc
        clear x4 x5
        go_wp2_with fail
        with_reducible refine Calls.mono Hc3.out ?_
        rintro e w1 ⟨rfl, d', hS, hl⟩
        have HS1 := Lib.hid hS
        have HL1 := Lib.hid hl
        clear hS hl
        go_wp2
        go_roundw
        case rel => exact ⟨i, j - i, d', rfl, by congr 1; omega, hi, by omega, HS1, HL1⟩
        case measure => simp [intOf]; omega
end
end

/-
  The sort of statements: what a search finds; the comparison's contract; half of a sum.
-/
section
set_option maxRecDepth 100000
section
set_option linter.unusedVariables false
open Go.RowKit Go.Sort Go.Lib

/-- between what is so and what isn't -/
structure Cut (pr : Nat → Bool) (lo hi i j : Nat) : Prop where
  l : lo ≤ i
  m : i ≤ j
  h : j ≤ hi
  yes : i = lo ∨ pr (i - 1) = true
  no : j = hi ∨ pr j = false
theorem Cut.up {pr : Nat → Bool} {lo hi i j k : Nat} (c : Cut pr lo hi i j) (h1 : i ≤ k) (h2 : k < j) (hp : pr k = true) : Cut pr lo hi (k + 1) j :=
  ⟨by have := c.l; omega, by omega, c.h, .inr (by simpa using hp), c.no⟩
theorem Cut.down {pr : Nat → Bool} {lo hi i j k : Nat} (c : Cut pr lo hi i j) (h1 : i ≤ k) (h2 : k < j) (hp : pr k = false) : Cut pr lo hi i k :=
  ⟨c.l, h1, by have := c.h; omega, c.yes, .inr hp⟩

theorem vs_neg (x y : Vs) : decide (vsCmp x y < 0) = keyLt vsK x y := congrFun (congrFun ltOf_vs x) y
theorem vs_yes {x y : Vs} (h : keyLt vsK x y = true) : true = decide (vsCmp x y < 0) := by rw [vs_neg, h]
theorem vs_no {x y : Vs} (h : keyLt vsK x y = false) : false = decide (vsCmp x y < 0) := by rw [vs_neg, h]
theorem half_of (i j : Nat) (h : i < j) : ∃ k : Nat, ((i : Int) + j) / 2 = (k : Nat) ∧ i ≤ k ∧ k < j := ⟨(i + j) / 2, by omega, by omega, by omega⟩
theorem last_take {α : Type} {l : List α} {v : Nat} (h : v ≤ l.length) {y : α} (hy : (l.take v).getLast? = some y) : 0 < v ∧ l[v - 1]? = some y := by
  rw [List.getLast?_take] at hy
  by_cases h0 : v = 0
  · rw [if_pos h0] at hy; cases hy
  · rw [if_neg h0, List.getElem?_eq_getElem (by omega)] at hy
    exact ⟨by omega, by rw [List.getElem?_eq_getElem (by omega)]; exact hy⟩
theorem head_drop {α : Type} {l : List α} {v : Nat} {y : α} (hy : (l.drop v).head? = some y) : l[v]? = some y := by rwa [List.head?_drop] at hy
theorem key_lt {x y : Vs} (h : keyLt vsK x y = true) : vsK x < vsK y := of_decide_eq_true h
theorem key_ge {x y : Vs} (h : keyLt vsK x y = false) : vsK y ≤ vsK x := by have := of_decide_eq_false h; omega

set_option maxHeartbeats 400000 in
/-- the comparison -/
theorem cmp_grow (x y : Vs) (W : World) :
    Calls Tryz.prog 70 (#[.agg (vsA x), .agg (vsA y)] ++ #[]) W fun e w' => e = .returned (.int .i64 (vsCmp x y)) ∧ ∃ q os', w' = grow (W.drewN q) os' := by
  obtain ⟨⟨K1, V1, H1, B1, T1, G1⟩, S1⟩ := x
  obtain ⟨⟨K2, V2, H2, B2, T2, G2⟩, S2⟩ := y
  have HC := Lib.hid (fun wx => cmp_any G1 G2 wx)
  show Calls Tryz.prog 70 #[.agg #[.int .i64 K1, .int .i64 V1, .int .i64 H1, .string (strOfNums B1), .int .i64 T1, .int .i64 G1, .string S1], .agg #[.int .i64 K2, .int .i64 V2, .int .i64 H2, .string (strOfNums B2), .int .i64 T2, .int .i64 G2, .string S2]] W fun e w' => e = .returned (.int .i64 (cmpI G1 G2)) ∧ ∃ q os', w' = grow (W.drewN q) os'
  generalize strOfNums B1 = B1'
  generalize strOfNums B2 = B2'
  generalize cmpI G1 G2 = C at HC ⊢
  have h0 := heap_alloc_new W (.cells #[.int .i64 K1, .int .i64 V1, .int .i64 H1, .string B1', .int .i64 T1, .int .i64 G1, .string S1] 49)
  have h1 := ((Up.alloc (Up.refl (W.alloc (.cells #[.int .i64 K1, .int .i64 V1, .int .i64 H1, .string B1', .int .i64 T1, .int .i64 G1, .string S1] 49))) (.cells #[.int .i64 K2, .int .i64 V2, .int .i64 H2, .string B2', .int .i64 T2, .int .i64 G2, .string S2] 49)).block _ (lt_of_block h0)).trans h0
  have h2 := heap_alloc_new (W.alloc (.cells #[.int .i64 K1, .int .i64 V1, .int .i64 H1, .string B1', .int .i64 T1, .int .i64 G1, .string S1] 49)) (.cells #[.int .i64 K2, .int .i64 V2, .int .i64 H2, .string B2', .int .i64 T2, .int .i64 G2, .string S2] 49)
  rw [show (W.alloc (.cells #[.int .i64 K1, .int .i64 V1, .int .i64 H1, .string B1', .int .i64 T1, .int .i64 G1, .string S1] 49)).heap.size = W.heap.size + 1 by simp] at h2
  have c1 := (vt_cells h1).2.2.2.2.2.1
  have c2 := (vt_cells h2).2.2.2.2.2.1
  clear h0 h1 h2
  go_enter Tryz.func70, Tryz.ntmps70
  go_wp2_with fail
  with_reducible refine Calls.mono (HC.out _) ?_
  rintro e w1 ⟨rfl, rfl⟩
  go_wp2
  go_ret
  exact ⟨rfl, 0, #[_, _], by rw [alloc_eq_grow, alloc_eq_grow, grow_grow]; rfl⟩
/-- .. in a world of the sort's -/
theorem cmp_call {w0 : World} {blk off : Nat} {dk : Array Vs} (x y : Vs) (W : World) (h : SW w0 blk off dk W) :
    Calls Tryz.prog 70 (#[.agg (vsA x), .agg (vsA y)] ++ #[]) W fun e w' => e = .returned (.int .i64 (vsCmp x y)) ∧ SW w0 blk off dk w' := by
  refine (cmp_grow x y W).mono ?_
  rintro e w' ⟨rfl, q, os', rfl⟩
  exact ⟨rfl, SWK.grown h q os'⟩
end
end
end Go.Proofs.YtfenmhddlojahaaGreat
