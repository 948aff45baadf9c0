import Derived.Test.YtnnjoeppcbbblaaStKit
/-
  The sort of statements: stretches changed for one another.
-/
namespace Go.Proofs.Ytnnjoeppcbbblaa
set_option maxRecDepth 100000
section
set_option linter.unusedVariables false
open Go.RowKit Go.Sort Go.Lib

/-- two places changed for one another -/
theorem sw_swp {w0 W : World} {blk off : Nat} {d d0 : Array Vs} (h : SW w0 blk off d W) (R : RowK vsC 7 w0 blk off d0) (hs : d.size = d0.size) (i j : Nat) (hi : i < d.size) (hj : j < d.size) {x y : Vs} (hx : d[i]! = x) (hy : d[j]! = y) :
    SW w0 blk off (d.setIfInBounds i y) (W.drew.setCells blk (off + i * 7) (vsC y)) ∧ SW w0 blk off (swp d i j) ((W.drew.setCells blk (off + i * 7) (vsC y)).setCells blk (off + j * 7) (vsC x)) := by
  have h1 := SWK.put h.drew R i hi y
  have h2 := SWK.put h1 R j (by rw [Array.size_setIfInBounds]; exact hj) x
  refine ⟨h1, ?_⟩
  unfold swp
  rw [hx, hy]
  exact h2

set_option maxHeartbeats 1000000 in
theorem swapRange_any {w0 : World} {blk off : Nat} {d0 : Array Vs} (R : RowK vsC 7 w0 blk off d0) (n cap m a b : Nat) (fv : Value) (P X Y Z T : List Vs) (hn : n = d0.size) (hsz : n < 4611686018427387904)
    (ha : a = P.length) (hX : X.length = m) (hZ : Z.length = m) (hb : b = P.length + m + Y.length) (d : Array Vs) (hd : d.toList = P ++ (X ++ (Y ++ (Z ++ T)))) (hdn : d.size = n) (w : World) (S : SW w0 blk off d w) :
    Calls Try.prog 70 #[.slice (some ⟨blk, off, none⟩) n cap, .int .i64 (a : Nat), .int .i64 (b : Nat), .int .i64 (m : Nat), fv] w fun e w' => e = .returned (.tuple #[]) ∧ ∃ d' : Array Vs, SW w0 blk off d' w' ∧ d'.toList = P ++ (Z ++ (Y ++ (X ++ T))) := by
  have hlen : P.length + (m + (Y.length + (m + T.length))) = n := by
    have := congrArg List.length hd
    simp [hX, hZ] at this
    omega
  have hbm : b + m ≤ n := by omega
  have ham : a + m ≤ n := by omega
  have S0 := Lib.hid S
  have HN := Lib.hid hn
  have HD := Lib.hid hd
  have HDN := Lib.hid hdn
  have HDZ : Hid (∀ dk : Array Vs, dk.size = n → dk.size = d0.size) := fun dk h => h.trans hn
  clear S hd hdn hn
  go_enter Try.func70, Try.ntmps70
  go_wp2
  go_loopw [10] (fun vi wr => ∃ i : Nat, ∃ dk : Array Vs, vi = .int .i64 (i : Nat) ∧ i ≤ m ∧ Hid (SW w0 blk off dk wr) ∧ Hid (dk.toList = P ++ (Z.take i ++ (X.drop i ++ (Y ++ (X.take i ++ (Z.drop i ++ T)))))))
    (fun vi _ => m - (intOf vi).toNat)
  case atStart => exact ⟨0, d, rfl, Nat.zero_le _, S0, Lib.hid (by simpa using HD.out)⟩
  case round =>
    obtain ⟨i, dk, rfl, hi, HS, HL⟩ := hrel
    by_cases hlt : i < m
    · obtain ⟨x, X2, eX⟩ : ∃ x X2, X.drop i = x :: X2 := ⟨_, _, List.drop_eq_getElem_cons (by omega)⟩
      obtain ⟨z, Z2, eZ⟩ : ∃ z Z2, Z.drop i = z :: Z2 := ⟨_, _, List.drop_eq_getElem_cons (by omega)⟩
      have tX : X.take (i + 1) = X.take i ++ [x] := by
        rw [List.take_succ_eq_append_getElem (by omega)]; congr 2
        have := List.drop_eq_getElem_cons (show i < X.length by omega); rw [eX] at this; exact (List.cons.inj this).1.symm
      have tZ : Z.take (i + 1) = Z.take i ++ [z] := by
        rw [List.take_succ_eq_append_getElem (by omega)]; congr 2
        have := List.drop_eq_getElem_cons (show i < Z.length by omega); rw [eZ] at this; exact (List.cons.inj this).1.symm
      have dX : X.drop (i + 1) = X2 := by rw [← List.drop_drop, eX]; rfl
      have dZ : Z.drop (i + 1) = Z2 := by rw [← List.drop_drop, eZ]; rfl
      have hL := HL.out
      rw [eX, eZ] at hL
      have hL' : dk.toList = (P ++ Z.take i) ++ x :: ((X2 ++ (Y ++ X.take i)) ++ z :: (Z2 ++ T)) := by rw [hL]; simp
      have lX2 : X2.length + (i + 1) = m := by rw [← dX, List.length_drop]; omega
      have la : a + i = (P ++ Z.take i).length := by rw [List.length_append, List.length_take]; omega
      have lb : b + i = (P ++ Z.take i).length + 1 + (X2 ++ (Y ++ X.take i)).length := by simp only [List.length_append, List.length_take]; omega
      have hdk : dk.size = n := by
        have := congrArg List.length HL.out
        simp only [Array.length_toList, List.length_append, List.length_take, List.length_drop] at this
        omega
      have hx : dk[a + i]! = x := bang_at' hL' la
      have hy : dk[b + i]! = z := bang_at' (L := (P ++ Z.take i) ++ x :: (X2 ++ (Y ++ X.take i))) (R := Z2 ++ T) (by rw [hL']; simp) (by rw [lb]; simp; omega)
      have hsw := swp_far hL' la lb
      have HS2 := sw_swp HS.out R (HDZ.out _ hdk) (a + i) (b + i) (by omega) (by omega) hx hy
      have HS1 := Lib.hid HS2.1
      have HR2 : Hid (SW w0 blk off (swp dk (a + i) (b + i)) ((wr.drew.setCells blk (off + (a + i) * 7) (vsC z)).setCells blk (off + (b + i) * 7) (vsC x)) ∧ (swp dk (a + i) (b + i)).toList = P ++ (Z.take (i + 1) ++ (X.drop (i + 1) ++ (Y ++ (X.take (i + 1) ++ (Z.drop (i + 1) ++ T)))))) :=
        ⟨HS2.2, by rw [hsw.1, tX, tZ, dX, dZ]; simp⟩
      have Hn : Hid (dk.size = d0.size) := HDZ.out _ hdk
      have Hn1 : Hid ((dk.setIfInBounds (a + i) z).size = d0.size) := Lib.hid (by rw [Array.size_setIfInBounds]; exact HDZ.out _ hdk)
      have Hx := Lib.hid hx
      have Hy := Lib.hid hy
      have HS := Lib.hid HS.out.drew
      have HI := Lib.hid (And.intro (show a + i < dk.size by omega) (show b + i < dk.size by omega))
      clear HS2 hsw hx hy hL hL' tX tZ dX dZ eX eZ HL lX2 la lb hdk
      have HA := Lib.hid (And.intro ha hb)
      clear ha hb
      generalize wr = wz at HS HS1 HR2 ⊢
      generalize x = xv at Hx HR2 ⊢
      generalize z = yv at Hy HS1 Hn1 HR2 ⊢
      have hjd : (i : Int) < (m : Int) := by omega
      go_wp2_with fail
      refine region_alongK (fun _ => True) (.read 0 (.read 1 (.read 2 (.read 3 (.read 4 (.read 5 (.read 6 (.read 7 (.read 8 (.read 9 (.read 10 (.read 11 (.read 12 (.read 14 (.read 15 (.read 16 (.read 17 (.read 18 (.fork 13 (.step 19 (.read 20 (.step 21 (.read 22 (.step 23 (.nil)))))) 19 (.step 13 (.read 20 (.step 21 (.read 22 (.step 23 (.nil))))))))))))))))))))))))) (by kernel_rfl) rfl (by kernel_rfl) (by kernel_rfl) (fun c a d v w h => by cases d <;> exact h) (trivial) ?_
      refine alongK_read (.slice (some ⟨blk, off, none⟩) n cap) rfl rfl (fun wx hS => ex_move (by rfl) (by rfl) wx) ?_
      change AlongK _ _ _ _ _ { tmps := #[.slice (some ⟨blk, off, none⟩) n cap, .int .i64 ((a : Nat) : Int), .int .i64 ((b : Nat) : Int), .int .i64 ((m : Nat) : Int), _, _, _, _, _, _, .int .i64 ((i : Nat) : Int), _, _, _, _, _, .slice (some ⟨blk, off, none⟩) n cap, _, _, _, _, _, _, _, _, _, _, _, _, _, _, _, _, _, _, _, _, _], defers := _ } _
      refine alongK_read (.int .i64 ((a : Nat) : Int)) rfl rfl (fun wx hS => ex_move (by rfl) (by rfl) wx) ?_
      change AlongK _ _ _ _ _ { tmps := #[.slice (some ⟨blk, off, none⟩) n cap, .int .i64 ((a : Nat) : Int), .int .i64 ((b : Nat) : Int), .int .i64 ((m : Nat) : Int), _, _, _, _, _, _, .int .i64 ((i : Nat) : Int), _, _, _, _, _, .slice (some ⟨blk, off, none⟩) n cap, .int .i64 ((a : Nat) : Int), _, _, _, _, _, _, _, _, _, _, _, _, _, _, _, _, _, _, _, _], defers := _ } _
      refine alongK_read (.int .i64 ((i : Nat) : Int)) rfl rfl (fun wx hS => ex_move (by rfl) (by rfl) wx) ?_
      change AlongK _ _ _ _ _ { tmps := #[.slice (some ⟨blk, off, none⟩) n cap, .int .i64 ((a : Nat) : Int), .int .i64 ((b : Nat) : Int), .int .i64 ((m : Nat) : Int), _, _, _, _, _, _, .int .i64 ((i : Nat) : Int), _, _, _, _, _, .slice (some ⟨blk, off, none⟩) n cap, .int .i64 ((a : Nat) : Int), .int .i64 ((i : Nat) : Int), _, _, _, _, _, _, _, _, _, _, _, _, _, _, _, _, _, _, _], defers := _ } _
      refine alongK_read (.int .i64 ((a + i : Nat) : Int)) rfl rfl (fun wx hS => ex_bin rfl rfl rfl wx (bin_add _ _ a i (by omega) wx)) ?_
      change AlongK _ _ _ _ _ { tmps := #[.slice (some ⟨blk, off, none⟩) n cap, .int .i64 ((a : Nat) : Int), .int .i64 ((b : Nat) : Int), .int .i64 ((m : Nat) : Int), _, _, _, _, _, _, .int .i64 ((i : Nat) : Int), _, _, _, _, _, .slice (some ⟨blk, off, none⟩) n cap, .int .i64 ((a : Nat) : Int), .int .i64 ((i : Nat) : Int), .int .i64 ((a + i : Nat) : Int), _, _, _, _, _, _, _, _, _, _, _, _, _, _, _, _, _, _], defers := _ } _
      refine alongK_read (.slice (some ⟨blk, off, none⟩) n cap) rfl rfl (fun wx hS => ex_move (by rfl) (by rfl) wx) ?_
      change AlongK _ _ _ _ _ { tmps := #[.slice (some ⟨blk, off, none⟩) n cap, .int .i64 ((a : Nat) : Int), .int .i64 ((b : Nat) : Int), .int .i64 ((m : Nat) : Int), _, _, _, _, _, _, .int .i64 ((i : Nat) : Int), _, _, _, _, _, .slice (some ⟨blk, off, none⟩) n cap, .int .i64 ((a : Nat) : Int), .int .i64 ((i : Nat) : Int), .int .i64 ((a + i : Nat) : Int), .slice (some ⟨blk, off, none⟩) n cap, _, _, _, _, _, _, _, _, _, _, _, _, _, _, _, _, _], defers := _ } _
      refine alongK_read (.int .i64 ((b : Nat) : Int)) rfl rfl (fun wx hS => ex_move (by rfl) (by rfl) wx) ?_
      change AlongK _ _ _ _ _ { tmps := #[.slice (some ⟨blk, off, none⟩) n cap, .int .i64 ((a : Nat) : Int), .int .i64 ((b : Nat) : Int), .int .i64 ((m : Nat) : Int), _, _, _, _, _, _, .int .i64 ((i : Nat) : Int), _, _, _, _, _, .slice (some ⟨blk, off, none⟩) n cap, .int .i64 ((a : Nat) : Int), .int .i64 ((i : Nat) : Int), .int .i64 ((a + i : Nat) : Int), .slice (some ⟨blk, off, none⟩) n cap, .int .i64 ((b : Nat) : Int), _, _, _, _, _, _, _, _, _, _, _, _, _, _, _, _], defers := _ } _
      refine alongK_read (.int .i64 ((i : Nat) : Int)) rfl rfl (fun wx hS => ex_move (by rfl) (by rfl) wx) ?_
      change AlongK _ _ _ _ _ { tmps := #[.slice (some ⟨blk, off, none⟩) n cap, .int .i64 ((a : Nat) : Int), .int .i64 ((b : Nat) : Int), .int .i64 ((m : Nat) : Int), _, _, _, _, _, _, .int .i64 ((i : Nat) : Int), _, _, _, _, _, .slice (some ⟨blk, off, none⟩) n cap, .int .i64 ((a : Nat) : Int), .int .i64 ((i : Nat) : Int), .int .i64 ((a + i : Nat) : Int), .slice (some ⟨blk, off, none⟩) n cap, .int .i64 ((b : Nat) : Int), .int .i64 ((i : Nat) : Int), _, _, _, _, _, _, _, _, _, _, _, _, _, _, _], defers := _ } _
      refine alongK_read (.int .i64 ((b + i : Nat) : Int)) rfl rfl (fun wx hS => ex_bin rfl rfl rfl wx (bin_add _ _ b i (by omega) wx)) ?_
      change AlongK _ _ _ _ _ { tmps := #[.slice (some ⟨blk, off, none⟩) n cap, .int .i64 ((a : Nat) : Int), .int .i64 ((b : Nat) : Int), .int .i64 ((m : Nat) : Int), _, _, _, _, _, _, .int .i64 ((i : Nat) : Int), _, _, _, _, _, .slice (some ⟨blk, off, none⟩) n cap, .int .i64 ((a : Nat) : Int), .int .i64 ((i : Nat) : Int), .int .i64 ((a + i : Nat) : Int), .slice (some ⟨blk, off, none⟩) n cap, .int .i64 ((b : Nat) : Int), .int .i64 ((i : Nat) : Int), .int .i64 ((b + i : Nat) : Int), _, _, _, _, _, _, _, _, _, _, _, _, _, _], defers := _ } _
      refine alongK_read (.slice (some ⟨blk, off, none⟩) n cap) rfl rfl (fun wx hS => ex_move (by rfl) (by rfl) wx) ?_
      change AlongK _ _ _ _ _ { tmps := #[.slice (some ⟨blk, off, none⟩) n cap, .int .i64 ((a : Nat) : Int), .int .i64 ((b : Nat) : Int), .int .i64 ((m : Nat) : Int), _, _, _, _, _, _, .int .i64 ((i : Nat) : Int), _, _, _, _, _, .slice (some ⟨blk, off, none⟩) n cap, .int .i64 ((a : Nat) : Int), .int .i64 ((i : Nat) : Int), .int .i64 ((a + i : Nat) : Int), .slice (some ⟨blk, off, none⟩) n cap, .int .i64 ((b : Nat) : Int), .int .i64 ((i : Nat) : Int), .int .i64 ((b + i : Nat) : Int), .slice (some ⟨blk, off, none⟩) n cap, _, _, _, _, _, _, _, _, _, _, _, _, _], defers := _ } _
      refine alongK_read (.int .i64 ((b : Nat) : Int)) rfl rfl (fun wx hS => ex_move (by rfl) (by rfl) wx) ?_
      change AlongK _ _ _ _ _ { tmps := #[.slice (some ⟨blk, off, none⟩) n cap, .int .i64 ((a : Nat) : Int), .int .i64 ((b : Nat) : Int), .int .i64 ((m : Nat) : Int), _, _, _, _, _, _, .int .i64 ((i : Nat) : Int), _, _, _, _, _, .slice (some ⟨blk, off, none⟩) n cap, .int .i64 ((a : Nat) : Int), .int .i64 ((i : Nat) : Int), .int .i64 ((a + i : Nat) : Int), .slice (some ⟨blk, off, none⟩) n cap, .int .i64 ((b : Nat) : Int), .int .i64 ((i : Nat) : Int), .int .i64 ((b + i : Nat) : Int), .slice (some ⟨blk, off, none⟩) n cap, .int .i64 ((b : Nat) : Int), _, _, _, _, _, _, _, _, _, _, _, _], defers := _ } _
      refine alongK_read (.int .i64 ((i : Nat) : Int)) rfl rfl (fun wx hS => ex_move (by rfl) (by rfl) wx) ?_
      change AlongK _ _ _ _ _ { tmps := #[.slice (some ⟨blk, off, none⟩) n cap, .int .i64 ((a : Nat) : Int), .int .i64 ((b : Nat) : Int), .int .i64 ((m : Nat) : Int), _, _, _, _, _, _, .int .i64 ((i : Nat) : Int), _, _, _, _, _, .slice (some ⟨blk, off, none⟩) n cap, .int .i64 ((a : Nat) : Int), .int .i64 ((i : Nat) : Int), .int .i64 ((a + i : Nat) : Int), .slice (some ⟨blk, off, none⟩) n cap, .int .i64 ((b : Nat) : Int), .int .i64 ((i : Nat) : Int), .int .i64 ((b + i : Nat) : Int), .slice (some ⟨blk, off, none⟩) n cap, .int .i64 ((b : Nat) : Int), .int .i64 ((i : Nat) : Int), _, _, _, _, _, _, _, _, _, _, _], defers := _ } _
      refine alongK_read (.int .i64 ((b + i : Nat) : Int)) rfl rfl (fun wx hS => ex_bin rfl rfl rfl wx (bin_add _ _ b i (by omega) wx)) ?_
      change AlongK _ _ _ _ _ { tmps := #[.slice (some ⟨blk, off, none⟩) n cap, .int .i64 ((a : Nat) : Int), .int .i64 ((b : Nat) : Int), .int .i64 ((m : Nat) : Int), _, _, _, _, _, _, .int .i64 ((i : Nat) : Int), _, _, _, _, _, .slice (some ⟨blk, off, none⟩) n cap, .int .i64 ((a : Nat) : Int), .int .i64 ((i : Nat) : Int), .int .i64 ((a + i : Nat) : Int), .slice (some ⟨blk, off, none⟩) n cap, .int .i64 ((b : Nat) : Int), .int .i64 ((i : Nat) : Int), .int .i64 ((b + i : Nat) : Int), .slice (some ⟨blk, off, none⟩) n cap, .int .i64 ((b : Nat) : Int), .int .i64 ((i : Nat) : Int), .int .i64 ((b + i : Nat) : Int), _, _, _, _, _, _, _, _, _, _], defers := _ } _
      refine alongK_read (.pointer (some ⟨blk, off + (b + i) * 7, none⟩)) rfl rfl (fun wx hS => ex_index Try.underlying22 Try.sizeOf38 rfl rfl rfl (by omega) wx) ?_
      change AlongK _ _ _ _ _ { tmps := #[.slice (some ⟨blk, off, none⟩) n cap, .int .i64 ((a : Nat) : Int), .int .i64 ((b : Nat) : Int), .int .i64 ((m : Nat) : Int), _, _, _, _, _, _, .int .i64 ((i : Nat) : Int), _, _, _, _, _, .slice (some ⟨blk, off, none⟩) n cap, .int .i64 ((a : Nat) : Int), .int .i64 ((i : Nat) : Int), .int .i64 ((a + i : Nat) : Int), .slice (some ⟨blk, off, none⟩) n cap, .int .i64 ((b : Nat) : Int), .int .i64 ((i : Nat) : Int), .int .i64 ((b + i : Nat) : Int), .slice (some ⟨blk, off, none⟩) n cap, .int .i64 ((b : Nat) : Int), .int .i64 ((i : Nat) : Int), .int .i64 ((b + i : Nat) : Int), .pointer (some ⟨blk, off + (b + i) * 7, none⟩), _, _, _, _, _, _, _, _, _], defers := _ } _
      refine alongK_read (.slice (some ⟨blk, off, none⟩) n cap) rfl rfl (fun wx hS => ex_move (by rfl) (by rfl) wx) ?_
      change AlongK _ _ _ _ _ { tmps := #[.slice (some ⟨blk, off, none⟩) n cap, .int .i64 ((a : Nat) : Int), .int .i64 ((b : Nat) : Int), .int .i64 ((m : Nat) : Int), _, _, _, _, _, _, .int .i64 ((i : Nat) : Int), _, _, _, _, _, .slice (some ⟨blk, off, none⟩) n cap, .int .i64 ((a : Nat) : Int), .int .i64 ((i : Nat) : Int), .int .i64 ((a + i : Nat) : Int), .slice (some ⟨blk, off, none⟩) n cap, .int .i64 ((b : Nat) : Int), .int .i64 ((i : Nat) : Int), .int .i64 ((b + i : Nat) : Int), .slice (some ⟨blk, off, none⟩) n cap, .int .i64 ((b : Nat) : Int), .int .i64 ((i : Nat) : Int), .int .i64 ((b + i : Nat) : Int), .pointer (some ⟨blk, off + (b + i) * 7, none⟩), _, .slice (some ⟨blk, off, none⟩) n cap, _, _, _, _, _, _, _], defers := _ } _
      refine alongK_read (.int .i64 ((a : Nat) : Int)) rfl rfl (fun wx hS => ex_move (by rfl) (by rfl) wx) ?_
      change AlongK _ _ _ _ _ { tmps := #[.slice (some ⟨blk, off, none⟩) n cap, .int .i64 ((a : Nat) : Int), .int .i64 ((b : Nat) : Int), .int .i64 ((m : Nat) : Int), _, _, _, _, _, _, .int .i64 ((i : Nat) : Int), _, _, _, _, _, .slice (some ⟨blk, off, none⟩) n cap, .int .i64 ((a : Nat) : Int), .int .i64 ((i : Nat) : Int), .int .i64 ((a + i : Nat) : Int), .slice (some ⟨blk, off, none⟩) n cap, .int .i64 ((b : Nat) : Int), .int .i64 ((i : Nat) : Int), .int .i64 ((b + i : Nat) : Int), .slice (some ⟨blk, off, none⟩) n cap, .int .i64 ((b : Nat) : Int), .int .i64 ((i : Nat) : Int), .int .i64 ((b + i : Nat) : Int), .pointer (some ⟨blk, off + (b + i) * 7, none⟩), _, .slice (some ⟨blk, off, none⟩) n cap, .int .i64 ((a : Nat) : Int), _, _, _, _, _, _], defers := _ } _
      refine alongK_read (.int .i64 ((i : Nat) : Int)) rfl rfl (fun wx hS => ex_move (by rfl) (by rfl) wx) ?_
      change AlongK _ _ _ _ _ { tmps := #[.slice (some ⟨blk, off, none⟩) n cap, .int .i64 ((a : Nat) : Int), .int .i64 ((b : Nat) : Int), .int .i64 ((m : Nat) : Int), _, _, _, _, _, _, .int .i64 ((i : Nat) : Int), _, _, _, _, _, .slice (some ⟨blk, off, none⟩) n cap, .int .i64 ((a : Nat) : Int), .int .i64 ((i : Nat) : Int), .int .i64 ((a + i : Nat) : Int), .slice (some ⟨blk, off, none⟩) n cap, .int .i64 ((b : Nat) : Int), .int .i64 ((i : Nat) : Int), .int .i64 ((b + i : Nat) : Int), .slice (some ⟨blk, off, none⟩) n cap, .int .i64 ((b : Nat) : Int), .int .i64 ((i : Nat) : Int), .int .i64 ((b + i : Nat) : Int), .pointer (some ⟨blk, off + (b + i) * 7, none⟩), _, .slice (some ⟨blk, off, none⟩) n cap, .int .i64 ((a : Nat) : Int), .int .i64 ((i : Nat) : Int), _, _, _, _, _], defers := _ } _
      refine alongK_read (.int .i64 ((a + i : Nat) : Int)) rfl rfl (fun wx hS => ex_bin rfl rfl rfl wx (bin_add _ _ a i (by omega) wx)) ?_
      change AlongK _ _ _ _ _ { tmps := #[.slice (some ⟨blk, off, none⟩) n cap, .int .i64 ((a : Nat) : Int), .int .i64 ((b : Nat) : Int), .int .i64 ((m : Nat) : Int), _, _, _, _, _, _, .int .i64 ((i : Nat) : Int), _, _, _, _, _, .slice (some ⟨blk, off, none⟩) n cap, .int .i64 ((a : Nat) : Int), .int .i64 ((i : Nat) : Int), .int .i64 ((a + i : Nat) : Int), .slice (some ⟨blk, off, none⟩) n cap, .int .i64 ((b : Nat) : Int), .int .i64 ((i : Nat) : Int), .int .i64 ((b + i : Nat) : Int), .slice (some ⟨blk, off, none⟩) n cap, .int .i64 ((b : Nat) : Int), .int .i64 ((i : Nat) : Int), .int .i64 ((b + i : Nat) : Int), .pointer (some ⟨blk, off + (b + i) * 7, none⟩), _, .slice (some ⟨blk, off, none⟩) n cap, .int .i64 ((a : Nat) : Int), .int .i64 ((i : Nat) : Int), .int .i64 ((a + i : Nat) : Int), _, _, _, _], defers := _ } _
      refine alongK_read (.pointer (some ⟨blk, off + (a + i) * 7, none⟩)) rfl rfl (fun wx hS => ex_index Try.underlying22 Try.sizeOf38 rfl rfl rfl (by omega) wx) ?_
      change AlongK _ _ _ _ _ { tmps := #[.slice (some ⟨blk, off, none⟩) n cap, .int .i64 ((a : Nat) : Int), .int .i64 ((b : Nat) : Int), .int .i64 ((m : Nat) : Int), _, _, _, _, _, _, .int .i64 ((i : Nat) : Int), _, _, _, _, _, .slice (some ⟨blk, off, none⟩) n cap, .int .i64 ((a : Nat) : Int), .int .i64 ((i : Nat) : Int), .int .i64 ((a + i : Nat) : Int), .slice (some ⟨blk, off, none⟩) n cap, .int .i64 ((b : Nat) : Int), .int .i64 ((i : Nat) : Int), .int .i64 ((b + i : Nat) : Int), .slice (some ⟨blk, off, none⟩) n cap, .int .i64 ((b : Nat) : Int), .int .i64 ((i : Nat) : Int), .int .i64 ((b + i : Nat) : Int), .pointer (some ⟨blk, off + (b + i) * 7, none⟩), _, .slice (some ⟨blk, off, none⟩) n cap, .int .i64 ((a : Nat) : Int), .int .i64 ((i : Nat) : Int), .int .i64 ((a + i : Nat) : Int), .pointer (some ⟨blk, off + (a + i) * 7, none⟩), _, _, _], defers := _ } _
      refine alongK_fork ?_ ?_
      refine opK_run (.agg (vsA yv)) wz.drew rfl rfl (ex_elem rfl rfl HS.out R Hn.out HI.out.2 Hy.out) (fun _ => True) (fun _ h => h) trivial ?_
      change AlongK _ _ _ _ _ { tmps := #[.slice (some ⟨blk, off, none⟩) n cap, .int .i64 ((a : Nat) : Int), .int .i64 ((b : Nat) : Int), .int .i64 ((m : Nat) : Int), _, _, _, _, _, _, .int .i64 ((i : Nat) : Int), _, _, _, _, _, .slice (some ⟨blk, off, none⟩) n cap, .int .i64 ((a : Nat) : Int), .int .i64 ((i : Nat) : Int), .int .i64 ((a + i : Nat) : Int), .slice (some ⟨blk, off, none⟩) n cap, .int .i64 ((b : Nat) : Int), .int .i64 ((i : Nat) : Int), .int .i64 ((b + i : Nat) : Int), .slice (some ⟨blk, off, none⟩) n cap, .int .i64 ((b : Nat) : Int), .int .i64 ((i : Nat) : Int), .int .i64 ((b + i : Nat) : Int), .pointer (some ⟨blk, off + (b + i) * 7, none⟩), .agg (vsA yv), .slice (some ⟨blk, off, none⟩) n cap, .int .i64 ((a : Nat) : Int), .int .i64 ((i : Nat) : Int), .int .i64 ((a + i : Nat) : Int), .pointer (some ⟨blk, off + (a + i) * 7, none⟩), _, _, _], defers := _ } _
      refine alongK_step ?_
      refine opK_run (.agg (vsA xv)) wz.drew rfl rfl (ex_elem rfl rfl HS.out R Hn.out HI.out.1 Hx.out) (fun _ => True) (fun _ h => h) trivial ?_
      change AlongK _ _ _ _ _ { tmps := #[.slice (some ⟨blk, off, none⟩) n cap, .int .i64 ((a : Nat) : Int), .int .i64 ((b : Nat) : Int), .int .i64 ((m : Nat) : Int), _, _, _, _, _, _, .int .i64 ((i : Nat) : Int), _, _, _, _, _, .slice (some ⟨blk, off, none⟩) n cap, .int .i64 ((a : Nat) : Int), .int .i64 ((i : Nat) : Int), .int .i64 ((a + i : Nat) : Int), .slice (some ⟨blk, off, none⟩) n cap, .int .i64 ((b : Nat) : Int), .int .i64 ((i : Nat) : Int), .int .i64 ((b + i : Nat) : Int), .slice (some ⟨blk, off, none⟩) n cap, .int .i64 ((b : Nat) : Int), .int .i64 ((i : Nat) : Int), .int .i64 ((b + i : Nat) : Int), .pointer (some ⟨blk, off + (b + i) * 7, none⟩), .agg (vsA yv), .slice (some ⟨blk, off, none⟩) n cap, .int .i64 ((a : Nat) : Int), .int .i64 ((i : Nat) : Int), .int .i64 ((a + i : Nat) : Int), .pointer (some ⟨blk, off + (a + i) * 7, none⟩), .agg (vsA xv), _, _], defers := _ } _
      refine alongK_read (.pointer (some ⟨blk, off + (a + i) * 7, none⟩)) rfl rfl (fun wx hS => ex_index Try.underlying22 Try.sizeOf38 rfl rfl rfl (by omega) wx) ?_
      change AlongK _ _ _ _ _ { tmps := #[.slice (some ⟨blk, off, none⟩) n cap, .int .i64 ((a : Nat) : Int), .int .i64 ((b : Nat) : Int), .int .i64 ((m : Nat) : Int), _, _, _, _, _, _, .int .i64 ((i : Nat) : Int), _, _, _, _, _, .slice (some ⟨blk, off, none⟩) n cap, .int .i64 ((a : Nat) : Int), .int .i64 ((i : Nat) : Int), .int .i64 ((a + i : Nat) : Int), .slice (some ⟨blk, off, none⟩) n cap, .int .i64 ((b : Nat) : Int), .int .i64 ((i : Nat) : Int), .int .i64 ((b + i : Nat) : Int), .slice (some ⟨blk, off, none⟩) n cap, .int .i64 ((b : Nat) : Int), .int .i64 ((i : Nat) : Int), .int .i64 ((b + i : Nat) : Int), .pointer (some ⟨blk, off + (b + i) * 7, none⟩), .agg (vsA yv), .slice (some ⟨blk, off, none⟩) n cap, .int .i64 ((a : Nat) : Int), .int .i64 ((i : Nat) : Int), .int .i64 ((a + i : Nat) : Int), .pointer (some ⟨blk, off + (a + i) * 7, none⟩), .agg (vsA xv), .pointer (some ⟨blk, off + (a + i) * 7, none⟩), _], defers := _ } _
      refine alongK_step ?_
      refine opK_store (wz.drew.setCells blk (off + (a + i) * 7) (vsC yv)) rfl rfl (ex_put rfl rfl yv rfl HS.out R Hn.out HI.out.1) (fun _ => True) (fun _ h => h) trivial ?_
      change AlongK _ _ _ _ _ { tmps := #[.slice (some ⟨blk, off, none⟩) n cap, .int .i64 ((a : Nat) : Int), .int .i64 ((b : Nat) : Int), .int .i64 ((m : Nat) : Int), _, _, _, _, _, _, .int .i64 ((i : Nat) : Int), _, _, _, _, _, .slice (some ⟨blk, off, none⟩) n cap, .int .i64 ((a : Nat) : Int), .int .i64 ((i : Nat) : Int), .int .i64 ((a + i : Nat) : Int), .slice (some ⟨blk, off, none⟩) n cap, .int .i64 ((b : Nat) : Int), .int .i64 ((i : Nat) : Int), .int .i64 ((b + i : Nat) : Int), .slice (some ⟨blk, off, none⟩) n cap, .int .i64 ((b : Nat) : Int), .int .i64 ((i : Nat) : Int), .int .i64 ((b + i : Nat) : Int), .pointer (some ⟨blk, off + (b + i) * 7, none⟩), .agg (vsA yv), .slice (some ⟨blk, off, none⟩) n cap, .int .i64 ((a : Nat) : Int), .int .i64 ((i : Nat) : Int), .int .i64 ((a + i : Nat) : Int), .pointer (some ⟨blk, off + (a + i) * 7, none⟩), .agg (vsA xv), .pointer (some ⟨blk, off + (a + i) * 7, none⟩), _], defers := _ } _
      refine alongK_read (.pointer (some ⟨blk, off + (b + i) * 7, none⟩)) rfl rfl (fun wx hS => ex_index Try.underlying22 Try.sizeOf38 rfl rfl rfl (by omega) wx) ?_
      change AlongK _ _ _ _ _ { tmps := #[.slice (some ⟨blk, off, none⟩) n cap, .int .i64 ((a : Nat) : Int), .int .i64 ((b : Nat) : Int), .int .i64 ((m : Nat) : Int), _, _, _, _, _, _, .int .i64 ((i : Nat) : Int), _, _, _, _, _, .slice (some ⟨blk, off, none⟩) n cap, .int .i64 ((a : Nat) : Int), .int .i64 ((i : Nat) : Int), .int .i64 ((a + i : Nat) : Int), .slice (some ⟨blk, off, none⟩) n cap, .int .i64 ((b : Nat) : Int), .int .i64 ((i : Nat) : Int), .int .i64 ((b + i : Nat) : Int), .slice (some ⟨blk, off, none⟩) n cap, .int .i64 ((b : Nat) : Int), .int .i64 ((i : Nat) : Int), .int .i64 ((b + i : Nat) : Int), .pointer (some ⟨blk, off + (b + i) * 7, none⟩), .agg (vsA yv), .slice (some ⟨blk, off, none⟩) n cap, .int .i64 ((a : Nat) : Int), .int .i64 ((i : Nat) : Int), .int .i64 ((a + i : Nat) : Int), .pointer (some ⟨blk, off + (a + i) * 7, none⟩), .agg (vsA xv), .pointer (some ⟨blk, off + (a + i) * 7, none⟩), .pointer (some ⟨blk, off + (b + i) * 7, none⟩)], defers := _ } _
      refine alongK_step ?_
      refine opK_store ((wz.drew.setCells blk (off + (a + i) * 7) (vsC yv)).setCells blk (off + (b + i) * 7) (vsC xv)) rfl rfl (ex_put rfl rfl xv rfl HS1.out R Hn1.out (by rw [Array.size_setIfInBounds]; exact HI.out.2)) (fun _ => True) (fun _ h => h) trivial ?_
      change AlongK _ _ _ _ _ { tmps := #[.slice (some ⟨blk, off, none⟩) n cap, .int .i64 ((a : Nat) : Int), .int .i64 ((b : Nat) : Int), .int .i64 ((m : Nat) : Int), _, _, _, _, _, _, .int .i64 ((i : Nat) : Int), _, _, _, _, _, .slice (some ⟨blk, off, none⟩) n cap, .int .i64 ((a : Nat) : Int), .int .i64 ((i : Nat) : Int), .int .i64 ((a + i : Nat) : Int), .slice (some ⟨blk, off, none⟩) n cap, .int .i64 ((b : Nat) : Int), .int .i64 ((i : Nat) : Int), .int .i64 ((b + i : Nat) : Int), .slice (some ⟨blk, off, none⟩) n cap, .int .i64 ((b : Nat) : Int), .int .i64 ((i : Nat) : Int), .int .i64 ((b + i : Nat) : Int), .pointer (some ⟨blk, off + (b + i) * 7, none⟩), .agg (vsA yv), .slice (some ⟨blk, off, none⟩) n cap, .int .i64 ((a : Nat) : Int), .int .i64 ((i : Nat) : Int), .int .i64 ((a + i : Nat) : Int), .pointer (some ⟨blk, off + (a + i) * 7, none⟩), .agg (vsA xv), .pointer (some ⟨blk, off + (a + i) * 7, none⟩), .pointer (some ⟨blk, off + (b + i) * 7, none⟩)], defers := _ } _
      refine alongK_done ?_
      focus
        clear HS HS1 Hx Hy Hn1 Hn
        generalize (wz.drew.setCells blk (off + (a + i) * 7) (vsC yv)).setCells blk (off + (b + i) * 7) (vsC xv) = w2 at HR2 ⊢
        go_wp2
        go_roundw
        case rel => exact ⟨i + 1, _, by go_num, by omega, Lib.hid HR2.out.1, Lib.hid HR2.out.2⟩
        case measure => simp [intOf]; omega
      rotate_left
      refine opK_run (.agg (vsA xv)) wz.drew rfl rfl (ex_elem rfl rfl HS.out R Hn.out HI.out.1 Hx.out) (fun _ => True) (fun _ h => h) trivial ?_
      change AlongK _ _ _ _ _ { tmps := #[.slice (some ⟨blk, off, none⟩) n cap, .int .i64 ((a : Nat) : Int), .int .i64 ((b : Nat) : Int), .int .i64 ((m : Nat) : Int), _, _, _, _, _, _, .int .i64 ((i : Nat) : Int), _, _, _, _, _, .slice (some ⟨blk, off, none⟩) n cap, .int .i64 ((a : Nat) : Int), .int .i64 ((i : Nat) : Int), .int .i64 ((a + i : Nat) : Int), .slice (some ⟨blk, off, none⟩) n cap, .int .i64 ((b : Nat) : Int), .int .i64 ((i : Nat) : Int), .int .i64 ((b + i : Nat) : Int), .slice (some ⟨blk, off, none⟩) n cap, .int .i64 ((b : Nat) : Int), .int .i64 ((i : Nat) : Int), .int .i64 ((b + i : Nat) : Int), .pointer (some ⟨blk, off + (b + i) * 7, none⟩), _, .slice (some ⟨blk, off, none⟩) n cap, .int .i64 ((a : Nat) : Int), .int .i64 ((i : Nat) : Int), .int .i64 ((a + i : Nat) : Int), .pointer (some ⟨blk, off + (a + i) * 7, none⟩), .agg (vsA xv), _, _], defers := _ } _
      refine alongK_step ?_
      refine opK_run (.agg (vsA yv)) wz.drew rfl rfl (ex_elem rfl rfl HS.out R Hn.out HI.out.2 Hy.out) (fun _ => True) (fun _ h => h) trivial ?_
      change AlongK _ _ _ _ _ { tmps := #[.slice (some ⟨blk, off, none⟩) n cap, .int .i64 ((a : Nat) : Int), .int .i64 ((b : Nat) : Int), .int .i64 ((m : Nat) : Int), _, _, _, _, _, _, .int .i64 ((i : Nat) : Int), _, _, _, _, _, .slice (some ⟨blk, off, none⟩) n cap, .int .i64 ((a : Nat) : Int), .int .i64 ((i : Nat) : Int), .int .i64 ((a + i : Nat) : Int), .slice (some ⟨blk, off, none⟩) n cap, .int .i64 ((b : Nat) : Int), .int .i64 ((i : Nat) : Int), .int .i64 ((b + i : Nat) : Int), .slice (some ⟨blk, off, none⟩) n cap, .int .i64 ((b : Nat) : Int), .int .i64 ((i : Nat) : Int), .int .i64 ((b + i : Nat) : Int), .pointer (some ⟨blk, off + (b + i) * 7, none⟩), .agg (vsA yv), .slice (some ⟨blk, off, none⟩) n cap, .int .i64 ((a : Nat) : Int), .int .i64 ((i : Nat) : Int), .int .i64 ((a + i : Nat) : Int), .pointer (some ⟨blk, off + (a + i) * 7, none⟩), .agg (vsA xv), _, _], defers := _ } _
      refine alongK_read (.pointer (some ⟨blk, off + (a + i) * 7, none⟩)) rfl rfl (fun wx hS => ex_index Try.underlying22 Try.sizeOf38 rfl rfl rfl (by omega) wx) ?_
      change AlongK _ _ _ _ _ { tmps := #[.slice (some ⟨blk, off, none⟩) n cap, .int .i64 ((a : Nat) : Int), .int .i64 ((b : Nat) : Int), .int .i64 ((m : Nat) : Int), _, _, _, _, _, _, .int .i64 ((i : Nat) : Int), _, _, _, _, _, .slice (some ⟨blk, off, none⟩) n cap, .int .i64 ((a : Nat) : Int), .int .i64 ((i : Nat) : Int), .int .i64 ((a + i : Nat) : Int), .slice (some ⟨blk, off, none⟩) n cap, .int .i64 ((b : Nat) : Int), .int .i64 ((i : Nat) : Int), .int .i64 ((b + i : Nat) : Int), .slice (some ⟨blk, off, none⟩) n cap, .int .i64 ((b : Nat) : Int), .int .i64 ((i : Nat) : Int), .int .i64 ((b + i : Nat) : Int), .pointer (some ⟨blk, off + (b + i) * 7, none⟩), .agg (vsA yv), .slice (some ⟨blk, off, none⟩) n cap, .int .i64 ((a : Nat) : Int), .int .i64 ((i : Nat) : Int), .int .i64 ((a + i : Nat) : Int), .pointer (some ⟨blk, off + (a + i) * 7, none⟩), .agg (vsA xv), .pointer (some ⟨blk, off + (a + i) * 7, none⟩), _], defers := _ } _
      refine alongK_step ?_
      refine opK_store (wz.drew.setCells blk (off + (a + i) * 7) (vsC yv)) rfl rfl (ex_put rfl rfl yv rfl HS.out R Hn.out HI.out.1) (fun _ => True) (fun _ h => h) trivial ?_
      change AlongK _ _ _ _ _ { tmps := #[.slice (some ⟨blk, off, none⟩) n cap, .int .i64 ((a : Nat) : Int), .int .i64 ((b : Nat) : Int), .int .i64 ((m : Nat) : Int), _, _, _, _, _, _, .int .i64 ((i : Nat) : Int), _, _, _, _, _, .slice (some ⟨blk, off, none⟩) n cap, .int .i64 ((a : Nat) : Int), .int .i64 ((i : Nat) : Int), .int .i64 ((a + i : Nat) : Int), .slice (some ⟨blk, off, none⟩) n cap, .int .i64 ((b : Nat) : Int), .int .i64 ((i : Nat) : Int), .int .i64 ((b + i : Nat) : Int), .slice (some ⟨blk, off, none⟩) n cap, .int .i64 ((b : Nat) : Int), .int .i64 ((i : Nat) : Int), .int .i64 ((b + i : Nat) : Int), .pointer (some ⟨blk, off + (b + i) * 7, none⟩), .agg (vsA yv), .slice (some ⟨blk, off, none⟩) n cap, .int .i64 ((a : Nat) : Int), .int .i64 ((i : Nat) : Int), .int .i64 ((a + i : Nat) : Int), .pointer (some ⟨blk, off + (a + i) * 7, none⟩), .agg (vsA xv), .pointer (some ⟨blk, off + (a + i) * 7, none⟩), _], defers := _ } _
      refine alongK_read (.pointer (some ⟨blk, off + (b + i) * 7, none⟩)) rfl rfl (fun wx hS => ex_index Try.underlying22 Try.sizeOf38 rfl rfl rfl (by omega) wx) ?_
      change AlongK _ _ _ _ _ { tmps := #[.slice (some ⟨blk, off, none⟩) n cap, .int .i64 ((a : Nat) : Int), .int .i64 ((b : Nat) : Int), .int .i64 ((m : Nat) : Int), _, _, _, _, _, _, .int .i64 ((i : Nat) : Int), _, _, _, _, _, .slice (some ⟨blk, off, none⟩) n cap, .int .i64 ((a : Nat) : Int), .int .i64 ((i : Nat) : Int), .int .i64 ((a + i : Nat) : Int), .slice (some ⟨blk, off, none⟩) n cap, .int .i64 ((b : Nat) : Int), .int .i64 ((i : Nat) : Int), .int .i64 ((b + i : Nat) : Int), .slice (some ⟨blk, off, none⟩) n cap, .int .i64 ((b : Nat) : Int), .int .i64 ((i : Nat) : Int), .int .i64 ((b + i : Nat) : Int), .pointer (some ⟨blk, off + (b + i) * 7, none⟩), .agg (vsA yv), .slice (some ⟨blk, off, none⟩) n cap, .int .i64 ((a : Nat) : Int), .int .i64 ((i : Nat) : Int), .int .i64 ((a + i : Nat) : Int), .pointer (some ⟨blk, off + (a + i) * 7, none⟩), .agg (vsA xv), .pointer (some ⟨blk, off + (a + i) * 7, none⟩), .pointer (some ⟨blk, off + (b + i) * 7, none⟩)], defers := _ } _
      refine alongK_step ?_
      refine opK_store ((wz.drew.setCells blk (off + (a + i) * 7) (vsC yv)).setCells blk (off + (b + i) * 7) (vsC xv)) rfl rfl (ex_put rfl rfl xv rfl HS1.out R Hn1.out (by rw [Array.size_setIfInBounds]; exact HI.out.2)) (fun _ => True) (fun _ h => h) trivial ?_
      change AlongK _ _ _ _ _ { tmps := #[.slice (some ⟨blk, off, none⟩) n cap, .int .i64 ((a : Nat) : Int), .int .i64 ((b : Nat) : Int), .int .i64 ((m : Nat) : Int), _, _, _, _, _, _, .int .i64 ((i : Nat) : Int), _, _, _, _, _, .slice (some ⟨blk, off, none⟩) n cap, .int .i64 ((a : Nat) : Int), .int .i64 ((i : Nat) : Int), .int .i64 ((a + i : Nat) : Int), .slice (some ⟨blk, off, none⟩) n cap, .int .i64 ((b : Nat) : Int), .int .i64 ((i : Nat) : Int), .int .i64 ((b + i : Nat) : Int), .slice (some ⟨blk, off, none⟩) n cap, .int .i64 ((b : Nat) : Int), .int .i64 ((i : Nat) : Int), .int .i64 ((b + i : Nat) : Int), .pointer (some ⟨blk, off + (b + i) * 7, none⟩), .agg (vsA yv), .slice (some ⟨blk, off, none⟩) n cap, .int .i64 ((a : Nat) : Int), .int .i64 ((i : Nat) : Int), .int .i64 ((a + i : Nat) : Int), .pointer (some ⟨blk, off + (a + i) * 7, none⟩), .agg (vsA xv), .pointer (some ⟨blk, off + (a + i) * 7, none⟩), .pointer (some ⟨blk, off + (b + i) * 7, none⟩)], defers := _ } _
      refine alongK_done ?_
      focus
        clear HS HS1 Hx Hy Hn1 Hn
        generalize (wz.drew.setCells blk (off + (a + i) * 7) (vsC yv)).setCells blk (off + (b + i) * 7) (vsC xv) = w2 at HR2 ⊢
        go_wp2
        go_roundw
        case rel => exact ⟨i + 1, _, by go_num, by omega, Lib.hid HR2.out.1, Lib.hid HR2.out.2⟩
        case measure => simp [intOf]; omega
    · obtain rfl : i = m := by omega
      go_wp2
      go_end0
      refine ⟨rfl, dk, HS.out, ?_⟩
      have := HL.out
      rw [List.take_of_length_le (by omega), List.take_of_length_le (by omega), List.drop_of_length_le (by omega), List.drop_of_length_le (by omega)] at this
      simpa using this
end
end Go.Proofs.Ytnnjoeppcbbblaa
