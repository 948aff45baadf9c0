import Derived.Test.YtnnjoeppcbbblaaCtMake
/-
  The reference's SameVotes, SameCert of what is the same.
-/
namespace Go.Proofs.Ytnnjoeppcbbblaa
set_option maxRecDepth 100000
section
set_option linter.unusedVariables false
open Go.RowKit Go.Sort Go.Lib

theorem vs_neq (x : Vs) (p q : Operand) (w : World) : (do eqGuard .neq 38 p q (.agg (vsA x)) (.agg (vsA x)); binOp .neq 38 (.agg (vsA x)) (.agg (vsA x)) : Sem Value).run Try.prog w = .ok (.bool false) w := by
  obtain ⟨⟨K, V, H, B, T, G⟩, S⟩ := x
  show (do eqGuard .neq 38 p q (.agg #[.int .i64 K, .int .i64 V, .int .i64 H, .string (strOfNums B), .int .i64 T, .int .i64 G, .string S]) (.agg #[.int .i64 K, .int .i64 V, .int .i64 H, .string (strOfNums B), .int .i64 T, .int .i64 G, .string S]); binOp .neq 38 (.agg #[.int .i64 K, .int .i64 V, .int .i64 H, .string (strOfNums B), .int .i64 T, .int .i64 G, .string S]) (.agg #[.int .i64 K, .int .i64 V, .int .i64 H, .string (strOfNums B), .int .i64 T, .int .i64 G, .string S]) : Sem Value).run Try.prog w = .ok (.bool false) w
  simp [eqGuard, go_sem]
/-- an element of a slice of statements, in its world and later -/
theorem VArg.load {W : World} {b off n cap : Nat} {xs : List Vs} (h : VArg W (.slice (some ⟨b, off, none⟩) n cap) xs) {i : Nat} {x : Vs} (hx : xs[i]? = some x) : (loadVar 38 ⟨b, off + i * 7, none⟩).run Try.prog W = .ok (.agg (vsA x)) W := by
  obtain ⟨a', cap', e, h1, h2, h3⟩ := h
  cases e
  have hi : i < xs.length := (List.getElem?_eq_some_iff.1 hx).1
  rcases h3 with rfl | ⟨b', off', e, h4⟩
  · simp at hi
  · cases e
    have hcell : ∀ j v, (vsC x)[j]? = some v → W.cell? ((⟨b, off + i * 7, none⟩ : Addr).add j) = some v := by
      intro j v hv
      have hj : j < 7 := by have := (List.getElem?_eq_some_iff.1 hv).1; rwa [vsC_len] at this
      have ha : ((⟨b, off + i * 7, none⟩ : Addr).add j) = ⟨b, off + (i * 7 + j), none⟩ := by unfold Addr.add; split <;> simp_all [Nat.add_assoc]
      rw [ha, h4 (i * 7 + j) (by omega), vsF_get xs (i * 7 + j) (by omega), get_flatK _ _ _ _ (by simp; omega)]
      have e1 : (i * 7 + j) / 7 = i := by omega
      have e2 : (i * 7 + j) % 7 = j := by omega
      rw [e1, e2]
      have : xs.toArray[i]! = x := by simp [Array.getElem!_eq_getD, Array.getD_eq_getD_getElem?, hx]
      rw [this, getElem!_pos (vsC x) j (by rw [vsC_len]; exact hj)]
      rw [List.getElem?_eq_getElem (by rw [vsC_len]; exact hj)] at hv
      rw [Option.some.inj hv]
    have h5 := run_loadCellsFrom_list Try.prog W ⟨b, off + i * 7, none⟩ (vsC x) 7 (vsC_len x) hcell
    simp [loadVar, loadCells, Try.isAgg38, Try.sizeOf38, h5, Result.andThen, vsA]

set_option maxHeartbeats 1000000 in
theorem sameVotes_any (a a2 : Option Addr) (n c c2 : Nat) (xs : List Vs) (w : World) (hn : xs.length = n) (h1 : VArg w (.slice a n c) xs) (h2 : VArg w (.slice a2 n c2) xs) (hsz : n < 4611686018427387904) :
    Calls Try.prog 12 #[.slice a n c, .slice a2 n c2] w fun e w' => e = .returned (.bool true) ∧ Up w w' := by
  have e0 : ((n : Int) != (n : Int)) = false := by simp
  have H1 := Lib.hid h1
  have H2 := Lib.hid h2
  have HN := Lib.hid hn
  clear h1 h2 hn
  go_enter Try.func12, Try.ntmps12
  go_wp2
  go_loopw [5] (fun vi wr => ∃ i : Nat, vi = .int .i64 (i : Nat) ∧ i ≤ n ∧ Hid (Up w wr)) (fun vi _ => n - (intOf vi).toNat)
  case atStart => exact ⟨0, rfl, Nat.zero_le _, Lib.hid (Up.refl w)⟩
  case round =>
    obtain ⟨i, rfl, hi, HU⟩ := hrel
    by_cases hlt : i < n
    · have hz : (i : Int) < (n : Int) := by omega
      obtain ⟨b, off, hb⟩ := H1.out.ptr (by have := HN.out; omega)
      obtain ⟨b2, off2, hb2⟩ := H2.out.ptr (by have := HN.out; omega)
      subst hb hb2
      obtain ⟨x, hx⟩ : ∃ x, xs[i]? = some x := ⟨xs[i]'(by have := HN.out; omega), List.getElem?_eq_getElem _⟩
      have HX : Hid (∀ wx, Up wr wx → (loadVar 38 ⟨b, off + i * 7, none⟩).run Try.prog wx = .ok (.agg (vsA x)) wx) := fun wx h => (H1.out.up (Up.trans HU.out h)).load hx
      have HY : Hid (∀ wx, Up wr wx → (loadVar 38 ⟨b2, off2 + i * 7, none⟩).run Try.prog wx = .ok (.agg (vsA x)) wx) := fun wx h => (H2.out.up (Up.trans HU.out h)).load hx
      clear hx
      generalize wr = wz at HX HY HU ⊢
      go_wp2_with fail
      refine region_alongK (fun x => Up wz x) (.read 0 (.read 1 (.read 2 (.read 3 (.read 4 (.read 5 (.read 6 (.read 7 (.read 8 (.nil)))))))))) (by kernel_rfl) rfl (by kernel_rfl) (by kernel_rfl) (fun c a d v w h => by cases d <;> exact h) (Up.drew1 _) ?_
      refine alongK_read (.slice (some ⟨b, off, none⟩) n c) rfl rfl (fun wx hS => ex_move (by rfl) (by rfl) wx) ?_
      change AlongK _ _ _ _ _ { tmps := #[.slice (some ⟨b, off, none⟩) n c, .slice (some ⟨b2, off2, none⟩) n c2, _, _, _, .int .i64 (i : Int), _, _, _, _, _, _, _, _, _, _, _, .slice (some ⟨b, off, none⟩) n c, _, _, _, _, _, _, _, _], defers := _ } _
      refine alongK_read (.int .i64 (i : Int)) rfl rfl (fun wx hS => ex_move (by rfl) (by rfl) wx) ?_
      change AlongK _ _ _ _ _ { tmps := #[.slice (some ⟨b, off, none⟩) n c, .slice (some ⟨b2, off2, none⟩) n c2, _, _, _, .int .i64 (i : Int), _, _, _, _, _, _, _, _, _, _, _, .slice (some ⟨b, off, none⟩) n c, .int .i64 (i : Int), _, _, _, _, _, _, _], defers := _ } _
      refine alongK_read (.pointer (some ⟨b, off + i * 7, none⟩)) rfl rfl (fun wx hS => ex_index Try.underlying22 Try.sizeOf38 rfl rfl rfl ((by omega)) wx) ?_
      change AlongK _ _ _ _ _ { tmps := #[.slice (some ⟨b, off, none⟩) n c, .slice (some ⟨b2, off2, none⟩) n c2, _, _, _, .int .i64 (i : Int), _, _, _, _, _, _, _, _, _, _, _, .slice (some ⟨b, off, none⟩) n c, .int .i64 (i : Int), .pointer (some ⟨b, off + i * 7, none⟩), _, _, _, _, _, _], defers := _ } _
      refine alongK_read (.agg (vsA x)) rfl rfl (fun wx hS => ex_ldv rfl rfl (HX.out wx hS)) ?_
      change AlongK _ _ _ _ _ { tmps := #[.slice (some ⟨b, off, none⟩) n c, .slice (some ⟨b2, off2, none⟩) n c2, _, _, _, .int .i64 (i : Int), _, _, _, _, _, _, _, _, _, _, _, .slice (some ⟨b, off, none⟩) n c, .int .i64 (i : Int), .pointer (some ⟨b, off + i * 7, none⟩), .agg (vsA x), _, _, _, _, _], defers := _ } _
      refine alongK_read (.slice (some ⟨b2, off2, none⟩) n c2) rfl rfl (fun wx hS => ex_move (by rfl) (by rfl) wx) ?_
      change AlongK _ _ _ _ _ { tmps := #[.slice (some ⟨b, off, none⟩) n c, .slice (some ⟨b2, off2, none⟩) n c2, _, _, _, .int .i64 (i : Int), _, _, _, _, _, _, _, _, _, _, _, .slice (some ⟨b, off, none⟩) n c, .int .i64 (i : Int), .pointer (some ⟨b, off + i * 7, none⟩), .agg (vsA x), .slice (some ⟨b2, off2, none⟩) n c2, _, _, _, _], defers := _ } _
      refine alongK_read (.int .i64 (i : Int)) rfl rfl (fun wx hS => ex_move (by rfl) (by rfl) wx) ?_
      change AlongK _ _ _ _ _ { tmps := #[.slice (some ⟨b, off, none⟩) n c, .slice (some ⟨b2, off2, none⟩) n c2, _, _, _, .int .i64 (i : Int), _, _, _, _, _, _, _, _, _, _, _, .slice (some ⟨b, off, none⟩) n c, .int .i64 (i : Int), .pointer (some ⟨b, off + i * 7, none⟩), .agg (vsA x), .slice (some ⟨b2, off2, none⟩) n c2, .int .i64 (i : Int), _, _, _], defers := _ } _
      refine alongK_read (.pointer (some ⟨b2, off2 + i * 7, none⟩)) rfl rfl (fun wx hS => ex_index Try.underlying22 Try.sizeOf38 rfl rfl rfl ((by omega)) wx) ?_
      change AlongK _ _ _ _ _ { tmps := #[.slice (some ⟨b, off, none⟩) n c, .slice (some ⟨b2, off2, none⟩) n c2, _, _, _, .int .i64 (i : Int), _, _, _, _, _, _, _, _, _, _, _, .slice (some ⟨b, off, none⟩) n c, .int .i64 (i : Int), .pointer (some ⟨b, off + i * 7, none⟩), .agg (vsA x), .slice (some ⟨b2, off2, none⟩) n c2, .int .i64 (i : Int), .pointer (some ⟨b2, off2 + i * 7, none⟩), _, _], defers := _ } _
      refine alongK_read (.agg (vsA x)) rfl rfl (fun wx hS => ex_ldv rfl rfl (HY.out wx hS)) ?_
      change AlongK _ _ _ _ _ { tmps := #[.slice (some ⟨b, off, none⟩) n c, .slice (some ⟨b2, off2, none⟩) n c2, _, _, _, .int .i64 (i : Int), _, _, _, _, _, _, _, _, _, _, _, .slice (some ⟨b, off, none⟩) n c, .int .i64 (i : Int), .pointer (some ⟨b, off + i * 7, none⟩), .agg (vsA x), .slice (some ⟨b2, off2, none⟩) n c2, .int .i64 (i : Int), .pointer (some ⟨b2, off2 + i * 7, none⟩), .agg (vsA x), _], defers := _ } _
      refine alongK_read (.bool false) rfl rfl (fun wx hS => ex_bin rfl rfl rfl wx (vs_neq x _ _ wx)) ?_
      change AlongK _ _ _ _ _ { tmps := #[.slice (some ⟨b, off, none⟩) n c, .slice (some ⟨b2, off2, none⟩) n c2, _, _, _, .int .i64 (i : Int), _, _, _, _, _, _, _, _, _, _, _, .slice (some ⟨b, off, none⟩) n c, .int .i64 (i : Int), .pointer (some ⟨b, off + i * 7, none⟩), .agg (vsA x), .slice (some ⟨b2, off2, none⟩) n c2, .int .i64 (i : Int), .pointer (some ⟨b2, off2 + i * 7, none⟩), .agg (vsA x), .bool false], defers := _ } _
      refine alongK_done ?_
      go_wp2
      go_roundw
      case rel => exact ⟨i + 1, by go_num, hlt, Lib.hid (Up.trans HU.out (Up.drew1 _))⟩
      case measure => simp [intOf]; omega
    · obtain rfl : i = n := by omega
      go_wp2
      go_ret
      exact ⟨rfl, HU.out⟩

set_option maxHeartbeats 1000000 in
theorem sameCert_any (V H : Int) (B : ByteArray) (a a2 : Option Addr) (n c c2 : Nat) (xs : List Vs) (w : World) (hn : xs.length = n) (h1 : VArg w (.slice a n c) xs) (h2 : VArg w (.slice a2 n c2) xs) (hsz : n < 4611686018427387904) :
    Calls Try.prog 7 #[.agg #[.int .i64 V, .int .i64 H, .string B, .slice a n c], .agg #[.int .i64 V, .int .i64 H, .string B, .slice a2 n c2]] w fun e w' => e = .returned (.bool true) ∧ Up w w' := by
  have u1 := Up.alloc (Up.refl w) (.cells #[.int .i64 V, .int .i64 H, .string B, .slice a n c] 26)
  have k1 := heap_alloc_new w (.cells #[.int .i64 V, .int .i64 H, .string B, .slice a n c] 26)
  have u2 := Up.alloc (Up.refl (w.alloc (.cells #[.int .i64 V, .int .i64 H, .string B, .slice a n c] 26))) (.cells #[.int .i64 V, .int .i64 H, .string B, .slice a2 n c2] 26)
  have k2 := heap_alloc_new (w.alloc (.cells #[.int .i64 V, .int .i64 H, .string B, .slice a n c] 26)) (.cells #[.int .i64 V, .int .i64 H, .string B, .slice a2 n c2] 26)
  rw [show (w.alloc (.cells #[.int .i64 V, .int .i64 H, .string B, .slice a n c] 26)).heap.size = w.heap.size + 1 by simp] at k2
  have k3 := (u2.block _ (lt_of_block k1)).trans k1
  have HV : Hid (∀ wx, Up w wx → Calls Try.prog 12 #[.slice a n c, .slice a2 n c2] wx fun e w' => e = .returned (.bool true) ∧ Up wx w') := fun wx h => sameVotes_any a a2 n c c2 xs wx hn (h1.up h) (h2.up h) hsz
  have HU := Lib.hid (Up.trans u1 u2)
  obtain ⟨c0, c1, cc2, cc3⟩ := ct_cells k3
  obtain ⟨d0, d1, d2, d3⟩ := ct_cells k2
  clear u1 k1 u2 k2 k3 h1 h2
  go_enter Try.func7, Try.ntmps7
  go_wp2_with fail
  with_reducible refine Calls.mono (HV.out _ HU.out) ?_
  rintro e w2 ⟨rfl, hU2⟩
  have HU2 := Lib.hid (Up.trans HU.out hU2)
  clear hU2
  go_wp2
  go_ret
  exact ⟨rfl, HU2.out⟩
end
end Go.Proofs.Ytnnjoeppcbbblaa
