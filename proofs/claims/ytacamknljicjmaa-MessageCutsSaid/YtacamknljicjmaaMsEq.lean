import Derived.Test.YtacamknljicjmaaMsSame
/-
  slices.Equal of statements, of transactions; the reference's SameVotes, SameTxs.
-/
namespace Go.Proofs.Ytacamknljicjmaa
set_option maxRecDepth 100000
section
set_option linter.unusedVariables false
open Go.RowKit Go.Sort Go.Lib

set_option maxHeartbeats 1000000 in
theorem eqVs_any (a a2 : Option Addr) (n m c c2 : Nat) (xs ys : List Vs) (w : World) (h1 : VArg w (.slice a n c) xs) (h2 : VArg w (.slice a2 m c2) ys) (hux : ∀ x ∈ xs, U8s x.1.B) (huy : ∀ y ∈ ys, U8s y.1.B) (hsz : n ≤ 9223372036854775807) :
    Calls Try.prog 48 #[.slice a n c, .slice a2 m c2] w fun e w' => e = .returned (.bool (bD (xs = ys))) ∧ Up w w' := by
  have hn := h1.len
  have hm := h2.len
  by_cases hnm : n = m
  · subst hnm
    have e0 : ((n : Int) != (n : Int)) = false := by simp
    have HD : Hid (∀ (i : Nat) (x y : Vs), xs[i]? = some x → ys[i]? = some y → (vsEq x y ↔ xs[i]? = ys[i]?)) := fun i x y hx hy => by
      rw [hx, hy]
      exact (vsEq_iff (hux _ (List.mem_of_getElem? hx)) (huy _ (List.mem_of_getElem? hy))).trans ⟨fun h => by rw [h], fun h => Option.some.inj h⟩
    have HT : Hid ((∀ j : Nat, j < n → xs[j]? = ys[j]?) → bD (xs = ys) = true) := fun h => bD_true (List.ext_getElem? fun j => by
      by_cases hj : j < n
      · exact h j hj
      · rw [List.getElem?_eq_none (by omega), List.getElem?_eq_none (by omega)])
    have HF : Hid (∀ j : Nat, xs[j]? ≠ ys[j]? → bD (xs = ys) = false) := fun j h => bD_false (fun e => h (by rw [e]))
    generalize bD (xs = ys) = RES at HT HF ⊢
    have H1 := Lib.hid h1
    have H2 := Lib.hid h2
    have HN := Lib.hid hn
    have HM := Lib.hid hm
    clear h1 h2 hn hm hux huy
    go_enter Try.func48, Try.ntmps48
    go_wp2
    go_loopw [13] (fun vi wr => ∃ i : Nat, vi = .int .i64 (i : Nat) ∧ i ≤ n ∧ Hid (∀ j : Nat, j < i → xs[j]? = ys[j]?) ∧ Hid (Up w wr)) (fun vi _ => n - (intOf vi).toNat)
    case atStart => exact ⟨0, rfl, Nat.zero_le _, Lib.hid (fun j hj => absurd hj (Nat.not_lt_zero _)), Lib.hid (Up.refl w)⟩
    case round =>
      obtain ⟨i, rfl, hi, HE, HU⟩ := hrel
      by_cases hlt : i < n
      · have hz : (i : Int) < (n : Int) := by omega
        obtain ⟨x, hx⟩ : ∃ x, xs[i]? = some x := ⟨xs[i]'(by have := HN.out; omega), List.getElem?_eq_getElem _⟩
        obtain ⟨y, hy⟩ : ∃ y, ys[i]? = some y := ⟨ys[i]'(by have := HM.out; omega), List.getElem?_eq_getElem _⟩
        obtain ⟨b, off, hb1⟩ := H1.out.ptr (by have := HN.out; omega)
        obtain ⟨b2, off2, hb2⟩ := H2.out.ptr (by have := HM.out; omega)
        subst hb1 hb2
        have HX : Hid (∀ wx, Up wr wx → (loadVar 29 ⟨b, off + i * 7, none⟩).run Try.prog wx = .ok (.agg (vsA x)) wx) := fun wx h => (H1.out.up (Up.trans HU.out h)).load hx
        have HY : Hid (∀ wx, Up wr wx → (loadVar 29 ⟨b2, off2 + i * 7, none⟩).run Try.prog wx = .ok (.agg (vsA y)) wx) := fun wx h => (H2.out.up (Up.trans HU.out h)).load hy
        have HI := Lib.hid (HD.out i x y hx hy)
        have HQ : Hid (∀ wx, (do eqGuard .neq 29 (.tmp 19) (.tmp 23) (.agg (vsA x)) (.agg (vsA y)); binOp .neq 29 (.agg (vsA x)) (.agg (vsA y)) : Sem Value).run Try.prog wx = .ok (.bool (!decide (vsEq x y))) wx) := fun wx => vs_neq x y _ _ wx
        have HDD : Hid ((!decide (vsEq x y)) = false ↔ xs[i]? = ys[i]?) := by
          (have k : (!decide (vsEq x y)) = false ↔ xs[i]? = ys[i]? := by rw [← HI.out]; simp)
          exact k
        clear hx hy HI
        generalize (!decide (vsEq x y)) = D at HQ HDD
        generalize hwz : wr = wz at *
        go_wp2
        refine region_alongK (fun x => Up wz x) (.read 0 (.read 1 (.read 2 (.read 3 (.read 4 (.read 5 (.read 6 (.read 7 (.read 8 (.nil)))))))))) (by kernel_rfl) rfl (by kernel_rfl) (by kernel_rfl) (fun c a d v w h => by cases d <;> exact h) (Up.drew1 _) ?_
        refine alongK_read (.slice (some ⟨b, off, none⟩) n c) rfl rfl (fun wx hS => ex_move (by rfl) (by rfl) wx) ?_
        refine alongK_read (.int .i64 (i : Int)) rfl rfl (fun wx hS => ex_move (by rfl) (by rfl) wx) ?_
        refine alongK_read (.pointer (some ⟨b, off + i * 7, none⟩)) rfl rfl (fun wx hS => ex_index Try.underlying22 Try.sizeOf29 rfl rfl rfl ((by omega)) wx) ?_
        change AlongK _ _ _ _ _ { tmps := #[.slice (some ⟨b, off, none⟩) n c, .slice (some ⟨b2, off2, none⟩) n c2, _, _, _, .int .i64 (i : Int), _, _, _, _, _, _, _, _, _, _, .slice (some ⟨b, off, none⟩) n c, .int .i64 (i : Int), .pointer (some ⟨b, off + i * 7, none⟩), _, _, _, _, _, _, _], defers := _ } _
        refine alongK_read (.agg (vsA x)) rfl rfl (fun wx hS => ex_ldv rfl rfl (HX.out wx hS)) ?_
        refine alongK_read (.slice (some ⟨b2, off2, none⟩) n c2) rfl rfl (fun wx hS => ex_move (by rfl) (by rfl) wx) ?_
        refine alongK_read (.int .i64 (i : Int)) rfl rfl (fun wx hS => ex_move (by rfl) (by rfl) wx) ?_
        change AlongK _ _ _ _ _ { tmps := #[.slice (some ⟨b, off, none⟩) n c, .slice (some ⟨b2, off2, none⟩) n c2, _, _, _, .int .i64 (i : Int), _, _, _, _, _, _, _, _, _, _, .slice (some ⟨b, off, none⟩) n c, .int .i64 (i : Int), .pointer (some ⟨b, off + i * 7, none⟩), .agg (vsA x), .slice (some ⟨b2, off2, none⟩) n c2, .int .i64 (i : Int), _, _, _, _], defers := _ } _
        refine alongK_read (.pointer (some ⟨b2, off2 + i * 7, none⟩)) rfl rfl (fun wx hS => ex_index Try.underlying22 Try.sizeOf29 rfl rfl rfl ((by omega)) wx) ?_
        refine alongK_read (.agg (vsA y)) rfl rfl (fun wx hS => ex_ldv rfl rfl (HY.out wx hS)) ?_
        refine alongK_read (.bool D) rfl rfl (fun wx hS => ex_bin rfl rfl rfl wx (HQ.out wx)) ?_
        change AlongK _ _ _ _ _ { tmps := #[.slice (some ⟨b, off, none⟩) n c, .slice (some ⟨b2, off2, none⟩) n c2, _, _, _, .int .i64 (i : Int), _, _, _, _, _, _, _, _, _, _, .slice (some ⟨b, off, none⟩) n c, .int .i64 (i : Int), .pointer (some ⟨b, off + i * 7, none⟩), .agg (vsA x), .slice (some ⟨b2, off2, none⟩) n c2, .int .i64 (i : Int), .pointer (some ⟨b2, off2 + i * 7, none⟩), .agg (vsA y), .bool D, _], defers := _ } _
        refine alongK_done ?_
        cases D with
        | true =>
          obtain rfl : RES = false := HF.out i (fun e => by have := HDD.out.2 e; cases this)
          go_wp2
          go_ret
          exact ⟨rfl, Up.trans HU.out (Up.drew1 _)⟩
        | false =>
          have he := HDD.out.1 rfl
          have HE2 : Hid (∀ j : Nat, j < i + 1 → xs[j]? = ys[j]?) := fun j hj => by
            rcases Nat.lt_succ_iff_lt_or_eq.1 hj with hj | hj
            · exact HE.out j hj
            · rw [hj]; exact he
          clear he
          go_wp2
          go_roundw
          case rel => exact ⟨_, _, _, ⟨i + 1, by go_num, hlt, HE2, Up.trans HU.out (Up.drew1 _)⟩, rfl, rfl, rfl⟩
          case measure => simp [intOf]; omega
      · have hie : i = n := by omega
        have hz : ¬ (i : Int) < (n : Int) := by omega
        obtain rfl : RES = true := HT.out (fun j hj => HE.out j (by omega))
        go_wp2
        go_ret
        exact ⟨rfl, HU.out⟩
  · have e0 : ((n : Int) != (m : Int)) = true := by rw [bne_iff_ne]; omega
    rw [bD_false (fun e => hnm (by rw [← hn, ← hm, e]))]
    clear h1 h2 hn hm hnm hux huy
    go_enter Try.func48, Try.ntmps48
    go_wp2
    go_ret
    exact ⟨rfl, Up.refl _⟩

set_option maxHeartbeats 1000000 in
theorem eqTs_any (a a2 : Option Addr) (n m c c2 : Nat) (xs ys : List Ts) (w : World) (h1 : TArg w (.slice a n c) xs) (h2 : TArg w (.slice a2 m c2) ys) (hsz : n ≤ 9223372036854775807) :
    Calls Try.prog 69 #[.slice a n c, .slice a2 m c2] w fun e w' => e = .returned (.bool (bD (xs = ys))) ∧ Up w w' := by
  have hn := h1.len
  have hm := h2.len
  by_cases hnm : n = m
  · subst hnm
    have e0 : ((n : Int) != (n : Int)) = false := by simp
    have HD : Hid (∀ (i : Nat) (x y : Ts), xs[i]? = some x → ys[i]? = some y → (tsEq x y ↔ xs[i]? = ys[i]?)) := fun i x y hx hy => by
      rw [hx, hy]
      exact (tsEq_iff).trans ⟨fun h => by rw [h], fun h => Option.some.inj h⟩
    have HT : Hid ((∀ j : Nat, j < n → xs[j]? = ys[j]?) → bD (xs = ys) = true) := fun h => bD_true (List.ext_getElem? fun j => by
      by_cases hj : j < n
      · exact h j hj
      · rw [List.getElem?_eq_none (by omega), List.getElem?_eq_none (by omega)])
    have HF : Hid (∀ j : Nat, xs[j]? ≠ ys[j]? → bD (xs = ys) = false) := fun j h => bD_false (fun e => h (by rw [e]))
    generalize bD (xs = ys) = RES at HT HF ⊢
    have H1 := Lib.hid h1
    have H2 := Lib.hid h2
    have HN := Lib.hid hn
    have HM := Lib.hid hm
    clear h1 h2 hn hm
    go_enter Try.func69, Try.ntmps69
    go_wp2
    go_loopw [13] (fun vi wr => ∃ i : Nat, vi = .int .i64 (i : Nat) ∧ i ≤ n ∧ Hid (∀ j : Nat, j < i → xs[j]? = ys[j]?) ∧ Hid (Up w wr)) (fun vi _ => n - (intOf vi).toNat)
    case atStart => exact ⟨0, rfl, Nat.zero_le _, Lib.hid (fun j hj => absurd hj (Nat.not_lt_zero _)), Lib.hid (Up.refl w)⟩
    case round =>
      obtain ⟨i, rfl, hi, HE, HU⟩ := hrel
      by_cases hlt : i < n
      · have hz : (i : Int) < (n : Int) := by omega
        obtain ⟨x, hx⟩ : ∃ x, xs[i]? = some x := ⟨xs[i]'(by have := HN.out; omega), List.getElem?_eq_getElem _⟩
        obtain ⟨y, hy⟩ : ∃ y, ys[i]? = some y := ⟨ys[i]'(by have := HM.out; omega), List.getElem?_eq_getElem _⟩
        obtain ⟨b, off, hb1⟩ := H1.out.ptr (by have := HN.out; omega)
        obtain ⟨b2, off2, hb2⟩ := H2.out.ptr (by have := HM.out; omega)
        subst hb1 hb2
        have HX : Hid (∀ wx, Up wr wx → (loadVar 31 ⟨b, off + i * 5, none⟩).run Try.prog wx = .ok (.agg (tsA x)) wx) := fun wx h => (H1.out.up (Up.trans HU.out h)).load hx
        have HY : Hid (∀ wx, Up wr wx → (loadVar 31 ⟨b2, off2 + i * 5, none⟩).run Try.prog wx = .ok (.agg (tsA y)) wx) := fun wx h => (H2.out.up (Up.trans HU.out h)).load hy
        have HI := Lib.hid (HD.out i x y hx hy)
        have HQ : Hid (∀ wx, (do eqGuard .neq 31 (.tmp 19) (.tmp 23) (.agg (tsA x)) (.agg (tsA y)); binOp .neq 31 (.agg (tsA x)) (.agg (tsA y)) : Sem Value).run Try.prog wx = .ok (.bool (!decide (tsEq x y))) wx) := fun wx => ts_neq x y _ _ wx
        have HDD : Hid ((!decide (tsEq x y)) = false ↔ xs[i]? = ys[i]?) := by
          (have k : (!decide (tsEq x y)) = false ↔ xs[i]? = ys[i]? := by rw [← HI.out]; simp)
          exact k
        clear hx hy HI
        generalize (!decide (tsEq x y)) = D at HQ HDD
        generalize hwz : wr = wz at *
        go_wp2
        refine region_alongK (fun x => Up wz x) (.read 0 (.read 1 (.read 2 (.read 3 (.read 4 (.read 5 (.read 6 (.read 7 (.read 8 (.nil)))))))))) (by kernel_rfl) rfl (by kernel_rfl) (by kernel_rfl) (fun c a d v w h => by cases d <;> exact h) (Up.drew1 _) ?_
        refine alongK_read (.slice (some ⟨b, off, none⟩) n c) rfl rfl (fun wx hS => ex_move (by rfl) (by rfl) wx) ?_
        refine alongK_read (.int .i64 (i : Int)) rfl rfl (fun wx hS => ex_move (by rfl) (by rfl) wx) ?_
        refine alongK_read (.pointer (some ⟨b, off + i * 5, none⟩)) rfl rfl (fun wx hS => ex_index Try.underlying25 Try.sizeOf31 rfl rfl rfl ((by omega)) wx) ?_
        change AlongK _ _ _ _ _ { tmps := #[.slice (some ⟨b, off, none⟩) n c, .slice (some ⟨b2, off2, none⟩) n c2, _, _, _, .int .i64 (i : Int), _, _, _, _, _, _, _, _, _, _, .slice (some ⟨b, off, none⟩) n c, .int .i64 (i : Int), .pointer (some ⟨b, off + i * 5, none⟩), _, _, _, _, _, _, _], defers := _ } _
        refine alongK_read (.agg (tsA x)) rfl rfl (fun wx hS => ex_ldt rfl rfl (HX.out wx hS)) ?_
        refine alongK_read (.slice (some ⟨b2, off2, none⟩) n c2) rfl rfl (fun wx hS => ex_move (by rfl) (by rfl) wx) ?_
        refine alongK_read (.int .i64 (i : Int)) rfl rfl (fun wx hS => ex_move (by rfl) (by rfl) wx) ?_
        change AlongK _ _ _ _ _ { tmps := #[.slice (some ⟨b, off, none⟩) n c, .slice (some ⟨b2, off2, none⟩) n c2, _, _, _, .int .i64 (i : Int), _, _, _, _, _, _, _, _, _, _, .slice (some ⟨b, off, none⟩) n c, .int .i64 (i : Int), .pointer (some ⟨b, off + i * 5, none⟩), .agg (tsA x), .slice (some ⟨b2, off2, none⟩) n c2, .int .i64 (i : Int), _, _, _, _], defers := _ } _
        refine alongK_read (.pointer (some ⟨b2, off2 + i * 5, none⟩)) rfl rfl (fun wx hS => ex_index Try.underlying25 Try.sizeOf31 rfl rfl rfl ((by omega)) wx) ?_
        refine alongK_read (.agg (tsA y)) rfl rfl (fun wx hS => ex_ldt rfl rfl (HY.out wx hS)) ?_
        refine alongK_read (.bool D) rfl rfl (fun wx hS => ex_bin rfl rfl rfl wx (HQ.out wx)) ?_
        change AlongK _ _ _ _ _ { tmps := #[.slice (some ⟨b, off, none⟩) n c, .slice (some ⟨b2, off2, none⟩) n c2, _, _, _, .int .i64 (i : Int), _, _, _, _, _, _, _, _, _, _, .slice (some ⟨b, off, none⟩) n c, .int .i64 (i : Int), .pointer (some ⟨b, off + i * 5, none⟩), .agg (tsA x), .slice (some ⟨b2, off2, none⟩) n c2, .int .i64 (i : Int), .pointer (some ⟨b2, off2 + i * 5, none⟩), .agg (tsA y), .bool D, _], defers := _ } _
        refine alongK_done ?_
        cases D with
        | true =>
          obtain rfl : RES = false := HF.out i (fun e => by have := HDD.out.2 e; cases this)
          go_wp2
          go_ret
          exact ⟨rfl, Up.trans HU.out (Up.drew1 _)⟩
        | false =>
          have he := HDD.out.1 rfl
          have HE2 : Hid (∀ j : Nat, j < i + 1 → xs[j]? = ys[j]?) := fun j hj => by
            rcases Nat.lt_succ_iff_lt_or_eq.1 hj with hj | hj
            · exact HE.out j hj
            · rw [hj]; exact he
          clear he
          go_wp2
          go_roundw
          case rel => exact ⟨_, _, _, ⟨i + 1, by go_num, hlt, HE2, Up.trans HU.out (Up.drew1 _)⟩, rfl, rfl, rfl⟩
          case measure => simp [intOf]; omega
      · have hie : i = n := by omega
        have hz : ¬ (i : Int) < (n : Int) := by omega
        obtain rfl : RES = true := HT.out (fun j hj => HE.out j (by omega))
        go_wp2
        go_ret
        exact ⟨rfl, HU.out⟩
  · have e0 : ((n : Int) != (m : Int)) = true := by rw [bne_iff_ne]; omega
    rw [bD_false (fun e => hnm (by rw [← hn, ← hm, e]))]
    clear h1 h2 hn hm hnm
    go_enter Try.func69, Try.ntmps69
    go_wp2
    go_ret
    exact ⟨rfl, Up.refl _⟩

set_option maxHeartbeats 1000000 in
theorem refVs_any (a a2 : Option Addr) (n m c c2 : Nat) (xs ys : List Vs) (w : World) (h1 : VArg w (.slice a n c) xs) (h2 : VArg w (.slice a2 m c2) ys) (hux : ∀ x ∈ xs, U8s x.1.B) (huy : ∀ y ∈ ys, U8s y.1.B) (hsz : n ≤ 9223372036854775807) :
    Calls Try.prog 20 #[.slice a n c, .slice a2 m c2] w fun e w' => e = .returned (.bool (bD (xs = ys))) ∧ Up w w' := by
  have hn := h1.len
  have hm := h2.len
  by_cases hnm : n = m
  · subst hnm
    have e0 : ((n : Int) != (n : Int)) = false := by simp
    have HD : Hid (∀ (i : Nat) (x y : Vs), xs[i]? = some x → ys[i]? = some y → (vsEq x y ↔ xs[i]? = ys[i]?)) := fun i x y hx hy => by
      rw [hx, hy]
      exact (vsEq_iff (hux _ (List.mem_of_getElem? hx)) (huy _ (List.mem_of_getElem? hy))).trans ⟨fun h => by rw [h], fun h => Option.some.inj h⟩
    have HT : Hid ((∀ j : Nat, j < n → xs[j]? = ys[j]?) → bD (xs = ys) = true) := fun h => bD_true (List.ext_getElem? fun j => by
      by_cases hj : j < n
      · exact h j hj
      · rw [List.getElem?_eq_none (by omega), List.getElem?_eq_none (by omega)])
    have HF : Hid (∀ j : Nat, xs[j]? ≠ ys[j]? → bD (xs = ys) = false) := fun j h => bD_false (fun e => h (by rw [e]))
    generalize bD (xs = ys) = RES at HT HF ⊢
    have H1 := Lib.hid h1
    have H2 := Lib.hid h2
    have HN := Lib.hid hn
    have HM := Lib.hid hm
    clear h1 h2 hn hm hux huy
    go_enter Try.func20, Try.ntmps20
    go_wp2
    go_loopw [5] (fun vi wr => ∃ i : Nat, vi = .int .i64 (i : Nat) ∧ i ≤ n ∧ Hid (∀ j : Nat, j < i → xs[j]? = ys[j]?) ∧ Hid (Up w wr)) (fun vi _ => n - (intOf vi).toNat)
    case atStart => exact ⟨0, rfl, Nat.zero_le _, Lib.hid (fun j hj => absurd hj (Nat.not_lt_zero _)), Lib.hid (Up.refl w)⟩
    case round =>
      obtain ⟨i, rfl, hi, HE, HU⟩ := hrel
      by_cases hlt : i < n
      · have hz : (i : Int) < (n : Int) := by omega
        obtain ⟨x, hx⟩ : ∃ x, xs[i]? = some x := ⟨xs[i]'(by have := HN.out; omega), List.getElem?_eq_getElem _⟩
        obtain ⟨y, hy⟩ : ∃ y, ys[i]? = some y := ⟨ys[i]'(by have := HM.out; omega), List.getElem?_eq_getElem _⟩
        obtain ⟨b, off, hb1⟩ := H1.out.ptr (by have := HN.out; omega)
        obtain ⟨b2, off2, hb2⟩ := H2.out.ptr (by have := HM.out; omega)
        subst hb1 hb2
        have HX : Hid (∀ wx, Up wr wx → (loadVar 29 ⟨b, off + i * 7, none⟩).run Try.prog wx = .ok (.agg (vsA x)) wx) := fun wx h => (H1.out.up (Up.trans HU.out h)).load hx
        have HY : Hid (∀ wx, Up wr wx → (loadVar 29 ⟨b2, off2 + i * 7, none⟩).run Try.prog wx = .ok (.agg (vsA y)) wx) := fun wx h => (H2.out.up (Up.trans HU.out h)).load hy
        have HI := Lib.hid (HD.out i x y hx hy)
        have HQ : Hid (∀ wx, (do eqGuard .neq 29 (.tmp 20) (.tmp 24) (.agg (vsA x)) (.agg (vsA y)); binOp .neq 29 (.agg (vsA x)) (.agg (vsA y)) : Sem Value).run Try.prog wx = .ok (.bool (!decide (vsEq x y))) wx) := fun wx => vs_neq x y _ _ wx
        have HDD : Hid ((!decide (vsEq x y)) = false ↔ xs[i]? = ys[i]?) := by
          (have k : (!decide (vsEq x y)) = false ↔ xs[i]? = ys[i]? := by rw [← HI.out]; simp)
          exact k
        clear hx hy HI
        generalize (!decide (vsEq x y)) = D at HQ HDD
        generalize hwz : wr = wz at *
        go_wp2
        refine region_alongK (fun x => Up wz x) (.read 0 (.read 1 (.read 2 (.read 3 (.read 4 (.read 5 (.read 6 (.read 7 (.read 8 (.nil)))))))))) (by kernel_rfl) rfl (by kernel_rfl) (by kernel_rfl) (fun c a d v w h => by cases d <;> exact h) (Up.drew1 _) ?_
        refine alongK_read (.slice (some ⟨b, off, none⟩) n c) rfl rfl (fun wx hS => ex_move (by rfl) (by rfl) wx) ?_
        refine alongK_read (.int .i64 (i : Int)) rfl rfl (fun wx hS => ex_move (by rfl) (by rfl) wx) ?_
        refine alongK_read (.pointer (some ⟨b, off + i * 7, none⟩)) rfl rfl (fun wx hS => ex_index Try.underlying22 Try.sizeOf29 rfl rfl rfl ((by omega)) wx) ?_
        change AlongK _ _ _ _ _ { tmps := #[.slice (some ⟨b, off, none⟩) n c, .slice (some ⟨b2, off2, none⟩) n c2, _, _, _, .int .i64 (i : Int), _, _, _, _, _, _, _, _, _, _, _, .slice (some ⟨b, off, none⟩) n c, .int .i64 (i : Int), .pointer (some ⟨b, off + i * 7, none⟩), _, _, _, _, _, _], defers := _ } _
        refine alongK_read (.agg (vsA x)) rfl rfl (fun wx hS => ex_ldv rfl rfl (HX.out wx hS)) ?_
        refine alongK_read (.slice (some ⟨b2, off2, none⟩) n c2) rfl rfl (fun wx hS => ex_move (by rfl) (by rfl) wx) ?_
        refine alongK_read (.int .i64 (i : Int)) rfl rfl (fun wx hS => ex_move (by rfl) (by rfl) wx) ?_
        change AlongK _ _ _ _ _ { tmps := #[.slice (some ⟨b, off, none⟩) n c, .slice (some ⟨b2, off2, none⟩) n c2, _, _, _, .int .i64 (i : Int), _, _, _, _, _, _, _, _, _, _, _, .slice (some ⟨b, off, none⟩) n c, .int .i64 (i : Int), .pointer (some ⟨b, off + i * 7, none⟩), .agg (vsA x), .slice (some ⟨b2, off2, none⟩) n c2, .int .i64 (i : Int), _, _, _], defers := _ } _
        refine alongK_read (.pointer (some ⟨b2, off2 + i * 7, none⟩)) rfl rfl (fun wx hS => ex_index Try.underlying22 Try.sizeOf29 rfl rfl rfl ((by omega)) wx) ?_
        refine alongK_read (.agg (vsA y)) rfl rfl (fun wx hS => ex_ldv rfl rfl (HY.out wx hS)) ?_
        refine alongK_read (.bool D) rfl rfl (fun wx hS => ex_bin rfl rfl rfl wx (HQ.out wx)) ?_
        change AlongK _ _ _ _ _ { tmps := #[.slice (some ⟨b, off, none⟩) n c, .slice (some ⟨b2, off2, none⟩) n c2, _, _, _, .int .i64 (i : Int), _, _, _, _, _, _, _, _, _, _, _, .slice (some ⟨b, off, none⟩) n c, .int .i64 (i : Int), .pointer (some ⟨b, off + i * 7, none⟩), .agg (vsA x), .slice (some ⟨b2, off2, none⟩) n c2, .int .i64 (i : Int), .pointer (some ⟨b2, off2 + i * 7, none⟩), .agg (vsA y), .bool D], defers := _ } _
        refine alongK_done ?_
        cases D with
        | true =>
          obtain rfl : RES = false := HF.out i (fun e => by have := HDD.out.2 e; cases this)
          go_wp2
          go_ret
          exact ⟨rfl, Up.trans HU.out (Up.drew1 _)⟩
        | false =>
          have he := HDD.out.1 rfl
          have HE2 : Hid (∀ j : Nat, j < i + 1 → xs[j]? = ys[j]?) := fun j hj => by
            rcases Nat.lt_succ_iff_lt_or_eq.1 hj with hj | hj
            · exact HE.out j hj
            · rw [hj]; exact he
          clear he
          go_wp2
          go_roundw
          case rel => exact ⟨i + 1, by go_num, hlt, HE2, Up.trans HU.out (Up.drew1 _)⟩
          case measure => simp [intOf]; omega
      · have hie : i = n := by omega
        have hz : ¬ (i : Int) < (n : Int) := by omega
        obtain rfl : RES = true := HT.out (fun j hj => HE.out j (by omega))
        go_wp2
        go_ret
        exact ⟨rfl, HU.out⟩
  · have e0 : ((n : Int) != (m : Int)) = true := by rw [bne_iff_ne]; omega
    rw [bD_false (fun e => hnm (by rw [← hn, ← hm, e]))]
    clear h1 h2 hn hm hnm hux huy
    go_enter Try.func20, Try.ntmps20
    go_wp2
    go_ret
    exact ⟨rfl, Up.refl _⟩

set_option maxHeartbeats 1000000 in
theorem refTs_any (a a2 : Option Addr) (n m c c2 : Nat) (xs ys : List Ts) (w : World) (h1 : TArg w (.slice a n c) xs) (h2 : TArg w (.slice a2 m c2) ys) (hsz : n ≤ 9223372036854775807) :
    Calls Try.prog 40 #[.slice a n c, .slice a2 m c2] w fun e w' => e = .returned (.bool (bD (xs = ys))) ∧ Up w w' := by
  have hn := h1.len
  have hm := h2.len
  by_cases hnm : n = m
  · subst hnm
    have e0 : ((n : Int) != (n : Int)) = false := by simp
    have HD : Hid (∀ (i : Nat) (x y : Ts), xs[i]? = some x → ys[i]? = some y → (tsEq x y ↔ xs[i]? = ys[i]?)) := fun i x y hx hy => by
      rw [hx, hy]
      exact (tsEq_iff).trans ⟨fun h => by rw [h], fun h => Option.some.inj h⟩
    have HT : Hid ((∀ j : Nat, j < n → xs[j]? = ys[j]?) → bD (xs = ys) = true) := fun h => bD_true (List.ext_getElem? fun j => by
      by_cases hj : j < n
      · exact h j hj
      · rw [List.getElem?_eq_none (by omega), List.getElem?_eq_none (by omega)])
    have HF : Hid (∀ j : Nat, xs[j]? ≠ ys[j]? → bD (xs = ys) = false) := fun j h => bD_false (fun e => h (by rw [e]))
    generalize bD (xs = ys) = RES at HT HF ⊢
    have H1 := Lib.hid h1
    have H2 := Lib.hid h2
    have HN := Lib.hid hn
    have HM := Lib.hid hm
    clear h1 h2 hn hm
    go_enter Try.func40, Try.ntmps40
    go_wp2
    go_loopw [5] (fun vi wr => ∃ i : Nat, vi = .int .i64 (i : Nat) ∧ i ≤ n ∧ Hid (∀ j : Nat, j < i → xs[j]? = ys[j]?) ∧ Hid (Up w wr)) (fun vi _ => n - (intOf vi).toNat)
    case atStart => exact ⟨0, rfl, Nat.zero_le _, Lib.hid (fun j hj => absurd hj (Nat.not_lt_zero _)), Lib.hid (Up.refl w)⟩
    case round =>
      obtain ⟨i, rfl, hi, HE, HU⟩ := hrel
      by_cases hlt : i < n
      · have hz : (i : Int) < (n : Int) := by omega
        obtain ⟨x, hx⟩ : ∃ x, xs[i]? = some x := ⟨xs[i]'(by have := HN.out; omega), List.getElem?_eq_getElem _⟩
        obtain ⟨y, hy⟩ : ∃ y, ys[i]? = some y := ⟨ys[i]'(by have := HM.out; omega), List.getElem?_eq_getElem _⟩
        obtain ⟨b, off, hb1⟩ := H1.out.ptr (by have := HN.out; omega)
        obtain ⟨b2, off2, hb2⟩ := H2.out.ptr (by have := HM.out; omega)
        subst hb1 hb2
        have HX : Hid (∀ wx, Up wr wx → (loadVar 31 ⟨b, off + i * 5, none⟩).run Try.prog wx = .ok (.agg (tsA x)) wx) := fun wx h => (H1.out.up (Up.trans HU.out h)).load hx
        have HY : Hid (∀ wx, Up wr wx → (loadVar 31 ⟨b2, off2 + i * 5, none⟩).run Try.prog wx = .ok (.agg (tsA y)) wx) := fun wx h => (H2.out.up (Up.trans HU.out h)).load hy
        have HI := Lib.hid (HD.out i x y hx hy)
        have HQ : Hid (∀ wx, (do eqGuard .neq 31 (.tmp 20) (.tmp 24) (.agg (tsA x)) (.agg (tsA y)); binOp .neq 31 (.agg (tsA x)) (.agg (tsA y)) : Sem Value).run Try.prog wx = .ok (.bool (!decide (tsEq x y))) wx) := fun wx => ts_neq x y _ _ wx
        have HDD : Hid ((!decide (tsEq x y)) = false ↔ xs[i]? = ys[i]?) := by
          (have k : (!decide (tsEq x y)) = false ↔ xs[i]? = ys[i]? := by rw [← HI.out]; simp)
          exact k
        clear hx hy HI
        generalize (!decide (tsEq x y)) = D at HQ HDD
        generalize hwz : wr = wz at *
        go_wp2
        refine region_alongK (fun x => Up wz x) (.read 0 (.read 1 (.read 2 (.read 3 (.read 4 (.read 5 (.read 6 (.read 7 (.read 8 (.nil)))))))))) (by kernel_rfl) rfl (by kernel_rfl) (by kernel_rfl) (fun c a d v w h => by cases d <;> exact h) (Up.drew1 _) ?_
        refine alongK_read (.slice (some ⟨b, off, none⟩) n c) rfl rfl (fun wx hS => ex_move (by rfl) (by rfl) wx) ?_
        refine alongK_read (.int .i64 (i : Int)) rfl rfl (fun wx hS => ex_move (by rfl) (by rfl) wx) ?_
        refine alongK_read (.pointer (some ⟨b, off + i * 5, none⟩)) rfl rfl (fun wx hS => ex_index Try.underlying25 Try.sizeOf31 rfl rfl rfl ((by omega)) wx) ?_
        change AlongK _ _ _ _ _ { tmps := #[.slice (some ⟨b, off, none⟩) n c, .slice (some ⟨b2, off2, none⟩) n c2, _, _, _, .int .i64 (i : Int), _, _, _, _, _, _, _, _, _, _, _, .slice (some ⟨b, off, none⟩) n c, .int .i64 (i : Int), .pointer (some ⟨b, off + i * 5, none⟩), _, _, _, _, _, _], defers := _ } _
        refine alongK_read (.agg (tsA x)) rfl rfl (fun wx hS => ex_ldt rfl rfl (HX.out wx hS)) ?_
        refine alongK_read (.slice (some ⟨b2, off2, none⟩) n c2) rfl rfl (fun wx hS => ex_move (by rfl) (by rfl) wx) ?_
        refine alongK_read (.int .i64 (i : Int)) rfl rfl (fun wx hS => ex_move (by rfl) (by rfl) wx) ?_
        change AlongK _ _ _ _ _ { tmps := #[.slice (some ⟨b, off, none⟩) n c, .slice (some ⟨b2, off2, none⟩) n c2, _, _, _, .int .i64 (i : Int), _, _, _, _, _, _, _, _, _, _, _, .slice (some ⟨b, off, none⟩) n c, .int .i64 (i : Int), .pointer (some ⟨b, off + i * 5, none⟩), .agg (tsA x), .slice (some ⟨b2, off2, none⟩) n c2, .int .i64 (i : Int), _, _, _], defers := _ } _
        refine alongK_read (.pointer (some ⟨b2, off2 + i * 5, none⟩)) rfl rfl (fun wx hS => ex_index Try.underlying25 Try.sizeOf31 rfl rfl rfl ((by omega)) wx) ?_
        refine alongK_read (.agg (tsA y)) rfl rfl (fun wx hS => ex_ldt rfl rfl (HY.out wx hS)) ?_
        refine alongK_read (.bool D) rfl rfl (fun wx hS => ex_bin rfl rfl rfl wx (HQ.out wx)) ?_
        change AlongK _ _ _ _ _ { tmps := #[.slice (some ⟨b, off, none⟩) n c, .slice (some ⟨b2, off2, none⟩) n c2, _, _, _, .int .i64 (i : Int), _, _, _, _, _, _, _, _, _, _, _, .slice (some ⟨b, off, none⟩) n c, .int .i64 (i : Int), .pointer (some ⟨b, off + i * 5, none⟩), .agg (tsA x), .slice (some ⟨b2, off2, none⟩) n c2, .int .i64 (i : Int), .pointer (some ⟨b2, off2 + i * 5, none⟩), .agg (tsA y), .bool D], defers := _ } _
        refine alongK_done ?_
        cases D with
        | true =>
          obtain rfl : RES = false := HF.out i (fun e => by have := HDD.out.2 e; cases this)
          go_wp2
          go_ret
          exact ⟨rfl, Up.trans HU.out (Up.drew1 _)⟩
        | false =>
          have he := HDD.out.1 rfl
          have HE2 : Hid (∀ j : Nat, j < i + 1 → xs[j]? = ys[j]?) := fun j hj => by
            rcases Nat.lt_succ_iff_lt_or_eq.1 hj with hj | hj
            · exact HE.out j hj
            · rw [hj]; exact he
          clear he
          go_wp2
          go_roundw
          case rel => exact ⟨i + 1, by go_num, hlt, HE2, Up.trans HU.out (Up.drew1 _)⟩
          case measure => simp [intOf]; omega
      · have hie : i = n := by omega
        have hz : ¬ (i : Int) < (n : Int) := by omega
        obtain rfl : RES = true := HT.out (fun j hj => HE.out j (by omega))
        go_wp2
        go_ret
        exact ⟨rfl, HU.out⟩
  · have e0 : ((n : Int) != (m : Int)) = true := by rw [bne_iff_ne]; omega
    rw [bD_false (fun e => hnm (by rw [← hn, ← hm, e]))]
    clear h1 h2 hn hm hnm
    go_enter Try.func40, Try.ntmps40
    go_wp2
    go_ret
    exact ⟨rfl, Up.refl _⟩
end
end Go.Proofs.Ytacamknljicjmaa
