import Derived.Deep.QuietTactic
import Derived.BigQuiet
import Derived.Test.YtkelbilcjgndmaaBnCopied
/-
  mootref14.SameAccounts of two that are one; what blocks and transactions do to accounts.
-/
namespace Go.Proofs.Ytkelbilcjgndmaa
set_option maxRecDepth 100000
section
set_option linter.unusedVariables false
open Go.RowKit Go.Sort Go.Lib

theorem ac_neq (x : Ac) (p q : Operand) (w : World) : (do eqGuard .neq 49 p q (.agg (acA x)) (.agg (acA x)); binOp .neq 49 (.agg (acA x)) (.agg (acA x)) : Sem Value).run Try.prog w = .ok (.bool false) w := by
  simp [eqGuard, go_sem, acA]
theorem AArg.num {W : World} {a : Option Addr} {n cap : Nat} {xs : List Ac} (h : AArg W (.slice a n cap) xs) : xs.length = n := by
  obtain ⟨a', cap', e, _⟩ := h
  cases e; rfl
theorem AArg.drewN {W : World} {v : Value} {xs : List Ac} (h : AArg W v xs) (q : Nat) : AArg (W.drewN q) v xs := h.up ⟨rfl, rfl, rfl, Nat.le_refl _, fun _ _ => rfl⟩
theorem drewN_drewN (W : World) (a b : Nat) : (W.drewN a).drewN b = W.drewN (a + b) := World.drewN_drewN W a b

set_option maxHeartbeats 400000 in
theorem same_any (v u : Value) (xs : List Ac) (w : World) (h1 : AArg w v xs) (h2 : AArg w u xs) (hb : xs.length ≤ 8796093022208) :
    Calls Try.prog 11 #[v, u] w fun e w' => e = .returned (.bool true) ∧ ∃ m, w' = w.drewN m := by
  obtain ⟨a, c, rfl, _⟩ := id h1
  obtain ⟨a2, c2, rfl, _⟩ := id h2
  obtain ⟨n, hn⟩ : ∃ n, xs.length = n := ⟨_, rfl⟩
  rw [hn] at h1 h2 hb ⊢
  have e0 : ((n : Int) != (n : Int)) = false := by simp
  have H1 := Lib.hid h1
  have H2 := Lib.hid h2
  have HN := Lib.hid hn
  have H0 : Hid (∃ m, w = w.drewN m) := Lib.hid ⟨0, rfl⟩
  clear h1 h2 hn
  go_enter Try.func11, Try.ntmps11
  go_wp2
  go_loopw [5] (fun vi wr => ∃ i : Nat, vi = .int .i64 (i : Nat) ∧ i ≤ n ∧ Hid (∃ m, wr = w.drewN m)) (fun vi _ => n - (intOf vi).toNat)
  case atStart => exact ⟨0, rfl, Nat.zero_le _, H0⟩
  case round =>
    obtain ⟨i, rfl, hi, HU⟩ := hrel
    by_cases hlt : i < n
    · have hz : (i : Int) < (n : Int) := by omega
      obtain ⟨x, hx⟩ : ∃ x, xs[i]? = some x := ⟨xs[i]'(by have := HN.out; omega), List.getElem?_eq_getElem _⟩
      obtain ⟨b, off, hb1⟩ := H1.out.ptr (by have := HN.out; omega)
      obtain ⟨b2, off2, hb2⟩ := H2.out.ptr (by have := HN.out; omega)
      subst hb1 hb2
      have HX : Hid (∀ wx, (∃ m, wx = wr.drewN m) → (loadVar 49 ⟨b, off + i * 2, none⟩).run Try.prog wx = .ok (.agg (acA x)) wx) := fun wx h => by
        obtain ⟨m, rfl⟩ := h
        obtain ⟨q, rfl⟩ := HU.out
        exact ((H1.out.drewN q).drewN m).load hx
      have HY : Hid (∀ wx, (∃ m, wx = wr.drewN m) → (loadVar 49 ⟨b2, off2 + i * 2, none⟩).run Try.prog wx = .ok (.agg (acA x)) wx) := fun wx h => by
        obtain ⟨m, rfl⟩ := h
        obtain ⟨q, rfl⟩ := HU.out
        exact ((H2.out.drewN q).drewN m).load hx
      have HQ : Hid (∀ wx, (do eqGuard .neq 49 (.tmp 20) (.tmp 24) (.agg (acA x)) (.agg (acA x)); binOp .neq 49 (.agg (acA x)) (.agg (acA x)) : Sem Value).run Try.prog wx = .ok (.bool false) wx) := fun wx => ac_neq x _ _ wx
      clear hx
      generalize hwz : wr = wz at *
      go_wp2
      refine region_alongK (fun x => ∃ m, x = wz.drewN m) (.read 0 (.read 1 (.read 2 (.read 3 (.read 4 (.read 5 (.read 6 (.read 7 (.read 8 (.nil)))))))))) (by kernel_rfl) rfl (by kernel_rfl) (by kernel_rfl) (fun c a d v w h => by cases d <;> exact h) ⟨1, rfl⟩ ?_
      refine alongK_read (.slice (some ⟨b, off, none⟩) n c) rfl rfl (fun wx hS => ex_move (by rfl) (by rfl) wx) ?_
      refine alongK_read (.int .i64 (i : Int)) rfl rfl (fun wx hS => ex_move (by rfl) (by rfl) wx) ?_
      refine alongK_read (.pointer (some ⟨b, off + i * 2, none⟩)) rfl rfl (fun wx hS => ex_index Try.underlying22 Try.sizeOf49 rfl rfl rfl ((by omega)) wx) ?_
      change AlongK _ _ _ _ _ { tmps := #[.slice (some ⟨b, off, none⟩) n c, .slice (some ⟨b2, off2, none⟩) n c2, _, _, _, .int .i64 (i : Int), _, _, _, _, _, _, _, _, _, _, _, .slice (some ⟨b, off, none⟩) n c, .int .i64 (i : Int), .pointer (some ⟨b, off + i * 2, none⟩), _, _, _, _, _, _], defers := [] } _
      refine alongK_read (.agg (acA x)) rfl rfl (fun wx hS => ex_lda rfl rfl (HX.out wx hS)) ?_
      refine alongK_read (.slice (some ⟨b2, off2, none⟩) n c2) rfl rfl (fun wx hS => ex_move (by rfl) (by rfl) wx) ?_
      refine alongK_read (.int .i64 (i : Int)) rfl rfl (fun wx hS => ex_move (by rfl) (by rfl) wx) ?_
      change AlongK _ _ _ _ _ { tmps := #[.slice (some ⟨b, off, none⟩) n c, .slice (some ⟨b2, off2, none⟩) n c2, _, _, _, .int .i64 (i : Int), _, _, _, _, _, _, _, _, _, _, _, .slice (some ⟨b, off, none⟩) n c, .int .i64 (i : Int), .pointer (some ⟨b, off + i * 2, none⟩), .agg (acA x), .slice (some ⟨b2, off2, none⟩) n c2, .int .i64 (i : Int), _, _, _], defers := [] } _
      refine alongK_read (.pointer (some ⟨b2, off2 + i * 2, none⟩)) rfl rfl (fun wx hS => ex_index Try.underlying22 Try.sizeOf49 rfl rfl rfl ((by omega)) wx) ?_
      refine alongK_read (.agg (acA x)) rfl rfl (fun wx hS => ex_lda rfl rfl (HY.out wx hS)) ?_
      refine alongK_read (.bool false) rfl rfl (fun wx hS => ex_bin rfl rfl rfl wx (HQ.out wx)) ?_
      change AlongK _ _ _ _ _ { tmps := #[.slice (some ⟨b, off, none⟩) n c, .slice (some ⟨b2, off2, none⟩) n c2, _, _, _, .int .i64 (i : Int), _, _, _, _, _, _, _, _, _, _, _, .slice (some ⟨b, off, none⟩) n c, .int .i64 (i : Int), .pointer (some ⟨b, off + i * 2, none⟩), .agg (acA x), .slice (some ⟨b2, off2, none⟩) n c2, .int .i64 (i : Int), .pointer (some ⟨b2, off2 + i * 2, none⟩), .agg (acA x), .bool false], defers := [] } _
      refine alongK_done ?_
      have HU2 : Hid (∃ m, wz.drew = w.drewN m) := Lib.hid (by
        obtain ⟨q, e⟩ := HU.out
        exact ⟨q + 1, by rw [e]; rfl⟩)
      go_wp2
      go_roundw
      case rel => exact ⟨i + 1, by go_num, hlt, HU2⟩
      case measure => simp [intOf]; omega
    · have hie : i = n := by omega
      have hz : ¬ (i : Int) < (n : Int) := by omega
      go_wp2
      go_ret
      exact ⟨rfl, HU.out⟩
/-- accounts behind transactions -/
def foldA (ac : List Ac) (xs : List Ts) : List Ac := xs.foldl (fun a x => (acApply a x).1) ac
/-- what is said of each -/
def errA : List Ac → List Ts → List Int
  | _, [] => []
  | ac, x :: t => (acApply ac x).2 :: errA (acApply ac x).1 t
theorem foldA_snoc (ac : List Ac) (xs : List Ts) (x : Ts) : foldA ac (xs ++ [x]) = (acApply (foldA ac xs) x).1 := by
  unfold foldA; rw [List.foldl_append]; rfl
theorem foldA_append (ac : List Ac) (xs ys : List Ts) : foldA ac (xs ++ ys) = foldA (foldA ac xs) ys := by
  unfold foldA; rw [List.foldl_append]
theorem errA_append : ∀ (ac : List Ac) (xs ys : List Ts), errA ac (xs ++ ys) = errA ac xs ++ errA (foldA ac xs) ys
  | ac, [], ys => rfl
  | ac, x :: t, ys => by
    show (acApply ac x).2 :: errA (acApply ac x).1 (t ++ ys) = (acApply ac x).2 :: (errA (acApply ac x).1 t ++ errA (foldA (acApply ac x).1 t) ys)
    rw [errA_append]
theorem errA_snoc (ac : List Ac) (xs : List Ts) (x : Ts) : errA ac (xs ++ [x]) = errA ac xs ++ [(acApply (foldA ac xs) x).2] := by
  rw [errA_append]; rfl
theorem errA_length : ∀ (ac : List Ac) (xs : List Ts), (errA ac xs).length = xs.length
  | ac, [] => rfl
  | ac, x :: t => by
    show (errA (acApply ac x).1 t).length + 1 = t.length + 1
    rw [errA_length]
theorem foldA_length (ac : List Ac) : ∀ (xs : List Ts), (foldA ac xs).length = ac.length := by
  intro xs
  induction xs generalizing ac with
  | nil => rfl
  | cons x t ih =>
    show (foldA (acApply ac x).1 t).length = _
    rw [ih, acApply_length]
theorem foldA_ok {ac : List Ac} (h : AcsOk ac) : ∀ (xs : List Ts), AcsOk (foldA ac xs) := by
  intro xs
  induction xs generalizing ac with
  | nil => exact h
  | cons x t ih => exact ih (acApply_ok h x)
theorem take_oneB (xs : List Ts) (i : Nat) (x : Ts) (h : xs[i]? = some x) : xs.take (i + 1) = xs.take i ++ [x] := by
  rw [List.take_add_one, h]; rfl
/-- was it done, though it lacked funds? -/
def fineE (e : Int) : Bool := decide (e ≠ 9) && decide (e ≠ 72)
/-- can all be done? -/
def nextP (ac : List Ac) (xs : List Ts) : Bool := (errA ac xs).all fineE
theorem nextP_snoc (ac : List Ac) (xs : List Ts) (x : Ts) : nextP ac (xs ++ [x]) = (nextP ac xs && fineE (acApply (foldA ac xs) x).2) := by
  unfold nextP
  rw [errA_snoc, List.all_append, List.all_cons, List.all_nil, Bool.and_true]
theorem nextP_take (ac : List Ac) (xs : List Ts) (i : Nat) (h : nextP ac (xs.take i) = false) : nextP ac xs = false := by
  rw [← List.take_append_drop i xs]
  unfold nextP at h ⊢
  rw [errA_append, List.all_append, h, Bool.false_and]
theorem acApply_errs (ac : List Ac) (x : Ts) : (acApply ac x).2 = 9 ∨ (acApply ac x).2 = 72 ∨ (acApply ac x).2 = 73 ∨ (acApply ac x).2 = 0 := by
  unfold acApply
  split
  · exact .inl rfl
  · split
    · exact .inr (.inl rfl)
    · simp only
      split
      · exact .inr (.inr (.inl rfl))
      · exact .inr (.inr (.inr rfl))
end
end Go.Proofs.Ytkelbilcjgndmaa
