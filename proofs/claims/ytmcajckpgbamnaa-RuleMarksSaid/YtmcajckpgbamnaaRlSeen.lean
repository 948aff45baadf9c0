import Derived.Sort.Walk0
import Derived.Deep.QuietTactic
import Derived.BigQuiet
import Derived.Test.YtmcajckpgbamnaaRlCmp
/-
  mootlaw21: counts of a statement's own kind and ticks; below.
-/
namespace Go.Proofs.Ytmcajckpgbamnaa
set_option maxRecDepth 100000
section
set_option linter.unusedVariables false
open Go.RowKit Go.Sort Go.Lib

/-- what a statement is about -/
def aboutV (x : Vs) : Mr := ⟨x.1.V, x.1.H, strOfNums x.1.B⟩
def LtM (x y : Mr) : Prop := x.V < y.V ∨ x.V = y.V ∧ (x.H < y.H ∨ x.H = y.H ∧ x.B.data.toList < y.B.data.toList)
noncomputable def ltB (x y : Mr) : Bool := @decide (LtM x y) (Classical.propDecidable _)
set_option maxHeartbeats 1000000 in
theorem rlCounts_any (x : Vs) (m : Mr) (q : Bool) (hq : q = true ↔ aboutV x = m) (w : World) : Calls Try.prog 6 #[.agg (vsA x), .agg (mrA m), .int .i64 x.1.K, .int .i64 x.1.T] w fun e w' => e = .returned (.bool q) ∧ Up w w' := by
  obtain ⟨⟨K, V, H, B, T, G⟩, SG⟩ := x
  obtain ⟨MV, MH, MB⟩ := m
  unfold aboutV at hq
  simp only [Mr.mk.injEq] at hq
  show Calls Try.prog 6 #[.agg #[.int .i64 K, .int .i64 V, .int .i64 H, .string (strOfNums B), .int .i64 T, .int .i64 G, .string SG], .agg #[.int .i64 MV, .int .i64 MH, .string MB], .int .i64 K, .int .i64 T] w fun e w' => e = .returned (.bool q) ∧ Up w w'
  generalize strOfNums B = BS at *
  have h0 := heap_alloc_new w (.cells #[.int .i64 K, .int .i64 V, .int .i64 H, .string BS, .int .i64 T, .int .i64 G, .string SG] 28)
  have u1 := Up.alloc (Up.refl (w.alloc (.cells #[.int .i64 K, .int .i64 V, .int .i64 H, .string BS, .int .i64 T, .int .i64 G, .string SG] 28))) (.cells #[.int .i64 MV, .int .i64 MH, .string MB] 26)
  have h1 := heap_alloc_new (w.alloc (.cells #[.int .i64 K, .int .i64 V, .int .i64 H, .string BS, .int .i64 T, .int .i64 G, .string SG] 28)) (.cells #[.int .i64 MV, .int .i64 MH, .string MB] 26)
  rw [show (w.alloc (.cells #[.int .i64 K, .int .i64 V, .int .i64 H, .string BS, .int .i64 T, .int .i64 G, .string SG] 28)).heap.size = w.heap.size + 1 by simp] at h1
  have HU := Lib.hid ((Up.alloc (Up.refl w) (.cells #[.int .i64 K, .int .i64 V, .int .i64 H, .string BS, .int .i64 T, .int .i64 G, .string SG] 28)).trans u1)
  have h2 := row_up h0 u1
  have c0 := rl_cell3 h2 0 (v := .int .i64 K) rfl
  have c1 := rl_cell3 h2 1 (v := .int .i64 V) rfl
  have c2 := rl_cell3 h2 2 (v := .int .i64 H) rfl
  have c3 := rl_cell3 h2 3 (v := .string BS) rfl
  have c4 := rl_cell3 h2 4 (v := .int .i64 T) rfl
  obtain ⟨d0, d1, d2⟩ := mk_cells h1
  have ek : (K == K) = true := by simp
  have et : decide (T ≤ T) = true := by simp
  clear h0 u1 h1 h2
  have fin : ∀ b : Bool, (b = true ↔ V = MV ∧ H = MH ∧ BS = MB) → b = q := fun b hb => by
    cases b <;> cases q <;> simp_all
  by_cases e1 : V = MV
  · subst e1
    by_cases e2 : H = MH
    · subst e2
      by_cases e3 : BS = MB
      · subst e3
        obtain rfl := fin true (by simp)
        clear fin hq
        go_enter Try.func6, Try.ntmps6
        go_wp2
        go_ret
        exact ⟨rfl, HU.out⟩
      · obtain rfl := fin false (by simp [e3])
        have x3 : (BS.toList == MB.toList) = false := by rw [toList_dec]; simp [e3]
        clear fin hq
        go_enter Try.func6, Try.ntmps6
        go_wp2
        go_ret
        exact ⟨rfl, HU.out⟩
    · obtain rfl := fin false (by simp [e2])
      have x2 : (H == MH) = false := by rw [beq_eq_false_iff_ne]; exact e2
      clear fin hq
      go_enter Try.func6, Try.ntmps6
      go_wp2
      go_ret
      exact ⟨rfl, HU.out⟩
  · obtain rfl := fin false (by simp [e1])
    have x1 : (V == MV) = false := by rw [beq_eq_false_iff_ne]; exact e1
    clear fin hq
    go_enter Try.func6, Try.ntmps6
    go_wp2
    go_ret
    exact ⟨rfl, HU.out⟩

theorem toList_data (b : ByteArray) : b.toList = b.data.toList := by
  exact ByteArray.toList_eq b
set_option maxHeartbeats 1000000 in
/-- where one is below -/
theorem rlBelow_any (x y : Mr) (h : LtM x y) (w : World) : Calls Try.prog 7 #[.agg (mrA x), .agg (mrA y)] w fun e w' => e = .returned (.bool true) ∧ Up w w' := by
  obtain ⟨V1, H1, B1⟩ := x
  obtain ⟨V2, H2, B2⟩ := y
  unfold LtM at h
  simp only at h
  show Calls Try.prog 7 #[.agg #[.int .i64 V1, .int .i64 H1, .string B1], .agg #[.int .i64 V2, .int .i64 H2, .string B2]] w fun e w' => e = .returned (.bool true) ∧ Up w w'
  have h0 := heap_alloc_new w (.cells #[.int .i64 V1, .int .i64 H1, .string B1] 26)
  have u1 := Up.alloc (Up.refl (w.alloc (.cells #[.int .i64 V1, .int .i64 H1, .string B1] 26))) (.cells #[.int .i64 V2, .int .i64 H2, .string B2] 26)
  have h1 := heap_alloc_new (w.alloc (.cells #[.int .i64 V1, .int .i64 H1, .string B1] 26)) (.cells #[.int .i64 V2, .int .i64 H2, .string B2] 26)
  rw [show (w.alloc (.cells #[.int .i64 V1, .int .i64 H1, .string B1] 26)).heap.size = w.heap.size + 1 by simp] at h1
  have HU := Lib.hid ((Up.alloc (Up.refl w) (.cells #[.int .i64 V1, .int .i64 H1, .string B1] 26)).trans u1)
  obtain ⟨c0, c1, c2⟩ := mk_cells (row_up h0 u1)
  obtain ⟨d0, d1, d2⟩ := mk_cells h1
  clear h0 u1 h1
  by_cases e1 : V1 = V2
  · subst e1
    by_cases e2 : H1 = H2
    · subst e2
      have h3 : Go.Op.bytesLess B1.toList B2.toList = true := by
        rw [bytesLess_eq, toList_data, toList_data]
        have : B1.data.toList < B2.data.toList := by
          rcases h with h | ⟨_, h | ⟨_, h⟩⟩
          · omega
          · omega
          · exact h
        simpa using this
      clear h
      go_enter Try.func7, Try.ntmps7
      go_wp2
      go_ret
      exact ⟨rfl, HU.out⟩
    · have x2 : (H1 != H2) = true := by simp [e2]
      have x3 : decide (H1 < H2) = true := by simp; omega
      clear h
      go_enter Try.func7, Try.ntmps7
      go_wp2
      go_ret
      exact ⟨rfl, HU.out⟩
  · have x1 : (V1 != V2) = true := by simp [e1]
    have x3 : decide (V1 < V2) = true := by simp; omega
    clear h
    go_enter Try.func7, Try.ntmps7
    go_wp2
    go_ret
    exact ⟨rfl, HU.out⟩
end
end Go.Proofs.Ytmcajckpgbamnaa
