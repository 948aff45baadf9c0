import Derived.Test.YtnnjoeppcbbblaaStRot
/-
  The sort of statements: what a search finds; the comparison's contract; half of a sum.
-/
namespace Go.Proofs.Ytnnjoeppcbbblaa
set_option maxRecDepth 100000
section
set_option linter.unusedVariables false
open Go.RowKit Go.Sort Go.Lib

/-- between what is so and what isn't -/
structure Cut (pr : Nat → Bool) (lo hi i j : Nat) : Prop where
  l : lo ≤ i
  m : i ≤ j
  h : j ≤ hi
  yes : i = lo ∨ pr (i - 1) = true
  no : j = hi ∨ pr j = false
theorem Cut.up {pr : Nat → Bool} {lo hi i j k : Nat} (c : Cut pr lo hi i j) (h1 : i ≤ k) (h2 : k < j) (hp : pr k = true) : Cut pr lo hi (k + 1) j :=
  ⟨by have := c.l; omega, by omega, c.h, .inr (by simpa using hp), c.no⟩
theorem Cut.down {pr : Nat → Bool} {lo hi i j k : Nat} (c : Cut pr lo hi i j) (h1 : i ≤ k) (h2 : k < j) (hp : pr k = false) : Cut pr lo hi i k :=
  ⟨c.l, h1, by have := c.h; omega, c.yes, .inr hp⟩

theorem vs_neg (x y : Vs) : decide (vsCmp x y < 0) = keyLt vsK x y := congrFun (congrFun ltOf_vs x) y
theorem vs_yes {x y : Vs} (h : keyLt vsK x y = true) : true = decide (vsCmp x y < 0) := by rw [vs_neg, h]
theorem vs_no {x y : Vs} (h : keyLt vsK x y = false) : false = decide (vsCmp x y < 0) := by rw [vs_neg, h]
theorem half_of (i j : Nat) (h : i < j) : ∃ k : Nat, ((i : Int) + j) / 2 = (k : Nat) ∧ i ≤ k ∧ k < j := ⟨(i + j) / 2, by omega, by omega, by omega⟩
theorem last_take {α : Type} {l : List α} {v : Nat} (h : v ≤ l.length) {y : α} (hy : (l.take v).getLast? = some y) : 0 < v ∧ l[v - 1]? = some y := by
  rw [List.getLast?_take] at hy
  by_cases h0 : v = 0
  · rw [if_pos h0] at hy; cases hy
  · rw [if_neg h0, List.getElem?_eq_getElem (by omega)] at hy
    exact ⟨by omega, by rw [List.getElem?_eq_getElem (by omega)]; exact hy⟩
theorem head_drop {α : Type} {l : List α} {v : Nat} {y : α} (hy : (l.drop v).head? = some y) : l[v]? = some y := by rwa [List.head?_drop] at hy
theorem key_lt {x y : Vs} (h : keyLt vsK x y = true) : vsK x < vsK y := of_decide_eq_true h
theorem key_ge {x y : Vs} (h : keyLt vsK x y = false) : vsK y ≤ vsK x := by have := of_decide_eq_false h; omega

set_option maxHeartbeats 400000 in
/-- the comparison -/
theorem cmp_grow (x y : Vs) (W : World) :
    Calls Try.prog 21 (#[.agg (vsA x), .agg (vsA y)] ++ #[]) W fun e w' => e = .returned (.int .i64 (vsCmp x y)) ∧ ∃ q os', w' = grow (W.drewN q) os' := by
  obtain ⟨⟨K1, V1, H1, B1, T1, G1⟩, S1⟩ := x
  obtain ⟨⟨K2, V2, H2, B2, T2, G2⟩, S2⟩ := y
  have HC := Lib.hid (fun wx => cmp_any G1 G2 wx)
  show Calls Try.prog 21 #[.agg #[.int .i64 K1, .int .i64 V1, .int .i64 H1, .string (strOfNums B1), .int .i64 T1, .int .i64 G1, .string S1], .agg #[.int .i64 K2, .int .i64 V2, .int .i64 H2, .string (strOfNums B2), .int .i64 T2, .int .i64 G2, .string S2]] W fun e w' => e = .returned (.int .i64 (cmpI G1 G2)) ∧ ∃ q os', w' = grow (W.drewN q) os'
  generalize strOfNums B1 = B1'
  generalize strOfNums B2 = B2'
  generalize cmpI G1 G2 = C at HC ⊢
  have h0 := heap_alloc_new W (.cells #[.int .i64 K1, .int .i64 V1, .int .i64 H1, .string B1', .int .i64 T1, .int .i64 G1, .string S1] 38)
  have h1 := ((Up.alloc (Up.refl (W.alloc (.cells #[.int .i64 K1, .int .i64 V1, .int .i64 H1, .string B1', .int .i64 T1, .int .i64 G1, .string S1] 38))) (.cells #[.int .i64 K2, .int .i64 V2, .int .i64 H2, .string B2', .int .i64 T2, .int .i64 G2, .string S2] 38)).block _ (lt_of_block h0)).trans h0
  have h2 := heap_alloc_new (W.alloc (.cells #[.int .i64 K1, .int .i64 V1, .int .i64 H1, .string B1', .int .i64 T1, .int .i64 G1, .string S1] 38)) (.cells #[.int .i64 K2, .int .i64 V2, .int .i64 H2, .string B2', .int .i64 T2, .int .i64 G2, .string S2] 38)
  rw [show (W.alloc (.cells #[.int .i64 K1, .int .i64 V1, .int .i64 H1, .string B1', .int .i64 T1, .int .i64 G1, .string S1] 38)).heap.size = W.heap.size + 1 by simp] at h2
  have c1 := (vt_cells h1).2.2.2.2.2.1
  have c2 := (vt_cells h2).2.2.2.2.2.1
  clear h0 h1 h2
  go_enter Try.func21, Try.ntmps21
  go_wp2_with fail
  with_reducible refine Calls.mono (HC.out _) ?_
  rintro e w1 ⟨rfl, rfl⟩
  go_wp2
  go_ret
  exact ⟨rfl, 0, #[_, _], by rw [alloc_eq_grow, alloc_eq_grow, grow_grow]; rfl⟩
/-- .. in a world of the sort's -/
theorem cmp_call {w0 : World} {blk off : Nat} {dk : Array Vs} (x y : Vs) (W : World) (h : SW w0 blk off dk W) :
    Calls Try.prog 21 (#[.agg (vsA x), .agg (vsA y)] ++ #[]) W fun e w' => e = .returned (.int .i64 (vsCmp x y)) ∧ SW w0 blk off dk w' := by
  refine (cmp_grow x y W).mono ?_
  rintro e w' ⟨rfl, q, os', rfl⟩
  exact ⟨rfl, SWK.grown h q os'⟩
end
end Go.Proofs.Ytnnjoeppcbbblaa
