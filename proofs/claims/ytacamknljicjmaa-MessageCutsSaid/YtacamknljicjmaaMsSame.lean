import Derived.Test.YtacamknljicjmaaMsKit
/-
  Statements, transactions, marks held against each other; slices.Equal.
-/
namespace Go.Proofs.Ytacamknljicjmaa
set_option maxRecDepth 100000
section
set_option linter.unusedVariables false
open Go.RowKit Go.Sort Go.Lib

/-- whether p, as a bool -/
noncomputable def bD (p : Prop) : Bool := @decide p (Classical.propDecidable p)
theorem bD_true {p : Prop} (h : p) : bD p = true := by unfold bD; exact @decide_eq_true p (Classical.propDecidable p) h
theorem bD_false {p : Prop} (h : ¬ p) : bD p = false := by unfold bD; exact @decide_eq_false p (Classical.propDecidable p) h
theorem bD_iff {p : Prop} : bD p = true ↔ p := ⟨fun h => Classical.byContradiction fun k => (by rw [bD_false k] at h; cases h), fun h => bD_true h⟩
theorem bD_congr {p q : Prop} (h : p ↔ q) : bD p = bD q := by rw [propext h]
theorem VArg.len {W : World} {a : Option Addr} {n cap : Nat} {xs : List Vs} (h : VArg W (.slice a n cap) xs) : xs.length = n := by
  obtain ⟨a', cap', e, _⟩ := h
  cases e; rfl
def vsEq (x y : Vs) : Prop := x.1.K = y.1.K ∧ x.1.V = y.1.V ∧ x.1.H = y.1.H ∧ strOfNums x.1.B = strOfNums y.1.B ∧ x.1.T = y.1.T ∧ x.1.G = y.1.G ∧ x.2 = y.2
instance (x y : Vs) : Decidable (vsEq x y) := by unfold vsEq; infer_instance
def tsEq (x y : Ts) : Prop := x.1.F = y.1.F ∧ x.1.T = y.1.T ∧ x.1.A = y.1.A ∧ x.1.N = y.1.N ∧ x.2 = y.2
instance (x y : Ts) : Decidable (tsEq x y) := by unfold tsEq; infer_instance
theorem vs_neq (x y : Vs) (p q : Operand) (w : World) : (do eqGuard .neq 29 p q (.agg (vsA x)) (.agg (vsA y)); binOp .neq 29 (.agg (vsA x)) (.agg (vsA y)) : Sem Value).run Try.prog w = .ok (.bool (!decide (vsEq x y))) w := by
  obtain ⟨⟨K, V, H, B, T, G⟩, S⟩ := x
  obtain ⟨⟨K', V', H', B', T', G'⟩, S'⟩ := y
  simp [eqGuard, go_sem, vsA, vsC, vsEq, toList_dec]
  repeat' split
  all_goals simp [*]
theorem ts_neq (x y : Ts) (p q : Operand) (w : World) : (do eqGuard .neq 31 p q (.agg (tsA x)) (.agg (tsA y)); binOp .neq 31 (.agg (tsA x)) (.agg (tsA y)) : Sem Value).run Try.prog w = .ok (.bool (!decide (tsEq x y))) w := by
  obtain ⟨⟨K, V, H, B⟩, S⟩ := x
  obtain ⟨⟨K', V', H', B'⟩, S'⟩ := y
  simp [eqGuard, go_sem, tsA, txC, tsEq, toList_dec]
  repeat' split
  all_goals simp [*]
theorem vs_eql (x y : Vs) (p q : Operand) (w : World) : (do eqGuard .eql 29 p q (.agg (vsA x)) (.agg (vsA y)); binOp .eql 29 (.agg (vsA x)) (.agg (vsA y)) : Sem Value).run Try.prog w = .ok (.bool (decide (vsEq x y))) w := by
  obtain ⟨⟨K, V, H, B, T, G⟩, S⟩ := x
  obtain ⟨⟨K', V', H', B', T', G'⟩, S'⟩ := y
  simp [eqGuard, go_sem, vsA, vsC, vsEq, toList_dec]
  repeat' split
  all_goals simp [*]
theorem ts_eql (x y : Ts) (p q : Operand) (w : World) : (do eqGuard .eql 31 p q (.agg (tsA x)) (.agg (tsA y)); binOp .eql 31 (.agg (tsA x)) (.agg (tsA y)) : Sem Value).run Try.prog w = .ok (.bool (decide (tsEq x y))) w := by
  obtain ⟨⟨K, V, H, B⟩, S⟩ := x
  obtain ⟨⟨K', V', H', B'⟩, S'⟩ := y
  simp [eqGuard, go_sem, tsA, txC, tsEq, toList_dec]
  repeat' split
  all_goals simp [*]
theorem vsEq_iff {x y : Vs} (hx : U8s x.1.B) (hy : U8s y.1.B) : vsEq x y ↔ x = y := by
  obtain ⟨⟨K, V, H, B, T, G⟩, S⟩ := x
  obtain ⟨⟨K', V', H', B', T', G'⟩, S'⟩ := y
  constructor
  · rintro ⟨h1, h2, h3, h4, h5, h6, h7⟩
    have h4' := strOf_inj _ _ hx hy h4
    simp only at h1 h2 h3 h4' h5 h6 h7
    subst h1 h2 h3 h4' h5 h6 h7
    rfl
  · intro h
    cases h
    exact ⟨rfl, rfl, rfl, rfl, rfl, rfl, rfl⟩
theorem tsEq_iff {x y : Ts} : tsEq x y ↔ x = y := by
  obtain ⟨⟨K, V, H, B⟩, S⟩ := x
  obtain ⟨⟨K', V', H', B'⟩, S'⟩ := y
  constructor
  · rintro ⟨h1, h2, h3, h4, h5⟩
    simp only at h1 h2 h3 h4 h5
    subst h1 h2 h3 h4 h5
    rfl
  · intro h
    cases h
    exact ⟨rfl, rfl, rfl, rfl, rfl⟩
end
end Go.Proofs.Ytacamknljicjmaa
