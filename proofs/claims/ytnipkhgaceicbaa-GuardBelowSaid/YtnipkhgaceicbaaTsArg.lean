import Derived.Test.YtnipkhgaceicbaaTxKit
/-
  A slice of transactions that came in, and how many the form lets come in.
-/
namespace Go.Proofs.Ytnipkhgaceicbaa
set_option maxRecDepth 100000
section
set_option linter.unusedVariables false
open Go.ChangeShapes Go.WideShapes Go.ChangeAt Go.RowKit Go.Deep Go.Joins Go.Sort
variable {H : Type} {enc : TypeId × Value → H} {W : World}
/-- d is the reading of such a slice -/
def TxsD (d : DataW H) (xs : List Ts) : Prop := (d = .nil ∧ xs = []) ∨ ∃ ds spare, d = .slice ds spare ∧ ds.length = xs.length
theorem open_txsD {v : Value} {d : DataW H} {ps : List MemPlace} {a : Option Addr} {len cap : Nat} (hv : v = .slice a len cap) (h : DataW.Trod enc Try.prog W 0 (fun _ => true) true 39 v d ps) :
    ∃ xs : List Ts, TArg W v xs ∧ (∀ (j : Nat) (x : Ts), xs[j]? = some x → TsOk x) ∧ xs.length ≤ maxLen ∧ TxsD d xs := by
  obtain ⟨xs, h1, h2, h3⟩ := open_txs hv h
  obtain ⟨_, _, g3, g4⟩ := open_structs Try.underlying39 Try.underlying90 (by kernel_rfl) (by kernel_rfl) hv h
  subst hv
  have hl := h1.len
  refine ⟨xs, h1, h2, h3, ?_⟩
  cases a with
  | none =>
    obtain ⟨e1, _, e3⟩ := g3 rfl
    exact .inl ⟨e3, List.eq_nil_of_length_eq_zero (by omega)⟩
  | some ad =>
    obtain ⟨D, spare, e, _⟩ := g4 ad rfl
    exact .inr ⟨_, spare, e, by rw [hl]; simp⟩
theorem reach_txs {ts : List TypeId} {ds : List (DataW H)} {j : Nat} {xs : List Ts} {d : DataW H} (hD : TxsD d xs)
    (h : (DataW.weightsEach Try.prog ts ds).all (· ≤ reachBytes) = true) (ht : ts[j]? = some 39) (hd : ds[j]? = some d) : xs.length * 48 ≤ 140737488351232 := by
  rcases hD with ⟨_, rfl⟩ | ⟨es, spare, rfl, hl⟩
  · simp
  · have hb : Try.prog.bytesOf 90 = 48 := by kernel_rfl
    have := sized_slice h ht hd Try.underlying39
    rw [hb, hl, Nat.add_mul] at this
    have hr : reachBytes = 140737488351232 := rfl
    omega
end
end Go.Proofs.Ytnipkhgaceicbaa
