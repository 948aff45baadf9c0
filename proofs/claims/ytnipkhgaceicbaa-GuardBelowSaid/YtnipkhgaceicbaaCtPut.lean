import Derived.Test.YtnipkhgaceicbaaCtArgs
/-
  cert.Put, of whatever writer and cert.
-/
namespace Go.Proofs.Ytnipkhgaceicbaa
set_option maxRecDepth 100000
section
set_option linter.unusedVariables false
open Go.RowKit Go.Sort Go.Lib

theorem VsOk.fit {x : Vs} (h : VsOk x) : VtFit x.1 := by
  obtain ⟨h1, h2, h3, h4, h5, h6, h7, h8⟩ := h
  exact ⟨i64_of_wf h2, i64_of_wf h3, i64_of_wf h4, h1, Nat.le_trans h5 (by decide), i64_of_wf h6, i64_of_wf h7⟩
/-- the block of the cert is not the writer's -/
theorem ownNew {g base : Nat} {o o' : Value} {w w' : World} {E : Int} {bs : List Int} {cs : Array Value} {B : Nat} {ty : TypeId} (hs : WrStep g o o' w w') (hn : o.ownBlock ≠ some w.heap.size) (hw : Wr w' base g o' E bs) (hB : w'.heap[B]? = some (.cells cs ty (0, 0))) (ht : ty = 38) : o'.ownBlock ≠ some B := by
  subst ht
  exact fun e => block_off hB (by decide) hw.2.2 e.symm
/-- the writer behind a statement -/
def pvS (p : Int × List Int) (x : Vs) : Int × List Int := textS (vtS6 p x.1) (octsOf x.2)
theorem pvS_len {p : Int × List Int} (x : Vs) (h : p.2.length ≤ 20482) : (pvS p x).2.length ≤ 20482 := textS_le _ _ (vtS_le p x.1 h).2.2.2.2.2.2
/-- the writer behind whole statements -/
def ctWS (p : Int × List Int) (xs : List Vs) : Int × List Int := xs.foldl pvS p
theorem ctWS_len (xs : List Vs) : ∀ p : Int × List Int, p.2.length ≤ 20482 → (ctWS p xs).2.length ≤ 20482 := by
  induction xs with
  | nil => exact fun p h => h
  | cons x t ih => exact fun p h => ih (pvS p x) (pvS_len x h)
theorem ctWS_next (p : Int × List Int) {xs : List Vs} {i : Nat} {x : Vs} (hx : xs[i]? = some x) : ctWS p (xs.take (i + 1)) = pvS (ctWS p (xs.take i)) x := by
  obtain ⟨hi, e⟩ := List.getElem?_eq_some_iff.1 hx
  rw [List.take_succ_eq_append_getElem hi, e]
  unfold ctWS
  rw [List.foldl_append]; rfl
def chS (p : Int × List Int) (V H : Int) (BL : List Int) (n : Nat) : Int × List Int := numS (textS (numS (numS p V) H) BL) (n : Int)

theorem varg_below {base : Nat} {W W' : World} {a : Option Addr} {n cap : Nat} {xs : List Vs} (h : VArg W (.slice a n cap) xs) (hu : Below base W W') (hb : xs ≠ [] → ∀ b off, a = some ⟨b, off, none⟩ → b < base) : VArg W' (.slice a n cap) xs := by
  obtain ⟨a', cap', e, h2, h3, h4⟩ := h
  cases e
  by_cases hx : xs = []
  · exact ⟨a, cap, rfl, h2, h3, .inl hx⟩
  refine ⟨a, cap, rfl, h2, h3, h4.imp id ?_⟩
  rintro ⟨b, off, h5, h6⟩
  refine ⟨b, off, h5, fun j hj => ?_⟩
  rw [← h6 j hj]
  exact World.cell?_of_block (a := ⟨b, off + j, none⟩) (hu.block b (hb hx b off h5))
theorem varg_lt {W : World} {a : Option Addr} {n cap : Nat} {xs : List Vs} (h : VArg W (.slice a n cap) xs) (hx : xs ≠ []) (b off : Nat) (ha : a = some ⟨b, off, none⟩) : b < W.heap.size := by
  obtain ⟨a', cap', e, h2, h3, h4⟩ := h
  cases e
  subst ha
  rcases h4 with h4 | ⟨b', off', e, h4⟩
  · exact absurd h4 hx
  · cases e
    have hl : 0 < xs.length := List.length_pos_iff.2 hx
    have h0 := h4 0 (by omega)
    rw [List.getElem?_eq_getElem (by rw [vsF_length]; omega)] at h0
    exact World.block_lt_of_cell? W _ h0

end
end Go.Proofs.Ytnipkhgaceicbaa
