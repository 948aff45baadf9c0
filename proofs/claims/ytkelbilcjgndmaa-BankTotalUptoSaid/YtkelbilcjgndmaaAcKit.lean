import Derived.Test.YtkelbilcjgndmaaTxKit
/-
  Accounts: a balance and a nonce; slices of them.
-/
namespace Go.Proofs.Ytkelbilcjgndmaa
set_option maxRecDepth 100000
section
set_option linter.unusedVariables false
open Go.RowKit Go.Sort Go.Lib

/-- balance, nonce -/
abbrev Ac := Int × Int
def acC (x : Ac) : List Value := [.int .i64 x.1, .int .i64 x.2]
def acA (x : Ac) : Array Value := #[.int .i64 x.1, .int .i64 x.2]
theorem acA_eq (x : Ac) : acA x = (acC x).toArray := rfl
theorem acC_len (x : Ac) : (acC x).length = 2 := rfl
theorem acA_one (x : Ac) : (acA x).all (·.oneCell') = true := by simp [acA, Value.oneCell']
theorem info_ac : (Try.prog.info? 49).map (·.size) = some 2 := by kernel_rfl
/-- numbers are numbers -/
def AcOk (x : Ac) : Prop := (Lit.int .i64 x.1).wf = true ∧ (Lit.int .i64 x.2).wf = true
/-- v is a slice of accounts that reads as xs -/
def AArg (W : World) (v : Value) (xs : List Ac) : Prop := ∃ a cap, v = .slice a xs.length cap ∧ xs.length ≤ cap ∧ (a = none → cap = 0) ∧ (xs = [] ∨ ∃ b off, a = some ⟨b, off, none⟩ ∧ ∀ i x, xs[i]? = some x → W.cell? ⟨b, off + i * 2, none⟩ = some (.int .i64 x.1) ∧ W.cell? ⟨b, off + (i * 2 + 1), none⟩ = some (.int .i64 x.2))
theorem AArg.keep {W W' : World} {a : Option Addr} {n cap : Nat} {xs : List Ac} (h : AArg W (.slice a n cap) xs) (hk : ∀ b off, a = some ⟨b, off, none⟩ → ∀ o, W'.cell? ⟨b, o, none⟩ = W.cell? ⟨b, o, none⟩) : AArg W' (.slice a n cap) xs := by
  obtain ⟨a', cap', e, h2, h3, h4⟩ := h
  cases e
  refine ⟨a, cap, rfl, h2, h3, h4.imp id ?_⟩
  rintro ⟨b, off, h5, h6⟩
  exact ⟨b, off, h5, fun i x hx => by rw [hk b off h5, hk b off h5]; exact h6 i x hx⟩
theorem AArg.up {W W' : World} {v : Value} {xs : List Ac} (h : AArg W v xs) (hu : Up W W') : AArg W' v xs := by
  obtain ⟨a, cap, h1, h2, h3, h4⟩ := h
  refine ⟨a, cap, h1, h2, h3, h4.imp id ?_⟩
  rintro ⟨b, off, h5, h6⟩
  exact ⟨b, off, h5, fun i x hx => ⟨later_cell (h6 i x hx).1 hu, later_cell (h6 i x hx).2 hu⟩⟩
theorem AArg.ptr {W : World} {a : Option Addr} {n cap : Nat} {xs : List Ac} (h : AArg W (.slice a n cap) xs) (hx : 0 < xs.length) : ∃ b off, a = some ⟨b, off, none⟩ := by
  obtain ⟨a', cap', e, h1, h2, h3⟩ := h
  cases e
  rcases h3 with rfl | ⟨b, off, e, _⟩
  · simp at hx
  · exact ⟨b, off, e⟩
theorem AArg.cells {W : World} {b off n cap : Nat} {xs : List Ac} (h : AArg W (.slice (some ⟨b, off, none⟩) n cap) xs) {i : Nat} {x : Ac} (hx : xs[i]? = some x) :
    W.cell? ⟨b, off + i * 2, none⟩ = some (.int .i64 x.1) ∧ W.cell? ⟨b, off + (i * 2 + 1), none⟩ = some (.int .i64 x.2) := by
  obtain ⟨a', cap', e, h1, h2, h3⟩ := h
  cases e
  have hi : i < xs.length := (List.getElem?_eq_some_iff.1 hx).1
  rcases h3 with rfl | ⟨b', off', e, h4⟩
  · simp at hi
  · cases e
    exact h4 i x hx
theorem AArg.load {W : World} {b off n cap : Nat} {xs : List Ac} (h : AArg W (.slice (some ⟨b, off, none⟩) n cap) xs) {i : Nat} {x : Ac} (hx : xs[i]? = some x) : (loadVar 49 ⟨b, off + i * 2, none⟩).run Try.prog W = .ok (.agg (acA x)) W := by
  obtain ⟨h0, h1⟩ := h.cells hx
  have hcell : ∀ j v, (acC x)[j]? = some v → W.cell? ((⟨b, off + i * 2, none⟩ : Addr).add j) = some v := by
    intro j v hv
    have hj : j < 2 := by have := (List.getElem?_eq_some_iff.1 hv).1; rwa [acC_len] at this
    have ha : ((⟨b, off + i * 2, none⟩ : Addr).add j) = ⟨b, off + (i * 2 + j), none⟩ := by unfold Addr.add; split <;> simp_all [Nat.add_assoc]
    rw [ha]
    have hc : j = 0 ∨ j = 1 := by omega
    rcases hc with rfl | rfl
    · rw [Nat.add_zero, h0]; exact hv
    · rw [h1]; exact hv
  have h5 := run_loadCellsFrom_list Try.prog W ⟨b, off + i * 2, none⟩ (acC x) 2 (acC_len x) hcell
  simp [loadVar, loadCells, Try.isAgg49, Try.sizeOf49, h5, Result.andThen, acA_eq]
theorem ex_lda {o : Oper} {x : Operand} {ρ : Operand → Value} {ad : Addr} {v : Value} {W : World} (hop : o.op = .load 49 x) (hx : ρ x = .pointer (some ad)) (hl : (loadVar 49 ad).run Try.prog W = .ok v W) : (execOp ρ o).run Try.prog W = .ok (.value v) W := by
  unfold execOp; rw [hop]; simp only [hx]
  simp [Instr.loadAt, Instr.sureAddr, hl, Result.andThen]
theorem ex_fillA {o : Oper} {x y : Operand} {ρ : Operand → Value} {W : World} {c0 : Array Value} {u : Ac} (hop : o.op = .store 49 x y) (hx : ρ x = .pointer (some ⟨W.heap.size, 0, none⟩)) (hy : ρ y = .agg (acA u)) (h0 : c0.size = 2) :
    (execOp ρ o).run Try.prog (W.alloc (.cells c0 49)) = .ok .skip (W.alloc (.cells (acA u) 49)) := by
  have h1 := ex_storerow (P := Try.prog) (g := W.heap.size) (c0 := c0) (c1 := acA u) hop hx hy (W.alloc (.cells c0 49)) 49 (heap_alloc_new W _) info_ac h0 (acA_one u)
  rwa [World.setRow_alloc_new] at h1
/-- all cells of so many accounts -/
def acF (xs : List Ac) : List Value := xs.flatMap acC
theorem acF_length : ∀ xs : List Ac, (acF xs).length = xs.length * 2
  | [] => rfl
  | x :: t => by
    have := acF_length t
    unfold acF at this ⊢
    rw [List.flatMap_cons, List.length_append, this, acC_len, List.length_cons]; omega
theorem acF_one (xs : List Ac) : ∀ v ∈ acF xs, v.oneCell' = true := by
  intro v hv
  unfold acF at hv
  rw [List.mem_flatMap] at hv
  obtain ⟨x, _, hx⟩ := hv
  simp [acC] at hx
  rcases hx with rfl | rfl <;> rfl
theorem acF_get : ∀ (xs : List Ac) (i : Nat) (x : Ac), xs[i]? = some x → (acF xs)[i * 2]? = some (.int .i64 x.1) ∧ (acF xs)[i * 2 + 1]? = some (.int .i64 x.2)
  | [], i, x, h => by simp at h
  | y :: t, 0, x, h => by
    obtain rfl : y = x := by simpa using h
    exact ⟨rfl, rfl⟩
  | y :: t, i + 1, x, h => by
    have := acF_get t i x (by simpa using h)
    have e : acF (y :: t) = acC y ++ acF t := by unfold acF; rw [List.flatMap_cons]
    rw [e, show (i + 1) * 2 = i * 2 + 2 by omega, show i * 2 + 2 + 1 = (i * 2 + 1) + 2 by omega]
    exact ⟨this.1, this.2⟩
/-- block g begins with these accounts, and nothing of it is frozen -/
def AcRow (W : World) (g : Nat) (xs : List Ac) : Prop := ∃ cur, W.heap[g]? = some (.cells cur 49 (0, 0)) ∧ ∀ i x, xs[i]? = some x → cur[i * 2]? = some (.int .i64 x.1) ∧ cur[i * 2 + 1]? = some (.int .i64 x.2)
theorem AcRow.lt {W : World} {g : Nat} {xs : List Ac} (h : AcRow W g xs) : g < W.heap.size := by obtain ⟨cur, h1, _⟩ := h; exact lt_of_block h1
theorem AcRow.of_block {W W' : World} {g : Nat} {xs : List Ac} (h : AcRow W g xs) (hb : W'.heap[g]? = W.heap[g]?) : AcRow W' g xs := by
  obtain ⟨cur, h1, h2⟩ := h; exact ⟨cur, hb.trans h1, h2⟩
theorem AcRow.up {W W' : World} {g : Nat} {xs : List Ac} (h : AcRow W g xs) (hu : Up W W') : AcRow W' g xs := h.of_block (hu.block g h.lt)
theorem AcRow.arg {W : World} {g cap : Nat} {xs : List Ac} (h : AcRow W g xs) (hc : xs.length ≤ cap) : AArg W (.slice (some ⟨g, 0, none⟩) xs.length cap) xs := by
  obtain ⟨cur, h1, h2⟩ := h
  refine ⟨_, cap, rfl, hc, (fun e => by cases e), .inr ⟨g, 0, rfl, fun i x hx => ?_⟩⟩
  rw [Nat.zero_add, Nat.zero_add, cell_of_row _ _ _ _ _ _ h1, cell_of_row _ _ _ _ _ _ h1]
  exact h2 i x hx
theorem AcRow.cell {W : World} {g : Nat} {xs : List Ac} (h : AcRow W g xs) {i : Nat} {x : Ac} (hx : xs[i]? = some x) : W.cell? ⟨g, i * 2, none⟩ = some (.int .i64 x.1) ∧ W.cell? ⟨g, i * 2 + 1, none⟩ = some (.int .i64 x.2) := by
  obtain ⟨cur, h1, h2⟩ := h
  rw [cell_of_row _ _ _ _ _ _ h1, cell_of_row _ _ _ _ _ _ h1]
  exact h2 i x hx
theorem AcRow.free {W : World} {g : Nat} {xs : List Ac} (h : AcRow W g xs) (j : Nat) : W.frozen? ⟨g, j, none⟩ = false := by
  obtain ⟨cur, h1, _⟩ := h; exact frozen_of_row W g j cur _ h1
theorem AcRow.of_row {W : World} {base : Nat} {v : Value} {xs : List Ac} (h : W.ownsRow base 49 2 v xs.length (acF xs)) (hv : v ≠ .slice none 0 0) :
    ∃ g cap, v = .slice (some ⟨g, 0, none⟩) xs.length cap ∧ base ≤ g ∧ xs.length ≤ cap ∧ AcRow W g xs := by
  obtain ⟨h1, h2 | ⟨g, cap, cur, e1, e2, e3, e4, e5, e6, e7⟩⟩ := h
  · exact absurd h2.1 hv
  · refine ⟨g, cap, e1, e2, e4, cur, e3, fun i x hx => ?_⟩
    have hi : i < xs.length := (List.getElem?_eq_some_iff.1 hx).1
    have := acF_get xs i x hx
    rw [← e7, List.getElem?_take_of_lt (by omega), List.getElem?_take_of_lt (by omega), Array.getElem?_toList, Array.getElem?_toList] at this
    exact this
theorem AcRow.set {W : World} {g : Nat} {xs : List Ac} (h : AcRow W g xs) {i : Nat} {x : Ac} (hx : xs[i]? = some x) (m : Int) : AcRow (W.setCell ⟨g, i * 2, none⟩ (.int .i64 m)) g (xs.set i (m, x.2)) ∧ AcRow (W.setCell ⟨g, i * 2 + 1, none⟩ (.int .i64 m)) g (xs.set i (x.1, m)) := by
  obtain ⟨cur, h1, h2⟩ := h
  have hi : i < xs.length := (List.getElem?_eq_some_iff.1 hx).1
  have c0 : i * 2 + 1 < cur.size := (Array.getElem?_eq_some_iff.1 (h2 i x hx).2).1
  constructor
  · refine ⟨_, heap_setCell_same W g (i * 2) cur _ _ h1, fun j y hy => ?_⟩
    by_cases e : j = i
    · subst e
      rw [List.getElem?_set_self hi] at hy
      obtain rfl := Option.some.inj hy
      exact ⟨by rw [Array.getElem?_setIfInBounds_self]; rw [if_pos (by omega)], by rw [Array.getElem?_setIfInBounds_ne (by omega)]; exact (h2 j x hx).2⟩
    · rw [List.getElem?_set_ne (Ne.symm e)] at hy
      rw [Array.getElem?_setIfInBounds_ne (by omega), Array.getElem?_setIfInBounds_ne (by omega)]
      exact h2 j y hy
  · refine ⟨_, heap_setCell_same W g (i * 2 + 1) cur _ _ h1, fun j y hy => ?_⟩
    by_cases e : j = i
    · subst e
      rw [List.getElem?_set_self hi] at hy
      obtain rfl := Option.some.inj hy
      exact ⟨by rw [Array.getElem?_setIfInBounds_ne (by omega)]; exact (h2 j x hx).1, by rw [Array.getElem?_setIfInBounds_self]; rw [if_pos c0]⟩
    · rw [List.getElem?_set_ne (Ne.symm e)] at hy
      rw [Array.getElem?_setIfInBounds_ne (by omega), Array.getElem?_setIfInBounds_ne (by omega)]
      exact h2 j y hy
end
end Go.Proofs.Ytkelbilcjgndmaa
