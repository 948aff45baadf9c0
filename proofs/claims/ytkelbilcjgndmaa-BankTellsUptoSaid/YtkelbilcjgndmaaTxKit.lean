import Derived.Lib.SmallJoins
import Derived.SizedLaws
import Derived.Test.YtkelbilcjgndmaaTxCheck
import Derived.Test.YtkelbilcjgndmaaAlong
import Derived.Test.YtkelbilcjgndmaaOpen
import Derived.Test.YtkelbilcjgndmaaStrs
import Derived.Test.YtkelbilcjgndmaaCtKit
/-
  A slice of transactions that came in.
-/
namespace Go.Proofs.Ytkelbilcjgndmaa
set_option maxRecDepth 100000
section
set_option linter.unusedVariables false
open Go.ChangeShapes Go.WideShapes Go.ChangeAt Go.RowKit Go.Deep Go.Joins Go.Sort

structure Tt where
  F : Int
  T : Int
  A : Int
  N : Int
instance ttInhabited : Inhabited Tt := ⟨⟨0, 0, 0, 0⟩⟩
/-- a transaction with its Sig -/
abbrev Ts := Tt × ByteArray
def tsC (x : Ts) : List Value := [.int .i64 x.1.F, .int .i64 x.1.T, .int .i64 x.1.A, .int .i64 x.1.N, .string x.2]
def tsA (x : Ts) : Array Value := txC x.1.F x.1.T x.1.A x.1.N x.2
def tsE (x : Ts) : Int := txE x.1.F x.1.T x.1.A x.1.N x.2
theorem tsA_eq (x : Ts) : tsA x = (tsC x).toArray := rfl
theorem tsC_len (x : Ts) : (tsC x).length = 5 := rfl
theorem tsA_one (x : Ts) : (tsA x).all (·.oneCell') = true := by simp [tsA, txC, Value.oneCell']
theorem zero_ts : tsA default = #[.int .i64 0, .int .i64 0, .int .i64 0, .int .i64 0, .string ⟨#[]⟩] := rfl
/-- a slice of transactions that came in -/
def TArg (W : World) (v : Value) (xs : List Ts) : Prop := ∃ a cap, v = .slice a xs.length cap ∧ xs.length ≤ cap ∧ (a = none → cap = 0) ∧ (xs = [] ∨ ∃ b off, a = some ⟨b, off, none⟩ ∧ ∀ i x, xs[i]? = some x → ∀ k, k < 5 → W.cell? ⟨b, off + (i * 5 + k), none⟩ = some ((tsC x)[k]!))
theorem TArg.up {W W' : World} {v : Value} {xs : List Ts} (h : TArg W v xs) (hu : Up W W') : TArg W' v xs := by
  obtain ⟨a, cap, h1, h2, h3, h4⟩ := h
  refine ⟨a, cap, h1, h2, h3, h4.imp id ?_⟩
  rintro ⟨b, off, h5, h6⟩
  exact ⟨b, off, h5, fun i x hx k hk => later_cellF (h6 i x hx k hk) hu⟩
theorem TArg.ptr {W : World} {a : Option Addr} {n cap : Nat} {xs : List Ts} (h : TArg W (.slice a n cap) xs) (hx : 0 < xs.length) : ∃ b off, a = some ⟨b, off, none⟩ := by
  obtain ⟨a', cap', e, h1, h2, h3⟩ := h
  cases e
  rcases h3 with rfl | ⟨b, off, e, _⟩
  · simp at hx
  · exact ⟨b, off, e⟩
theorem TArg.len {W : World} {a : Option Addr} {n cap : Nat} {xs : List Ts} (h : TArg W (.slice a n cap) xs) : xs.length = n := by
  obtain ⟨a', cap', e, _⟩ := h
  cases e; rfl
theorem TArg.load {W : World} {b off n cap : Nat} {xs : List Ts} (h : TArg W (.slice (some ⟨b, off, none⟩) n cap) xs) {i : Nat} {x : Ts} (hx : xs[i]? = some x) : (loadVar 24 ⟨b, off + i * 5, none⟩).run Try.prog W = .ok (.agg (tsA x)) W := by
  obtain ⟨a', cap', e, h1, h2, h3⟩ := h
  cases e
  have hi : i < xs.length := (List.getElem?_eq_some_iff.1 hx).1
  rcases h3 with rfl | ⟨b', off', e, h4⟩
  · simp at hi
  · cases e
    have hcell : ∀ j v, (tsC x)[j]? = some v → W.cell? ((⟨b, off + i * 5, none⟩ : Addr).add j) = some v := by
      intro j v hv
      have hj : j < 5 := by have := (List.getElem?_eq_some_iff.1 hv).1; rwa [tsC_len] at this
      have ha : ((⟨b, off + i * 5, none⟩ : Addr).add j) = ⟨b, off + (i * 5 + j), none⟩ := by unfold Addr.add; split <;> simp_all [Nat.add_assoc]
      rw [ha, h4 i x hx j hj, getElem!_pos (tsC x) j (by rw [tsC_len]; exact hj)]
      rw [List.getElem?_eq_getElem (by rw [tsC_len]; exact hj)] at hv
      exact hv
    have h5 := run_loadCellsFrom_list Try.prog W ⟨b, off + i * 5, none⟩ (tsC x) 5 (tsC_len x) hcell
    simp [loadVar, loadCells, Try.isAgg24, Try.sizeOf24, h5, Result.andThen, tsA_eq]
theorem targ_lt {W : World} {a : Option Addr} {n cap : Nat} {xs : List Ts} (h : TArg W (.slice a n cap) xs) (hx : xs ≠ []) (b off : Nat) (ha : a = some ⟨b, off, none⟩) : b < W.heap.size := by
  obtain ⟨a', cap', e, h2, h3, h4⟩ := h
  cases e
  subst ha
  rcases h4 with h4 | ⟨b', off', e, h4⟩
  · exact absurd h4 hx
  · cases e
    have hl : 0 < xs.length := List.length_pos_iff.2 hx
    exact World.block_lt_of_cell? W _ (h4 0 xs[0] (List.getElem?_eq_getElem hl) 0 (by omega))
theorem targ_below {base : Nat} {W W' : World} {a : Option Addr} {n cap : Nat} {xs : List Ts} (h : TArg W (.slice a n cap) xs) (hu : Below base W W') (hb : xs ≠ [] → ∀ b off, a = some ⟨b, off, none⟩ → b < base) : TArg W' (.slice a n cap) xs := by
  obtain ⟨a', cap', e, h2, h3, h4⟩ := h
  cases e
  by_cases hx : xs = []
  · exact ⟨a, cap, rfl, h2, h3, .inl hx⟩
  refine ⟨a, cap, rfl, h2, h3, h4.imp id ?_⟩
  rintro ⟨b, off, h5, h6⟩
  refine ⟨b, off, h5, fun i x hi k hk => ?_⟩
  rw [← h6 i x hi k hk]
  exact World.cell?_of_block (a := ⟨b, off + (i * 5 + k), none⟩) (hu.block b (hb hx b off h5))

/-- what the form says of a transaction -/
def TsOk (x : Ts) : Prop := (Lit.int .i64 x.1.F).wf = true ∧ (Lit.int .i64 x.1.T).wf = true ∧ (Lit.int .i64 x.1.A).wf = true ∧ (Lit.int .i64 x.1.N).wf = true ∧ x.2.size ≤ maxLen
section
variable {H : Type} {enc : TypeId × Value → H} {W : World}
theorem addr_addt (b off k : Nat) : (⟨b, off, none⟩ : Addr).add k = ⟨b, off + k, none⟩ := by unfold Addr.add; split <;> simp_all
theorem open_txs {v : Value} {d : DataW H} {ps : List MemPlace} {a : Option Addr} {len cap : Nat} (hv : v = .slice a len cap) (h : DataW.Trod enc Try.prog W 0 (fun _ => true) true 26 v d ps) :
    ∃ xs : List Ts, TArg W v xs ∧ (∀ (j : Nat) (x : Ts), xs[j]? = some x → TsOk x) ∧ xs.length ≤ maxLen := by
  obtain ⟨h1, h2, h3, h4⟩ := open_structs Try.underlying26 Try.underlying24 (by kernel_rfl) (by kernel_rfl) hv h
  cases a with
  | none =>
    obtain ⟨rfl, rfl, h5⟩ := h3 rfl
    exact ⟨[], ⟨none, 0, hv, Nat.le_refl _, fun _ => rfl, .inl rfl⟩, fun j f hj => by simp at hj, by simp⟩
  | some ad =>
    obtain ⟨D, spare, hd, hi⟩ := h4 ad rfl
    have each : ∀ i, i < len → ∃ f : Ts, TsOk f ∧ ∀ k, k < 5 → W.cell? ((ad.add (i * 5)).add k) = some ((tsC f)[k]!) := by
      intro i him
      obtain ⟨n, vs, ys, _, _, _, hf⟩ := hi i him
      obtain ⟨c0, y0, _, _, k0, t0⟩ := hf 0 _ rfl
      obtain ⟨c1, y1, _, _, k1, t1⟩ := hf 1 _ rfl
      obtain ⟨c2, y2, _, _, k2, t2⟩ := hf 2 _ rfl
      obtain ⟨c3, y3, _, _, k3, t3⟩ := hf 3 _ rfl
      obtain ⟨c4, y4, _, _, k4, t4⟩ := hf 4 _ rfl
      obtain ⟨x0, e0, _, w0⟩ := DataW.trod_int Try.underlying3 t0
      obtain ⟨x1, e1, _, w1⟩ := DataW.trod_int Try.underlying3 t1
      obtain ⟨x2, e2, _, w2⟩ := DataW.trod_int Try.underlying3 t2
      obtain ⟨x3, e3, _, w3⟩ := DataW.trod_int Try.underlying3 t3
      obtain ⟨s, e4, _, ws⟩ := DataW.trod_string Try.underlying9 t4
      simp only [List.cons.injEq, and_true] at e0 e1 e2 e3 e4
      subst e0 e1 e2 e3 e4
      refine ⟨(⟨x0, x1, x2, x3⟩, s), ⟨w0, w1, w2, w3, ws⟩, fun k hk => ?_⟩
      have hc : k = 0 ∨ k = 1 ∨ k = 2 ∨ k = 3 ∨ k = 4 := by omega
      rcases hc with rfl | rfl | rfl | rfl | rfl
      · exact k0
      · exact k1
      · exact k2
      · exact k3
      · exact k4
    obtain ⟨F, hF⟩ := choose_lt (α := Ts) (p := fun i f => TsOk f ∧ ∀ k, k < 5 → W.cell? ((ad.add (i * 5)).add k) = some ((tsC f)[k]!)) each
    have hlen : ((List.range len).map F).length = len := by simp
    have hget : ∀ j f, ((List.range len).map F)[j]? = some f → j < len ∧ f = F j := by
      intro j f hj
      have hj2 : j < len := by have := (List.getElem?_eq_some_iff.1 hj).1; simpa using this
      simp [hj2] at hj
      exact ⟨hj2, hj.symm⟩
    refine ⟨(List.range len).map F, ⟨some ad, cap, by rw [hlen]; exact hv, by rw [hlen]; exact h1, (fun e => by cases e), ?_⟩, ?_, by rw [hlen]; exact h2⟩
    · by_cases h0 : len = 0
      · subst h0; exact .inl rfl
      · right
        obtain ⟨b, off, spot⟩ := ad
        have hspot : spot = none := by
          have := addr_plain ((hF 0 (by omega)).2 0 (by omega))
          simpa [Addr.add] using this
        subst hspot
        refine ⟨b, off, rfl, fun i x hx k hk => ?_⟩
        obtain ⟨hj2, rfl⟩ := hget i x hx
        have := (hF i hj2).2 k hk
        rw [addr_addt, addr_addt, Nat.add_assoc] at this
        exact this
    · intro j f hj
      obtain ⟨hj2, rfl⟩ := hget j f hj
      exact (hF j hj2).1
end
end
section
set_option linter.unusedVariables false
open Go.RowKit Go.Sort Go.Lib
theorem ex_ldt {o : Oper} {x : Operand} {ρ : Operand → Value} {ad : Addr} {v : Value} {W : World} (hop : o.op = .load 24 x) (hx : ρ x = .pointer (some ad)) (hl : (loadVar 24 ad).run Try.prog W = .ok v W) : (execOp ρ o).run Try.prog W = .ok (.value v) W := by
  unfold execOp; rw [hop]; simp only [hx]
  simp [Instr.loadAt, Instr.sureAddr, hl, Result.andThen]

end
end Go.Proofs.Ytkelbilcjgndmaa
