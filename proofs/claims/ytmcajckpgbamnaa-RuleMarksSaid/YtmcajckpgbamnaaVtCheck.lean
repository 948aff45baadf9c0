import Derived.Test.YtmcajckpgbamnaaUps
import Derived.Test.YtmcajckpgbamnaaStrs
import Derived.Test.YtmcajckpgbamnaaTxCheck
import Derived.Test.YtmcajckpgbamnaaOpen
namespace Go.Proofs.Ytmcajckpgbamnaa
section
/-
  vote: whether a statement may be; the page's example.
-/
section
set_option maxRecDepth 100000
section
set_option linter.unusedVariables false
open Go.RowKit

/-- a statement without its Sig -/
structure Vt where
  K : Int
  V : Int
  H : Int
  B : List Int
  T : Int
  G : Int
/-- a statement's cells -/
def vtC (v : Vt) (S : ByteArray) : Array Value := #[.int .i64 v.K, .int .i64 v.V, .int .i64 v.H, .string (strOfNums v.B), .int .i64 v.T, .int .i64 v.G, .string S]
theorem info_vt : (Try.prog.info? 28).map (·.size) = some 7 := by kernel_rfl
theorem vt_cells {W : World} {B : Nat} {c0 c1 c2 c3 c4 c5 c6 : Value} {ty : TypeId} {fr : Nat × Nat} (h : W.heap[B]? = some (.cells #[c0, c1, c2, c3, c4, c5, c6] ty fr)) :
    W.cell? ⟨B, 0, none⟩ = some c0 ∧ W.cell? ⟨B, 1, none⟩ = some c1 ∧ W.cell? ⟨B, 2, none⟩ = some c2 ∧ W.cell? ⟨B, 3, none⟩ = some c3 ∧ W.cell? ⟨B, 4, none⟩ = some c4 ∧ W.cell? ⟨B, 5, none⟩ = some c5 ∧ W.cell? ⟨B, 6, none⟩ = some c6 :=
  ⟨cell_of_row _ _ 0 _ _ _ h, cell_of_row _ _ 1 _ _ _ h, cell_of_row _ _ 2 _ _ _ h, cell_of_row _ _ 3 _ _ _ h, cell_of_row _ _ 4 _ _ _ h, cell_of_row _ _ 5 _ _ _ h, cell_of_row _ _ 6 _ _ _ h⟩

def vtBlk (v : Vt) : Prop := (v.K = 4 → v.H = 0 ∧ v.B = []) ∧ (v.K ≠ 4 → (0 ≤ v.H ∧ v.H ≤ 1048576) ∧ v.B.length = 32)
def vtTck (v : Vt) : Prop := (v.K = 3 → 1 ≤ v.T ∧ v.T ≤ 1048576) ∧ (v.K ≠ 3 → v.T = 0)
def vtMay (v : Vt) : Prop := (1 ≤ v.K ∧ v.K ≤ 4) ∧ (0 ≤ v.V ∧ v.V ≤ 1048576) ∧ (0 ≤ v.G ∧ v.G ≤ 6) ∧ vtBlk v ∧ vtTck v
instance (v : Vt) : Decidable (vtBlk v) := by unfold vtBlk; infer_instance
instance (v : Vt) : Decidable (vtTck v) := by unfold vtTck; infer_instance
instance (v : Vt) : Decidable (vtMay v) := by unfold vtMay; infer_instance
def vtE (v : Vt) (S : ByteArray) : Int := if vtMay v ∧ S.size ≤ 4096 then 0 else 9

theorem strNil {zs : List Int} (h : zs = []) : strOfNums zs = ⟨#[]⟩ := by subst h; rfl

end
end

/-
  vote: the text of a statement, and its octets.
-/
section
set_option maxRecDepth 100000
section
set_option linter.unusedVariables false
open Go.RowKit

/-- a writer's error and octets behind the text's word, and each field -/
def vtS0 (p : Int × List Int) (v : Vt) : Int × List Int := textS p [118, 111, 116, 101]
def vtS1 (p : Int × List Int) (v : Vt) : Int × List Int := numS (vtS0 p v) v.K
def vtS2 (p : Int × List Int) (v : Vt) : Int × List Int := numS (vtS1 p v) v.V
def vtS3 (p : Int × List Int) (v : Vt) : Int × List Int := numS (vtS2 p v) v.H
def vtS4 (p : Int × List Int) (v : Vt) : Int × List Int := textS (vtS3 p v) v.B
def vtS5 (p : Int × List Int) (v : Vt) : Int × List Int := numS (vtS4 p v) v.T
def vtS6 (p : Int × List Int) (v : Vt) : Int × List Int := numS (vtS5 p v) v.G
theorem vtS_le (p : Int × List Int) (v : Vt) (h : p.2.length ≤ 20482) : (vtS0 p v).2.length ≤ 20482 ∧ (vtS1 p v).2.length ≤ 20482 ∧ (vtS2 p v).2.length ≤ 20482 ∧ (vtS3 p v).2.length ≤ 20482 ∧ (vtS4 p v).2.length ≤ 20482 ∧ (vtS5 p v).2.length ≤ 20482 ∧ (vtS6 p v).2.length ≤ 20482 := by
  have h0 : (vtS0 p v).2.length ≤ 20482 := textS_le _ _ h
  have h1 : (vtS1 p v).2.length ≤ 20482 := numS_le _ _ h0
  have h2 : (vtS2 p v).2.length ≤ 20482 := numS_le _ _ h1
  have h3 : (vtS3 p v).2.length ≤ 20482 := numS_le _ _ h2
  have h4 : (vtS4 p v).2.length ≤ 20482 := textS_le _ _ h3
  have h5 : (vtS5 p v).2.length ≤ 20482 := numS_le _ _ h4
  exact ⟨h0, h1, h2, h3, h4, h5, numS_le _ _ h5⟩
/-- what a variable of the language may hold -/
structure VtFit (v : Vt) : Prop where
  k : I64 v.K
  vv : I64 v.V
  h : I64 v.H
  b : U8s v.B
  bl : v.B.length ≤ 9223372036854775807
  t : I64 v.T
  g : I64 v.G

/-- a call on the writer, from any world, told of the world at the beginning -/
theorem word_u8s : U8s [118, 111, 116, 101] := by
  intro j hj
  have hc : j = 0 ∨ j = 1 ∨ j = 2 ∨ j = 3 := by simp at hj; omega
  rcases hc with rfl | rfl | rfl | rfl <;> simp

/-- the octets that are signed of a statement that may be -/
def vtT (v : Vt) : List Int := [0, 4, 118, 111, 116, 101] ++ octAll v.K 6 ++ octAll v.V 6 ++ octAll v.H 6 ++ (octAll v.B.length 2 ++ v.B) ++ octAll v.T 6 ++ octAll v.G 6
theorem vtT_length (v : Vt) : (vtT v).length = 38 + v.B.length := by simp [vtT, octAll_length]; omega
theorem vtT_u8s (v : Vt) (h : U8s v.B) : U8s (vtT v) := by
  unfold vtT
  refine (((((((?_ : U8s [0, 4, 118, 111, 116, 101]).append (octAll_u8s _ _)).append (octAll_u8s _ _)).append (octAll_u8s _ _)).append ((octAll_u8s _ _).append h)).append (octAll_u8s _ _)).append (octAll_u8s _ _))
  intro j hj
  have hc : j = 0 ∨ j = 1 ∨ j = 2 ∨ j = 3 ∨ j = 4 ∨ j = 5 := by simp at hj; omega
  rcases hc with rfl | rfl | rfl | rfl | rfl | rfl <;> simp
/-- what a statement that may be holds -/
structure VtOk (v : Vt) : Prop where
  k : 0 ≤ v.K ∧ v.K ≤ 1099511627776
  vv : 0 ≤ v.V ∧ v.V ≤ 1099511627776
  h : 0 ≤ v.H ∧ v.H ≤ 1099511627776
  bl : v.B.length ≤ 32
  t : 0 ≤ v.T ∧ v.T ≤ 1099511627776
  g : 0 ≤ v.G ∧ v.G ≤ 6
theorem vtMay_ok {v : Vt} (h : vtMay v) : VtOk v := by
  obtain ⟨h1, h2, h3, ⟨h4, h5⟩, h6, h7⟩ := h
  have hH : (0 ≤ v.H ∧ v.H ≤ 1048576) ∧ v.B.length ≤ 32 := by
    by_cases hk : v.K = 4
    · obtain ⟨a, b⟩ := h4 hk
      rw [b]; simp; omega
    · obtain ⟨a, b⟩ := h5 hk
      omega
  have hT : 0 ≤ v.T ∧ v.T ≤ 1048576 := by
    by_cases hk : v.K = 3
    · have := h6 hk; omega
    · have := h7 hk; omega
  exact ⟨by omega, by omega, by omega, hH.2, by omega, by omega⟩
theorem VtOk.fit {v : Vt} (h : VtOk v) (hb : U8s v.B) : VtFit v := by
  obtain ⟨h1, h2, h3, h4, h5, h6⟩ := h
  exact ⟨by unfold I64; omega, by unfold I64; omega, by unfold I64; omega, hb, by omega, by unfold I64; omega, by unfold I64; omega⟩
theorem vtS_ok (bs : List Int) (v : Vt) (hv : VtOk v) (hb : bs.length ≤ 16000) : vtS6 (0, bs) v = (0, bs ++ vtT v) := by
  have e : octAll (4 : Int) 2 = [0, 4] := by decide
  have hB := hv.bl
  unfold vtS6 vtS5 vtS4 vtS3 vtS2 vtS1 vtS0
  rw [textS_ok _ _ (by simp) (by omega)]
  rw [show octAll ((([118, 111, 116, 101] : List Int).length : Nat) : Int) 2 = [0, 4] from e]
  rw [numS_ok _ _ hv.k (by simp; omega), numS_ok _ _ hv.vv (by simp [octAll_length]; omega), numS_ok _ _ hv.h (by simp [octAll_length]; omega), textS_ok _ _ (by omega) (by simp [octAll_length]; omega), numS_ok _ _ hv.t (by simp [octAll_length]; omega), numS_ok _ _ ⟨hv.g.1, by have := hv.g.2; omega⟩ (by simp [octAll_length]; omega)]
  simp [vtT]

theorem vtE_ok {v : Vt} {S : ByteArray} (h : vtE v S = 0) : vtMay v ∧ S.size ≤ 4096 := by
  unfold vtE at h
  split at h
  · assumption
  · cases h
theorem vtE_ok_iff {v : Vt} {S : ByteArray} : vtE v S = 0 ↔ vtMay v ∧ S.size ≤ 4096 := ⟨vtE_ok, fun h => if_pos h⟩
theorem vtE_nine {v : Vt} {S : ByteArray} (h : vtE v S ≠ 0) : vtE v S = 9 := by
  unfold vtE at h ⊢
  split
  · rename_i hh; rw [if_pos hh] at h; exact absurd rfl h
  · rfl

end
end
end

/-
  The reference: whether a statement may be.
-/
section
set_option maxRecDepth 100000
section
set_option linter.unusedVariables false
open Go.RowKit

end
end

/-
  A statement that came in by value, opened.
-/
section
set_option maxRecDepth 100000
section
set_option linter.unusedVariables false
open Go.ChangeShapes Go.WideShapes Go.ChangeAt Go.RowKit Go.Deep Go.Joins
variable {H : Type} {enc : TypeId × Value → H} {W : World}

theorem array_seven {α : Type} {cs : Array α} {c0 c1 c2 c3 c4 c5 c6 : α} (h : cs.size = 7) (h0 : cs[0]? = some c0) (h1 : cs[1]? = some c1) (h2 : cs[2]? = some c2) (h3 : cs[3]? = some c3) (h4 : cs[4]? = some c4) (h5 : cs[5]? = some c5) (h6 : cs[6]? = some c6) : cs = #[c0, c1, c2, c3, c4, c5, c6] := by
  apply Array.ext_getElem?
  intro i
  by_cases hi : i < 7
  · have hc : i = 0 ∨ i = 1 ∨ i = 2 ∨ i = 3 ∨ i = 4 ∨ i = 5 ∨ i = 6 := by omega
    rcases hc with rfl | rfl | rfl | rfl | rfl | rfl | rfl
    · rw [h0]; rfl
    · rw [h1]; rfl
    · rw [h2]; rfl
    · rw [h3]; rfl
    · rw [h4]; rfl
    · rw [h5]; rfl
    · rw [h6]; rfl
  · rw [Array.getElem?_eq_none (by omega), Array.getElem?_eq_none (by simp; omega)]

theorem open_vt {r : Reach} {b0 : Nat} {v : Value} {d : DataW H} {ps : List MemPlace} (hv : Value.okWide Try.prog W r b0 28 v) (h : DataW.Trod enc Try.prog W 0 (fun _ => true) true 28 v d ps) :
    ∃ (u : Vt) (s : ByteArray), v = .agg (vtC u s) ∧ U8s u.B ∧ (Lit.int .i64 u.K).wf = true ∧ (Lit.int .i64 u.V).wf = true ∧ (Lit.int .i64 u.H).wf = true ∧ u.B.length ≤ maxLen ∧ (Lit.int .i64 u.T).wf = true ∧ (Lit.int .i64 u.G).wf = true ∧ s.size ≤ maxLen := by
  obtain ⟨m, cs, ys, rfl, hsz, _, _, hf⟩ := open_agg Try.underlying28 (by kernel_rfl) (by kernel_rfl) hv h
  obtain ⟨c0, y0, k0, _, t0⟩ := hf 0 _ rfl
  obtain ⟨c1, y1, k1, _, t1⟩ := hf 1 _ rfl
  obtain ⟨c2, y2, k2, _, t2⟩ := hf 2 _ rfl
  obtain ⟨c3, y3, k3, _, t3⟩ := hf 3 _ rfl
  obtain ⟨c4, y4, k4, _, t4⟩ := hf 4 _ rfl
  obtain ⟨c5, y5, k5, _, t5⟩ := hf 5 _ rfl
  obtain ⟨c6, y6, k6, _, t6⟩ := hf 6 _ rfl
  obtain ⟨x0, e0, _, w0⟩ := DataW.trod_int Try.underlying3 t0
  obtain ⟨x1, e1, _, w1⟩ := DataW.trod_int Try.underlying3 t1
  obtain ⟨x2, e2, _, w2⟩ := DataW.trod_int Try.underlying3 t2
  obtain ⟨x3, e3, _, w3⟩ := DataW.trod_string Try.underlying9 t3
  obtain ⟨x4, e4, _, w4⟩ := DataW.trod_int Try.underlying3 t4
  obtain ⟨x5, e5, _, w5⟩ := DataW.trod_int Try.underlying3 t5
  obtain ⟨s, e6, _, ws⟩ := DataW.trod_string Try.underlying9 t6
  simp only [List.cons.injEq, and_true] at e0 e1 e2 e3 e4 e5 e6
  subst e0 e1 e2 e3 e4 e5 e6
  refine ⟨⟨x0, x1, x2, octsOf x3, x4, x5⟩, s, ?_, octsOf_u8s _, w0, w1, w2, by rw [octsOf_length]; exact w3, w4, w5, ws⟩
  rw [array_seven hsz k0 k1 k2 k3 k4 k5 k6]
  unfold vtC
  simp only [strOf_octs]
end
end
end Go.Proofs.Ytmcajckpgbamnaa
