import Derived.Test.YtmjcjbiengcigaaHeTick
import Derived.Test.YtmjcjbiengcigaaOpen
/-
  What is held, that came in by value.
-/
namespace Go.Proofs.Ytmjcjbiengcigaa
set_option maxRecDepth 100000
section
set_option linter.unusedVariables false
open Go.ChangeShapes Go.WideShapes Go.ChangeAt Go.RowKit Go.Deep Go.Joins Go.Sort
variable {H : Type} {enc : TypeId × Value → H} {W : World}
theorem trod_mkc {m0 : Nat} {l : List Value} {d : DataW H} {pl : List MemPlace} (hsz : l.length = 3) (hf : DataW.trod enc Try.prog W 0 (fun _ => true) true m0 23 l = some (d, pl)) :
    ∃ (V Hh : Int) (B : ByteArray), l = [.int .i64 V, .int .i64 Hh, .string B] ∧ (Lit.int .i64 V).wf = true ∧ (Lit.int .i64 Hh).wf = true ∧ B.size ≤ maxLen := by
  have kI : Try.prog.cellsOf 3 = 1 := by kernel_rfl
  have kS : Try.prog.cellsOf 9 = 1 := by kernel_rfl
  match l, hsz, hf with
  | [c0, c1, c2], _, hf =>
  obtain ⟨ys, m, _, hx, _, hyl, hfldy⟩ := DataW.trod_struct Try.underlying23 hf
  have hyl3 : ys.length = 3 := hyl
  have gety : ∀ i, i < 3 → ∃ y, ys[i]? = some y := fun i hi => ⟨ys[i]'(by omega), List.getElem?_eq_getElem _⟩
  obtain ⟨y0, jy0⟩ := gety 0 (by decide)
  have ty0 : DataW.trod enc Try.prog W 0 (fun _ => true) true m 3 [c0] = some y0 := by
    have q : DataW.trod enc Try.prog W 0 (fun _ => true) true m 3 (([c0, c1, c2].drop 0).take (Try.prog.cellsOf 3)) = ys[0]? := hfldy 0 _ rfl
    rw [kI] at q
    rw [jy0] at q
    exact q
  obtain ⟨y1, jy1⟩ := gety 1 (by decide)
  have ty1 : DataW.trod enc Try.prog W 0 (fun _ => true) true m 3 [c1] = some y1 := by
    have q : DataW.trod enc Try.prog W 0 (fun _ => true) true m 3 (([c0, c1, c2].drop 1).take (Try.prog.cellsOf 3)) = ys[1]? := hfldy 1 _ rfl
    rw [kI] at q
    rw [jy1] at q
    exact q
  obtain ⟨y2, jy2⟩ := gety 2 (by decide)
  have ty2 : DataW.trod enc Try.prog W 0 (fun _ => true) true m 9 [c2] = some y2 := by
    have q : DataW.trod enc Try.prog W 0 (fun _ => true) true m 9 (([c0, c1, c2].drop 2).take (Try.prog.cellsOf 9)) = ys[2]? := hfldy 2 _ rfl
    rw [kS] at q
    rw [jy2] at q
    exact q
  obtain ⟨x0, e0, _, w0⟩ := DataW.trod_int Try.underlying3 ty0
  obtain ⟨x1, e1, _, w1⟩ := DataW.trod_int Try.underlying3 ty1
  obtain ⟨x2, e2, _, w2⟩ := DataW.trod_string Try.underlying9 ty2
  simp only [List.cons.injEq, and_true] at e0 e1 e2
  subst e0 e1 e2
  exact ⟨x0, x1, x2, rfl, w0, w1, w2⟩
theorem open_he {r : Reach} {b0 : Nat} {v : Value} {d : DataW H} {ps : List MemPlace} (hv : Value.okWide Try.prog W r b0 25 v) (h : DataW.Trod enc Try.prog W 0 (fun _ => true) true 25 v d ps) :
    ∃ (V Hh : Int) (B : ByteArray) (S T : Int), v = .agg (heC V Hh B S T) ∧ (Lit.int .i64 S).wf = true ∧ (Lit.int .i64 T).wf = true := by
  obtain ⟨cs, rfl, hsz⟩ := okWide_struct Try.underlying25 hv
  obtain ⟨fuel, hf⟩ := h
  have hC : Try.prog.cellsOf 25 = 5 := by kernel_rfl
  have kI : Try.prog.cellsOf 3 = 1 := by kernel_rfl
  have kM : Try.prog.cellsOf 23 = 3 := by kernel_rfl
  rw [hC] at hsz
  obtain ⟨l, hl⟩ : ∃ l, cs.toList = l := ⟨_, rfl⟩
  have hll : l.length = 5 := by rw [← hl]; simpa using hsz
  have hca : cs = l.toArray := by rw [← hl]
  have hf2 : DataW.trod enc Try.prog W 0 (fun _ => true) true fuel 25 l = some (d, ps) := by rw [← hl]; exact hf
  clear hf hl
  subst hca
  match l, hll, hf2 with
  | [c0, c1, c2, c3, c4], _, hf =>
  obtain ⟨ys, m, _, hx, _, hyl, hfldy⟩ := DataW.trod_struct Try.underlying25 hf
  have hyl3 : ys.length = 3 := hyl
  have gety : ∀ i, i < 3 → ∃ y, ys[i]? = some y := fun i hi => ⟨ys[i]'(by omega), List.getElem?_eq_getElem _⟩
  obtain ⟨y0, jy0⟩ := gety 0 (by decide)
  have ty0 : DataW.trod enc Try.prog W 0 (fun _ => true) true m 23 [c0, c1, c2] = some y0 := by
    have q : DataW.trod enc Try.prog W 0 (fun _ => true) true m 23 (([c0, c1, c2, c3, c4].drop 0).take (Try.prog.cellsOf 23)) = ys[0]? := hfldy 0 _ rfl
    rw [kM] at q
    rw [jy0] at q
    exact q
  obtain ⟨y1, jy1⟩ := gety 1 (by decide)
  have ty1 : DataW.trod enc Try.prog W 0 (fun _ => true) true m 3 [c3] = some y1 := by
    have q : DataW.trod enc Try.prog W 0 (fun _ => true) true m 3 (([c0, c1, c2, c3, c4].drop 3).take (Try.prog.cellsOf 3)) = ys[1]? := hfldy 1 _ rfl
    rw [kI] at q
    rw [jy1] at q
    exact q
  obtain ⟨y2, jy2⟩ := gety 2 (by decide)
  have ty2 : DataW.trod enc Try.prog W 0 (fun _ => true) true m 3 [c4] = some y2 := by
    have q : DataW.trod enc Try.prog W 0 (fun _ => true) true m 3 (([c0, c1, c2, c3, c4].drop 4).take (Try.prog.cellsOf 3)) = ys[2]? := hfldy 2 _ rfl
    rw [kI] at q
    rw [jy2] at q
    exact q
  obtain ⟨V, Hh, B, em, wV, wH, wB⟩ := trod_mkc rfl ty0
  obtain ⟨x1, e1, _, w1⟩ := DataW.trod_int Try.underlying3 ty1
  obtain ⟨x2, e2, _, w2⟩ := DataW.trod_int Try.underlying3 ty2
  simp only [List.cons.injEq, and_true] at em e1 e2
  obtain ⟨em0, em1, em2⟩ := em
  subst em0 em1 em2 e1 e2
  exact ⟨V, Hh, B, x1, x2, rfl, w1, w2⟩
end
end Go.Proofs.Ytmjcjbiengcigaa
