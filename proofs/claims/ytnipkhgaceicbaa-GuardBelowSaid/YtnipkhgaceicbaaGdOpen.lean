import Derived.Test.YtnipkhgaceicbaaGdArg
/-
  A state that came in by value.
-/
namespace Go.Proofs.Ytnipkhgaceicbaa
set_option maxRecDepth 100000
section
set_option linter.unusedVariables false
open Go.ChangeShapes Go.WideShapes Go.ChangeAt Go.RowKit Go.Deep Go.Joins Go.Sort
variable {H : Type} {enc : TypeId × Value → H} {W : World}
theorem trod_mk {m0 : Nat} {l : List Value} {d : DataW H} {pl : List MemPlace} (hsz : l.length = 3) (hf : DataW.trod enc Try.prog W 0 (fun _ => true) true m0 26 l = some (d, pl)) :
    ∃ x : Mk, l = x.l ∧ MkOk x := by
  have kI : Try.prog.cellsOf 3 = 1 := by kernel_rfl
  have kS : Try.prog.cellsOf 9 = 1 := by kernel_rfl
  match l, hsz, hf with
  | [c0, c1, c2], _, hf =>
  obtain ⟨ys, m, _, hx, _, hyl, hfldy⟩ := DataW.trod_struct Try.underlying26 hf
  have hyl3 : ys.length = 3 := hyl
  have gety : ∀ i, i < 3 → ∃ y, ys[i]? = some y := fun i hi => ⟨ys[i]'(by omega), List.getElem?_eq_getElem _⟩
  obtain ⟨y0, jy0⟩ := gety 0 (by decide)
  have ty0 : DataW.trod enc Try.prog W 0 (fun _ => true) true m 3 [c0] = some y0 := by
    have q : DataW.trod enc Try.prog W 0 (fun _ => true) true m 3 (([c0, c1, c2].drop 0).take (Try.prog.cellsOf 3)) = ys[0]? := hfldy 0 _ rfl
    rw [kI] at q
    rw [jy0] at q
    exact q
  obtain ⟨y1, jy1⟩ := gety 1 (by decide)
  have ty1 : DataW.trod enc Try.prog W 0 (fun _ => true) true m 3 [c1] = some y1 := by
    have q : DataW.trod enc Try.prog W 0 (fun _ => true) true m 3 (([c0, c1, c2].drop 1).take (Try.prog.cellsOf 3)) = ys[1]? := hfldy 1 _ rfl
    rw [kI] at q
    rw [jy1] at q
    exact q
  obtain ⟨y2, jy2⟩ := gety 2 (by decide)
  have ty2 : DataW.trod enc Try.prog W 0 (fun _ => true) true m 9 [c2] = some y2 := by
    have q : DataW.trod enc Try.prog W 0 (fun _ => true) true m 9 (([c0, c1, c2].drop 2).take (Try.prog.cellsOf 9)) = ys[2]? := hfldy 2 _ rfl
    rw [kS] at q
    rw [jy2] at q
    exact q
  obtain ⟨x0, e0, _, w0⟩ := DataW.trod_int Try.underlying3 ty0
  obtain ⟨x1, e1, _, w1⟩ := DataW.trod_int Try.underlying3 ty1
  obtain ⟨x2, e2, _, w2⟩ := DataW.trod_string Try.underlying9 ty2
  simp only [List.cons.injEq, and_true] at e0 e1 e2
  subst e0 e1 e2
  exact ⟨⟨x0, x1, x2⟩, rfl, w0, w1, w2⟩
theorem open_gs {r : Reach} {b0 : Nat} {v : Value} {d : DataW H} {ps : List MemPlace} (hv : Value.okWide Try.prog W r b0 28 v) (h : DataW.Trod enc Try.prog W 0 (fun _ => true) true 28 v d ps) :
    ∃ s : Gs, v = .agg (gsA s) ∧ (Lit.int .i64 s.V).wf = true ∧ MkOk s.a ∧ MkOk s.b ∧ MkOk s.c := by
  obtain ⟨cs, rfl, hsz⟩ := okWide_struct Try.underlying28 hv
  obtain ⟨fuel, hf⟩ := h
  have hC : Try.prog.cellsOf 28 = 11 := by kernel_rfl
  have kI : Try.prog.cellsOf 3 = 1 := by kernel_rfl
  have kB : Try.prog.cellsOf 4 = 1 := by kernel_rfl
  have kM : Try.prog.cellsOf 26 = 3 := by kernel_rfl
  rw [hC] at hsz
  obtain ⟨l, hl⟩ : ∃ l, cs.toList = l := ⟨_, rfl⟩
  have hll : l.length = 11 := by rw [← hl]; simpa using hsz
  have hca : cs = l.toArray := by rw [← hl]
  have hf2 : DataW.trod enc Try.prog W 0 (fun _ => true) true fuel 28 l = some (d, ps) := by rw [← hl]; exact hf
  clear hf hl
  subst hca
  match l, hll, hf2 with
  | [c0, c1, c2, c3, c4, c5, c6, c7, c8, c9, c10], _, hf =>
  obtain ⟨ys, m, _, hx, _, hyl, hfldy⟩ := DataW.trod_struct Try.underlying28 hf
  have hyl5 : ys.length = 5 := hyl
  have gety : ∀ i, i < 5 → ∃ y, ys[i]? = some y := fun i hi => ⟨ys[i]'(by omega), List.getElem?_eq_getElem _⟩
  obtain ⟨y0, jy0⟩ := gety 0 (by decide)
  have ty0 : DataW.trod enc Try.prog W 0 (fun _ => true) true m 3 [c0] = some y0 := by
    have q : DataW.trod enc Try.prog W 0 (fun _ => true) true m 3 (([c0, c1, c2, c3, c4, c5, c6, c7, c8, c9, c10].drop 0).take (Try.prog.cellsOf 3)) = ys[0]? := hfldy 0 _ rfl
    rw [kI] at q
    rw [jy0] at q
    exact q
  obtain ⟨y1, jy1⟩ := gety 1 (by decide)
  have ty1 : DataW.trod enc Try.prog W 0 (fun _ => true) true m 26 [c1, c2, c3] = some y1 := by
    have q : DataW.trod enc Try.prog W 0 (fun _ => true) true m 26 (([c0, c1, c2, c3, c4, c5, c6, c7, c8, c9, c10].drop 1).take (Try.prog.cellsOf 26)) = ys[1]? := hfldy 1 _ rfl
    rw [kM] at q
    rw [jy1] at q
    exact q
  obtain ⟨y2, jy2⟩ := gety 2 (by decide)
  have ty2 : DataW.trod enc Try.prog W 0 (fun _ => true) true m 26 [c4, c5, c6] = some y2 := by
    have q : DataW.trod enc Try.prog W 0 (fun _ => true) true m 26 (([c0, c1, c2, c3, c4, c5, c6, c7, c8, c9, c10].drop 4).take (Try.prog.cellsOf 26)) = ys[2]? := hfldy 2 _ rfl
    rw [kM] at q
    rw [jy2] at q
    exact q
  obtain ⟨y3, jy3⟩ := gety 3 (by decide)
  have ty3 : DataW.trod enc Try.prog W 0 (fun _ => true) true m 26 [c7, c8, c9] = some y3 := by
    have q : DataW.trod enc Try.prog W 0 (fun _ => true) true m 26 (([c0, c1, c2, c3, c4, c5, c6, c7, c8, c9, c10].drop 7).take (Try.prog.cellsOf 26)) = ys[3]? := hfldy 3 _ rfl
    rw [kM] at q
    rw [jy3] at q
    exact q
  obtain ⟨y4, jy4⟩ := gety 4 (by decide)
  have ty4 : DataW.trod enc Try.prog W 0 (fun _ => true) true m 4 [c10] = some y4 := by
    have q : DataW.trod enc Try.prog W 0 (fun _ => true) true m 4 (([c0, c1, c2, c3, c4, c5, c6, c7, c8, c9, c10].drop 10).take (Try.prog.cellsOf 4)) = ys[4]? := hfldy 4 _ rfl
    rw [kB] at q
    rw [jy4] at q
    exact q
  obtain ⟨x0, e0, _, w0⟩ := DataW.trod_int Try.underlying3 ty0
  obtain ⟨a, ea, wa⟩ := trod_mk rfl ty1
  obtain ⟨b, eb, wb⟩ := trod_mk rfl ty2
  obtain ⟨c, ec, wc⟩ := trod_mk rfl ty3
  obtain ⟨sp, es, _⟩ := DataW.trod_bool Try.underlying4 ty4
  simp only [Mk.l, List.cons.injEq, and_true] at e0 ea eb ec es
  obtain ⟨ea0, ea1, ea2⟩ := ea
  obtain ⟨eb0, eb1, eb2⟩ := eb
  obtain ⟨ec0, ec1, ec2⟩ := ec
  subst e0 ea0 ea1 ea2 eb0 eb1 eb2 ec0 ec1 ec2 es
  exact ⟨⟨x0, a, b, c, sp⟩, rfl, w0, wa, wb, wc⟩
end
end Go.Proofs.Ytnipkhgaceicbaa
