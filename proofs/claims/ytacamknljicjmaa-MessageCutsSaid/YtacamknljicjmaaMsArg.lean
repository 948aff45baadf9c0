import Derived.Test.YtacamknljicjmaaMsData
/-
  A message that came in by value, opened.
-/
namespace Go.Proofs.Ytacamknljicjmaa
section
set_option linter.unusedVariables false
set_option maxRecDepth 100000
open Go.ChangeShapes Go.WideShapes Go.ChangeAt Go.RowKit Go.Deep Go.Joins
variable {H : Type} {enc : TypeId × Value → H} {W : World}
set_option maxHeartbeats 2000000 in
theorem open_ms {r : Reach} {b0 : Nat} {v : Value} {d : DataW H} {ps : List MemPlace} (hv : Value.okWide Try.prog W r b0 33 v) (h : DataW.Trod enc Try.prog W 0 (fun _ => true) true 33 v d ps) :
    ∃ (m : Mm) (p : Ps), v = .agg (msA m p) ∧ MIn W m p ∧ MOk m := by
  obtain ⟨cs, rfl, hsz⟩ := okWide_struct Try.underlying33 hv
  obtain ⟨fuel, hf⟩ := h
  have kM : Try.prog.cellsOf 33 = 28 := by kernel_rfl
  have kB : Try.prog.cellsOf 27 = 9 := by kernel_rfl
  have kC : Try.prog.cellsOf 24 = 4 := by kernel_rfl
  have kV : Try.prog.cellsOf 29 = 7 := by kernel_rfl
  have kX : Try.prog.cellsOf 31 = 5 := by kernel_rfl
  have ki : Try.prog.cellsOf 3 = 1 := by kernel_rfl
  have ks : Try.prog.cellsOf 9 = 1 := by kernel_rfl
  have kt : Try.prog.cellsOf 25 = 1 := by kernel_rfl
  have kv : Try.prog.cellsOf 22 = 1 := by kernel_rfl
  rw [kM] at hsz
  obtain ⟨l⟩ := cs
  match l, hsz, hf with
  | [c0, c1, c2, c3, c4, c5, c6, c7, c8, c9, c10, c11, c12, c13, c14, c15, c16, c17, c18, c19, c20, c21, c22, c23, c24, c25, c26, c27], _, hf =>
    obtain ⟨ys1, m1, _, hx1, _, hyl1, hfld1⟩ := DataW.trod_struct Try.underlying33 hf
    have hyn1 : ys1.length = 7 := hyl1
    obtain ⟨y1_0, jy1_0⟩ : ∃ y, ys1[0]? = some y := ⟨ys1[0]'(by omega), List.getElem?_eq_getElem _⟩
    have t1_0 : DataW.trod enc Try.prog W 0 (fun _ => true) true m1 3 [c0] = some y1_0 := by
      have q : DataW.trod enc Try.prog W 0 (fun _ => true) true m1 3 (([c0, c1, c2, c3, c4, c5, c6, c7, c8, c9, c10, c11, c12, c13, c14, c15, c16, c17, c18, c19, c20, c21, c22, c23, c24, c25, c26, c27].drop 0).take (Try.prog.cellsOf 3)) = ys1[0]? := hfld1 0 _ rfl
      rw [ki] at q
      rw [jy1_0] at q
      exact q
    obtain ⟨y1_1, jy1_1⟩ : ∃ y, ys1[1]? = some y := ⟨ys1[1]'(by omega), List.getElem?_eq_getElem _⟩
    have t1_1 : DataW.trod enc Try.prog W 0 (fun _ => true) true m1 27 [c1, c2, c3, c4, c5, c6, c7, c8, c9] = some y1_1 := by
      have q : DataW.trod enc Try.prog W 0 (fun _ => true) true m1 27 (([c0, c1, c2, c3, c4, c5, c6, c7, c8, c9, c10, c11, c12, c13, c14, c15, c16, c17, c18, c19, c20, c21, c22, c23, c24, c25, c26, c27].drop 1).take (Try.prog.cellsOf 27)) = ys1[1]? := hfld1 1 _ rfl
      rw [kB] at q
      rw [jy1_1] at q
      exact q
    obtain ⟨y1_2, jy1_2⟩ : ∃ y, ys1[2]? = some y := ⟨ys1[2]'(by omega), List.getElem?_eq_getElem _⟩
    have t1_2 : DataW.trod enc Try.prog W 0 (fun _ => true) true m1 29 [c10, c11, c12, c13, c14, c15, c16] = some y1_2 := by
      have q : DataW.trod enc Try.prog W 0 (fun _ => true) true m1 29 (([c0, c1, c2, c3, c4, c5, c6, c7, c8, c9, c10, c11, c12, c13, c14, c15, c16, c17, c18, c19, c20, c21, c22, c23, c24, c25, c26, c27].drop 10).take (Try.prog.cellsOf 29)) = ys1[2]? := hfld1 2 _ rfl
      rw [kV] at q
      rw [jy1_2] at q
      exact q
    obtain ⟨y1_3, jy1_3⟩ : ∃ y, ys1[3]? = some y := ⟨ys1[3]'(by omega), List.getElem?_eq_getElem _⟩
    have t1_3 : DataW.trod enc Try.prog W 0 (fun _ => true) true m1 24 [c17, c18, c19, c20] = some y1_3 := by
      have q : DataW.trod enc Try.prog W 0 (fun _ => true) true m1 24 (([c0, c1, c2, c3, c4, c5, c6, c7, c8, c9, c10, c11, c12, c13, c14, c15, c16, c17, c18, c19, c20, c21, c22, c23, c24, c25, c26, c27].drop 17).take (Try.prog.cellsOf 24)) = ys1[3]? := hfld1 3 _ rfl
      rw [kC] at q
      rw [jy1_3] at q
      exact q
    obtain ⟨y1_4, jy1_4⟩ : ∃ y, ys1[4]? = some y := ⟨ys1[4]'(by omega), List.getElem?_eq_getElem _⟩
    have t1_4 : DataW.trod enc Try.prog W 0 (fun _ => true) true m1 22 [c21] = some y1_4 := by
      have q : DataW.trod enc Try.prog W 0 (fun _ => true) true m1 22 (([c0, c1, c2, c3, c4, c5, c6, c7, c8, c9, c10, c11, c12, c13, c14, c15, c16, c17, c18, c19, c20, c21, c22, c23, c24, c25, c26, c27].drop 21).take (Try.prog.cellsOf 22)) = ys1[4]? := hfld1 4 _ rfl
      rw [kv] at q
      rw [jy1_4] at q
      exact q
    obtain ⟨y1_5, jy1_5⟩ : ∃ y, ys1[5]? = some y := ⟨ys1[5]'(by omega), List.getElem?_eq_getElem _⟩
    have t1_5 : DataW.trod enc Try.prog W 0 (fun _ => true) true m1 9 [c22] = some y1_5 := by
      have q : DataW.trod enc Try.prog W 0 (fun _ => true) true m1 9 (([c0, c1, c2, c3, c4, c5, c6, c7, c8, c9, c10, c11, c12, c13, c14, c15, c16, c17, c18, c19, c20, c21, c22, c23, c24, c25, c26, c27].drop 22).take (Try.prog.cellsOf 9)) = ys1[5]? := hfld1 5 _ rfl
      rw [ks] at q
      rw [jy1_5] at q
      exact q
    obtain ⟨y1_6, jy1_6⟩ : ∃ y, ys1[6]? = some y := ⟨ys1[6]'(by omega), List.getElem?_eq_getElem _⟩
    have t1_6 : DataW.trod enc Try.prog W 0 (fun _ => true) true m1 31 [c23, c24, c25, c26, c27] = some y1_6 := by
      have q : DataW.trod enc Try.prog W 0 (fun _ => true) true m1 31 (([c0, c1, c2, c3, c4, c5, c6, c7, c8, c9, c10, c11, c12, c13, c14, c15, c16, c17, c18, c19, c20, c21, c22, c23, c24, c25, c26, c27].drop 23).take (Try.prog.cellsOf 31)) = ys1[6]? := hfld1 6 _ rfl
      rw [kX] at q
      rw [jy1_6] at q
      exact q
    obtain ⟨ys2, m2, _, hx2, _, hyl2, hfld2⟩ := DataW.trod_struct Try.underlying27 t1_1
    have hyn2 : ys2.length = 6 := hyl2
    obtain ⟨y2_0, jy2_0⟩ : ∃ y, ys2[0]? = some y := ⟨ys2[0]'(by omega), List.getElem?_eq_getElem _⟩
    have t2_0 : DataW.trod enc Try.prog W 0 (fun _ => true) true m2 3 [c1] = some y2_0 := by
      have q : DataW.trod enc Try.prog W 0 (fun _ => true) true m2 3 (([c1, c2, c3, c4, c5, c6, c7, c8, c9].drop 0).take (Try.prog.cellsOf 3)) = ys2[0]? := hfld2 0 _ rfl
      rw [ki] at q
      rw [jy2_0] at q
      exact q
    obtain ⟨y2_1, jy2_1⟩ : ∃ y, ys2[1]? = some y := ⟨ys2[1]'(by omega), List.getElem?_eq_getElem _⟩
    have t2_1 : DataW.trod enc Try.prog W 0 (fun _ => true) true m2 3 [c2] = some y2_1 := by
      have q : DataW.trod enc Try.prog W 0 (fun _ => true) true m2 3 (([c1, c2, c3, c4, c5, c6, c7, c8, c9].drop 1).take (Try.prog.cellsOf 3)) = ys2[1]? := hfld2 1 _ rfl
      rw [ki] at q
      rw [jy2_1] at q
      exact q
    obtain ⟨y2_2, jy2_2⟩ : ∃ y, ys2[2]? = some y := ⟨ys2[2]'(by omega), List.getElem?_eq_getElem _⟩
    have t2_2 : DataW.trod enc Try.prog W 0 (fun _ => true) true m2 9 [c3] = some y2_2 := by
      have q : DataW.trod enc Try.prog W 0 (fun _ => true) true m2 9 (([c1, c2, c3, c4, c5, c6, c7, c8, c9].drop 2).take (Try.prog.cellsOf 9)) = ys2[2]? := hfld2 2 _ rfl
      rw [ks] at q
      rw [jy2_2] at q
      exact q
    obtain ⟨y2_3, jy2_3⟩ : ∃ y, ys2[3]? = some y := ⟨ys2[3]'(by omega), List.getElem?_eq_getElem _⟩
    have t2_3 : DataW.trod enc Try.prog W 0 (fun _ => true) true m2 24 [c4, c5, c6, c7] = some y2_3 := by
      have q : DataW.trod enc Try.prog W 0 (fun _ => true) true m2 24 (([c1, c2, c3, c4, c5, c6, c7, c8, c9].drop 3).take (Try.prog.cellsOf 24)) = ys2[3]? := hfld2 3 _ rfl
      rw [kC] at q
      rw [jy2_3] at q
      exact q
    obtain ⟨y2_4, jy2_4⟩ : ∃ y, ys2[4]? = some y := ⟨ys2[4]'(by omega), List.getElem?_eq_getElem _⟩
    have t2_4 : DataW.trod enc Try.prog W 0 (fun _ => true) true m2 25 [c8] = some y2_4 := by
      have q : DataW.trod enc Try.prog W 0 (fun _ => true) true m2 25 (([c1, c2, c3, c4, c5, c6, c7, c8, c9].drop 7).take (Try.prog.cellsOf 25)) = ys2[4]? := hfld2 4 _ rfl
      rw [kt] at q
      rw [jy2_4] at q
      exact q
    obtain ⟨y2_5, jy2_5⟩ : ∃ y, ys2[5]? = some y := ⟨ys2[5]'(by omega), List.getElem?_eq_getElem _⟩
    have t2_5 : DataW.trod enc Try.prog W 0 (fun _ => true) true m2 9 [c9] = some y2_5 := by
      have q : DataW.trod enc Try.prog W 0 (fun _ => true) true m2 9 (([c1, c2, c3, c4, c5, c6, c7, c8, c9].drop 8).take (Try.prog.cellsOf 9)) = ys2[5]? := hfld2 5 _ rfl
      rw [ks] at q
      rw [jy2_5] at q
      exact q
    obtain ⟨ys3, m3, _, hx3, _, hyl3, hfld3⟩ := DataW.trod_struct Try.underlying24 t2_3
    have hyn3 : ys3.length = 4 := hyl3
    obtain ⟨y3_0, jy3_0⟩ : ∃ y, ys3[0]? = some y := ⟨ys3[0]'(by omega), List.getElem?_eq_getElem _⟩
    have t3_0 : DataW.trod enc Try.prog W 0 (fun _ => true) true m3 3 [c4] = some y3_0 := by
      have q : DataW.trod enc Try.prog W 0 (fun _ => true) true m3 3 (([c4, c5, c6, c7].drop 0).take (Try.prog.cellsOf 3)) = ys3[0]? := hfld3 0 _ rfl
      rw [ki] at q
      rw [jy3_0] at q
      exact q
    obtain ⟨y3_1, jy3_1⟩ : ∃ y, ys3[1]? = some y := ⟨ys3[1]'(by omega), List.getElem?_eq_getElem _⟩
    have t3_1 : DataW.trod enc Try.prog W 0 (fun _ => true) true m3 3 [c5] = some y3_1 := by
      have q : DataW.trod enc Try.prog W 0 (fun _ => true) true m3 3 (([c4, c5, c6, c7].drop 1).take (Try.prog.cellsOf 3)) = ys3[1]? := hfld3 1 _ rfl
      rw [ki] at q
      rw [jy3_1] at q
      exact q
    obtain ⟨y3_2, jy3_2⟩ : ∃ y, ys3[2]? = some y := ⟨ys3[2]'(by omega), List.getElem?_eq_getElem _⟩
    have t3_2 : DataW.trod enc Try.prog W 0 (fun _ => true) true m3 9 [c6] = some y3_2 := by
      have q : DataW.trod enc Try.prog W 0 (fun _ => true) true m3 9 (([c4, c5, c6, c7].drop 2).take (Try.prog.cellsOf 9)) = ys3[2]? := hfld3 2 _ rfl
      rw [ks] at q
      rw [jy3_2] at q
      exact q
    obtain ⟨y3_3, jy3_3⟩ : ∃ y, ys3[3]? = some y := ⟨ys3[3]'(by omega), List.getElem?_eq_getElem _⟩
    have t3_3 : DataW.trod enc Try.prog W 0 (fun _ => true) true m3 22 [c7] = some y3_3 := by
      have q : DataW.trod enc Try.prog W 0 (fun _ => true) true m3 22 (([c4, c5, c6, c7].drop 3).take (Try.prog.cellsOf 22)) = ys3[3]? := hfld3 3 _ rfl
      rw [kv] at q
      rw [jy3_3] at q
      exact q
    obtain ⟨ys4, m4, _, hx4, _, hyl4, hfld4⟩ := DataW.trod_struct Try.underlying29 t1_2
    have hyn4 : ys4.length = 7 := hyl4
    obtain ⟨y4_0, jy4_0⟩ : ∃ y, ys4[0]? = some y := ⟨ys4[0]'(by omega), List.getElem?_eq_getElem _⟩
    have t4_0 : DataW.trod enc Try.prog W 0 (fun _ => true) true m4 3 [c10] = some y4_0 := by
      have q : DataW.trod enc Try.prog W 0 (fun _ => true) true m4 3 (([c10, c11, c12, c13, c14, c15, c16].drop 0).take (Try.prog.cellsOf 3)) = ys4[0]? := hfld4 0 _ rfl
      rw [ki] at q
      rw [jy4_0] at q
      exact q
    obtain ⟨y4_1, jy4_1⟩ : ∃ y, ys4[1]? = some y := ⟨ys4[1]'(by omega), List.getElem?_eq_getElem _⟩
    have t4_1 : DataW.trod enc Try.prog W 0 (fun _ => true) true m4 3 [c11] = some y4_1 := by
      have q : DataW.trod enc Try.prog W 0 (fun _ => true) true m4 3 (([c10, c11, c12, c13, c14, c15, c16].drop 1).take (Try.prog.cellsOf 3)) = ys4[1]? := hfld4 1 _ rfl
      rw [ki] at q
      rw [jy4_1] at q
      exact q
    obtain ⟨y4_2, jy4_2⟩ : ∃ y, ys4[2]? = some y := ⟨ys4[2]'(by omega), List.getElem?_eq_getElem _⟩
    have t4_2 : DataW.trod enc Try.prog W 0 (fun _ => true) true m4 3 [c12] = some y4_2 := by
      have q : DataW.trod enc Try.prog W 0 (fun _ => true) true m4 3 (([c10, c11, c12, c13, c14, c15, c16].drop 2).take (Try.prog.cellsOf 3)) = ys4[2]? := hfld4 2 _ rfl
      rw [ki] at q
      rw [jy4_2] at q
      exact q
    obtain ⟨y4_3, jy4_3⟩ : ∃ y, ys4[3]? = some y := ⟨ys4[3]'(by omega), List.getElem?_eq_getElem _⟩
    have t4_3 : DataW.trod enc Try.prog W 0 (fun _ => true) true m4 9 [c13] = some y4_3 := by
      have q : DataW.trod enc Try.prog W 0 (fun _ => true) true m4 9 (([c10, c11, c12, c13, c14, c15, c16].drop 3).take (Try.prog.cellsOf 9)) = ys4[3]? := hfld4 3 _ rfl
      rw [ks] at q
      rw [jy4_3] at q
      exact q
    obtain ⟨y4_4, jy4_4⟩ : ∃ y, ys4[4]? = some y := ⟨ys4[4]'(by omega), List.getElem?_eq_getElem _⟩
    have t4_4 : DataW.trod enc Try.prog W 0 (fun _ => true) true m4 3 [c14] = some y4_4 := by
      have q : DataW.trod enc Try.prog W 0 (fun _ => true) true m4 3 (([c10, c11, c12, c13, c14, c15, c16].drop 4).take (Try.prog.cellsOf 3)) = ys4[4]? := hfld4 4 _ rfl
      rw [ki] at q
      rw [jy4_4] at q
      exact q
    obtain ⟨y4_5, jy4_5⟩ : ∃ y, ys4[5]? = some y := ⟨ys4[5]'(by omega), List.getElem?_eq_getElem _⟩
    have t4_5 : DataW.trod enc Try.prog W 0 (fun _ => true) true m4 3 [c15] = some y4_5 := by
      have q : DataW.trod enc Try.prog W 0 (fun _ => true) true m4 3 (([c10, c11, c12, c13, c14, c15, c16].drop 5).take (Try.prog.cellsOf 3)) = ys4[5]? := hfld4 5 _ rfl
      rw [ki] at q
      rw [jy4_5] at q
      exact q
    obtain ⟨y4_6, jy4_6⟩ : ∃ y, ys4[6]? = some y := ⟨ys4[6]'(by omega), List.getElem?_eq_getElem _⟩
    have t4_6 : DataW.trod enc Try.prog W 0 (fun _ => true) true m4 9 [c16] = some y4_6 := by
      have q : DataW.trod enc Try.prog W 0 (fun _ => true) true m4 9 (([c10, c11, c12, c13, c14, c15, c16].drop 6).take (Try.prog.cellsOf 9)) = ys4[6]? := hfld4 6 _ rfl
      rw [ks] at q
      rw [jy4_6] at q
      exact q
    obtain ⟨ys5, m5, _, hx5, _, hyl5, hfld5⟩ := DataW.trod_struct Try.underlying24 t1_3
    have hyn5 : ys5.length = 4 := hyl5
    obtain ⟨y5_0, jy5_0⟩ : ∃ y, ys5[0]? = some y := ⟨ys5[0]'(by omega), List.getElem?_eq_getElem _⟩
    have t5_0 : DataW.trod enc Try.prog W 0 (fun _ => true) true m5 3 [c17] = some y5_0 := by
      have q : DataW.trod enc Try.prog W 0 (fun _ => true) true m5 3 (([c17, c18, c19, c20].drop 0).take (Try.prog.cellsOf 3)) = ys5[0]? := hfld5 0 _ rfl
      rw [ki] at q
      rw [jy5_0] at q
      exact q
    obtain ⟨y5_1, jy5_1⟩ : ∃ y, ys5[1]? = some y := ⟨ys5[1]'(by omega), List.getElem?_eq_getElem _⟩
    have t5_1 : DataW.trod enc Try.prog W 0 (fun _ => true) true m5 3 [c18] = some y5_1 := by
      have q : DataW.trod enc Try.prog W 0 (fun _ => true) true m5 3 (([c17, c18, c19, c20].drop 1).take (Try.prog.cellsOf 3)) = ys5[1]? := hfld5 1 _ rfl
      rw [ki] at q
      rw [jy5_1] at q
      exact q
    obtain ⟨y5_2, jy5_2⟩ : ∃ y, ys5[2]? = some y := ⟨ys5[2]'(by omega), List.getElem?_eq_getElem _⟩
    have t5_2 : DataW.trod enc Try.prog W 0 (fun _ => true) true m5 9 [c19] = some y5_2 := by
      have q : DataW.trod enc Try.prog W 0 (fun _ => true) true m5 9 (([c17, c18, c19, c20].drop 2).take (Try.prog.cellsOf 9)) = ys5[2]? := hfld5 2 _ rfl
      rw [ks] at q
      rw [jy5_2] at q
      exact q
    obtain ⟨y5_3, jy5_3⟩ : ∃ y, ys5[3]? = some y := ⟨ys5[3]'(by omega), List.getElem?_eq_getElem _⟩
    have t5_3 : DataW.trod enc Try.prog W 0 (fun _ => true) true m5 22 [c20] = some y5_3 := by
      have q : DataW.trod enc Try.prog W 0 (fun _ => true) true m5 22 (([c17, c18, c19, c20].drop 3).take (Try.prog.cellsOf 22)) = ys5[3]? := hfld5 3 _ rfl
      rw [kv] at q
      rw [jy5_3] at q
      exact q
    obtain ⟨ys6, m6, _, hx6, _, hyl6, hfld6⟩ := DataW.trod_struct Try.underlying31 t1_6
    have hyn6 : ys6.length = 5 := hyl6
    obtain ⟨y6_0, jy6_0⟩ : ∃ y, ys6[0]? = some y := ⟨ys6[0]'(by omega), List.getElem?_eq_getElem _⟩
    have t6_0 : DataW.trod enc Try.prog W 0 (fun _ => true) true m6 3 [c23] = some y6_0 := by
      have q : DataW.trod enc Try.prog W 0 (fun _ => true) true m6 3 (([c23, c24, c25, c26, c27].drop 0).take (Try.prog.cellsOf 3)) = ys6[0]? := hfld6 0 _ rfl
      rw [ki] at q
      rw [jy6_0] at q
      exact q
    obtain ⟨y6_1, jy6_1⟩ : ∃ y, ys6[1]? = some y := ⟨ys6[1]'(by omega), List.getElem?_eq_getElem _⟩
    have t6_1 : DataW.trod enc Try.prog W 0 (fun _ => true) true m6 3 [c24] = some y6_1 := by
      have q : DataW.trod enc Try.prog W 0 (fun _ => true) true m6 3 (([c23, c24, c25, c26, c27].drop 1).take (Try.prog.cellsOf 3)) = ys6[1]? := hfld6 1 _ rfl
      rw [ki] at q
      rw [jy6_1] at q
      exact q
    obtain ⟨y6_2, jy6_2⟩ : ∃ y, ys6[2]? = some y := ⟨ys6[2]'(by omega), List.getElem?_eq_getElem _⟩
    have t6_2 : DataW.trod enc Try.prog W 0 (fun _ => true) true m6 3 [c25] = some y6_2 := by
      have q : DataW.trod enc Try.prog W 0 (fun _ => true) true m6 3 (([c23, c24, c25, c26, c27].drop 2).take (Try.prog.cellsOf 3)) = ys6[2]? := hfld6 2 _ rfl
      rw [ki] at q
      rw [jy6_2] at q
      exact q
    obtain ⟨y6_3, jy6_3⟩ : ∃ y, ys6[3]? = some y := ⟨ys6[3]'(by omega), List.getElem?_eq_getElem _⟩
    have t6_3 : DataW.trod enc Try.prog W 0 (fun _ => true) true m6 3 [c26] = some y6_3 := by
      have q : DataW.trod enc Try.prog W 0 (fun _ => true) true m6 3 (([c23, c24, c25, c26, c27].drop 3).take (Try.prog.cellsOf 3)) = ys6[3]? := hfld6 3 _ rfl
      rw [ki] at q
      rw [jy6_3] at q
      exact q
    obtain ⟨y6_4, jy6_4⟩ : ∃ y, ys6[4]? = some y := ⟨ys6[4]'(by omega), List.getElem?_eq_getElem _⟩
    have t6_4 : DataW.trod enc Try.prog W 0 (fun _ => true) true m6 9 [c27] = some y6_4 := by
      have q : DataW.trod enc Try.prog W 0 (fun _ => true) true m6 9 (([c23, c24, c25, c26, c27].drop 4).take (Try.prog.cellsOf 9)) = ys6[4]? := hfld6 4 _ rfl
      rw [ks] at q
      rw [jy6_4] at q
      exact q
    obtain ⟨x0, ex0, _, wx0⟩ := DataW.trod_int Try.underlying3 t1_0
    obtain ⟨x1, ex1, _, wx1⟩ := DataW.trod_int Try.underlying3 t2_0
    obtain ⟨x2, ex2, _, wx2⟩ := DataW.trod_int Try.underlying3 t2_1
    obtain ⟨x3, ex3, _, wx3⟩ := DataW.trod_string Try.underlying9 t2_2
    obtain ⟨x4, ex4, _, wx4⟩ := DataW.trod_int Try.underlying3 t3_0
    obtain ⟨x5, ex5, _, wx5⟩ := DataW.trod_int Try.underlying3 t3_1
    obtain ⟨x6, ex6, _, wx6⟩ := DataW.trod_string Try.underlying9 t3_2
    obtain ⟨ax7, lx7, kx7, ex7⟩ := slice_form Try.underlying22 t3_3
    obtain ⟨ax8, lx8, kx8, ex8⟩ := slice_form Try.underlying25 t2_4
    obtain ⟨x9, ex9, _, wx9⟩ := DataW.trod_string Try.underlying9 t2_5
    obtain ⟨x10, ex10, _, wx10⟩ := DataW.trod_int Try.underlying3 t4_0
    obtain ⟨x11, ex11, _, wx11⟩ := DataW.trod_int Try.underlying3 t4_1
    obtain ⟨x12, ex12, _, wx12⟩ := DataW.trod_int Try.underlying3 t4_2
    obtain ⟨x13, ex13, _, wx13⟩ := DataW.trod_string Try.underlying9 t4_3
    obtain ⟨x14, ex14, _, wx14⟩ := DataW.trod_int Try.underlying3 t4_4
    obtain ⟨x15, ex15, _, wx15⟩ := DataW.trod_int Try.underlying3 t4_5
    obtain ⟨x16, ex16, _, wx16⟩ := DataW.trod_string Try.underlying9 t4_6
    obtain ⟨x17, ex17, _, wx17⟩ := DataW.trod_int Try.underlying3 t5_0
    obtain ⟨x18, ex18, _, wx18⟩ := DataW.trod_int Try.underlying3 t5_1
    obtain ⟨x19, ex19, _, wx19⟩ := DataW.trod_string Try.underlying9 t5_2
    obtain ⟨ax20, lx20, kx20, ex20⟩ := slice_form Try.underlying22 t5_3
    obtain ⟨ax21, lx21, kx21, ex21⟩ := slice_form Try.underlying22 t1_4
    obtain ⟨x22, ex22, _, wx22⟩ := DataW.trod_string Try.underlying9 t1_5
    obtain ⟨x23, ex23, _, wx23⟩ := DataW.trod_int Try.underlying3 t6_0
    obtain ⟨x24, ex24, _, wx24⟩ := DataW.trod_int Try.underlying3 t6_1
    obtain ⟨x25, ex25, _, wx25⟩ := DataW.trod_int Try.underlying3 t6_2
    obtain ⟨x26, ex26, _, wx26⟩ := DataW.trod_int Try.underlying3 t6_3
    obtain ⟨x27, ex27, _, wx27⟩ := DataW.trod_string Try.underlying9 t6_4
    simp only [List.cons.injEq, and_true] at ex0 ex1 ex2 ex3 ex4 ex5 ex6 ex7 ex8 ex9 ex10 ex11 ex12 ex13 ex14 ex15 ex16 ex17 ex18 ex19 ex20 ex21 ex22 ex23 ex24 ex25 ex26 ex27
    subst ex0 ex1 ex2 ex3 ex4 ex5 ex6 ex7 ex8 ex9 ex10 ex11 ex12 ex13 ex14 ex15 ex16 ex17 ex18 ex19 ex20 ex21 ex22 ex23 ex24 ex25 ex26 ex27
    obtain ⟨dx7, px7⟩ := y3_3
    obtain ⟨zx7, vx7, okx7, nx7, _⟩ := open_vts (ps := px7) (d := dx7) rfl ⟨m3, t3_3⟩
    obtain rfl := vx7.len
    obtain ⟨dx8, px8⟩ := y2_4
    obtain ⟨zx8, vx8, okx8, nx8⟩ := open_txs (ps := px8) (d := dx8) rfl ⟨m2, t2_4⟩
    obtain rfl := vx8.len
    obtain ⟨dx20, px20⟩ := y5_3
    obtain ⟨zx20, vx20, okx20, nx20, _⟩ := open_vts (ps := px20) (d := dx20) rfl ⟨m5, t5_3⟩
    obtain rfl := vx20.len
    obtain ⟨dx21, px21⟩ := y1_4
    obtain ⟨zx21, vx21, okx21, nx21, _⟩ := open_vts (ps := px21) (d := dx21) rfl ⟨m1, t1_4⟩
    obtain rfl := vx21.len
    refine ⟨⟨x0, ⟨x1, x2, x3, ⟨x4, x5, x6, zx7⟩, zx8, x9⟩, (⟨x10, x11, x12, octsOf x13, x14, x15⟩, x16), ⟨x17, x18, x19, zx20⟩, zx21, x22, (⟨x23, x24, x25, x26⟩, x27)⟩, ⟨(ax7, kx7), (ax8, kx8), (ax20, kx20), (ax21, kx21)⟩, ?_, ⟨vx7, vx8, vx20, vx21⟩, ?_⟩
    · have h3 : strOfNums (octsOf x13) = x13 := strOf_octs _
      show _ = Value.agg #[.int .i64 x0, .int .i64 x1, .int .i64 x2, .string x3, .int .i64 x4, .int .i64 x5, .string x6, .slice ax7 zx7.length kx7, .slice ax8 zx8.length kx8, .string x9, .int .i64 x10, .int .i64 x11, .int .i64 x12, .string (strOfNums (octsOf x13)), .int .i64 x14, .int .i64 x15, .string x16, .int .i64 x17, .int .i64 x18, .string x19, .slice ax20 zx20.length kx20, .slice ax21 zx21.length kx21, .string x22, .int .i64 x23, .int .i64 x24, .int .i64 x25, .int .i64 x26, .string x27]
      rw [h3]
    · exact ⟨i64_of_wf wx0, i64_of_wf wx1, i64_of_wf wx2, i64_of_wf wx4, i64_of_wf wx5, i64_of_wf wx17, i64_of_wf wx18, wx3, wx6, wx9, wx19, wx22, ⟨octsOf_u8s _, wx10, wx11, wx12, (by rw [octsOf_length]; exact wx13), wx14, wx15, wx16⟩, ⟨wx23, wx24, wx25, wx26, wx27⟩, fun x hx => (by obtain ⟨j, hj⟩ := List.getElem?_of_mem hx; exact okx7 j x hj), fun x hx => (by obtain ⟨j, hj⟩ := List.getElem?_of_mem hx; exact okx8 j x hj), fun x hx => (by obtain ⟨j, hj⟩ := List.getElem?_of_mem hx; exact okx20 j x hj), fun x hx => (by obtain ⟨j, hj⟩ := List.getElem?_of_mem hx; exact okx21 j x hj), nx7, nx8, nx20, nx21⟩
end
end Go.Proofs.Ytacamknljicjmaa
