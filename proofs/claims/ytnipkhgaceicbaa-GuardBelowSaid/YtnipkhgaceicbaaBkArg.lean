import Derived.Test.YtnipkhgaceicbaaCtFirst
import Derived.Test.YtnipkhgaceicbaaBkCheck
import Derived.Test.YtnipkhgaceicbaaBkName
import Derived.Test.YtnipkhgaceicbaaCtArgs
namespace Go.Proofs.Ytnipkhgaceicbaa
/-
  block: Leader, Genesis; the page's example.
-/
section
set_option maxRecDepth 100000
section
set_option linter.unusedVariables false
open Go.RowKit Go.Sort Go.Lib

theorem genesis_any (w : World) : Calls Try.prog 43 #[] w fun e w' => e = .returned (.string (strOfNums gen32)) ∧ Up w w' := by
  have H := Lib.hid (fun wx => repeat_zero wx)
  generalize hG : strOfNums gen32 = G at H ⊢
  clear hG
  go_enter Try.func43, Try.ntmps43
  go_wp2_with fail
  with_reducible refine Calls.mono (H.out _) ?_
  rintro e w1 ⟨rfl, u⟩
  have HU := Lib.hid u
  clear u
  go_wp2
  go_ret
  exact ⟨rfl, HU.out⟩
end
end

/-
  A block that came in by value, opened.
-/
section
section
set_option linter.unusedVariables false
set_option maxRecDepth 100000
open Go.ChangeShapes Go.WideShapes Go.ChangeAt Go.RowKit Go.Deep Go.Joins

section
variable {H : Type} {enc : TypeId × Value → H} {W : World}
theorem open_bk {r : Reach} {b0 : Nat} {v : Value} {d : DataW H} {ps : List MemPlace} (hv : Value.okWide Try.prog W r b0 41 v) (h : DataW.Trod enc Try.prog W 0 (fun _ => true) true 41 v d ps) :
    ∃ (V Hh : Int) (P : ByteArray) (JV JH : Int) (JB : ByteArray) (ja : Option Addr) (jn jc : Nat) (ta : Option Addr) (n tc : Nat) (S : ByteArray) (xs : List Ts), v = .agg (bkC V Hh P JV JH JB ja jn jc ta n tc S) ∧ TArg W (.slice ta n tc) xs ∧ n ≤ 9223372036854775807 := by
  obtain ⟨cs, rfl, hsz⟩ := okWide_struct Try.underlying41 hv
  obtain ⟨fuel, hf⟩ := h
  have hC : Try.prog.cellsOf 41 = 9 := by kernel_rfl
  have kC : Try.prog.cellsOf 38 = 4 := by kernel_rfl
  have ki : Try.prog.cellsOf 3 = 1 := by kernel_rfl
  have ks : Try.prog.cellsOf 9 = 1 := by kernel_rfl
  have kt : Try.prog.cellsOf 39 = 1 := by kernel_rfl
  have kv : Try.prog.cellsOf 36 = 1 := by kernel_rfl
  rw [hC] at hsz
  obtain ⟨l⟩ := cs
  match l, hsz, hf with
  | [c0, c1, c2, c3, c4, c5, c6, c7, c8], _, hf =>
    obtain ⟨ys, m, _, hx, _, hyl, hfld⟩ := DataW.trod_struct Try.underlying41 hf
    have hyl6 : ys.length = 6 := hyl
    have get : ∀ i, i < 6 → ∃ y, ys[i]? = some y := fun i hi => ⟨ys[i]'(by omega), List.getElem?_eq_getElem _⟩
    obtain ⟨y0, j0⟩ := get 0 (by decide)
    have t0 : DataW.trod enc Try.prog W 0 (fun _ => true) true m 3 [c0] = some y0 := by
      have q : DataW.trod enc Try.prog W 0 (fun _ => true) true m 3 (([c0, c1, c2, c3, c4, c5, c6, c7, c8].drop 0).take (Try.prog.cellsOf 3)) = ys[0]? := hfld 0 _ rfl
      rw [ki] at q
      rw [j0] at q
      exact q
    obtain ⟨y1, j1⟩ := get 1 (by decide)
    have t1 : DataW.trod enc Try.prog W 0 (fun _ => true) true m 3 [c1] = some y1 := by
      have q : DataW.trod enc Try.prog W 0 (fun _ => true) true m 3 (([c0, c1, c2, c3, c4, c5, c6, c7, c8].drop 1).take (Try.prog.cellsOf 3)) = ys[1]? := hfld 1 _ rfl
      rw [ki] at q
      rw [j1] at q
      exact q
    obtain ⟨y2, j2⟩ := get 2 (by decide)
    have t2 : DataW.trod enc Try.prog W 0 (fun _ => true) true m 9 [c2] = some y2 := by
      have q : DataW.trod enc Try.prog W 0 (fun _ => true) true m 9 (([c0, c1, c2, c3, c4, c5, c6, c7, c8].drop 2).take (Try.prog.cellsOf 9)) = ys[2]? := hfld 2 _ rfl
      rw [ks] at q
      rw [j2] at q
      exact q
    obtain ⟨y3, j3⟩ := get 3 (by decide)
    have t3 : DataW.trod enc Try.prog W 0 (fun _ => true) true m 38 [c3, c4, c5, c6] = some y3 := by
      have q : DataW.trod enc Try.prog W 0 (fun _ => true) true m 38 (([c0, c1, c2, c3, c4, c5, c6, c7, c8].drop 3).take (Try.prog.cellsOf 38)) = ys[3]? := hfld 3 _ rfl
      rw [kC] at q
      rw [j3] at q
      exact q
    obtain ⟨y4, j4⟩ := get 4 (by decide)
    have t4 : DataW.trod enc Try.prog W 0 (fun _ => true) true m 39 [c7] = some y4 := by
      have q : DataW.trod enc Try.prog W 0 (fun _ => true) true m 39 (([c0, c1, c2, c3, c4, c5, c6, c7, c8].drop 7).take (Try.prog.cellsOf 39)) = ys[4]? := hfld 4 _ rfl
      rw [kt] at q
      rw [j4] at q
      exact q
    obtain ⟨y5, j5⟩ := get 5 (by decide)
    have t5 : DataW.trod enc Try.prog W 0 (fun _ => true) true m 9 [c8] = some y5 := by
      have q : DataW.trod enc Try.prog W 0 (fun _ => true) true m 9 (([c0, c1, c2, c3, c4, c5, c6, c7, c8].drop 8).take (Try.prog.cellsOf 9)) = ys[5]? := hfld 5 _ rfl
      rw [ks] at q
      rw [j5] at q
      exact q
    obtain ⟨x0, e0, _, w0⟩ := DataW.trod_int Try.underlying3 t0
    obtain ⟨x1, e1, _, w1⟩ := DataW.trod_int Try.underlying3 t1
    obtain ⟨x2, e2, _, w2⟩ := DataW.trod_string Try.underlying9 t2
    obtain ⟨x8, e8, _, w8⟩ := DataW.trod_string Try.underlying9 t5
    obtain ⟨a7, l7, c7', e7⟩ := slice_form Try.underlying39 t4
    simp only [List.cons.injEq, and_true] at e0 e1 e2 e7 e8
    subst e0 e1 e2 e7 e8
    obtain ⟨zs, m2, _, hx2, _, hzl, hfld2⟩ := DataW.trod_struct Try.underlying38 t3
    have hzl4 : zs.length = 4 := hzl
    have get2 : ∀ i, i < 4 → ∃ y, zs[i]? = some y := fun i hi => ⟨zs[i]'(by omega), List.getElem?_eq_getElem _⟩
    obtain ⟨z0, k0⟩ := get2 0 (by decide)
    have s0 : DataW.trod enc Try.prog W 0 (fun _ => true) true m2 3 [c3] = some z0 := by
      have q : DataW.trod enc Try.prog W 0 (fun _ => true) true m2 3 (([c3, c4, c5, c6].drop 0).take (Try.prog.cellsOf 3)) = zs[0]? := hfld2 0 _ rfl
      rw [ki] at q
      rw [k0] at q
      exact q
    obtain ⟨z1, k1⟩ := get2 1 (by decide)
    have s1 : DataW.trod enc Try.prog W 0 (fun _ => true) true m2 3 [c4] = some z1 := by
      have q : DataW.trod enc Try.prog W 0 (fun _ => true) true m2 3 (([c3, c4, c5, c6].drop 1).take (Try.prog.cellsOf 3)) = zs[1]? := hfld2 1 _ rfl
      rw [ki] at q
      rw [k1] at q
      exact q
    obtain ⟨z2, k2⟩ := get2 2 (by decide)
    have s2 : DataW.trod enc Try.prog W 0 (fun _ => true) true m2 9 [c5] = some z2 := by
      have q : DataW.trod enc Try.prog W 0 (fun _ => true) true m2 9 (([c3, c4, c5, c6].drop 2).take (Try.prog.cellsOf 9)) = zs[2]? := hfld2 2 _ rfl
      rw [ks] at q
      rw [k2] at q
      exact q
    obtain ⟨z3, k3⟩ := get2 3 (by decide)
    have s3 : DataW.trod enc Try.prog W 0 (fun _ => true) true m2 36 [c6] = some z3 := by
      have q : DataW.trod enc Try.prog W 0 (fun _ => true) true m2 36 (([c3, c4, c5, c6].drop 3).take (Try.prog.cellsOf 36)) = zs[3]? := hfld2 3 _ rfl
      rw [kv] at q
      rw [k3] at q
      exact q
    obtain ⟨x3, e3, _, w3⟩ := DataW.trod_int Try.underlying3 s0
    obtain ⟨x4, e4, _, w4⟩ := DataW.trod_int Try.underlying3 s1
    obtain ⟨x5, e5, _, w5⟩ := DataW.trod_string Try.underlying9 s2
    obtain ⟨a6, l6, c6', e6⟩ := slice_form Try.underlying36 s3
    simp only [List.cons.injEq, and_true] at e3 e4 e5 e6
    subst e3 e4 e5 e6
    obtain ⟨dl, pl⟩ := y4
    obtain ⟨xs, g1, g2, g3⟩ := open_txs (ps := pl) (d := dl) rfl ⟨m, t4⟩
    have hl := g1.len
    exact ⟨x0, x1, x2, x3, x4, x5, a6, l6, c6', a7, l7, c7', x8, xs, rfl, g1, by rw [← hl]; exact Nat.le_trans g3 (by decide)⟩
end
end
end
end Go.Proofs.Ytnipkhgaceicbaa
