import Derived.Lib.SmallJoins
import Derived.SizedLaws
import Derived.Test.YtfenmhddlojahaaGreatBkValid
import Derived.Test.YtfenmhddlojahaaGreatBkArg
import Derived.Test.YtfenmhddlojahaaGreatCtArgs
/-
  A block and a config that came in by value, opened.
-/
namespace Go.Proofs.YtfenmhddlojahaaGreat
section
set_option linter.unusedVariables false
set_option maxRecDepth 100000
open Go.ChangeShapes Go.WideShapes Go.ChangeAt Go.RowKit Go.Deep Go.Joins

section
variable {H : Type} {enc : TypeId × Value → H} {W : World}
/-- the reading of a block of so many votes -/
def BkD (d : DataW H) (n : Nat) : Prop := ∃ d0 d1 d2 d3 d4 d5, d = .agg [d0, d1, d2, d3, d4, d5] ∧ CtD d3 n
theorem open_bkv {r : Reach} {b0 : Nat} {v : Value} {d : DataW H} {ps : List MemPlace} (hv : Value.okWide Tryz.prog W r b0 55 v) (h : DataW.Trod enc Tryz.prog W 0 (fun _ => true) true 55 v d ps) :
    ∃ (V Hh : Int) (P : ByteArray) (JV JH : Int) (JB : ByteArray) (ja : Option Addr) (jn jc : Nat) (ta : Option Addr) (n tc : Nat) (S : ByteArray) (xs : List Ts), v = .agg (bkC V Hh P JV JH JB ja jn jc ta n tc S) ∧ TArg W (.slice ta n tc) xs ∧ n ≤ 9223372036854775807 ∧ ∃ vs : List Vs, VArg W (.slice ja jn jc) vs ∧ vs.length = jn ∧ (∀ (j : Nat) (x : Vs), vs[j]? = some x → VsOk x) ∧ BkD d jn := by
  obtain ⟨cs, rfl, hsz⟩ := okWide_struct Tryz.underlying55 hv
  obtain ⟨fuel, hf⟩ := h
  have hC : Tryz.prog.cellsOf 55 = 9 := by kernel_rfl
  have kC : Tryz.prog.cellsOf 24 = 4 := by kernel_rfl
  have ki : Tryz.prog.cellsOf 3 = 1 := by kernel_rfl
  have ks : Tryz.prog.cellsOf 9 = 1 := by kernel_rfl
  have kt : Tryz.prog.cellsOf 53 = 1 := by kernel_rfl
  have kv : Tryz.prog.cellsOf 22 = 1 := by kernel_rfl
  rw [hC] at hsz
  obtain ⟨l⟩ := cs
  match l, hsz, hf with
  | [c0, c1, c2, c3, c4, c5, c6, c7, c8], _, hf =>
    obtain ⟨ys, m, _, hx, _, hyl, hfld⟩ := DataW.trod_struct Tryz.underlying55 hf
    have hyl6 : ys.length = 6 := hyl
    have get : ∀ i, i < 6 → ∃ y, ys[i]? = some y := fun i hi => ⟨ys[i]'(by omega), List.getElem?_eq_getElem _⟩
    obtain ⟨y0, j0⟩ := get 0 (by decide)
    have t0 : DataW.trod enc Tryz.prog W 0 (fun _ => true) true m 3 [c0] = some y0 := by
      have q : DataW.trod enc Tryz.prog W 0 (fun _ => true) true m 3 (([c0, c1, c2, c3, c4, c5, c6, c7, c8].drop 0).take (Tryz.prog.cellsOf 3)) = ys[0]? := hfld 0 _ rfl
      rw [ki] at q
      rw [j0] at q
      exact q
    obtain ⟨y1, j1⟩ := get 1 (by decide)
    have t1 : DataW.trod enc Tryz.prog W 0 (fun _ => true) true m 3 [c1] = some y1 := by
      have q : DataW.trod enc Tryz.prog W 0 (fun _ => true) true m 3 (([c0, c1, c2, c3, c4, c5, c6, c7, c8].drop 1).take (Tryz.prog.cellsOf 3)) = ys[1]? := hfld 1 _ rfl
      rw [ki] at q
      rw [j1] at q
      exact q
    obtain ⟨y2, j2⟩ := get 2 (by decide)
    have t2 : DataW.trod enc Tryz.prog W 0 (fun _ => true) true m 9 [c2] = some y2 := by
      have q : DataW.trod enc Tryz.prog W 0 (fun _ => true) true m 9 (([c0, c1, c2, c3, c4, c5, c6, c7, c8].drop 2).take (Tryz.prog.cellsOf 9)) = ys[2]? := hfld 2 _ rfl
      rw [ks] at q
      rw [j2] at q
      exact q
    obtain ⟨y3, j3⟩ := get 3 (by decide)
    have t3 : DataW.trod enc Tryz.prog W 0 (fun _ => true) true m 24 [c3, c4, c5, c6] = some y3 := by
      have q : DataW.trod enc Tryz.prog W 0 (fun _ => true) true m 24 (([c0, c1, c2, c3, c4, c5, c6, c7, c8].drop 3).take (Tryz.prog.cellsOf 24)) = ys[3]? := hfld 3 _ rfl
      rw [kC] at q
      rw [j3] at q
      exact q
    obtain ⟨y4, j4⟩ := get 4 (by decide)
    have t4 : DataW.trod enc Tryz.prog W 0 (fun _ => true) true m 53 [c7] = some y4 := by
      have q : DataW.trod enc Tryz.prog W 0 (fun _ => true) true m 53 (([c0, c1, c2, c3, c4, c5, c6, c7, c8].drop 7).take (Tryz.prog.cellsOf 53)) = ys[4]? := hfld 4 _ rfl
      rw [kt] at q
      rw [j4] at q
      exact q
    obtain ⟨y5, j5⟩ := get 5 (by decide)
    have t5 : DataW.trod enc Tryz.prog W 0 (fun _ => true) true m 9 [c8] = some y5 := by
      have q : DataW.trod enc Tryz.prog W 0 (fun _ => true) true m 9 (([c0, c1, c2, c3, c4, c5, c6, c7, c8].drop 8).take (Tryz.prog.cellsOf 9)) = ys[5]? := hfld 5 _ rfl
      rw [ks] at q
      rw [j5] at q
      exact q
    obtain ⟨x0, e0, _, w0⟩ := DataW.trod_int Tryz.underlying3 t0
    obtain ⟨x1, e1, _, w1⟩ := DataW.trod_int Tryz.underlying3 t1
    obtain ⟨x2, e2, _, w2⟩ := DataW.trod_string Tryz.underlying9 t2
    obtain ⟨x8, e8, _, w8⟩ := DataW.trod_string Tryz.underlying9 t5
    obtain ⟨a7, l7, c7', e7⟩ := slice_form Tryz.underlying53 t4
    simp only [List.cons.injEq, and_true] at e0 e1 e2 e7 e8
    subst e0 e1 e2 e7 e8
    obtain ⟨zs, m2, _, hx2, _, hzl, hfld2⟩ := DataW.trod_struct Tryz.underlying24 t3
    have hzl4 : zs.length = 4 := hzl
    have get2 : ∀ i, i < 4 → ∃ y, zs[i]? = some y := fun i hi => ⟨zs[i]'(by omega), List.getElem?_eq_getElem _⟩
    obtain ⟨z0, k0⟩ := get2 0 (by decide)
    have s0 : DataW.trod enc Tryz.prog W 0 (fun _ => true) true m2 3 [c3] = some z0 := by
      have q : DataW.trod enc Tryz.prog W 0 (fun _ => true) true m2 3 (([c3, c4, c5, c6].drop 0).take (Tryz.prog.cellsOf 3)) = zs[0]? := hfld2 0 _ rfl
      rw [ki] at q
      rw [k0] at q
      exact q
    obtain ⟨z1, k1⟩ := get2 1 (by decide)
    have s1 : DataW.trod enc Tryz.prog W 0 (fun _ => true) true m2 3 [c4] = some z1 := by
      have q : DataW.trod enc Tryz.prog W 0 (fun _ => true) true m2 3 (([c3, c4, c5, c6].drop 1).take (Tryz.prog.cellsOf 3)) = zs[1]? := hfld2 1 _ rfl
      rw [ki] at q
      rw [k1] at q
      exact q
    obtain ⟨z2, k2⟩ := get2 2 (by decide)
    have s2 : DataW.trod enc Tryz.prog W 0 (fun _ => true) true m2 9 [c5] = some z2 := by
      have q : DataW.trod enc Tryz.prog W 0 (fun _ => true) true m2 9 (([c3, c4, c5, c6].drop 2).take (Tryz.prog.cellsOf 9)) = zs[2]? := hfld2 2 _ rfl
      rw [ks] at q
      rw [k2] at q
      exact q
    obtain ⟨z3, k3⟩ := get2 3 (by decide)
    have s3 : DataW.trod enc Tryz.prog W 0 (fun _ => true) true m2 22 [c6] = some z3 := by
      have q : DataW.trod enc Tryz.prog W 0 (fun _ => true) true m2 22 (([c3, c4, c5, c6].drop 3).take (Tryz.prog.cellsOf 22)) = zs[3]? := hfld2 3 _ rfl
      rw [kv] at q
      rw [k3] at q
      exact q
    obtain ⟨x3, e3, _, w3⟩ := DataW.trod_int Tryz.underlying3 s0
    obtain ⟨x4, e4, _, w4⟩ := DataW.trod_int Tryz.underlying3 s1
    obtain ⟨x5, e5, _, w5⟩ := DataW.trod_string Tryz.underlying9 s2
    obtain ⟨a6, l6, c6', e6⟩ := slice_form Tryz.underlying22 s3
    simp only [List.cons.injEq, and_true] at e3 e4 e5 e6
    subst e3 e4 e5 e6
    obtain ⟨dl, pl⟩ := y4
    obtain ⟨xs, g1, g2, g3⟩ := open_txs (ps := pl) (d := dl) rfl ⟨m, t4⟩
    have hl := g1.len
    obtain ⟨dv, pv⟩ := z3
    obtain ⟨vs, v1, v2, _, v4⟩ := open_vts (ps := pv) (d := dv) rfl ⟨m2, s3⟩
    have hvl : vs.length = l6 := by
      obtain ⟨a', cap', e, _⟩ := v1
      cases e; rfl
    refine ⟨x0, x1, x2, x3, x4, x5, a6, l6, c6', a7, l7, c7', x8, xs, rfl, g1, by rw [← hl]; exact Nat.le_trans g3 (by decide), vs, v1, hvl, v2, ?_⟩
    rw [hvl] at v4
    simp only [Prod.mk.injEq] at hx
    have hx2' : y3.1 = .agg (zs.map (·.1)) := by rw [hx2]
    rw [hx.1]
    match ys, hyl6, j3 with
    | [q0, q1, q2, q3, q4, q5], _, j3 =>
      simp at j3
      subst j3
      refine ⟨_, _, _, _, _, _, rfl, ?_⟩
      show CtD q3.1 l6
      rw [hx2']
      match zs, hzl4, k3 with
      | [r0, r1, r2, r3], _, k3 =>
        simp at k3
        subst k3
        exact ⟨_, _, _, _, rfl, v4⟩
theorem reach_bk {ts : List TypeId} {ds : List (DataW H)} {j n : Nat} {d : DataW H} (hD : BkD d n) (h : (DataW.weightsEach Tryz.prog ts ds).all (· ≤ reachBytes) = true) (ht : ts[j]? = some 55) (hd : ds[j]? = some d) : n * 72 ≤ 140737488355328 := by
  obtain ⟨d0, d1, d2, d3, d4, d5, rfl, hS⟩ := hD
  have h1 : (DataW.weightsEach Tryz.prog [3, 3, 9, 24, 53, 9] [d0, d1, d2, d3, d4, d5]).all (· ≤ reachBytes) = true := by
    rw [List.all_eq_true]
    intro n hn
    refine List.all_eq_true.1 h _ (DataW.weights_mem_each ht hd n ?_)
    simp only [DataW.weights, Tryz.underlying55]
    simpa [DataW.weights, DataW.weightsEach] using hn
  exact reach_ct (j := 3) hS h1 rfl rfl
theorem open_cfg {r : Reach} {b0 : Nat} {v : Value} {d : DataW H} {ps : List MemPlace} (hv : Value.okWide Tryz.prog W r b0 57 v) (h : DataW.Trod enc Tryz.prog W 0 (fun _ => true) true 57 v d ps) :
    ∃ (ra : Option Addr) (rc : Nat) (ca : Option Addr) (cc : Nat) (q b0 cp : Int) (ls cs : List (List Int)), v = .agg (cfC ra ls.length rc ca cs.length cc q b0 cp) ∧ Strs W (.slice ra ls.length rc) ls ∧ Strs W (.slice ca cs.length cc) cs ∧ ls.length ≤ 9223372036854775807 ∧ cs.length ≤ 9223372036854775807 := by
  obtain ⟨m, cs, ys, rfl, hsz, hyl, rfl, hf⟩ := open_agg Tryz.underlying57 (by kernel_rfl) (by kernel_rfl) hv h
  obtain ⟨c0, y0, k0, j0, t0⟩ := hf 0 _ rfl
  obtain ⟨c1, y1, k1, j1, t1⟩ := hf 1 _ rfl
  obtain ⟨c2, y2, k2, j2, t2⟩ := hf 2 _ rfl
  obtain ⟨c3, y3, k3, j3, t3⟩ := hf 3 _ rfl
  obtain ⟨c4, y4, k4, j4, t4⟩ := hf 4 _ rfl
  obtain ⟨a0, l0, cc0, e0⟩ := slice_form Tryz.underlying25 t0
  obtain ⟨a1, l1, cc1, e1⟩ := slice_form Tryz.underlying25 t1
  obtain ⟨x2, e2, _, w2⟩ := DataW.trod_int Tryz.underlying3 t2
  obtain ⟨x3, e3, _, w3⟩ := DataW.trod_int Tryz.underlying3 t3
  obtain ⟨x4, e4, _, w4⟩ := DataW.trod_int Tryz.underlying3 t4
  simp only [List.cons.injEq, and_true] at e0 e1 e2 e3 e4
  subst e0 e1 e2 e3 e4
  obtain ⟨dl0, pl0⟩ := y0
  obtain ⟨dl1, pl1⟩ := y1
  obtain ⟨ls, s1, _, s3⟩ := open_strs (ps := pl0) (d := dl0) rfl ⟨m, t0⟩
  obtain ⟨ms, q1, _, q3⟩ := open_strs (ps := pl1) (d := dl1) rfl ⟨m, t1⟩
  have hl0 : l0 = ls.length := by
    obtain ⟨a', cap', e, _⟩ := s1
    cases e; rfl
  have hl1 : l1 = ms.length := by
    obtain ⟨a', cap', e, _⟩ := q1
    cases e; rfl
  subst hl0 hl1
  refine ⟨a0, cc0, a1, cc1, x2, x3, x4, ls, ms, ?_, s1, q1, Nat.le_trans s3 (by decide), Nat.le_trans q3 (by decide)⟩
  rw [array_five hsz k0 k1 k2 k3 k4]
  rfl
end
end
end Go.Proofs.YtfenmhddlojahaaGreat
