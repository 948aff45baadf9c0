import Derived.Lib.SmallJoins
import Derived.SizedLaws
import Derived.Test.YtnipkhgaceicbaaTrKit
/-
  Slices of blocks that came in, with their lists.
-/
namespace Go.Proofs.Ytnipkhgaceicbaa
set_option maxRecDepth 100000
section
set_option linter.unusedVariables false
open Go.RowKit Go.Sort Go.Lib

def tbC (x : Tb) : List Value := [.int .i64 x.V, .int .i64 x.H, .string x.P, .int .i64 x.JV, .int .i64 x.JH, .string x.JB, .slice x.ja x.vs.length x.jc, .slice x.ta x.tx.length x.tc, .string x.S]
theorem tbA_eq (x : Tb) : tbA x = (tbC x).toArray := rfl
theorem tbC_len (x : Tb) : (tbC x).length = 9 := rfl
/-- v is a slice of blocks that reads as xs -/
def TbArg (W : World) (v : Value) (xs : List Tb) : Prop := ∃ a cap, v = .slice a xs.length cap ∧ xs.length ≤ cap ∧ (a = none → cap = 0) ∧ (∀ x ∈ xs, TbIn W x) ∧ (xs = [] ∨ ∃ b off, a = some ⟨b, off, none⟩ ∧ ∀ i x, xs[i]? = some x → ∀ k, k < 9 → W.cell? ⟨b, off + (i * 9 + k), none⟩ = some ((tbC x)[k]!))
theorem TbArg.up {W W' : World} {v : Value} {xs : List Tb} (h : TbArg W v xs) (hu : Up W W') : TbArg W' v xs := by
  obtain ⟨a, cap, h1, h2, h3, h0, h4⟩ := h
  refine ⟨a, cap, h1, h2, h3, fun x hx => (h0 x hx).up hu, h4.imp id ?_⟩
  rintro ⟨b, off, h5, h6⟩
  exact ⟨b, off, h5, fun i x hx k hk => later_cellF (h6 i x hx k hk) hu⟩
theorem TbArg.ptr {W : World} {a : Option Addr} {n cap : Nat} {xs : List Tb} (h : TbArg W (.slice a n cap) xs) (hx : 0 < xs.length) : ∃ b off, a = some ⟨b, off, none⟩ := by
  obtain ⟨a', cap', e, h1, h2, h0, h3⟩ := h
  cases e
  rcases h3 with rfl | ⟨b, off, e, _⟩
  · simp at hx
  · exact ⟨b, off, e⟩
theorem TbArg.num {W : World} {a : Option Addr} {n cap : Nat} {xs : List Tb} (h : TbArg W (.slice a n cap) xs) : xs.length = n := by
  obtain ⟨a', cap', e, _⟩ := h
  cases e; rfl
theorem TbArg.lists {W : World} {v : Value} {xs : List Tb} (h : TbArg W v xs) {i : Nat} {x : Tb} (hx : xs[i]? = some x) : TbIn W x := by
  obtain ⟨a', cap', e, h1, h2, h0, h3⟩ := h
  exact h0 x (List.mem_of_getElem? hx)
theorem TbArg.load {W : World} {b off n cap : Nat} {xs : List Tb} (h : TbArg W (.slice (some ⟨b, off, none⟩) n cap) xs) {i : Nat} {x : Tb} (hx : xs[i]? = some x) : (loadVar 41 ⟨b, off + i * 9, none⟩).run Try.prog W = .ok (.agg (tbA x)) W := by
  have hcell : ∀ j v, (tbC x)[j]? = some v → W.cell? ((⟨b, off + i * 9, none⟩ : Addr).add j) = some v := by
    intro j v hv
    have hj : j < 9 := by have := (List.getElem?_eq_some_iff.1 hv).1; rwa [tbC_len] at this
    have ha : ((⟨b, off + i * 9, none⟩ : Addr).add j) = ⟨b, off + (i * 9 + j), none⟩ := by unfold Addr.add; split <;> simp_all [Nat.add_assoc]
    obtain ⟨a', cap', e, h1, h2, h0, h3⟩ := h
    cases e
    have hi : i < xs.length := (List.getElem?_eq_some_iff.1 hx).1
    rcases h3 with rfl | ⟨b', off', e, h4⟩
    · simp at hi
    · cases e
      rw [ha, h4 i x hx j hj, getElem!_pos (tbC x) j (by rw [tbC_len]; exact hj)]
      rw [List.getElem?_eq_getElem (by rw [tbC_len]; exact hj)] at hv
      exact hv
  have h5 := run_loadCellsFrom_list Try.prog W ⟨b, off + i * 9, none⟩ (tbC x) 9 (tbC_len x) hcell
  simp [loadVar, loadCells, Try.isAgg41, Try.sizeOf41, h5, Result.andThen, tbA_eq]
/-- what the form says of a block -/
structure TbOk (x : Tb) : Prop where
  v : (Lit.int .i64 x.V).wf = true
  h : (Lit.int .i64 x.H).wf = true
  p : x.P.size ≤ maxLen
  jv : (Lit.int .i64 x.JV).wf = true
  jh : (Lit.int .i64 x.JH).wf = true
  jb : x.JB.size ≤ maxLen
  s : x.S.size ≤ maxLen
  ts : ∀ (j : Nat) (y : Ts), x.tx[j]? = some y → TsOk y
  vs : ∀ (j : Nat) (y : Vs), x.vs[j]? = some y → VsOk y
section
open Go.ChangeShapes Go.WideShapes Go.ChangeAt Go.Deep Go.Joins
variable {H : Type} {enc : TypeId × Value → H} {W : World}
/-- d is the reading of such a block -/
def TbD (d : DataW H) (x : Tb) : Prop := ∃ d0 d1 d2 e0 e1 e2 e3 d4 d5, d = .agg [d0, d1, d2, .agg [e0, e1, e2, e3], d4, d5] ∧ VsD e3 x.vs.length ∧ TxsD d4 x.tx
theorem trod_tb {m0 : Nat} {l : List Value} {d : DataW H} {pl : List MemPlace} (hsz : l.length = 9) (hf : DataW.trod enc Try.prog W 0 (fun _ => true) true m0 41 l = some (d, pl)) :
    ∃ x : Tb, l = tbC x ∧ TbIn W x ∧ TbOk x ∧ TbD d x := by
  have kC : Try.prog.cellsOf 38 = 4 := by kernel_rfl
  have ki : Try.prog.cellsOf 3 = 1 := by kernel_rfl
  have ks : Try.prog.cellsOf 9 = 1 := by kernel_rfl
  have kt : Try.prog.cellsOf 39 = 1 := by kernel_rfl
  have kv : Try.prog.cellsOf 36 = 1 := by kernel_rfl
  match l, hsz, hf with
  | [c0, c1, c2, c3, c4, c5, c6, c7, c8], _, hf =>
    obtain ⟨ys, m, _, hx, _, hyl, hfld⟩ := DataW.trod_struct Try.underlying41 hf
    have hyl6 : ys.length = 6 := hyl
    have get : ∀ i, i < 6 → ∃ y, ys[i]? = some y := fun i hi => ⟨ys[i]'(by omega), List.getElem?_eq_getElem _⟩
    obtain ⟨y0, j0⟩ := get 0 (by decide)
    have t0 : DataW.trod enc Try.prog W 0 (fun _ => true) true m 3 [c0] = some y0 := by
      have q : DataW.trod enc Try.prog W 0 (fun _ => true) true m 3 (([c0, c1, c2, c3, c4, c5, c6, c7, c8].drop 0).take (Try.prog.cellsOf 3)) = ys[0]? := hfld 0 _ rfl
      rw [ki] at q
      rw [j0] at q
      exact q
    obtain ⟨y1, j1⟩ := get 1 (by decide)
    have t1 : DataW.trod enc Try.prog W 0 (fun _ => true) true m 3 [c1] = some y1 := by
      have q : DataW.trod enc Try.prog W 0 (fun _ => true) true m 3 (([c0, c1, c2, c3, c4, c5, c6, c7, c8].drop 1).take (Try.prog.cellsOf 3)) = ys[1]? := hfld 1 _ rfl
      rw [ki] at q
      rw [j1] at q
      exact q
    obtain ⟨y2, j2⟩ := get 2 (by decide)
    have t2 : DataW.trod enc Try.prog W 0 (fun _ => true) true m 9 [c2] = some y2 := by
      have q : DataW.trod enc Try.prog W 0 (fun _ => true) true m 9 (([c0, c1, c2, c3, c4, c5, c6, c7, c8].drop 2).take (Try.prog.cellsOf 9)) = ys[2]? := hfld 2 _ rfl
      rw [ks] at q
      rw [j2] at q
      exact q
    obtain ⟨y3, j3⟩ := get 3 (by decide)
    have t3 : DataW.trod enc Try.prog W 0 (fun _ => true) true m 38 [c3, c4, c5, c6] = some y3 := by
      have q : DataW.trod enc Try.prog W 0 (fun _ => true) true m 38 (([c0, c1, c2, c3, c4, c5, c6, c7, c8].drop 3).take (Try.prog.cellsOf 38)) = ys[3]? := hfld 3 _ rfl
      rw [kC] at q
      rw [j3] at q
      exact q
    obtain ⟨y4, j4⟩ := get 4 (by decide)
    have t4 : DataW.trod enc Try.prog W 0 (fun _ => true) true m 39 [c7] = some y4 := by
      have q : DataW.trod enc Try.prog W 0 (fun _ => true) true m 39 (([c0, c1, c2, c3, c4, c5, c6, c7, c8].drop 7).take (Try.prog.cellsOf 39)) = ys[4]? := hfld 4 _ rfl
      rw [kt] at q
      rw [j4] at q
      exact q
    obtain ⟨y5, j5⟩ := get 5 (by decide)
    have t5 : DataW.trod enc Try.prog W 0 (fun _ => true) true m 9 [c8] = some y5 := by
      have q : DataW.trod enc Try.prog W 0 (fun _ => true) true m 9 (([c0, c1, c2, c3, c4, c5, c6, c7, c8].drop 8).take (Try.prog.cellsOf 9)) = ys[5]? := hfld 5 _ rfl
      rw [ks] at q
      rw [j5] at q
      exact q
    obtain ⟨x0, e0, _, w0⟩ := DataW.trod_int Try.underlying3 t0
    obtain ⟨x1, e1, _, w1⟩ := DataW.trod_int Try.underlying3 t1
    obtain ⟨x2, e2, _, w2⟩ := DataW.trod_string Try.underlying9 t2
    obtain ⟨x8, e8, _, w8⟩ := DataW.trod_string Try.underlying9 t5
    obtain ⟨a7, l7, c7', e7⟩ := slice_form Try.underlying39 t4
    simp only [List.cons.injEq, and_true] at e0 e1 e2 e7 e8
    subst e0 e1 e2 e7 e8
    obtain ⟨zs, m2, _, hx2, _, hzl, hfld2⟩ := DataW.trod_struct Try.underlying38 t3
    have hzl4 : zs.length = 4 := hzl
    have get2 : ∀ i, i < 4 → ∃ y, zs[i]? = some y := fun i hi => ⟨zs[i]'(by omega), List.getElem?_eq_getElem _⟩
    obtain ⟨z0, k0⟩ := get2 0 (by decide)
    have s0 : DataW.trod enc Try.prog W 0 (fun _ => true) true m2 3 [c3] = some z0 := by
      have q : DataW.trod enc Try.prog W 0 (fun _ => true) true m2 3 (([c3, c4, c5, c6].drop 0).take (Try.prog.cellsOf 3)) = zs[0]? := hfld2 0 _ rfl
      rw [ki] at q
      rw [k0] at q
      exact q
    obtain ⟨z1, k1⟩ := get2 1 (by decide)
    have s1 : DataW.trod enc Try.prog W 0 (fun _ => true) true m2 3 [c4] = some z1 := by
      have q : DataW.trod enc Try.prog W 0 (fun _ => true) true m2 3 (([c3, c4, c5, c6].drop 1).take (Try.prog.cellsOf 3)) = zs[1]? := hfld2 1 _ rfl
      rw [ki] at q
      rw [k1] at q
      exact q
    obtain ⟨z2, k2⟩ := get2 2 (by decide)
    have s2 : DataW.trod enc Try.prog W 0 (fun _ => true) true m2 9 [c5] = some z2 := by
      have q : DataW.trod enc Try.prog W 0 (fun _ => true) true m2 9 (([c3, c4, c5, c6].drop 2).take (Try.prog.cellsOf 9)) = zs[2]? := hfld2 2 _ rfl
      rw [ks] at q
      rw [k2] at q
      exact q
    obtain ⟨z3, k3⟩ := get2 3 (by decide)
    have s3 : DataW.trod enc Try.prog W 0 (fun _ => true) true m2 36 [c6] = some z3 := by
      have q : DataW.trod enc Try.prog W 0 (fun _ => true) true m2 36 (([c3, c4, c5, c6].drop 3).take (Try.prog.cellsOf 36)) = zs[3]? := hfld2 3 _ rfl
      rw [kv] at q
      rw [k3] at q
      exact q
    obtain ⟨x3, e3, _, w3⟩ := DataW.trod_int Try.underlying3 s0
    obtain ⟨x4, e4, _, w4⟩ := DataW.trod_int Try.underlying3 s1
    obtain ⟨x5, e5, _, w5⟩ := DataW.trod_string Try.underlying9 s2
    obtain ⟨a6, l6, c6', e6⟩ := slice_form Try.underlying36 s3
    simp only [List.cons.injEq, and_true] at e3 e4 e5 e6
    subst e3 e4 e5 e6
    obtain ⟨xs, g1, g2, _, g4⟩ := open_txsD (enc := enc) (W := W) (d := y4.1) (ps := y4.2) rfl ⟨m, by simpa [Value.cells] using t4⟩
    have hl7 := g1.len
    obtain ⟨vs, v1, v2, _, v4⟩ := open_vts (enc := enc) (W := W) (d := z3.1) (ps := z3.2) rfl ⟨m2, by simpa [Value.cells] using s3⟩
    have hvl : vs.length = l6 := by
      obtain ⟨a', cap', e, _⟩ := v1
      cases e; rfl
    refine ⟨⟨x0, x1, x2, x3, x4, x5, a6, c6', vs, a7, c7', xs, x8⟩, by simp [tbC, hl7, hvl], ⟨?_, ?_⟩, ⟨w0, w1, w2, w3, w4, w5, w8, g2, v2⟩, ?_⟩
    · show VArg W (.slice a6 vs.length c6') vs
      rw [hvl]; exact v1
    · show TArg W (.slice a7 xs.length c7') xs
      rw [hl7]; exact g1
    · simp only [Prod.mk.injEq] at hx
      have hx2' : y3.1 = .agg (zs.map (·.1)) := by rw [hx2]
      rw [hx.1]
      match ys, hyl6, j3, j4 with
      | [q0, q1, q2, q3, q4, q5], _, j3, j4 =>
        simp at j3 j4
        subst j3 j4
        match zs, hzl4, k3, hx2' with
        | [r0, r1, r2, r3], _, k3, hx2' =>
          simp at k3
          subst k3
          exact ⟨q0.1, q1.1, q2.1, r0.1, r1.1, r2.1, r3.1, q4.1, q5.1, by simp [hx2'], v4, g4⟩
/-- d is the reading of such a slice -/
def TbsD (d : DataW H) (xs : List Tb) : Prop := (d = .nil ∧ xs = []) ∨ ∃ ds spare, d = .slice ds spare ∧ ds.length = xs.length ∧ ∀ (i : Nat) (x : Tb), xs[i]? = some x → ∃ dx, dx ∈ ds ∧ TbD dx x
theorem open_tbs {v : Value} {d : DataW H} {ps : List MemPlace} {a : Option Addr} {len cap : Nat} (hv : v = .slice a len cap) (h : DataW.Trod enc Try.prog W 0 (fun _ => true) true 35 v d ps) :
    ∃ xs : List Tb, TbArg W v xs ∧ (∀ (j : Nat) (x : Tb), xs[j]? = some x → TbOk x) ∧ xs.length ≤ maxLen ∧ TbsD d xs := by
  obtain ⟨fuel, hf⟩ := h
  rw [hv] at hf
  have kB : Try.prog.cellsOf 41 = 9 := by kernel_rfl
  rcases open_slice Try.underlying35 hf with ⟨hcs, hx⟩ | ⟨x, l, c, m, n, D, Pl, hcs, _, hl, hm, hmm, hx, hi⟩
  · simp [Value.cells] at hcs
    obtain ⟨rfl, rfl, rfl⟩ := hcs
    simp only [Prod.mk.injEq] at hx
    exact ⟨[], ⟨none, 0, hv, Nat.le_refl _, fun _ => rfl, fun x hx => by simp at hx, .inl rfl⟩, fun j x hx => by simp at hx, by simp, .inl ⟨hx.1, rfl⟩⟩
  · simp [Value.cells] at hcs
    obtain ⟨rfl, rfl, rfl⟩ := hcs
    simp only [if_true] at hmm
    simp only [Prod.mk.injEq] at hx
    have each : ∀ i, i < len → ∃ y : Tb, TbIn W y ∧ TbOk y ∧ TbD (D i) y ∧ (∀ k, k < 9 → W.cell? ((x.add (i * 9)).add k) = some ((tbC y)[k]!)) := by
      intro i him
      obtain ⟨cs', hc, ht'⟩ := hi i (by omega)
      rw [kB] at hc
      have hc0 : W.cells? 0 (x.add (i * 9)) 9 = some cs' := hc
      obtain ⟨_, hcl, hat⟩ := World.cells?_some hc0
      obtain ⟨y, rfl, h1, h2, h3⟩ := trod_tb hcl ht'
      refine ⟨y, h1, h2, h3, fun k hk => ?_⟩
      rw [hat k hk, getElem!_pos (tbC y) k (by rw [tbC_len]; exact hk)]
      exact List.getElem?_eq_getElem _
    have ib : Inhabited Tb := ⟨tb0⟩
    obtain ⟨F, hF⟩ := choose_lt (α := Tb) (p := fun i y => TbIn W y ∧ TbOk y ∧ TbD (D i) y ∧ (∀ k, k < 9 → W.cell? ((x.add (i * 9)).add k) = some ((tbC y)[k]!))) each
    have hlen : ((List.range len).map F).length = len := by simp
    have hget : ∀ j f, ((List.range len).map F)[j]? = some f → j < len ∧ f = F j := by
      intro j f hj
      have hj2 : j < len := by have := (List.getElem?_eq_some_iff.1 hj).1; simpa using this
      simp [hj2] at hj
      exact ⟨hj2, hj.symm⟩
    refine ⟨(List.range len).map F, ⟨some x, cap, by rw [hlen]; exact hv, by rw [hlen]; exact hl, (fun e => by cases e), ?_, ?_⟩, fun j y hy => ?_, by rw [hlen]; exact Nat.le_trans hl hm, .inr ⟨_, _, hx.1, by rw [hlen]; simp, fun i y hy => ?_⟩⟩
    · intro y hy
      obtain ⟨j, hj⟩ := List.mem_iff_getElem?.1 hy
      obtain ⟨hj2, rfl⟩ := hget j y hj
      exact (hF j hj2).1
    · by_cases h0 : len = 0
      · subst h0; exact .inl rfl
      · right
        obtain ⟨b, off, spot⟩ := x
        have hspot : spot = none := by
          have := addr_plain ((hF 0 (by omega)).2.2.2 0 (by omega))
          simpa [Addr.add] using this
        subst hspot
        refine ⟨b, off, rfl, fun i y hy k hk => ?_⟩
        obtain ⟨hj2, rfl⟩ := hget i y hy
        have := (hF i hj2).2.2.2 k hk
        rwa [addr_addt, addr_addt, Nat.add_assoc] at this
    · obtain ⟨hj2, rfl⟩ := hget j y hy
      exact (hF j hj2).2.1
    · obtain ⟨hj2, rfl⟩ := hget i y hy
      exact ⟨D i, List.mem_map.2 ⟨i, List.mem_range.2 hj2, rfl⟩, (hF i hj2).2.2.1⟩
theorem weightsAll_mem {P : Program} {e : TypeId} : ∀ {l : List (DataW H)} {d : DataW H}, d ∈ l → ∀ n ∈ d.weights P e, n ∈ DataW.weightsAll P e l
  | [], _, h, _, _ => by simp at h
  | x :: r, d, h, n, hn => by
    simp only [DataW.weightsAll, List.mem_append]
    rcases List.mem_cons.1 h with rfl | h
    · exact .inl hn
    · exact .inr (weightsAll_mem h n hn)
theorem vsD_weight {P : Program} {d : DataW H} {n : Nat} (h : VsD d n) {t e : TypeId} (hu : P.underlying t = some (.slice e)) (hw : ∀ k ∈ d.weights P t, k ≤ reachBytes) : n * P.bytesOf e ≤ reachBytes := by
  rcases h with ⟨_, rfl⟩ | ⟨l, sp, rfl, rfl⟩
  · rw [Nat.zero_mul]; decide
  · have := hw ((l.length + sp.length) * P.bytesOf e) (by simp [DataW.weights, hu])
    exact Nat.le_trans (Nat.mul_le_mul_right _ (Nat.le_add_right _ _)) this
theorem txsD_weight {P : Program} {d : DataW H} {xs : List Ts} (h : TxsD d xs) {t e : TypeId} (hu : P.underlying t = some (.slice e)) (hw : ∀ k ∈ d.weights P t, k ≤ reachBytes) : xs.length * P.bytesOf e ≤ reachBytes := by
  rcases h with ⟨_, rfl⟩ | ⟨l, sp, rfl, hl⟩
  · simp
  · have := hw ((l.length + sp.length) * P.bytesOf e) (by simp [DataW.weights, hu])
    rw [← hl]
    exact Nat.le_trans (Nat.mul_le_mul_right _ (Nat.le_add_right _ _)) this
theorem tbD_weight {d : DataW H} {x : Tb} (h : TbD d x) (hw : ∀ k ∈ d.weights Try.prog 41, k ≤ reachBytes) : x.vs.length * 72 ≤ 140737488351232 ∧ x.tx.length * 48 ≤ 140737488351232 := by
  obtain ⟨d0, d1, d2, e0, e1, e2, e3, d4, d5, rfl, hv, ht⟩ := h
  have hb1 : Try.prog.bytesOf 93 = 72 := by kernel_rfl
  have hb2 : Try.prog.bytesOf 90 = 48 := by kernel_rfl
  have hr : reachBytes = 140737488351232 := rfl
  have w3 : ∀ k ∈ e3.weights Try.prog 36, k ≤ reachBytes := fun k hk => hw k (by
    simp only [DataW.weights, Try.underlying41]
    simp [DataW.weights, DataW.weightsEach, Try.underlying38, hk])
  have w4 : ∀ k ∈ d4.weights Try.prog 39, k ≤ reachBytes := fun k hk => hw k (by
    simp only [DataW.weights, Try.underlying41]
    simp [DataW.weights, DataW.weightsEach, Try.underlying38, hk])
  have h1 := vsD_weight hv Try.underlying36 w3
  have h2 := txsD_weight ht Try.underlying39 w4
  rw [hb1, hr] at h1
  rw [hb2, hr] at h2
  exact ⟨h1, h2⟩
theorem reach_tbs {ts : List TypeId} {ds : List (DataW H)} {j : Nat} {xs : List Tb} {d : DataW H} (hD : TbsD d xs) (h : (DataW.weightsEach Try.prog ts ds).all (· ≤ reachBytes) = true) (ht : ts[j]? = some 35) (hd : ds[j]? = some d) :
    ∀ (i : Nat) (x : Tb), xs[i]? = some x → x.vs.length * 72 ≤ 140737488351232 ∧ x.tx.length * 48 ≤ 140737488351232 := by
  intro i x hx
  rcases hD with ⟨_, rfl⟩ | ⟨es, spare, rfl, hl, hE⟩
  · simp at hx
  · obtain ⟨dx, hm, hdx⟩ := hE i x hx
    refine tbD_weight hdx fun k hk => ?_
    have h1 : k ∈ DataW.weightsEach Try.prog ts ds := DataW.weights_mem_each ht hd k (by
      simp only [DataW.weights, Try.underlying35]
      exact List.mem_cons_of_mem _ (List.mem_append.2 (.inl (weightsAll_mem hm k hk))))
    simpa using List.all_eq_true.1 h k h1
theorem reach_tb {ts : List TypeId} {ds : List (DataW H)} {j : Nat} {x : Tb} {d : DataW H} (hD : TbD d x) (h : (DataW.weightsEach Try.prog ts ds).all (· ≤ reachBytes) = true) (ht : ts[j]? = some 41) (hd : ds[j]? = some d) : x.vs.length * 72 ≤ 140737488351232 ∧ x.tx.length * 48 ≤ 140737488351232 :=
  tbD_weight hD fun k hk => by simpa using List.all_eq_true.1 h k (DataW.weights_mem_each ht hd k hk)
/-- a block that came in by value -/
theorem open_tb {r : Reach} {b0 : Nat} {v : Value} {d : DataW H} {ps : List MemPlace} (hv : Value.okWide Try.prog W r b0 41 v) (h : DataW.Trod enc Try.prog W 0 (fun _ => true) true 41 v d ps) :
    ∃ x : Tb, v = .agg (tbA x) ∧ TbIn W x ∧ TbOk x ∧ TbD d x := by
  obtain ⟨cs, rfl, hsz⟩ := okWide_struct Try.underlying41 hv
  obtain ⟨fuel, hf⟩ := h
  have hC : Try.prog.cellsOf 41 = 9 := by kernel_rfl
  rw [hC] at hsz
  obtain ⟨x, h1, h2, h3, h4⟩ := trod_tb (l := cs.toList) (by simpa using hsz) hf
  exact ⟨x, by rw [tbA_eq, ← h1], h2, h3, h4⟩
end
end
end Go.Proofs.Ytnipkhgaceicbaa
