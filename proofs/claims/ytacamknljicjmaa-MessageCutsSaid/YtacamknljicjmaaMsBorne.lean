import Derived.Test.YtacamknljicjmaaMsBears
/-
  message: borne, Check.
-/
namespace Go.Proofs.Ytacamknljicjmaa
set_option maxRecDepth 100000
section
set_option linter.unusedVariables false
open Go.RowKit Go.Sort Go.Lib

section
variable {P : Program} {ops : Array Oper} {rest : List Oper} {o : Oper} {a : Act} {w : World} {Q : Exit → Act → World → Prop}
/-- a new box; the world behind it by what is known of it alone -/
theorem wpList_allocT {T : TypeId} {c : Array Value} (hgd : o.guard = none) (ho : o.op = .alloc T) (hr : ∀ w, (Instr.alloc T true (.tuple #[])).run P w = .ok (.pointer (some ⟨w.heap.size, 0, none⟩)) (w.alloc (.cells c T)))
    (h : ∀ b w2, w2.heap[b]? = some (.cells c T (0, 0)) → w.heap.size ≤ b → Up w w2 → wpList P ops Q rest (a.put o.dst (.pointer (some ⟨b, 0, none⟩))) w2) : wpList P ops Q (o :: rest) a w :=
  wpList_ex hgd _ _ (ex_alloc ho w _ (hr w)) (h _ _ (heap_alloc_new w _) (Nat.le_refl _) (Up.alloc (Up.refl w) _))
/-- a whole struct into a box -/
theorem wpList_storeT {T t : TypeId} {x y : Operand} {B : Nat} {c0 c1 : Array Value} (hgd : o.guard = none) (ho : o.op = .store T x y) (hx : a.eval x = .pointer (some ⟨B, 0, none⟩)) (hy : a.eval y = .agg c1) (hg : w.heap[B]? = some (.cells c0 t (0, 0)))
    (hi : (P.info? T).map (·.size) = some c1.size) (hl : c0.size = c1.size) (hone : c1.all (·.oneCell') = true)
    (h : ∀ w2, w2.heap[B]? = some (.cells c1 t (0, 0)) → w.grownBy w2 (some B) → wpList P ops Q rest (a.put o.dst undef) w2) : wpList P ops Q (o :: rest) a w :=
  wpList_exs hgd _ (ex_storerow ho hx hy w t hg hi hl hone) (h _ (setRow_heap w B _ _ t (0, 0) hg) (grownBy_setRow w B c1))
/-- a part of a struct in a box -/
theorem wpList_storeP {T t : TypeId} {x y : Operand} {B off : Nat} {c0 : Array Value} {l : List Value} (hgd : o.guard = none) (hsz : ∀ w, (sizeOf T).run P w = .ok l.length w) (ho : o.op = .store T x y) (hx : a.eval x = .pointer (some ⟨B, off, none⟩)) (hy : a.eval y = .agg l.toArray) (hg : w.heap[B]? = some (.cells c0 t (0, 0)))
    (hfit : off + l.length ≤ c0.size) (hone : ∀ v ∈ l, v.oneCell' = true)
    (h : ∀ w2, w2.heap[B]? = some (.cells (putAt c0 off l) t (0, 0)) → w.grownBy w2 (some B) → wpList P ops Q rest (a.put o.dst undef) w2) : wpList P ops Q (o :: rest) a w :=
  wpList_exs hgd _ (ex_storepart hsz ho hx hy w hg hfit hone) (h _ (setRow_heap w B _ _ t (0, 0) hg) (grownBy_setRow w B _))
/-- a cell of a box -/
theorem wpList_storeC {T t : TypeId} {x y : Operand} {B off : Nat} {c0 : Array Value} {v : Value} (hgd : o.guard = none) (hsz : ∀ w, (sizeOf T).run P w = .ok 1 w) (hv1 : v.cells = #[v]) (ho : o.op = .store T x y) (hx : a.eval x = .pointer (some ⟨B, off, none⟩)) (hy : a.eval y = v) (hg : w.heap[B]? = some (.cells c0 t (0, 0)))
    (hfit : off + 1 ≤ c0.size) (hone : v.oneCell' = true)
    (h : ∀ w2, w2.heap[B]? = some (.cells (putAt c0 off [v]) t (0, 0)) → w.grownBy w2 (some B) → wpList P ops Q rest (a.put o.dst undef) w2) : wpList P ops Q (o :: rest) a w := by
  refine wpList_exs hgd (w.setRow B (putAt c0 off [v])) ?_ (h _ (setRow_heap w B _ _ t (0, 0) hg) (grownBy_setRow w B _))
  have h5 := run_storeCells_at P B off t [v] 0 c0 w hg (by simpa using hfit) (fun u hu => by rw [List.mem_singleton.1 hu]; exact hone)
  unfold execOp; rw [ho]; simp only [hx, hy]
  simp [Instr.storeAt, Instr.sureAddr, storeVar, hv1, hsz, h5, Result.andThen, putAt]
end
/-- nothing -/
def zV : Vs := (⟨0, 0, 0, [], 0, 0⟩, ⟨#[]⟩)
def zC : Cm := ⟨0, 0, ⟨#[]⟩, []⟩
def zB : Bm := ⟨0, 0, ⟨#[]⟩, zC, [], ⟨#[]⟩⟩
def zT : Ts := (⟨0, 0, 0, 0⟩, ⟨#[]⟩)
def zM (K : Int) : Mm := ⟨K, zB, zV, zC, [], ⟨#[]⟩, zT⟩
def zL : Pl := (none, 0)
def zP : Ps := ⟨zL, zL, zL, zL⟩
theorem alloc_ms (w : World) : (Instr.alloc 33 true (.tuple #[])).run Try.prog w = .ok (.pointer (some ⟨w.heap.size, 0, none⟩)) (w.alloc (.cells (msA (zM 0) zP) 33)) := by
  simp [msA, msLs, bkLs, vsC, ctLs, tsC, zM, zV, zC, zB, zT, zP, zL, strOfNums, go_sem]
theorem build_ms (K : Int) (w : World) : (Instr.build 33 #[(0, .int .i64 K)]).run Try.prog w = .ok (.agg (msA (zM K) zP)) w := by
  simp [msA, msLs, bkLs, vsC, ctLs, tsC, zM, zV, zC, zB, zT, zP, zL, strOfNums, go_sem]
theorem results_ms {fn : Func} {p : Tmp} (h : fn.results = #[.cell p 33]) (tmps : Array Value) (w : World) (B : Nat) (cs : Array Value) (hp : tmps.getD p undef = .pointer (some ⟨B, 0, none⟩))
    (hg : w.heap[B]? = some (.cells cs 33 (0, 0))) (hs : cs.size = 28) :
    (results fn tmps).run Try.prog w = .ok (.agg cs) w := by
  have hp' : tmps[p]?.getD undef = .pointer (some ⟨B, 0, none⟩) := by simpa using hp
  have hl := run_loadVar_row (P := Try.prog) w B 33 33 cs (0, 0) _ hg Try.underlying33 rfl (by rw [info_ms, hs])
  simp [results, h, hp', asAddr, hl]
/-- parts set -/
theorem set_b (m : Mm) (p : Ps) (b : Bm) (j x : Pl) : putAt (msA m p) 1 (bkLs b j x) = msA { m with b := b } { p with j := j, x := x } := putAt_mid [.int .i64 m.K] (bkLs m.b p.j p.x) (bkLs b j x) (vsC m.v ++ (ctLs m.c p.c ++ (.slice p.l.1 m.bl.length p.l.2 :: .string m.a :: tsC m.t))) rfl
theorem set_v (m : Mm) (p : Ps) (v : Vs) : putAt (msA m p) 10 (vsC v) = msA { m with v := v } p := putAt_mid (.int .i64 m.K :: bkLs m.b p.j p.x) (vsC m.v) (vsC v) (ctLs m.c p.c ++ (.slice p.l.1 m.bl.length p.l.2 :: .string m.a :: tsC m.t)) rfl
theorem set_c (m : Mm) (p : Ps) (c : Cm) (q : Pl) : putAt (msA m p) 17 (ctLs c q) = msA { m with c := c } { p with c := q } := putAt_mid (.int .i64 m.K :: (bkLs m.b p.j p.x ++ vsC m.v)) (ctLs m.c p.c) (ctLs c q) (.slice p.l.1 m.bl.length p.l.2 :: .string m.a :: tsC m.t) rfl
theorem set_l (m : Mm) (p : Ps) (l : List Vs) (q : Pl) : putAt (msA m p) 21 [.slice q.1 l.length q.2] = msA { m with bl := l } { p with l := q } := putAt_mid (.int .i64 m.K :: (bkLs m.b p.j p.x ++ (vsC m.v ++ ctLs m.c p.c))) [.slice p.l.1 m.bl.length p.l.2] [.slice q.1 l.length q.2] (.string m.a :: tsC m.t) rfl
theorem set_a (m : Mm) (p : Ps) (a : ByteArray) : putAt (msA m p) 22 [.string a] = msA { m with a := a } p := by
  have h := putAt_mid (Value.int .i64 m.K :: (bkLs m.b p.j p.x ++ (vsC m.v ++ (ctLs m.c p.c ++ [Value.slice p.l.1 m.bl.length p.l.2])))) [Value.string m.a] [Value.string a] (tsC m.t) rfl
  exact h
theorem set_t (m : Mm) (p : Ps) (t : Ts) : putAt (msA m p) 23 (tsC t) = msA { m with t := t } p := by
  have h := putAt_mid (.int .i64 m.K :: (bkLs m.b p.j p.x ++ (vsC m.v ++ (ctLs m.c p.c ++ [.slice p.l.1 m.bl.length p.l.2, .string m.a])))) (tsC m.t) (tsC t) [] rfl
  exact h
/-- what is borne, all else being zero -/
def borneM (m : Mm) : Mm :=
  if m.K = 1 then { zM m.K with b := m.b } else if m.K = 2 then { zM m.K with v := m.v } else if m.K = 3 then { zM m.K with c := m.c } else if m.K = 4 then { zM m.K with bl := m.bl } else if m.K = 5 then { zM m.K with a := m.a } else if m.K = 6 then { zM m.K with t := m.t } else zM m.K
def borneP (m : Mm) (p : Ps) : Ps :=
  if m.K = 1 then { zP with j := p.j, x := p.x } else if m.K = 3 then { zP with c := p.c } else if m.K = 4 then { zP with l := p.l } else zP
theorem bkLs_one (b : Bm) (p q : Pl) : ∀ v ∈ bkLs b p q, v.oneCell' = true := by intro v hv; simp [bkLs] at hv; rcases hv with rfl | rfl | rfl | rfl | rfl | rfl | rfl | rfl | rfl <;> rfl
theorem ctLs_one (c : Cm) (p : Pl) : ∀ v ∈ ctLs c p, v.oneCell' = true := by intro v hv; simp [ctLs] at hv; rcases hv with rfl | rfl | rfl | rfl <;> rfl
theorem tsC_one (t : Ts) : ∀ v ∈ tsC t, v.oneCell' = true := by intro v hv; simp [tsC] at hv; rcases hv with rfl | rfl | rfl | rfl | rfl <;> rfl
theorem ex_build1 {P : Program} {o : Oper} {ρ : Operand → Value} {v : Value} {x0 : Operand} {t : TypeId} {v0 : Value} (w w' : World) (hr : (Instr.build t #[(0, v0)]).run P w = .ok v w') (hop : o.op = .build t #[(0, x0)]) (h0 : ρ x0 = v0) : (execOp ρ o).run P w = .ok (.value v) w' :=
  ex_build hop (by simp only [List.map_toArray, List.map_cons, List.map_nil, h0]) w w' hr

set_option maxHeartbeats 4000000 in
theorem borne_any (m : Mm) (p : Ps) (w : World) :
    Calls Try.prog 23 #[.agg (msA m p)] w fun e w' => e = .returned (.agg (msA (borneM m) (borneP m p))) ∧ Up w w' := by
  have hu := Up.alloc (Up.refl w) (.cells (msA m p) 33)
  have hb := heap_alloc_new w (.cells (msA m p) 33)
  have HU := Lib.hid hu
  have HB : Hid (∀ wx, Up (w.alloc (.cells (msA m p) 33)) wx → wx.heap[w.heap.size]? = some (.cells (msA m p) 33 (0, 0))) := fun wx u => (u.block _ (lt_of_block hb)).trans hb
  have M := Lib.hid (mbox m p)
  have Z0 : Hid ((msA (zM 0) zP).size = 28 ∧ ∀ w : World, (Instr.alloc 33 true (.tuple #[])).run Try.prog w = .ok (.pointer (some ⟨w.heap.size, 0, none⟩)) (w.alloc (.cells (msA (zM 0) zP) 33))) := ⟨rfl, alloc_ms⟩
  have ZK : Hid ((msA (zM m.K) zP).size = 28 ∧ (msA (zM m.K) zP).all (·.oneCell') = true ∧ ∀ w : World, (Instr.build 33 #[(0, .int .i64 m.K)]).run Try.prog w = .ok (.agg (msA (zM m.K) zP)) w) := ⟨rfl, msA_one _ _, build_ms m.K⟩
  have S1 : Hid (m.K = 1 → msA (borneM m) (borneP m p) = putAt (msA (zM m.K) zP) 1 (bkLs m.b p.j p.x)) := fun g => by rw [set_b]; unfold borneM borneP; simp [g]
  have S2 : Hid (m.K = 2 → msA (borneM m) (borneP m p) = putAt (msA (zM m.K) zP) 10 (vsC m.v)) := fun g => by rw [set_v]; unfold borneM borneP; simp [g]
  have S3 : Hid (m.K = 3 → msA (borneM m) (borneP m p) = putAt (msA (zM m.K) zP) 17 (ctLs m.c p.c)) := fun g => by rw [set_c]; unfold borneM borneP; simp [g]
  have S4 : Hid (m.K = 4 → msA (borneM m) (borneP m p) = putAt (msA (zM m.K) zP) 21 [.slice p.l.1 m.bl.length p.l.2]) := fun g => by rw [set_l]; unfold borneM borneP; simp [g]
  have S5 : Hid (m.K = 5 → msA (borneM m) (borneP m p) = putAt (msA (zM m.K) zP) 22 [.string m.a]) := fun g => by rw [set_a]; unfold borneM borneP; simp [g]
  have S6 : Hid (m.K = 6 → msA (borneM m) (borneP m p) = putAt (msA (zM m.K) zP) 23 (tsC m.t)) := fun g => by rw [set_t]; unfold borneM borneP; simp [g]
  have S0 : Hid (m.K ≠ 1 → m.K ≠ 2 → m.K ≠ 3 → m.K ≠ 4 → m.K ≠ 5 → m.K ≠ 6 → msA (borneM m) (borneP m p) = msA (zM m.K) zP) := fun g1 g2 g3 g4 g5 g6 => by unfold borneM borneP; simp [g1, g2, g3, g4, g5, g6]
  have RN : Hid ((msA (borneM m) (borneP m p)).size = 28 ∧ (msA (borneM m) (borneP m p)).all (·.oneCell') = true) := ⟨rfl, msA_one _ _⟩
  have L1 : Hid ((bkLs m.b p.j p.x).length = 9 ∧ ∀ v ∈ bkLs m.b p.j p.x, v.oneCell' = true) := ⟨rfl, bkLs_one _ _ _⟩
  have L2 : Hid ((vsC m.v).length = 7 ∧ ∀ v ∈ vsC m.v, v.oneCell' = true) := ⟨rfl, vsC_one _⟩
  have L3 : Hid ((ctLs m.c p.c).length = 4 ∧ ∀ v ∈ ctLs m.c p.c, v.oneCell' = true) := ⟨rfl, ctLs_one _ _⟩
  have L6 : Hid ((tsC m.t).length = 5 ∧ ∀ v ∈ tsC m.t, v.oneCell' = true) := ⟨rfl, tsC_one _⟩
  clear hu hb
  generalize msA (borneM m) (borneP m p) = RES at *
  generalize msA (zM 0) zP = z0 at *
  generalize msA (zM m.K) zP = zk at *
  generalize msA m p = cs at *
  generalize bkLs m.b p.j p.x = lb at *
  generalize vsC m.v = lv at *
  generalize ctLs m.c p.c = lc at *
  generalize tsC m.t = lt at *
  generalize m.bl.length = n1 at *
  generalize p.l.1 = a1 at *
  generalize p.l.2 = k1 at *
  generalize m.K = K at *
  generalize m.a = A at *
  by_cases g1 : K = 1
  · subst g1
    have hr := Lib.hid (S1.out rfl)
    clear S0 S1 S2 S3 S4 S5 S6
    go_enter Try.func23, Try.ntmps23
    go_wp2_with (refine wpList_allocT rfl rfl Z0.out.2 ?_; intro b2 w2 k2 s2 u2; refine Hid.out ?_)
    refine Lib.hid ?_
    have HB2 := Lib.hid (HB.out w2 u2)
    generalize w.heap.size = b1 at HB HB2 ⊢
    go_wp2_with (refine wpList_ex rfl (.int .i64 1) _ (ex_loadcell (cs := cs) Try.isAgg3 rfl rfl _ (HB2.out) M.out.k) ?_; refine Hid.out ?_)
    refine Lib.hid ?_
    go_wp2_with (refine wpList_ex rfl (.agg zk) _ (ex_build1 _ _ (ZK.out.2.2 _) rfl rfl) ?_; refine Hid.out ?_)
    refine Lib.hid ?_
    go_wp2_with (refine wpList_allocT rfl rfl Z0.out.2 ?_; intro b3 w3 k3 s3 u3; refine Hid.out ?_)
    refine Lib.hid ?_
    have HB3 := Lib.hid (HB.out w3 (Up.trans u2 u3))
    have HB23 := Lib.hid ((u3.block _ (lt_of_block k2)).trans k2)
    go_wp2_with (refine wpList_storeT (B := b3) rfl rfl rfl rfl k3 (by rw [info_ms, ZK.out.1]) (by rw [Z0.out.1, ZK.out.1]) ZK.out.2.1 ?_; intro w4 k4 g4; refine Hid.out ?_)
    refine Lib.hid ?_
    have HB4 := Lib.hid ((g4.block _ (lt_of_block HB3.out) (fun e => by have := lt_of_block HB2.out; simp at e; omega)).trans HB3.out)
    have HB24 := Lib.hid ((g4.block _ (lt_of_block HB23.out) (fun e => by have := lt_of_block k2; simp at e; omega)).trans HB23.out)
    have U4 := Lib.hid (up_at (Up.trans HU.out (Up.trans u2 u3)) g4 (by have := HU.out.size; have := u2.size; omega))
    go_wp2_with (refine wpList_ex rfl (.int .i64 1) _ (ex_loadcell (cs := cs) Try.isAgg3 rfl rfl _ (HB4.out) M.out.k) ?_; refine Hid.out ?_)
    refine Lib.hid ?_
    go_wp2_with (refine wpList_ex rfl (.agg lb.toArray) _ (ex_loadpart (cs := cs) 9 Try.isAgg27 Try.sizeOf27 rfl rfl _ HB4.out M.out.b M.out.bn) ?_; refine Hid.out ?_)
    refine Lib.hid ?_
    go_wp2_with (refine wpList_storeP (B := b3) (off := 1) rfl (by rw [L1.out.1]; exact Try.sizeOf27) rfl rfl rfl k4 (by rw [L1.out.1, ZK.out.1]; decide) L1.out.2 ?_; intro w5 k5 g5; refine Hid.out ?_)
    refine Lib.hid ?_
    rw [← hr.out] at k5
    have HB25 := Lib.hid ((g5.block _ (lt_of_block HB24.out) (fun e => by have := lt_of_block k2; simp at e; omega)).trans HB24.out)
    have U5 := Lib.hid (up_at U4.out g5 (by have := HU.out.size; have := u2.size; omega))
    go_wp2_with (refine wpList_ex rfl (.agg RES) w5 (ex_loadrow rfl rfl w5 33 k5 Try.underlying33 rfl (by rw [info_ms, RN.out.1])) ?_; refine Hid.out ?_)
    refine Lib.hid ?_
    go_wp2_with (refine wpList_storeT (B := b2) rfl rfl rfl rfl HB25.out (by rw [info_ms, RN.out.1]) (by rw [Z0.out.1, RN.out.1]) RN.out.2 ?_; intro w6 k6 g6; refine Hid.out ?_)
    refine Lib.hid ?_
    go_wp2
    exact bodyPost_ret (results_ms rfl _ _ _ _ rfl k6 RN.out.1) rfl ⟨rfl, up_at U5.out g6 (by have := HU.out.size; omega)⟩
  by_cases g2 : K = 2
  · subst g2
    have hr := Lib.hid (S2.out rfl)
    clear S0 S1 S2 S3 S4 S5 S6 g1
    go_enter Try.func23, Try.ntmps23
    go_wp2_with (refine wpList_allocT rfl rfl Z0.out.2 ?_; intro b2 w2 k2 s2 u2; refine Hid.out ?_)
    refine Lib.hid ?_
    have HB2 := Lib.hid (HB.out w2 u2)
    generalize w.heap.size = b1 at HB HB2 ⊢
    go_wp2_with (refine wpList_ex rfl (.int .i64 2) _ (ex_loadcell (cs := cs) Try.isAgg3 rfl rfl _ (HB2.out) M.out.k) ?_; refine Hid.out ?_)
    refine Lib.hid ?_
    go_wp2_with (refine wpList_ex rfl (.agg zk) _ (ex_build1 _ _ (ZK.out.2.2 _) rfl rfl) ?_; refine Hid.out ?_)
    refine Lib.hid ?_
    go_wp2_with (refine wpList_allocT rfl rfl Z0.out.2 ?_; intro b3 w3 k3 s3 u3; refine Hid.out ?_)
    refine Lib.hid ?_
    have HB3 := Lib.hid (HB.out w3 (Up.trans u2 u3))
    have HB23 := Lib.hid ((u3.block _ (lt_of_block k2)).trans k2)
    go_wp2_with (refine wpList_storeT (B := b3) rfl rfl rfl rfl k3 (by rw [info_ms, ZK.out.1]) (by rw [Z0.out.1, ZK.out.1]) ZK.out.2.1 ?_; intro w4 k4 g4; refine Hid.out ?_)
    refine Lib.hid ?_
    have HB4 := Lib.hid ((g4.block _ (lt_of_block HB3.out) (fun e => by have := lt_of_block HB2.out; simp at e; omega)).trans HB3.out)
    have HB24 := Lib.hid ((g4.block _ (lt_of_block HB23.out) (fun e => by have := lt_of_block k2; simp at e; omega)).trans HB23.out)
    have U4 := Lib.hid (up_at (Up.trans HU.out (Up.trans u2 u3)) g4 (by have := HU.out.size; have := u2.size; omega))
    go_wp2_with (refine wpList_ex rfl (.int .i64 2) _ (ex_loadcell (cs := cs) Try.isAgg3 rfl rfl _ (HB4.out) M.out.k) ?_; refine Hid.out ?_)
    refine Lib.hid ?_
    go_wp2_with (refine wpList_ex rfl (.agg lv.toArray) _ (ex_loadpart (cs := cs) 7 Try.isAgg29 Try.sizeOf29 rfl rfl _ HB4.out M.out.v M.out.vn) ?_; refine Hid.out ?_)
    refine Lib.hid ?_
    go_wp2_with (refine wpList_storeP (B := b3) (off := 10) rfl (by rw [L2.out.1]; exact Try.sizeOf29) rfl rfl rfl k4 (by rw [L2.out.1, ZK.out.1]; decide) L2.out.2 ?_; intro w5 k5 g5; refine Hid.out ?_)
    refine Lib.hid ?_
    rw [← hr.out] at k5
    have HB25 := Lib.hid ((g5.block _ (lt_of_block HB24.out) (fun e => by have := lt_of_block k2; simp at e; omega)).trans HB24.out)
    have U5 := Lib.hid (up_at U4.out g5 (by have := HU.out.size; have := u2.size; omega))
    go_wp2_with (refine wpList_ex rfl (.agg RES) w5 (ex_loadrow rfl rfl w5 33 k5 Try.underlying33 rfl (by rw [info_ms, RN.out.1])) ?_; refine Hid.out ?_)
    refine Lib.hid ?_
    go_wp2_with (refine wpList_storeT (B := b2) rfl rfl rfl rfl HB25.out (by rw [info_ms, RN.out.1]) (by rw [Z0.out.1, RN.out.1]) RN.out.2 ?_; intro w6 k6 g6; refine Hid.out ?_)
    refine Lib.hid ?_
    go_wp2
    exact bodyPost_ret (results_ms rfl _ _ _ _ rfl k6 RN.out.1) rfl ⟨rfl, up_at U5.out g6 (by have := HU.out.size; omega)⟩
  by_cases g3 : K = 3
  · subst g3
    have hr := Lib.hid (S3.out rfl)
    clear S0 S1 S2 S3 S4 S5 S6 g1 g2
    go_enter Try.func23, Try.ntmps23
    go_wp2_with (refine wpList_allocT rfl rfl Z0.out.2 ?_; intro b2 w2 k2 s2 u2; refine Hid.out ?_)
    refine Lib.hid ?_
    have HB2 := Lib.hid (HB.out w2 u2)
    generalize w.heap.size = b1 at HB HB2 ⊢
    go_wp2_with (refine wpList_ex rfl (.int .i64 3) _ (ex_loadcell (cs := cs) Try.isAgg3 rfl rfl _ (HB2.out) M.out.k) ?_; refine Hid.out ?_)
    refine Lib.hid ?_
    go_wp2_with (refine wpList_ex rfl (.agg zk) _ (ex_build1 _ _ (ZK.out.2.2 _) rfl rfl) ?_; refine Hid.out ?_)
    refine Lib.hid ?_
    go_wp2_with (refine wpList_allocT rfl rfl Z0.out.2 ?_; intro b3 w3 k3 s3 u3; refine Hid.out ?_)
    refine Lib.hid ?_
    have HB3 := Lib.hid (HB.out w3 (Up.trans u2 u3))
    have HB23 := Lib.hid ((u3.block _ (lt_of_block k2)).trans k2)
    go_wp2_with (refine wpList_storeT (B := b3) rfl rfl rfl rfl k3 (by rw [info_ms, ZK.out.1]) (by rw [Z0.out.1, ZK.out.1]) ZK.out.2.1 ?_; intro w4 k4 g4; refine Hid.out ?_)
    refine Lib.hid ?_
    have HB4 := Lib.hid ((g4.block _ (lt_of_block HB3.out) (fun e => by have := lt_of_block HB2.out; simp at e; omega)).trans HB3.out)
    have HB24 := Lib.hid ((g4.block _ (lt_of_block HB23.out) (fun e => by have := lt_of_block k2; simp at e; omega)).trans HB23.out)
    have U4 := Lib.hid (up_at (Up.trans HU.out (Up.trans u2 u3)) g4 (by have := HU.out.size; have := u2.size; omega))
    go_wp2_with (refine wpList_ex rfl (.int .i64 3) _ (ex_loadcell (cs := cs) Try.isAgg3 rfl rfl _ (HB4.out) M.out.k) ?_; refine Hid.out ?_)
    refine Lib.hid ?_
    go_wp2_with (refine wpList_ex rfl (.agg lc.toArray) _ (ex_loadpart (cs := cs) 4 Try.isAgg24 Try.sizeOf24 rfl rfl _ HB4.out M.out.c M.out.cn) ?_; refine Hid.out ?_)
    refine Lib.hid ?_
    go_wp2_with (refine wpList_storeP (B := b3) (off := 17) rfl (by rw [L3.out.1]; exact Try.sizeOf24) rfl rfl rfl k4 (by rw [L3.out.1, ZK.out.1]; decide) L3.out.2 ?_; intro w5 k5 g5; refine Hid.out ?_)
    refine Lib.hid ?_
    rw [← hr.out] at k5
    have HB25 := Lib.hid ((g5.block _ (lt_of_block HB24.out) (fun e => by have := lt_of_block k2; simp at e; omega)).trans HB24.out)
    have U5 := Lib.hid (up_at U4.out g5 (by have := HU.out.size; have := u2.size; omega))
    go_wp2_with (refine wpList_ex rfl (.agg RES) w5 (ex_loadrow rfl rfl w5 33 k5 Try.underlying33 rfl (by rw [info_ms, RN.out.1])) ?_; refine Hid.out ?_)
    refine Lib.hid ?_
    go_wp2_with (refine wpList_storeT (B := b2) rfl rfl rfl rfl HB25.out (by rw [info_ms, RN.out.1]) (by rw [Z0.out.1, RN.out.1]) RN.out.2 ?_; intro w6 k6 g6; refine Hid.out ?_)
    refine Lib.hid ?_
    go_wp2
    exact bodyPost_ret (results_ms rfl _ _ _ _ rfl k6 RN.out.1) rfl ⟨rfl, up_at U5.out g6 (by have := HU.out.size; omega)⟩
  by_cases g4 : K = 4
  · subst g4
    have hr := Lib.hid (S4.out rfl)
    clear S0 S1 S2 S3 S4 S5 S6 g1 g2 g3
    go_enter Try.func23, Try.ntmps23
    go_wp2_with (refine wpList_allocT rfl rfl Z0.out.2 ?_; intro b2 w2 k2 s2 u2; refine Hid.out ?_)
    refine Lib.hid ?_
    have HB2 := Lib.hid (HB.out w2 u2)
    generalize w.heap.size = b1 at HB HB2 ⊢
    go_wp2_with (refine wpList_ex rfl (.int .i64 4) _ (ex_loadcell (cs := cs) Try.isAgg3 rfl rfl _ (HB2.out) M.out.k) ?_; refine Hid.out ?_)
    refine Lib.hid ?_
    go_wp2_with (refine wpList_ex rfl (.agg zk) _ (ex_build1 _ _ (ZK.out.2.2 _) rfl rfl) ?_; refine Hid.out ?_)
    refine Lib.hid ?_
    go_wp2_with (refine wpList_allocT rfl rfl Z0.out.2 ?_; intro b3 w3 k3 s3 u3; refine Hid.out ?_)
    refine Lib.hid ?_
    have HB3 := Lib.hid (HB.out w3 (Up.trans u2 u3))
    have HB23 := Lib.hid ((u3.block _ (lt_of_block k2)).trans k2)
    go_wp2_with (refine wpList_storeT (B := b3) rfl rfl rfl rfl k3 (by rw [info_ms, ZK.out.1]) (by rw [Z0.out.1, ZK.out.1]) ZK.out.2.1 ?_; intro w4 k4 g4; refine Hid.out ?_)
    refine Lib.hid ?_
    have HB4 := Lib.hid ((g4.block _ (lt_of_block HB3.out) (fun e => by have := lt_of_block HB2.out; simp at e; omega)).trans HB3.out)
    have HB24 := Lib.hid ((g4.block _ (lt_of_block HB23.out) (fun e => by have := lt_of_block k2; simp at e; omega)).trans HB23.out)
    have U4 := Lib.hid (up_at (Up.trans HU.out (Up.trans u2 u3)) g4 (by have := HU.out.size; have := u2.size; omega))
    go_wp2_with (refine wpList_ex rfl (.int .i64 4) _ (ex_loadcell (cs := cs) Try.isAgg3 rfl rfl _ (HB4.out) M.out.k) ?_; refine Hid.out ?_)
    refine Lib.hid ?_
    go_wp2_with (refine wpList_ex rfl (.slice a1 n1 k1) _ (ex_loadcell (cs := cs) Try.isAgg22 rfl rfl _ HB4.out M.out.l) ?_; refine Hid.out ?_)
    refine Lib.hid ?_
    go_wp2_with (refine wpList_storeC (B := b3) (off := 21) (v := .slice a1 n1 k1) rfl Try.sizeOf22 rfl rfl rfl rfl k4 (by rw [ZK.out.1]; decide) rfl ?_; intro w5 k5 g5; refine Hid.out ?_)
    refine Lib.hid ?_
    rw [← hr.out] at k5
    have HB25 := Lib.hid ((g5.block _ (lt_of_block HB24.out) (fun e => by have := lt_of_block k2; simp at e; omega)).trans HB24.out)
    have U5 := Lib.hid (up_at U4.out g5 (by have := HU.out.size; have := u2.size; omega))
    go_wp2_with (refine wpList_ex rfl (.agg RES) w5 (ex_loadrow rfl rfl w5 33 k5 Try.underlying33 rfl (by rw [info_ms, RN.out.1])) ?_; refine Hid.out ?_)
    refine Lib.hid ?_
    go_wp2_with (refine wpList_storeT (B := b2) rfl rfl rfl rfl HB25.out (by rw [info_ms, RN.out.1]) (by rw [Z0.out.1, RN.out.1]) RN.out.2 ?_; intro w6 k6 g6; refine Hid.out ?_)
    refine Lib.hid ?_
    go_wp2
    exact bodyPost_ret (results_ms rfl _ _ _ _ rfl k6 RN.out.1) rfl ⟨rfl, up_at U5.out g6 (by have := HU.out.size; omega)⟩
  by_cases g5 : K = 5
  · subst g5
    have hr := Lib.hid (S5.out rfl)
    clear S0 S1 S2 S3 S4 S5 S6 g1 g2 g3 g4
    go_enter Try.func23, Try.ntmps23
    go_wp2_with (refine wpList_allocT rfl rfl Z0.out.2 ?_; intro b2 w2 k2 s2 u2; refine Hid.out ?_)
    refine Lib.hid ?_
    have HB2 := Lib.hid (HB.out w2 u2)
    generalize w.heap.size = b1 at HB HB2 ⊢
    go_wp2_with (refine wpList_ex rfl (.int .i64 5) _ (ex_loadcell (cs := cs) Try.isAgg3 rfl rfl _ (HB2.out) M.out.k) ?_; refine Hid.out ?_)
    refine Lib.hid ?_
    go_wp2_with (refine wpList_ex rfl (.agg zk) _ (ex_build1 _ _ (ZK.out.2.2 _) rfl rfl) ?_; refine Hid.out ?_)
    refine Lib.hid ?_
    go_wp2_with (refine wpList_allocT rfl rfl Z0.out.2 ?_; intro b3 w3 k3 s3 u3; refine Hid.out ?_)
    refine Lib.hid ?_
    have HB3 := Lib.hid (HB.out w3 (Up.trans u2 u3))
    have HB23 := Lib.hid ((u3.block _ (lt_of_block k2)).trans k2)
    go_wp2_with (refine wpList_storeT (B := b3) rfl rfl rfl rfl k3 (by rw [info_ms, ZK.out.1]) (by rw [Z0.out.1, ZK.out.1]) ZK.out.2.1 ?_; intro w4 k4 g4; refine Hid.out ?_)
    refine Lib.hid ?_
    have HB4 := Lib.hid ((g4.block _ (lt_of_block HB3.out) (fun e => by have := lt_of_block HB2.out; simp at e; omega)).trans HB3.out)
    have HB24 := Lib.hid ((g4.block _ (lt_of_block HB23.out) (fun e => by have := lt_of_block k2; simp at e; omega)).trans HB23.out)
    have U4 := Lib.hid (up_at (Up.trans HU.out (Up.trans u2 u3)) g4 (by have := HU.out.size; have := u2.size; omega))
    go_wp2_with (refine wpList_ex rfl (.int .i64 5) _ (ex_loadcell (cs := cs) Try.isAgg3 rfl rfl _ (HB4.out) M.out.k) ?_; refine Hid.out ?_)
    refine Lib.hid ?_
    go_wp2_with (refine wpList_ex rfl (.string A) _ (ex_loadcell (cs := cs) Try.isAgg9 rfl rfl _ HB4.out M.out.a) ?_; refine Hid.out ?_)
    refine Lib.hid ?_
    go_wp2_with (refine wpList_storeC (B := b3) (off := 22) (v := .string A) rfl Try.sizeOf9 rfl rfl rfl rfl k4 (by rw [ZK.out.1]; decide) rfl ?_; intro w5 k5 g5; refine Hid.out ?_)
    refine Lib.hid ?_
    rw [← hr.out] at k5
    have HB25 := Lib.hid ((g5.block _ (lt_of_block HB24.out) (fun e => by have := lt_of_block k2; simp at e; omega)).trans HB24.out)
    have U5 := Lib.hid (up_at U4.out g5 (by have := HU.out.size; have := u2.size; omega))
    go_wp2_with (refine wpList_ex rfl (.agg RES) w5 (ex_loadrow rfl rfl w5 33 k5 Try.underlying33 rfl (by rw [info_ms, RN.out.1])) ?_; refine Hid.out ?_)
    refine Lib.hid ?_
    go_wp2_with (refine wpList_storeT (B := b2) rfl rfl rfl rfl HB25.out (by rw [info_ms, RN.out.1]) (by rw [Z0.out.1, RN.out.1]) RN.out.2 ?_; intro w6 k6 g6; refine Hid.out ?_)
    refine Lib.hid ?_
    go_wp2
    exact bodyPost_ret (results_ms rfl _ _ _ _ rfl k6 RN.out.1) rfl ⟨rfl, up_at U5.out g6 (by have := HU.out.size; omega)⟩
  by_cases g6 : K = 6
  · subst g6
    have hr := Lib.hid (S6.out rfl)
    clear S0 S1 S2 S3 S4 S5 S6 g1 g2 g3 g4 g5
    go_enter Try.func23, Try.ntmps23
    go_wp2_with (refine wpList_allocT rfl rfl Z0.out.2 ?_; intro b2 w2 k2 s2 u2; refine Hid.out ?_)
    refine Lib.hid ?_
    have HB2 := Lib.hid (HB.out w2 u2)
    generalize w.heap.size = b1 at HB HB2 ⊢
    go_wp2_with (refine wpList_ex rfl (.int .i64 6) _ (ex_loadcell (cs := cs) Try.isAgg3 rfl rfl _ (HB2.out) M.out.k) ?_; refine Hid.out ?_)
    refine Lib.hid ?_
    go_wp2_with (refine wpList_ex rfl (.agg zk) _ (ex_build1 _ _ (ZK.out.2.2 _) rfl rfl) ?_; refine Hid.out ?_)
    refine Lib.hid ?_
    go_wp2_with (refine wpList_allocT rfl rfl Z0.out.2 ?_; intro b3 w3 k3 s3 u3; refine Hid.out ?_)
    refine Lib.hid ?_
    have HB3 := Lib.hid (HB.out w3 (Up.trans u2 u3))
    have HB23 := Lib.hid ((u3.block _ (lt_of_block k2)).trans k2)
    go_wp2_with (refine wpList_storeT (B := b3) rfl rfl rfl rfl k3 (by rw [info_ms, ZK.out.1]) (by rw [Z0.out.1, ZK.out.1]) ZK.out.2.1 ?_; intro w4 k4 g4; refine Hid.out ?_)
    refine Lib.hid ?_
    have HB4 := Lib.hid ((g4.block _ (lt_of_block HB3.out) (fun e => by have := lt_of_block HB2.out; simp at e; omega)).trans HB3.out)
    have HB24 := Lib.hid ((g4.block _ (lt_of_block HB23.out) (fun e => by have := lt_of_block k2; simp at e; omega)).trans HB23.out)
    have U4 := Lib.hid (up_at (Up.trans HU.out (Up.trans u2 u3)) g4 (by have := HU.out.size; have := u2.size; omega))
    go_wp2_with (refine wpList_ex rfl (.int .i64 6) _ (ex_loadcell (cs := cs) Try.isAgg3 rfl rfl _ (HB4.out) M.out.k) ?_; refine Hid.out ?_)
    refine Lib.hid ?_
    go_wp2_with (refine wpList_ex rfl (.agg lt.toArray) _ (ex_loadpart (cs := cs) 5 Try.isAgg31 Try.sizeOf31 rfl rfl _ HB4.out M.out.t M.out.tn) ?_; refine Hid.out ?_)
    refine Lib.hid ?_
    go_wp2_with (refine wpList_storeP (B := b3) (off := 23) rfl (by rw [L6.out.1]; exact Try.sizeOf31) rfl rfl rfl k4 (by rw [L6.out.1, ZK.out.1]; decide) L6.out.2 ?_; intro w5 k5 g5; refine Hid.out ?_)
    refine Lib.hid ?_
    rw [← hr.out] at k5
    have HB25 := Lib.hid ((g5.block _ (lt_of_block HB24.out) (fun e => by have := lt_of_block k2; simp at e; omega)).trans HB24.out)
    have U5 := Lib.hid (up_at U4.out g5 (by have := HU.out.size; have := u2.size; omega))
    go_wp2_with (refine wpList_ex rfl (.agg RES) w5 (ex_loadrow rfl rfl w5 33 k5 Try.underlying33 rfl (by rw [info_ms, RN.out.1])) ?_; refine Hid.out ?_)
    refine Lib.hid ?_
    go_wp2_with (refine wpList_storeT (B := b2) rfl rfl rfl rfl HB25.out (by rw [info_ms, RN.out.1]) (by rw [Z0.out.1, RN.out.1]) RN.out.2 ?_; intro w6 k6 g6; refine Hid.out ?_)
    refine Lib.hid ?_
    go_wp2
    exact bodyPost_ret (results_ms rfl _ _ _ _ rfl k6 RN.out.1) rfl ⟨rfl, up_at U5.out g6 (by have := HU.out.size; omega)⟩
  have hr := (S0.out g1 g2 g3 g4 g5 g6).symm
  subst hr
  have e1 : (K == 1) = false := by rw [beq_eq_false_iff_ne]; exact g1
  have e2 : (K == 2) = false := by rw [beq_eq_false_iff_ne]; exact g2
  have e3 : (K == 3) = false := by rw [beq_eq_false_iff_ne]; exact g3
  have e4 : (K == 4) = false := by rw [beq_eq_false_iff_ne]; exact g4
  have e5 : (K == 5) = false := by rw [beq_eq_false_iff_ne]; exact g5
  have e6 : (K == 6) = false := by rw [beq_eq_false_iff_ne]; exact g6
  clear S0 S1 S2 S3 S4 S5 S6 g1 g2 g3 g4 g5 g6
  go_enter Try.func23, Try.ntmps23
  go_wp2_with (refine wpList_allocT rfl rfl Z0.out.2 ?_; intro b2 w2 k2 s2 u2; refine Hid.out ?_)
  refine Lib.hid ?_
  have HB2 := Lib.hid (HB.out w2 u2)
  generalize w.heap.size = b1 at HB HB2 ⊢
  go_wp2_with (refine wpList_ex rfl (.int .i64 K) _ (ex_loadcell (cs := cs) Try.isAgg3 rfl rfl _ (HB2.out) M.out.k) ?_; refine Hid.out ?_)
  refine Lib.hid ?_
  go_wp2_with (refine wpList_ex rfl (.agg zk) _ (ex_build1 _ _ (ZK.out.2.2 _) rfl rfl) ?_; refine Hid.out ?_)
  refine Lib.hid ?_
  go_wp2_with (refine wpList_allocT rfl rfl Z0.out.2 ?_; intro b3 w3 k3 s3 u3; refine Hid.out ?_)
  refine Lib.hid ?_
  have HB3 := Lib.hid (HB.out w3 (Up.trans u2 u3))
  have HB23 := Lib.hid ((u3.block _ (lt_of_block k2)).trans k2)
  go_wp2_with (refine wpList_storeT (B := b3) rfl rfl rfl rfl k3 (by rw [info_ms, ZK.out.1]) (by rw [Z0.out.1, ZK.out.1]) ZK.out.2.1 ?_; intro w4 k4 g4; refine Hid.out ?_)
  refine Lib.hid ?_
  have HB4 := Lib.hid ((g4.block _ (lt_of_block HB3.out) (fun e => by have := lt_of_block HB2.out; simp at e; omega)).trans HB3.out)
  have HB24 := Lib.hid ((g4.block _ (lt_of_block HB23.out) (fun e => by have := lt_of_block k2; simp at e; omega)).trans HB23.out)
  have U4 := Lib.hid (up_at (Up.trans HU.out (Up.trans u2 u3)) g4 (by have := HU.out.size; have := u2.size; omega))
  go_wp2_with (refine wpList_ex rfl (.int .i64 K) _ (ex_loadcell (cs := cs) Try.isAgg3 rfl rfl _ (HB4.out) M.out.k) ?_; refine Hid.out ?_)
  refine Lib.hid ?_
  go_wp2_with (refine wpList_ex rfl (.agg zk) w4 (ex_loadrow rfl rfl w4 33 k4 Try.underlying33 rfl (by rw [info_ms, RN.out.1])) ?_; refine Hid.out ?_)
  refine Lib.hid ?_
  go_wp2_with (refine wpList_storeT (B := b2) rfl rfl rfl rfl HB24.out (by rw [info_ms, RN.out.1]) (by rw [Z0.out.1, RN.out.1]) RN.out.2 ?_; intro w6 k6 g6; refine Hid.out ?_)
  refine Lib.hid ?_
  go_wp2
  exact bodyPost_ret (results_ms rfl _ _ _ _ rfl k6 RN.out.1) rfl ⟨rfl, up_at U4.out g6 (by have := HU.out.size; omega)⟩
end
end Go.Proofs.Ytacamknljicjmaa
