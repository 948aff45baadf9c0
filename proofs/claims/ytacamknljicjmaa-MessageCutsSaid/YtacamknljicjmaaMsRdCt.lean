import Derived.Test.YtacamknljicjmaaMsRdTxs
/-
  cert: Read.
-/
namespace Go.Proofs.Ytacamknljicjmaa
set_option maxRecDepth 100000
section
set_option linter.unusedVariables false
open Go.RowKit Go.Sort Go.Lib

/-- a cell of a box is set -/
theorem ex_storecell {P : Program} {o : Oper} {x y : Operand} {ρ : Operand → Value} {t T : TypeId} {B off : Nat} {cs : Array Value} {v : Value} (hsz : ∀ w, (sizeOf t).run P w = .ok 1 w) (hv1 : v.cells = #[v]) (hop : o.op = .store t x y) (hx : ρ x = .pointer (some ⟨B, off, none⟩)) (hy : ρ y = v) (w : World) (hg : w.heap[B]? = some (.cells cs T (0, 0))) (hfit : off + 1 ≤ cs.size) (hone : v.oneCell' = true) :
    (execOp ρ o).run P w = .ok .skip (w.setRow B (putAt cs off [v])) := by
  have h5 := run_storeCells_at P B off T [v] 0 cs w hg (by simpa using hfit) (fun u hu => by rw [List.mem_singleton.1 hu]; exact hone)
  unfold execOp; rw [hop]; simp only [hx, hy]
  simp [Instr.storeAt, Instr.sureAddr, storeVar, hv1, hsz, h5, Result.andThen, putAt]
theorem rVsL_inv : ∀ (n : Nat) (q : Int × List Int), RvInv q → RvInv (rVsL n q).2
  | 0, q, h => h
  | n + 1, q, h => rVsL_inv n _ (vr_inv h).2.2.2.2.2.2.2
/-- what the round of the loop knows, whose list lies in a cell of a box -/
structure VtLoop (g : Nat) (l : Value) (w W wr : World) (b3 : Nat) (T : TypeId) (C : List Vs → Pl → Array Value) (q0 : Int × List Int) (n i : Nat) (va : Option Addr) (vc : Nat) (ls : List Vs) (qi : Int × List Int) : Prop where
  len : ls.length = i
  row : wr.ownsRow W.heap.size 29 7 (.slice va i vc) i (vsF ls)
  rd : Reads g l w qi.1 qi.2 wr
  inv : RvInv qi
  eq : rVsL n q0 = (ls ++ (rVsL (n - i) qi).1, (rVsL (n - i) qi).2)
  kept : KeptBut (fun k => k = g ∨ k = b3) W wr
  box : wr.heap[b3]? = some (.cells (C ls (va, vc)) T (0, 0))
theorem own_low {w : World} {base base' : Nat} {e : TypeId} {sz : Nat} {v : Value} {n : Nat} {xs : List Value} (h : w.ownsRow base e sz v n xs) (hb : base' ≤ base) : w.ownsRow base' e sz v n xs := by
  refine ⟨h.1, ?_⟩
  rcases h.2 with hn | ⟨g, cap, cur, e1, e2, rest⟩
  · exact .inl hn
  · exact .inr ⟨g, cap, cur, e1, Nat.le_trans hb e2, rest⟩
/-- the cell of the list -/
structure CellAt (C : List Vs → Pl → Array Value) (off : Nat) : Prop where
  get : ∀ ls p, (C ls p)[off]? = some (.slice p.1 ls.length p.2)
  put : ∀ ls p ls' (p' : Pl), putAt (C ls p) off [.slice p'.1 ls'.length p'.2] = C ls' p'
  fit : ∀ ls p, off + 1 ≤ (C ls p).size
theorem vt_step {g : Nat} {l : Value} {w W wr : World} {b3 : Nat} {T : TypeId} {C : List Vs → Pl → Array Value} {off : Nat} {q0 : Int × List Int} {n i : Nat} {va : Option Addr} {vc : Nat} {ls : List Vs} {qi : Int × List Int} (h : VtLoop g l w W wr b3 T C q0 n i va vc ls qi) (hc : CellAt C off) (hi : i < n) (hn : n ≤ 7)
    (hl : ∀ k, l.ownBlock = some k → k < w.heap.size) (hg : g < w.heap.size) (hW : w.heap.size ≤ W.heap.size) (hb : w.heap.size ≤ b3) (hb2 : b3 < W.heap.size) (hT : T ≠ 29) (y : World) (hR : Reads g l w (vr7 qi).1 (vr7 qi).2 y) (hG : wr.drew.grownBy y (some g)) :
    y.heap[b3]? = some (.cells (C ls (va, vc)) T (0, 0)) ∧ ∃ (va' : Option Addr) (vc' : Nat) (w8 : World), (Instr.buildSlice 22 1 #[(0, .agg (vsA (rVs qi)))]).run Try.prog y = .ok (.slice (some ⟨y.heap.size, 0, none⟩) 1 1) (y.alloc (.cells (vsA (rVs qi)) 29)) ∧
      (y.alloc (.cells (vsA (rVs qi)) 29)).heap[b3]? = some (.cells (C ls (va, vc)) T (0, 0)) ∧
      (Builtin.append_ #[22, 22] 22 #[.slice va i vc, .slice (some ⟨y.heap.size, 0, none⟩) 1 1]).run Try.prog (y.alloc (.cells (vsA (rVs qi)) 29)) = .ok (.slice va' (i + 1) vc') w8 ∧
      w8.heap[b3]? = some (.cells (C ls (va, vc)) T (0, 0)) ∧
      VtLoop g l w W (w8.setRow b3 (putAt (C ls (va, vc)) off [.slice va' (i + 1) vc'])) b3 T C q0 n (i + 1) va' vc' (ls ++ [rVs qi]) (vr7 qi) := by
  have hud := Up.drew1 wr
  have hb0 := (hud.block _ (lt_of_block h.box)).trans h.box
  have hby := block_read hb0 hG (by omega)
  have hrow := own_read (ownsRow_up h.row hud) hG (by omega)
  have hsy : W.heap.size ≤ y.heap.size := Nat.le_trans h.kept.size (Nat.le_trans hud.size hG.size)
  obtain ⟨va', vc', w8, h1, h2, h3⟩ := app_st (st := 22) (et := 29) Try.underlying22 info_vt3 rfl (by decide) W.heap.size y va vc i (vsF ls) (vsA (rVs qi)) hrow rfl (fun v hv => vsC_one (rVs qi) v (by simpa [vsA] using hv)) (by omega) (by unfold maxLen; omega) (by unfold maxLen; omega) hsy
  have hua := Up.alloc (Up.refl y) (.cells (vsA (rVs qi)) 29)
  have hbn := (hua.block _ (lt_of_block hby)).trans hby
  have hrn := ownsRow_up hrow hua
  have hoff : ∀ k, (Value.slice va i vc).ownBlock = some k → k ≠ b3 := fun k hk e => by
    have := (hrow.lt k hk).1
    omega
  have hb8 : w8.heap[b3]? = some (.cells (C ls (va, vc)) T (0, 0)) := by
    rcases hob : (Value.slice va i vc).ownBlock with _ | b
    · rw [hob] at h3
      exact ((up_grown h3).block _ (lt_of_block hbn)).trans hbn
    · rw [hob] at h3
      exact block_read hbn h3 (fun e => hoff b hob e.symm)
  have hrd8 : Reads g l w (vr7 qi).1 (vr7 qi).2 w8 := reads_row (hR.up hua) hrn h3 (by omega) hW hl
  have hgs := grownBy_setRow w8 b3 (putAt (C ls (va, vc)) off [.slice va' (i + 1) vc'])
  have hk8 : KeptBut (fun k => k = g ∨ k = b3) W w8 := by
    have k1 : KeptBut (fun k => k = g ∨ k = b3) W y := (h.kept.trans (KeptBut.of_up (S := fun k => k = g) hud) (fun _ _ e => .inl e)).trans (KeptBut.of_grown (S := fun k => k = g) hG (fun k e => by cases e; rfl)) (fun _ _ e => .inl e)
    refine (k1.trans (KeptBut.of_up (S := fun k => k = g) hua) (fun _ _ e => .inl e)).trans (KeptBut.of_grown (S := fun k => (Value.slice va i vc).ownBlock = some k) h3 (fun k e => e)) (fun x hx e => ?_)
    have := (hrow.lt x e).1
    omega
  refine ⟨hby, va', vc', w8, build_vs1 _ y, hbn, h1, hb8, ?_⟩
  refine ⟨by rw [List.length_append, h.len]; rfl, ?_, ?_, (vr_inv h.inv).2.2.2.2.2.2.2, ?_, hk8.trans (KeptBut.of_grown (S := fun k => k = b3) hgs (fun k e => by cases e; rfl)) (fun _ _ e => .inr e), ?_⟩
  · have e : vsF (ls ++ [rVs qi]) = vsF ls ++ (vsA (rVs qi)).toList := by rw [vsF_append]; congr 1
    rw [e]
    exact own_but h2 (KeptBut.of_grown (S := fun k => k = b3) hgs (fun k e => by cases e; rfl)) (fun k hk e => by have := (h2.lt k hk).1; omega)
  · exact hrd8.put hgs (by omega) (fun k hk => by have := hl k hk; omega) hb
  · have e := h.eq
    have e2 : n - i = (n - (i + 1)) + 1 := by omega
    rw [e2] at e
    rw [e]
    show (ls ++ (rVs qi :: (rVsL (n - (i + 1)) (vr7 qi)).1), (rVsL (n - (i + 1)) (vr7 qi)).2) = _
    simp only [List.append_assoc, List.cons_append, List.nil_append]
  · rw [setRow_heap w8 b3 _ _ T (0, 0) hb8]
    have e : (ls ++ [rVs qi]).length = i + 1 := by rw [List.length_append, h.len]; rfl
    have k := hc.put ls (va, vc) (ls ++ [rVs qi]) (va', vc')
    simp only [e] at k
    rw [k]

/-- numbers and texts, read by closer bounds -/
def nmV (most : Int) (q : Int × List Int) : Int := (rdNum q.1 q.2 most).1
def nmS (most : Int) (q : Int × List Int) : Int × List Int := ((rdNum q.1 q.2 most).2.1, (rdNum q.1 q.2 most).2.2)
def tmV (most : Int) (q : Int × List Int) : List Int := (rdText q.1 q.2 most).1
def tmS (most : Int) (q : Int × List Int) : Int × List Int := ((rdText q.1 q.2 most).2.1, (rdText q.1 q.2 most).2.2)
theorem nm_inv {most : Int} {q : Int × List Int} (h : RvInv q) : RvInv (nmS most q) := ⟨(rdNum_inv _ _ most h.1 h.2).1, (rdNum_inv _ _ most h.1 h.2).2.1⟩
theorem tm_inv {most : Int} {q : Int × List Int} (h : RvInv q) : RvInv (tmS most q) := ⟨(rdText_inv _ _ most h.1 h.2).1, (rdText_inv _ _ most h.1 h.2).2.1⟩
/-- a cert's fields, and the reader's states -/
def rc1 (q : Int × List Int) : Int × List Int := nmS 1048576 q
def rc2 (q : Int × List Int) : Int × List Int := nmS 1048576 (rc1 q)
def rc3 (q : Int × List Int) : Int × List Int := tmS 32 (rc2 q)
def rc4 (q : Int × List Int) : Int × List Int := nmS 7 (rc3 q)
def rcN (q : Int × List Int) : Nat := (nmV 7 (rc3 q)).toNat
noncomputable def rcL (q : Int × List Int) : List Vs × (Int × List Int) := rVsL (rcN q) (rc4 q)
open Classical in
noncomputable def rCt (q : Int × List Int) : Cm := if (rcL q).2.1 = 0 then ⟨nmV 1048576 q, nmV 1048576 (rc1 q), strOfNums (tmV 32 (rc2 q)), (rcL q).1⟩ else zC
theorem rc_inv {q : Int × List Int} (h : RvInv q) : RvInv (rc1 q) ∧ RvInv (rc2 q) ∧ RvInv (rc3 q) ∧ RvInv (rc4 q) ∧ RvInv (rcL q).2 := by
  have h1 : RvInv (rc1 q) := nm_inv h
  have h2 : RvInv (rc2 q) := nm_inv h1
  have h3 : RvInv (rc3 q) := tm_inv h2
  have h4 : RvInv (rc4 q) := nm_inv h3
  exact ⟨h1, h2, h3, h4, rVsL_inv _ _ h4⟩
/-- a cert's cells -/
def ctA (V H : Int) (B : ByteArray) (ls : List Vs) (p : Pl) : Array Value := #[.int .i64 V, .int .i64 H, .string B, .slice p.1 ls.length p.2]
theorem ctA_at (V H : Int) (B : ByteArray) : CellAt (ctA V H B) 3 := ⟨fun _ _ => rfl, fun ls p ls' p' => putAt_mid [.int .i64 V, .int .i64 H, .string B] [.slice p.1 ls.length p.2] [.slice p'.1 ls'.length p'.2] [] rfl, fun _ _ => Nat.le_refl _⟩
theorem alloc_ct (w : World) : (Instr.alloc 24 true (.tuple #[])).run Try.prog w = .ok (.pointer (some ⟨w.heap.size, 0, none⟩)) (w.alloc (.cells (ctA 0 0 ⟨#[]⟩ [] (none, 0)) 24)) := by
  simp [ctA, go_sem]
theorem build_ct3 (V H : Int) (B : ByteArray) (w : World) : (Instr.build 24 #[(0, .int .i64 V), (1, .int .i64 H), (2, .string B)]).run Try.prog w = .ok (.agg (ctA V H B [] (none, 0))) w := by
  simp [ctA, go_sem]
theorem build_ct0 (w : World) : (Instr.build 24 #[]).run Try.prog w = .ok (.agg (ctA 0 0 ⟨#[]⟩ [] (none, 0))) w := by
  simp [ctA, go_sem]
theorem ctA_one (V H : Int) (B : ByteArray) (ls : List Vs) (p : Pl) : (ctA V H B ls p).all (·.oneCell') = true := by simp [ctA, Value.oneCell']
theorem ex_build0 {P : Program} {o : Oper} {ρ : Operand → Value} {v : Value} {t : TypeId} (w w' : World) (hr : (Instr.build t #[]).run P w = .ok v w') (hop : o.op = .build t #[]) : (execOp ρ o).run P w = .ok (.value v) w' :=
  ex_build hop (by simp) w w' hr

set_option maxHeartbeats 4000000 in
theorem ctRead_on (g : Nat) (l : Value) (q : Int × List Int) (w W : World) (h : Reads g l w q.1 q.2 W) (hi : RvInv q) (hl : ∀ k, l.ownBlock = some k → k < w.heap.size) (hg : g < w.heap.size) :
    Calls Try.prog 37 #[.pointer (some ⟨g, 0, none⟩)] W fun e w' => ∃ a n c, e = .returned (.agg #[.int .i64 (rCt q).V, .int .i64 (rCt q).H, .string (rCt q).B, .slice a n c]) ∧ (rCt q).vs.length = n ∧ w'.ownsRow W.heap.size 29 7 (.slice a n c) n (vsF (rCt q).vs) ∧ Reads g l w (rcL q).2.1 (rcL q).2.2 w' ∧ W.grownBy w' (some g) := by
  have hiv := rc_inv hi
  have C1 : Hid (∀ X, Reads g l w q.1 q.2 X → Calls Try.prog 34 #[.pointer (some ⟨g, 0, none⟩), .int .i64 1048576] X fun e w' => e = .returned (.int .i64 (nmV 1048576 q)) ∧ Reads g l w (rc1 q).1 (rc1 q).2 w' ∧ X.grownBy w' (some g)) := fun X hX => rnum_on g l _ _ _ w X hX hi.2 (by omega)
  have C2 : Hid (∀ X, Reads g l w (rc1 q).1 (rc1 q).2 X → Calls Try.prog 34 #[.pointer (some ⟨g, 0, none⟩), .int .i64 1048576] X fun e w' => e = .returned (.int .i64 (nmV 1048576 (rc1 q))) ∧ Reads g l w (rc2 q).1 (rc2 q).2 w' ∧ X.grownBy w' (some g)) := fun X hX => rnum_on g l _ _ _ w X hX hiv.1.2 (by omega)
  have C3 : Hid (∀ X, Reads g l w (rc2 q).1 (rc2 q).2 X → Calls Try.prog 38 #[.pointer (some ⟨g, 0, none⟩), .int .i64 32] X fun e w' => e = .returned (.string (strOfNums (tmV 32 (rc2 q)))) ∧ Reads g l w (rc3 q).1 (rc3 q).2 w' ∧ X.grownBy w' (some g)) := fun X hX => rtext_on g l _ _ _ w X hX hiv.2.1.2 (by omega)
  have C4 : Hid (∀ X, Reads g l w (rc3 q).1 (rc3 q).2 X → Calls Try.prog 34 #[.pointer (some ⟨g, 0, none⟩), .int .i64 7] X fun e w' => e = .returned (.int .i64 (nmV 7 (rc3 q))) ∧ Reads g l w (rc4 q).1 (rc4 q).2 w' ∧ X.grownBy w' (some g)) := fun X hX => rnum_on g l _ _ _ w X hX hiv.2.2.1.2 (by omega)
  have hr7 := rdNum_rng (rc3 q).1 (rc3 q).2 7 (by omega)
  change 0 ≤ nmV 7 (rc3 q) ∧ nmV 7 (rc3 q) ≤ 7 at hr7
  have HEQ : Hid (rcL q = rVsL (nmV 7 (rc3 q)).toNat (rc4 q)) := rfl
  have HI4 := Lib.hid hiv.2.2.2.1
  have RY : Hid ((rcL q).2.1 = 0 → rCt q = ⟨nmV 1048576 q, nmV 1048576 (rc1 q), strOfNums (tmV 32 (rc2 q)), (rcL q).1⟩) := fun k => by unfold rCt; rw [if_pos k]
  have RN : Hid ((rcL q).2.1 ≠ 0 → rCt q = zC) := fun k => by unfold rCt; rw [if_neg k]
  have H0 := Lib.hid h
  have HL := Lib.hid hl
  have HG := Lib.hid hg
  have HS := Lib.hid h.size
  have Z0 : Hid ((ctA 0 0 ⟨#[]⟩ [] (none, 0)).size = 4 ∧ ctA 0 0 ⟨#[]⟩ [] (none, 0) = #[.int .i64 0, .int .i64 0, .string ⟨#[]⟩, .slice none 0 0] ∧ (ctA 0 0 ⟨#[]⟩ [] (none, 0)).all (·.oneCell') = true) := ⟨rfl, rfl, ctA_one _ _ _ _ _⟩
  have HAL := Lib.hid alloc_ct
  have HBZ := Lib.hid build_ct0
  generalize rCt q = CT at *
  generalize rcL q = RL at *
  generalize strOfNums (tmV 32 (rc2 q)) = B at *
  generalize nmV 1048576 (rc1 q) = Hh at *
  generalize nmV 1048576 q = V at *
  generalize nmV 7 (rc3 q) = N at *
  obtain ⟨n, rfl⟩ : ∃ n : Nat, N = n := ⟨N.toNat, by omega⟩
  rw [Int.toNat_natCast] at HEQ
  have hn : n ≤ 7 := by omega
  generalize rc4 q = q0 at *
  generalize rc3 q = q3 at *
  generalize rc2 q = q2 at *
  generalize rc1 q = q1 at *
  have HBC := Lib.hid (build_ct3 V Hh B)
  have HCA := Lib.hid (ctA_at V Hh B)
  have HC0 : Hid ((ctA V Hh B [] (none, 0)).size = 4 ∧ (ctA V Hh B [] (none, 0)).all (·.oneCell') = true) := ⟨rfl, ctA_one _ _ _ _ _⟩
  have HCE : Hid (∀ ls p, ctA V Hh B ls p = #[.int .i64 V, .int .i64 Hh, .string B, .slice p.1 ls.length p.2]) := fun _ _ => rfl
  generalize ctA 0 0 ⟨#[]⟩ [] (none, 0) = z at *
  generalize ctA V Hh B = CF at *
  clear h hi hl hg hiv hr7
  go_enter Try.func37, Try.ntmps37
  go_wp2_with (refine wpList_allocT rfl rfl HAL.out ?_; intro b2 w2 k2 s2 u2; refine Stp.h ?_)
  have HB2 := Lib.hid k2
  have HR2 := Lib.hid (H0.out.up u2)
  have HG2 := Lib.hid (grown_up u2 (some g))
  have HS2 := Lib.hid s2
  clear k2 s2 u2
  refine Stp.mk ?_
  go_wp2_with fail
  with_reducible refine Calls.mono (C1.out _ HR2.out) ?_
  rintro e w3 ⟨rfl, k1, k2⟩
  have HB3 := Lib.hid (block_read HB2.out k2 (by have := HG.out; have := HS.out; have := HS2.out; omega))
  have HR3 := Lib.hid k1
  have HG3 := Lib.hid (grown_trans HG2.out k2)
  clear k1 k2
  go_wp2_with fail
  with_reducible refine Calls.mono (C2.out _ HR3.out) ?_
  rintro e w4 ⟨rfl, k1, k2⟩
  have HB4 := Lib.hid (block_read HB3.out k2 (by have := HG.out; have := HS.out; have := HS2.out; omega))
  have HR4 := Lib.hid k1
  have HG4 := Lib.hid (grown_trans HG3.out k2)
  clear k1 k2
  go_wp2_with fail
  with_reducible refine Calls.mono (C3.out _ HR4.out) ?_
  rintro e w5 ⟨rfl, k1, k2⟩
  have HB5 := Lib.hid (block_read HB4.out k2 (by have := HG.out; have := HS.out; have := HS2.out; omega))
  have HR5 := Lib.hid k1
  have HG5 := Lib.hid (grown_trans HG4.out k2)
  clear k1 k2
  go_wp2_with (refine wpList_ex rfl (.agg (CF [] (none, 0))) _ (ex_build3 _ _ (HBC.out _) rfl rfl rfl rfl) ?_; refine Stp.h ?_)
  refine Stp.mk ?_
  go_wp2_with (refine wpList_allocT rfl rfl HAL.out ?_; intro b3 w6 k6 s6 u6; refine Stp.h ?_)
  have HX6 := Lib.hid k6
  have HB6 := Lib.hid ((u6.block _ (lt_of_block HB5.out)).trans HB5.out)
  have HR6 := Lib.hid (HR5.out.up u6)
  have HG6 := Lib.hid (grown_trans HG5.out (grown_up u6 (some g)))
  have HS6 : Hid (W.heap.size ≤ b3 ∧ b3 ≠ b2) := ⟨Nat.le_trans HG5.out.size s6, fun e => by have := lt_of_block HB5.out; omega⟩
  clear k6 s6 u6
  refine Stp.mk ?_
  go_wp2_with (refine wpList_storeT (B := b3) rfl rfl rfl rfl HX6.out (by rw [info_ct, HC0.out.1]) (by rw [Z0.out.1, HC0.out.1]) HC0.out.2 ?_; intro w7 k7 g7; refine Stp.h ?_)
  have HX7 := Lib.hid k7
  have HB7 := Lib.hid (block_read HB6.out g7 (fun e => HS6.out.2 e.symm))
  have HR7 := Lib.hid (HR6.out.put g7 (by have := HG.out; have := HS.out; have := HS6.out.1; omega) (fun k hk => by have := HL.out k hk; have := HS.out; have := HS6.out.1; omega) (by have := HS.out; have := HS6.out.1; omega))
  have HG7 := Lib.hid (grown_new HG6.out g7 (fun q e => by cases e; exact HS6.out.1))
  clear k7 g7
  refine Stp.mk ?_
  go_wp2_with fail
  with_reducible refine Calls.mono (C4.out _ HR7.out) ?_
  rintro e w8 ⟨rfl, k1, k2⟩
  have HX8 := Lib.hid (block_read HX7.out k2 (by have := HG.out; have := HS.out; have := HS6.out.1; omega))
  have HB8 := Lib.hid (block_read HB7.out k2 (by have := HG.out; have := HS.out; have := HS2.out; omega))
  have HG8 := Lib.hid (grown_trans HG7.out k2)
  have HL8 : Hid (VtLoop g l w w8 w8 b3 24 CF q0 n 0 none 0 [] q0) := ⟨rfl, ⟨rfl, .inl ⟨rfl, rfl⟩⟩, k1, HI4.out, by rw [Nat.sub_zero, List.nil_append], KeptBut.refl _ _, HX8.out⟩
  have HW8 : Hid (w.heap.size ≤ w8.heap.size ∧ w.heap.size ≤ b3 ∧ b3 < w8.heap.size ∧ b2 < w8.heap.size ∧ b2 ≠ g ∧ b2 ≠ b3) := ⟨Nat.le_trans HS.out HG8.out.size, Nat.le_trans HS.out HS6.out.1, lt_of_block HX8.out, lt_of_block HB8.out, (by have := HG.out; have := HS.out; have := HS2.out; omega), fun e => HS6.out.2 e.symm⟩
  clear k1 k2 C1 C2 C3 C4 HBC HB2 HB3 HB4 HB5 HB6 HB7 HR2 HR3 HR4 HR5 HR6 HR7 HG2 HG3 HG4 HG5 HG6 HG7 HX6 HX7
  go_wp2
  go_loopw [13] (fun vi wr => ∃ (i : Nat) (va : Option Addr) (vc : Nat) (ls : List Vs) (qi : Int × List Int), vi = .int .i64 (i : Nat) ∧ i ≤ n ∧ Hid (VtLoop g l w w8 wr b3 24 CF q0 n i va vc ls qi)) (fun vi _ => n - (RowKit.intOf vi).toNat)
  case atStart => exact ⟨0, none, 0, [], q0, rfl, Nat.zero_le _, HL8⟩
  case round =>
    obtain ⟨i, va, vc, ls, qi, rfl, hi, HT⟩ := hrel
    by_cases hlt : i < n
    · have hz : (i : Int) < (n : Int) := by omega
      obtain ⟨x, hx⟩ : ∃ x, rVs qi = x := ⟨_, rfl⟩
      obtain ⟨i1, hi1⟩ : ∃ i1, i + 1 = i1 := ⟨_, rfl⟩
      have HI1 := Lib.hid hi1
      have HVR := Lib.hid (vtRead_on g l qi w wr.drew (HT.out.rd.up (Up.drew1 wr)) HT.out.inv HL.out)
      have HST := Lib.hid (fun y hR hG => vt_step HT.out HCA.out hlt hn HL.out HG.out HW8.out.1 HW8.out.2.1 HW8.out.2.2.1 (by decide) y hR hG)
      have HB0 := Lib.hid (((Up.drew1 wr).block _ (lt_of_block HT.out.box)).trans HT.out.box)
      have hcl := HCA.out.get ls (va, vc)
      rw [HT.out.len] at hcl
      have HCL := Lib.hid hcl
      have HCF := Lib.hid (HCA.out.fit ls (va, vc))
      rw [hx] at HVR HST
      rw [hi1] at HST
      clear hx hi1 hcl
      generalize CF ls (va, vc) = cs at HST HB0 HCL HCF
      generalize vsA x = cx at *
      go_wp2
      refine region_alongK (fun _ => True) (.read 0 (.read 2 (.fork 1 (.step 3 (.step 4 (.step 5 (.read 6 (.step 7 (.nil)))))) 3 (.fork 1 (.step 4 (.step 5 (.read 6 (.step 7 (.nil))))) 4 (.step 1 (.step 5 (.read 6 (.step 7 (.nil))))))))) (by kernel_rfl) rfl (by kernel_rfl) (by kernel_rfl) (fun c a d v w h => by cases d <;> exact h) (trivial) ?_
      refine alongK_read (.pointer (some ⟨b3, 3, none⟩)) rfl rfl (fun wx hS => ex_field rfl rfl wx (by simp [go_sem])) ?_
      change AlongK _ _ _ _ _ { tmps := #[.pointer (some ⟨g, 0, none⟩), _, _, .pointer (some ⟨b3, 0, none⟩), _, _, _, _, _, _, _, _, _, _, _, .pointer (some ⟨b3, 3, none⟩), _, _, _, _, _, _, _, _, _, _, _, _], defers := _ } _
      refine alongK_read (.pointer (some ⟨g, 0, none⟩)) rfl rfl (fun wx hS => ex_move (by rfl) (by rfl) wx) ?_
      change AlongK _ _ _ _ _ { tmps := #[.pointer (some ⟨g, 0, none⟩), _, _, .pointer (some ⟨b3, 0, none⟩), _, _, _, _, _, _, _, _, _, _, _, .pointer (some ⟨b3, 3, none⟩), _, .pointer (some ⟨g, 0, none⟩), _, _, _, _, _, _, _, _, _, _], defers := _ } _
      refine alongK_fork ?_ ?_
      refine opK_run (.slice va i vc) _ rfl rfl (ex_loadcell (cs := cs) Try.isAgg22 rfl rfl _ (HB0.out) HCL.out) (fun _ => True) (fun _ _ => trivial) trivial ?_
      change AlongK _ _ _ _ _ { tmps := #[.pointer (some ⟨g, 0, none⟩), _, _, .pointer (some ⟨b3, 0, none⟩), _, _, _, _, _, _, _, _, _, _, _, .pointer (some ⟨b3, 3, none⟩), .slice va i vc, .pointer (some ⟨g, 0, none⟩), _, _, _, _, _, _, _, _, _, _], defers := _ } _
      refine alongK_step ?_
      refine opK_call (vs := [.pointer (some ⟨g, 0, none⟩)]) rfl rfl rfl (enters_of Try.func36 (by kernel_rfl) rfl) rfl ?_
      with_reducible refine Calls.mono (HVR.out) ?_
      rintro e y3 ⟨rfl, hR3, hG3⟩
      obtain ⟨hbx3, va', vc', w8, hb8, hbx4, hap8, hbx8, HT8⟩ := HST.out y3 hR3 hG3
      refine ⟨_, rfl, (fun _ => True), (fun _ _ => trivial), trivial, ?_⟩
      change AlongK _ _ _ _ _ { tmps := #[.pointer (some ⟨g, 0, none⟩), _, _, .pointer (some ⟨b3, 0, none⟩), _, _, _, _, _, _, _, _, _, _, _, .pointer (some ⟨b3, 3, none⟩), .slice va i vc, .pointer (some ⟨g, 0, none⟩), .agg cx, _, _, _, _, _, _, _, _, _], defers := _ } _
      refine alongK_step ?_
      refine opK_run (.slice (some ⟨y3.heap.size, 0, none⟩) 1 1) _ rfl rfl (ex_slice1 _ _ hb8 rfl rfl) (fun _ => True) (fun _ _ => trivial) trivial ?_
      change AlongK _ _ _ _ _ { tmps := #[.pointer (some ⟨g, 0, none⟩), _, _, .pointer (some ⟨b3, 0, none⟩), _, _, _, _, _, _, _, _, _, _, _, .pointer (some ⟨b3, 3, none⟩), .slice va i vc, .pointer (some ⟨g, 0, none⟩), .agg cx, .slice (some ⟨y3.heap.size, 0, none⟩) 1 1, _, _, _, _, _, _, _, _], defers := _ } _
      refine alongK_step ?_
      refine opK_run (.slice va' i1 vc') _ rfl rfl (ex_append1 rfl rfl rfl rfl hap8) (fun _ => True) (fun _ _ => trivial) trivial ?_
      change AlongK _ _ _ _ _ { tmps := #[.pointer (some ⟨g, 0, none⟩), _, _, .pointer (some ⟨b3, 0, none⟩), _, _, _, _, _, _, _, _, _, _, _, .pointer (some ⟨b3, 3, none⟩), .slice va i vc, .pointer (some ⟨g, 0, none⟩), .agg cx, .slice (some ⟨y3.heap.size, 0, none⟩) 1 1, .slice va' i1 vc', _, _, _, _, _, _, _], defers := _ } _
      refine alongK_read (.pointer (some ⟨b3, 3, none⟩)) rfl rfl (fun wx hS => ex_field rfl rfl wx (by simp [go_sem])) ?_
      change AlongK _ _ _ _ _ { tmps := #[.pointer (some ⟨g, 0, none⟩), _, _, .pointer (some ⟨b3, 0, none⟩), _, _, _, _, _, _, _, _, _, _, _, .pointer (some ⟨b3, 3, none⟩), .slice va i vc, .pointer (some ⟨g, 0, none⟩), .agg cx, .slice (some ⟨y3.heap.size, 0, none⟩) 1 1, .slice va' i1 vc', .pointer (some ⟨b3, 3, none⟩), _, _, _, _, _, _], defers := _ } _
      refine alongK_step ?_
      refine opK_store _ rfl rfl (ex_storecell (cs := cs) (off := 3) (v := .slice va' i1 vc') Try.sizeOf22 rfl rfl rfl rfl _ hbx8 HCF.out rfl) (fun _ => True) (fun _ _ => trivial) trivial ?_
      change AlongK _ _ _ _ _ { tmps := #[.pointer (some ⟨g, 0, none⟩), _, _, .pointer (some ⟨b3, 0, none⟩), _, _, _, _, _, _, _, _, _, _, _, .pointer (some ⟨b3, 3, none⟩), .slice va i vc, .pointer (some ⟨g, 0, none⟩), .agg cx, .slice (some ⟨y3.heap.size, 0, none⟩) 1 1, .slice va' i1 vc', .pointer (some ⟨b3, 3, none⟩), _, _, _, _, _, _], defers := _ } _
      refine alongK_done ?_
      focus
        have HT9 := Lib.hid HT8
        clear HT8 hb8 hbx3 hbx4 hap8 hbx8 hR3 hG3
        go_wp2
        go_roundw
        case rel => exact ⟨i1, va', vc', ls ++ [x], vr7 qi, by rw [← HI1.out]; go_num, by rw [← HI1.out]; exact hlt, HT9⟩
        case measure => simp [RowKit.intOf]; have := HI1.out; omega
      rotate_left
      refine opK_call (vs := [.pointer (some ⟨g, 0, none⟩)]) rfl rfl rfl (enters_of Try.func36 (by kernel_rfl) rfl) rfl ?_
      with_reducible refine Calls.mono (HVR.out) ?_
      rintro e y3 ⟨rfl, hR3, hG3⟩
      obtain ⟨hbx3, va', vc', w8, hb8, hbx4, hap8, hbx8, HT8⟩ := HST.out y3 hR3 hG3
      refine ⟨_, rfl, (fun _ => True), (fun _ _ => trivial), trivial, ?_⟩
      change AlongK _ _ _ _ _ { tmps := #[.pointer (some ⟨g, 0, none⟩), _, _, .pointer (some ⟨b3, 0, none⟩), _, _, _, _, _, _, _, _, _, _, _, .pointer (some ⟨b3, 3, none⟩), _, .pointer (some ⟨g, 0, none⟩), .agg cx, _, _, _, _, _, _, _, _, _], defers := _ } _
      refine alongK_fork ?_ ?_
      refine opK_run (.slice va i vc) _ rfl rfl (ex_loadcell (cs := cs) Try.isAgg22 rfl rfl _ (hbx3) HCL.out) (fun _ => True) (fun _ _ => trivial) trivial ?_
      change AlongK _ _ _ _ _ { tmps := #[.pointer (some ⟨g, 0, none⟩), _, _, .pointer (some ⟨b3, 0, none⟩), _, _, _, _, _, _, _, _, _, _, _, .pointer (some ⟨b3, 3, none⟩), .slice va i vc, .pointer (some ⟨g, 0, none⟩), .agg cx, _, _, _, _, _, _, _, _, _], defers := _ } _
      refine alongK_step ?_
      refine opK_run (.slice (some ⟨y3.heap.size, 0, none⟩) 1 1) _ rfl rfl (ex_slice1 _ _ hb8 rfl rfl) (fun _ => True) (fun _ _ => trivial) trivial ?_
      change AlongK _ _ _ _ _ { tmps := #[.pointer (some ⟨g, 0, none⟩), _, _, .pointer (some ⟨b3, 0, none⟩), _, _, _, _, _, _, _, _, _, _, _, .pointer (some ⟨b3, 3, none⟩), .slice va i vc, .pointer (some ⟨g, 0, none⟩), .agg cx, .slice (some ⟨y3.heap.size, 0, none⟩) 1 1, _, _, _, _, _, _, _, _], defers := _ } _
      refine alongK_step ?_
      refine opK_run (.slice va' i1 vc') _ rfl rfl (ex_append1 rfl rfl rfl rfl hap8) (fun _ => True) (fun _ _ => trivial) trivial ?_
      change AlongK _ _ _ _ _ { tmps := #[.pointer (some ⟨g, 0, none⟩), _, _, .pointer (some ⟨b3, 0, none⟩), _, _, _, _, _, _, _, _, _, _, _, .pointer (some ⟨b3, 3, none⟩), .slice va i vc, .pointer (some ⟨g, 0, none⟩), .agg cx, .slice (some ⟨y3.heap.size, 0, none⟩) 1 1, .slice va' i1 vc', _, _, _, _, _, _, _], defers := _ } _
      refine alongK_read (.pointer (some ⟨b3, 3, none⟩)) rfl rfl (fun wx hS => ex_field rfl rfl wx (by simp [go_sem])) ?_
      change AlongK _ _ _ _ _ { tmps := #[.pointer (some ⟨g, 0, none⟩), _, _, .pointer (some ⟨b3, 0, none⟩), _, _, _, _, _, _, _, _, _, _, _, .pointer (some ⟨b3, 3, none⟩), .slice va i vc, .pointer (some ⟨g, 0, none⟩), .agg cx, .slice (some ⟨y3.heap.size, 0, none⟩) 1 1, .slice va' i1 vc', .pointer (some ⟨b3, 3, none⟩), _, _, _, _, _, _], defers := _ } _
      refine alongK_step ?_
      refine opK_store _ rfl rfl (ex_storecell (cs := cs) (off := 3) (v := .slice va' i1 vc') Try.sizeOf22 rfl rfl rfl rfl _ hbx8 HCF.out rfl) (fun _ => True) (fun _ _ => trivial) trivial ?_
      change AlongK _ _ _ _ _ { tmps := #[.pointer (some ⟨g, 0, none⟩), _, _, .pointer (some ⟨b3, 0, none⟩), _, _, _, _, _, _, _, _, _, _, _, .pointer (some ⟨b3, 3, none⟩), .slice va i vc, .pointer (some ⟨g, 0, none⟩), .agg cx, .slice (some ⟨y3.heap.size, 0, none⟩) 1 1, .slice va' i1 vc', .pointer (some ⟨b3, 3, none⟩), _, _, _, _, _, _], defers := _ } _
      refine alongK_done ?_
      focus
        have HT9 := Lib.hid HT8
        clear HT8 hb8 hbx3 hbx4 hap8 hbx8 hR3 hG3
        go_wp2
        go_roundw
        case rel => exact ⟨i1, va', vc', ls ++ [x], vr7 qi, by rw [← HI1.out]; go_num, by rw [← HI1.out]; exact hlt, HT9⟩
        case measure => simp [RowKit.intOf]; have := HI1.out; omega
      rotate_left
      refine opK_run (.slice (some ⟨y3.heap.size, 0, none⟩) 1 1) _ rfl rfl (ex_slice1 _ _ hb8 rfl rfl) (fun _ => True) (fun _ _ => trivial) trivial ?_
      change AlongK _ _ _ _ _ { tmps := #[.pointer (some ⟨g, 0, none⟩), _, _, .pointer (some ⟨b3, 0, none⟩), _, _, _, _, _, _, _, _, _, _, _, .pointer (some ⟨b3, 3, none⟩), _, .pointer (some ⟨g, 0, none⟩), .agg cx, .slice (some ⟨y3.heap.size, 0, none⟩) 1 1, _, _, _, _, _, _, _, _], defers := _ } _
      refine alongK_step ?_
      refine opK_run (.slice va i vc) _ rfl rfl (ex_loadcell (cs := cs) Try.isAgg22 rfl rfl _ (hbx4) HCL.out) (fun _ => True) (fun _ _ => trivial) trivial ?_
      change AlongK _ _ _ _ _ { tmps := #[.pointer (some ⟨g, 0, none⟩), _, _, .pointer (some ⟨b3, 0, none⟩), _, _, _, _, _, _, _, _, _, _, _, .pointer (some ⟨b3, 3, none⟩), .slice va i vc, .pointer (some ⟨g, 0, none⟩), .agg cx, .slice (some ⟨y3.heap.size, 0, none⟩) 1 1, _, _, _, _, _, _, _, _], defers := _ } _
      refine alongK_step ?_
      refine opK_run (.slice va' i1 vc') _ rfl rfl (ex_append1 rfl rfl rfl rfl hap8) (fun _ => True) (fun _ _ => trivial) trivial ?_
      change AlongK _ _ _ _ _ { tmps := #[.pointer (some ⟨g, 0, none⟩), _, _, .pointer (some ⟨b3, 0, none⟩), _, _, _, _, _, _, _, _, _, _, _, .pointer (some ⟨b3, 3, none⟩), .slice va i vc, .pointer (some ⟨g, 0, none⟩), .agg cx, .slice (some ⟨y3.heap.size, 0, none⟩) 1 1, .slice va' i1 vc', _, _, _, _, _, _, _], defers := _ } _
      refine alongK_read (.pointer (some ⟨b3, 3, none⟩)) rfl rfl (fun wx hS => ex_field rfl rfl wx (by simp [go_sem])) ?_
      change AlongK _ _ _ _ _ { tmps := #[.pointer (some ⟨g, 0, none⟩), _, _, .pointer (some ⟨b3, 0, none⟩), _, _, _, _, _, _, _, _, _, _, _, .pointer (some ⟨b3, 3, none⟩), .slice va i vc, .pointer (some ⟨g, 0, none⟩), .agg cx, .slice (some ⟨y3.heap.size, 0, none⟩) 1 1, .slice va' i1 vc', .pointer (some ⟨b3, 3, none⟩), _, _, _, _, _, _], defers := _ } _
      refine alongK_step ?_
      refine opK_store _ rfl rfl (ex_storecell (cs := cs) (off := 3) (v := .slice va' i1 vc') Try.sizeOf22 rfl rfl rfl rfl _ hbx8 HCF.out rfl) (fun _ => True) (fun _ _ => trivial) trivial ?_
      change AlongK _ _ _ _ _ { tmps := #[.pointer (some ⟨g, 0, none⟩), _, _, .pointer (some ⟨b3, 0, none⟩), _, _, _, _, _, _, _, _, _, _, _, .pointer (some ⟨b3, 3, none⟩), .slice va i vc, .pointer (some ⟨g, 0, none⟩), .agg cx, .slice (some ⟨y3.heap.size, 0, none⟩) 1 1, .slice va' i1 vc', .pointer (some ⟨b3, 3, none⟩), _, _, _, _, _, _], defers := _ } _
      refine alongK_done ?_
      focus
        have HT9 := Lib.hid HT8
        clear HT8 hb8 hbx3 hbx4 hap8 hbx8 hR3 hG3
        go_wp2
        go_roundw
        case rel => exact ⟨i1, va', vc', ls ++ [x], vr7 qi, by rw [← HI1.out]; go_num, by rw [← HI1.out]; exact hlt, HT9⟩
        case measure => simp [RowKit.intOf]; have := HI1.out; omega
    · have hie : i = n := by omega
      have hz : ¬ (i : Int) < (n : Int) := by omega
      have HRR : Hid (RL = (ls, qi)) := by
        (have e : RL = (ls, qi) := by
          rw [HEQ.out, HT.out.eq, hie, Nat.sub_self]
          show (ls ++ [], qi) = _
          rw [List.append_nil])
        exact e
      have HE := Lib.hid (rerr_on g l qi.1 qi.2 w wr HT.out.rd)
      have HBR := Lib.hid ((HT.out.kept.block b2 HW8.out.2.2.2.1 (fun e => e.elim HW8.out.2.2.2.2.1 HW8.out.2.2.2.2.2)).trans HB8.out)
      have HGR : Hid (W.grownBy wr (some g)) := ⟨HT.out.kept.os.trans HG8.out.os, HT.out.kept.tape.trans HG8.out.tape, HT.out.kept.output.trans HG8.out.output, Nat.le_trans HG8.out.size HT.out.kept.size, fun k hk e => (HT.out.kept.block k (Nat.lt_of_lt_of_le hk HG8.out.size) (fun e2 => e2.elim (fun e3 => e (by rw [e3])) (fun e3 => by have := HS6.out.1; omega))).trans (HG8.out.block k hk e)⟩
      clear hie
      by_cases he : qi.1 = 0
      · have hct := RY.out (by rw [HRR.out]; exact he)
        rw [he] at HE
        have HCT := Lib.hid hct
        have HBX := Lib.hid HT.out.box
        have hce := HCE.out ls (va, vc)
        rw [HT.out.len] at hce
        rw [hce] at HBX
        clear hct hce he RY RN
        go_wp2_with fail
        with_reducible refine Calls.mono HE.out ?_
        rintro e w9 ⟨rfl, rfl⟩
        go_wp2_with (refine wpList_ex rfl (.agg #[.int .i64 V, .int .i64 Hh, .string B, .slice va i vc]) _ (ex_loadrow (x := .tmp 3) rfl rfl _ 24 HBX.out Try.underlying24 rfl info_ct) ?_; refine Stp.h ?_)
        refine Stp.mk ?_
        go_wp2_with (refine wpList_storeT (B := b2) (c1 := #[.int .i64 V, .int .i64 Hh, .string B, .slice va i vc]) rfl rfl rfl rfl HBR.out info_ct (by rw [Z0.out.1]; rfl) (one_ct _ _ _ _ _ _) ?_; intro w10 k10 g10; refine Stp.h ?_)
        refine Stp.mk ?_
        go_wp2
        exact bodyPost_ret (results_ct rfl _ _ _ _ rfl k10 rfl) rfl ⟨va, i, vc, by rw [HCT.out], by rw [HCT.out, HRR.out]; exact HT.out.len, by
          rw [HCT.out, HRR.out]
          refine own_low (own_but HT.out.row (KeptBut.of_grown (S := fun k => k = b2) g10 (fun k e => by cases e; rfl)) (fun k hk e => by have := (HT.out.row.lt k hk).1; have := HW8.out.2.2.2.1; omega)) HG8.out.size, by
          rw [HRR.out]
          exact HT.out.rd.put g10 HW8.out.2.2.2.2.1 (fun k hk => by have := HL.out k hk; have := HS.out; have := HS2.out; omega) (by have := HS.out; have := HS2.out; omega), grown_new HGR.out g10 (fun q e => by cases e; exact HS2.out)⟩
      · have hct := RN.out (by rw [HRR.out]; exact he)
        have e1 : (qi.1 == 0) = false := by rw [beq_eq_false_iff_ne]; exact he
        have e2 : (qi.1 != 0) = true := by rw [bne, e1]; rfl
        have HCT := Lib.hid hct
        clear hct he RY RN
        go_wp2_with fail
        with_reducible refine Calls.mono HE.out ?_
        rintro e w9 ⟨rfl, rfl⟩
        go_wp2_with (refine wpList_ex rfl (.agg z) _ (ex_build0 _ _ (HBZ.out _) rfl) ?_; refine Stp.h ?_)
        refine Stp.mk ?_
        go_wp2_with (refine wpList_storeT (B := b2) (c1 := z) rfl rfl rfl rfl HBR.out (by rw [info_ct, Z0.out.1]) rfl Z0.out.2.2 ?_; intro w10 k10 g10; refine Stp.h ?_)
        refine Stp.mk ?_
        go_wp2
        exact bodyPost_ret (results_ct rfl _ _ _ _ rfl k10 Z0.out.1) rfl ⟨none, 0, 0, by rw [HCT.out, Z0.out.2.1]; rfl, by rw [HCT.out]; rfl, by rw [HCT.out]; exact ⟨rfl, .inl ⟨rfl, rfl⟩⟩, by
          rw [HRR.out]
          exact HT.out.rd.put g10 HW8.out.2.2.2.2.1 (fun k hk => by have := HL.out k hk; have := HS.out; have := HS2.out; omega) (by have := HS.out; have := HS2.out; omega), grown_new HGR.out g10 (fun q e => by cases e; exact HS2.out)⟩
end
end Go.Proofs.Ytacamknljicjmaa
