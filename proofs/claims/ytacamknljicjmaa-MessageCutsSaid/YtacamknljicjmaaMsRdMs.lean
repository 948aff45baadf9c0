import Derived.Test.YtacamknljicjmaaMsRdBk
import Derived.Test.YtacamknljicjmaaMsCheck
/-
  message: read.
-/
namespace Go.Proofs.Ytacamknljicjmaa
set_option maxRecDepth 100000
section
set_option linter.unusedVariables false
open Go.RowKit Go.Sort Go.Lib

/-- the message that is told next -/
def rmK (q : Int × List Int) : Int := nmV 6 q
def rmS (q : Int × List Int) : Int × List Int := nmS 6 q
noncomputable def rmL (q : Int × List Int) : List Vs × (Int × List Int) := rVsL (nmV 7 q).toNat (nmS 7 q)
noncomputable def rMs (q : Int × List Int) : Mm :=
  if rmK q = 1 then { zM (rmK q) with b := rBk (rmS q) } else if rmK q = 2 then { zM (rmK q) with v := rVs (rmS q) } else if rmK q = 3 then { zM (rmK q) with c := rCt (rmS q) } else
  if rmK q = 4 then { zM (rmK q) with bl := (rmL (rmS q)).1 } else if rmK q = 5 then { zM (rmK q) with a := strOfNums (tmV 32 (rmS q)) } else if rmK q = 6 then { zM (rmK q) with t := rTs (rmS q) } else zM (rmK q)
/-- two boxes beside a reader -/
structure MsSt (g : Nat) (l : Value) (w W X : World) (q : Int × List Int) (b2 b3 : Nat) (z c : Array Value) : Prop where
  rd : Reads g l w q.1 q.2 X
  gr : W.grownBy X (some g)
  x2 : X.heap[b2]? = some (.cells z 33 (0, 0))
  x3 : X.heap[b3]? = some (.cells c 33 (0, 0))
  far : b2 ≠ b3 ∧ W.heap.size ≤ b2 ∧ W.heap.size ≤ b3
theorem MsSt.read {g : Nat} {l : Value} {w W X Y : World} {q q' : Int × List Int} {b2 b3 : Nat} {z c : Array Value} (h : MsSt g l w W X q b2 b3 z c) (hW : w.heap.size ≤ W.heap.size) (hg : g < w.heap.size) (hr : Reads g l w q'.1 q'.2 Y) (hG : X.grownBy Y (some g)) : MsSt g l w W Y q' b2 b3 z c :=
  ⟨hr, grown_trans h.gr hG, block_read h.x2 hG (by have := h.far; omega), block_read h.x3 hG (by have := h.far; omega), h.far⟩
theorem MsSt.set {g : Nat} {l : Value} {w W X Y : World} {q : Int × List Int} {b2 b3 : Nat} {z c c' : Array Value} (h : MsSt g l w W X q b2 b3 z c) (hW : w.heap.size ≤ W.heap.size) (hg : g < w.heap.size) (hl : ∀ k, l.ownBlock = some k → k < w.heap.size) (hG : X.grownBy Y (some b3)) (hc : Y.heap[b3]? = some (.cells c' 33 (0, 0))) : MsSt g l w W Y q b2 b3 z c' :=
  ⟨h.rd.put hG (by have := h.far; omega) (fun k hk => by have := hl k hk; have := h.far; omega) (by have := h.far; omega), grown_new h.gr hG (fun k e => by cases e; exact h.far.2.2), block_read h.x2 hG h.far.1, hc, h.far⟩
/-- the slices lie above -/
structure MLow (base : Nat) (p : Ps) : Prop where
  j : ∀ b off, p.j.1 = some ⟨b, off, none⟩ → base ≤ b
  x : ∀ b off, p.x.1 = some ⟨b, off, none⟩ → base ≤ b
  c : ∀ b off, p.c.1 = some ⟨b, off, none⟩ → base ≤ b
  l : ∀ b off, p.l.1 = some ⟨b, off, none⟩ → base ≤ b
theorem row_low {W : World} {base base' n sz : Nat} {a : Option Addr} {c : Nat} {e : TypeId} {xs : List Value} (h : W.ownsRow base e sz (.slice a n c) n xs) (hb : base' ≤ base) : ∀ b off, a = some ⟨b, off, none⟩ → base' ≤ b := by
  intro b off e
  subst e
  exact Nat.le_trans hb (h.lt b (by simp [Value.ownBlock])).1
theorem no_low (base : Nat) : ∀ (b off : Nat), (none : Option Addr) = some ⟨b, off, none⟩ → base ≤ b := fun b off e => by cases e
/-- what read tells -/
structure MsRd (g : Nat) (W : World) (m : Mm) (e : Ending) (w' : World) : Prop where
  ex : ∃ p : Ps, e = .returned (.agg (msA m p)) ∧ MIn w' m p ∧ MLow W.heap.size p
  gr : W.grownBy w' (some g)
theorem bl_at (K : Int) : CellAt (fun ls p => msA { zM K with bl := ls } { zP with l := p }) 21 := ⟨fun _ _ => rfl, fun ls p ls' p' => by rw [set_l], fun _ _ => Nat.le_of_ble_eq_true rfl⟩
/-- a row of statements, of transactions, is where they lie, behind whatever is written elsewhere -/
theorem varg_of_own_nil {W : World} : VArg W (.slice none 0 0) [] := varg_none W

set_option maxHeartbeats 4000000 in
theorem msRead_on (g : Nat) (l : Value) (q : Int × List Int) (w W : World) (h : Reads g l w q.1 q.2 W) (hi : RvInv q) (hl : ∀ k, l.ownBlock = some k → k < w.heap.size) (hg : g < w.heap.size) :
    Calls Try.prog 15 #[.pointer (some ⟨g, 0, none⟩)] W (MsRd g W (rMs q)) := by
  have hiv : RvInv (rmS q) := nm_inv hi
  have C0 : Hid (∀ X, Reads g l w q.1 q.2 X → Calls Try.prog 34 #[.pointer (some ⟨g, 0, none⟩), .int .i64 6] X fun e w' => e = .returned (.int .i64 (rmK q)) ∧ Reads g l w (rmS q).1 (rmS q).2 w' ∧ X.grownBy w' (some g)) := fun X hX => rnum_on g l _ _ _ w X hX hi.2 (by omega)
  have CB : Hid (∀ X, Reads g l w (rmS q).1 (rmS q).2 X → Calls Try.prog 35 #[.pointer (some ⟨g, 0, none⟩)] X (BkRd g l w X (rBk (rmS q)) (rb7 (rmS q)))) := fun X hX => blkRead_on g l _ w X hX hiv hl hg
  have CV : Hid (∀ X, Reads g l w (rmS q).1 (rmS q).2 X → Calls Try.prog 36 #[.pointer (some ⟨g, 0, none⟩)] X fun e w' => e = .returned (.agg (vsA (rVs (rmS q)))) ∧ Reads g l w (vr7 (rmS q)).1 (vr7 (rmS q)).2 w' ∧ X.grownBy w' (some g)) := fun X hX => vtRead_on g l _ w X hX hiv hl
  have CC : Hid (∀ X, Reads g l w (rmS q).1 (rmS q).2 X → Calls Try.prog 37 #[.pointer (some ⟨g, 0, none⟩)] X fun e w' => ∃ a n c, e = .returned (.agg #[.int .i64 (rCt (rmS q)).V, .int .i64 (rCt (rmS q)).H, .string (rCt (rmS q)).B, .slice a n c]) ∧ (rCt (rmS q)).vs.length = n ∧ w'.ownsRow X.heap.size 29 7 (.slice a n c) n (vsF (rCt (rmS q)).vs) ∧ Reads g l w (rcL (rmS q)).2.1 (rcL (rmS q)).2.2 w' ∧ X.grownBy w' (some g)) := fun X hX => ctRead_on g l _ w X hX hiv hl hg
  have CN : Hid (∀ X, Reads g l w (rmS q).1 (rmS q).2 X → Calls Try.prog 34 #[.pointer (some ⟨g, 0, none⟩), .int .i64 7] X fun e w' => e = .returned (.int .i64 (nmV 7 (rmS q))) ∧ Reads g l w (nmS 7 (rmS q)).1 (nmS 7 (rmS q)).2 w' ∧ X.grownBy w' (some g)) := fun X hX => rnum_on g l _ _ _ w X hX hiv.2 (by omega)
  have CA : Hid (∀ X, Reads g l w (rmS q).1 (rmS q).2 X → Calls Try.prog 38 #[.pointer (some ⟨g, 0, none⟩), .int .i64 32] X fun e w' => e = .returned (.string (strOfNums (tmV 32 (rmS q)))) ∧ Reads g l w (tmS 32 (rmS q)).1 (tmS 32 (rmS q)).2 w' ∧ X.grownBy w' (some g)) := fun X hX => rtext_on g l _ _ _ w X hX hiv.2 (by omega)
  have CT : Hid (∀ X, Reads g l w (rmS q).1 (rmS q).2 X → Calls Try.prog 39 #[.pointer (some ⟨g, 0, none⟩)] X fun e w' => e = .returned (.agg (tsA (rTs (rmS q)))) ∧ Reads g l w (tsR (rmS q)).1 (tsR (rmS q)).2 w' ∧ X.grownBy w' (some g)) := fun X hX => txRead_on g l _ w X hX hiv hl
  have hr7 := rdNum_rng (rmS q).1 (rmS q).2 7 (by omega)
  change 0 ≤ nmV 7 (rmS q) ∧ nmV 7 (rmS q) ≤ 7 at hr7
  have HR7 := Lib.hid hr7
  have HI4 : Hid (RvInv (nmS 7 (rmS q))) := nm_inv hiv
  have HEQ : Hid (rmL (rmS q) = rVsL (nmV 7 (rmS q)).toNat (nmS 7 (rmS q))) := rfl
  have S1 : Hid (rmK q = 1 → rMs q = { zM (rmK q) with b := rBk (rmS q) }) := fun k => by unfold rMs; rw [if_pos k]
  have S2 : Hid (rmK q = 2 → rMs q = { zM (rmK q) with v := rVs (rmS q) }) := fun k => by unfold rMs; rw [if_neg (by omega), if_pos k]
  have S3 : Hid (rmK q = 3 → rMs q = { zM (rmK q) with c := rCt (rmS q) }) := fun k => by unfold rMs; rw [if_neg (by omega), if_neg (by omega), if_pos k]
  have S4 : Hid (rmK q = 4 → rMs q = { zM (rmK q) with bl := (rmL (rmS q)).1 }) := fun k => by unfold rMs; rw [if_neg (by omega), if_neg (by omega), if_neg (by omega), if_pos k]
  have S5 : Hid (rmK q = 5 → rMs q = { zM (rmK q) with a := strOfNums (tmV 32 (rmS q)) }) := fun k => by unfold rMs; rw [if_neg (by omega), if_neg (by omega), if_neg (by omega), if_neg (by omega), if_pos k]
  have S6 : Hid (rmK q = 6 → rMs q = { zM (rmK q) with t := rTs (rmS q) }) := fun k => by unfold rMs; rw [if_neg (by omega), if_neg (by omega), if_neg (by omega), if_neg (by omega), if_neg (by omega), if_pos k]
  have S0 : Hid (rmK q ≠ 1 → rmK q ≠ 2 → rmK q ≠ 3 → rmK q ≠ 4 → rmK q ≠ 5 → rmK q ≠ 6 → rMs q = zM (rmK q)) := fun g1 g2 g3 g4 g5 g6 => by unfold rMs; rw [if_neg g1, if_neg g2, if_neg g3, if_neg g4, if_neg g5, if_neg g6]
  have H0 := Lib.hid h
  have HL := Lib.hid hl
  have HG := Lib.hid hg
  have HS := Lib.hid h.size
  generalize rMs q = RM at *
  generalize rmK q = K at *
  generalize rVs (rmS q) = RV at *
  generalize rTs (rmS q) = RT at *
  generalize rCt (rmS q) = RC at *
  generalize rBk (rmS q) = RB at *
  generalize rmL (rmS q) = RL at *
  generalize strOfNums (tmV 32 (rmS q)) = RA at *
  generalize nmV 7 (rmS q) = N7 at *
  generalize nmS 7 (rmS q) = q7 at *
  generalize vr7 (rmS q) = qv at *
  generalize tsR (rmS q) = qt at *
  generalize (rcL (rmS q)).2 = qc at *
  generalize tmS 32 (rmS q) = qa at *
  generalize rb7 (rmS q) = qb at *
  generalize rmS q = q1 at *
  have Z0 : Hid ((msA (zM 0) zP).size = 28 ∧ ∀ w : World, (Instr.alloc 33 true (.tuple #[])).run Try.prog w = .ok (.pointer (some ⟨w.heap.size, 0, none⟩)) (w.alloc (.cells (msA (zM 0) zP) 33))) := ⟨rfl, alloc_ms⟩
  have ZK : Hid ((msA (zM K) zP).size = 28 ∧ (msA (zM K) zP).all (·.oneCell') = true ∧ (∀ w : World, (Instr.build 33 #[(0, .int .i64 K)]).run Try.prog w = .ok (.agg (msA (zM K) zP)) w) ∧ (msA (zM K) zP)[0]? = some (.int .i64 K)) := ⟨rfl, msA_one _ _, build_ms K, rfl⟩
  have P1 : Hid (∀ j x, putAt (msA (zM K) zP) 1 (bkLs RB j x) = msA { zM K with b := RB } { zP with j := j, x := x }) := fun j x => set_b _ _ _ _ _
  have P2 : Hid (putAt (msA (zM K) zP) 10 (vsC RV) = msA { zM K with v := RV } zP) := set_v _ _ _
  have P3 : Hid (∀ p, putAt (msA (zM K) zP) 17 (ctLs RC p) = msA { zM K with c := RC } { zP with c := p }) := fun p => set_c _ _ _ _
  have P5 : Hid (putAt (msA (zM K) zP) 22 [.string RA] = msA { zM K with a := RA } zP) := set_a _ _ _
  have P6 : Hid (putAt (msA (zM K) zP) 23 (tsC RT) = msA { zM K with t := RT } zP) := set_t _ _ _
  have L1 : Hid (∀ j x, (bkLs RB j x).length = 9 ∧ ∀ v ∈ bkLs RB j x, v.oneCell' = true) := fun j x => ⟨rfl, bkLs_one _ _ _⟩
  have L2 : Hid ((vsC RV).length = 7 ∧ ∀ v ∈ vsC RV, v.oneCell' = true) := ⟨rfl, vsC_one _⟩
  have L3 : Hid (∀ p, (ctLs RC p).length = 4 ∧ ∀ v ∈ ctLs RC p, v.oneCell' = true) := fun p => ⟨rfl, ctLs_one _ _⟩
  have L6 : Hid ((tsC RT).length = 5 ∧ ∀ v ∈ tsC RT, v.oneCell' = true) := ⟨rfl, tsC_one _⟩
  have HMS : Hid (∀ m p, (msA m p).size = 28 ∧ (msA m p).all (·.oneCell') = true) := fun m p => ⟨rfl, msA_one m p⟩
  have HZ4 : Hid (msA (zM K) zP = msA { zM K with bl := [] } { zP with l := (none, 0) }) := rfl
  have HCA := Lib.hid (bl_at K)
  have HLS : Hid (∀ p, [Value.int .i64 RC.V, .int .i64 RC.H, .string RC.B, .slice p.1 RC.vs.length p.2] = ctLs RC p) := fun _ => rfl
  generalize msA (zM 0) zP = z0 at *
  generalize msA (zM K) zP = zk at *
  generalize hPOST : MsRd g W RM = POST
  have HPOST : Hid (∀ e w', MsRd g W RM e w' → POST e w') := fun e w' k => by rw [← hPOST]; exact k
  clear hPOST h hi hl hg hiv hr7
  by_cases g1 : K = 1
  · subst g1
    have HS0 := Lib.hid (S1.out rfl)
    clear S0 S1 S2 S3 S4 S5 S6
    go_enter Try.func15, Try.ntmps15
    go_wp2_with (refine wpList_allocT rfl rfl Z0.out.2 ?_; intro b2 w2 k2 s2 u2; refine Stp.h ?_)
    have HX2 := Lib.hid k2
    have HR2 := Lib.hid (H0.out.up u2)
    have HG2 := Lib.hid (grown_up u2 (some g))
    have HS2 := Lib.hid s2
    clear k2 s2 u2
    refine Stp.mk ?_
    go_wp2_with fail
    with_reducible refine Calls.mono (C0.out _ HR2.out) ?_
    rintro e w3 ⟨rfl, k1, k2⟩
    have HX3 := Lib.hid (block_read HX2.out k2 (by have := HG.out; have := HS.out; have := HS2.out; omega))
    have HR3 := Lib.hid k1
    have HG3 := Lib.hid (grown_trans HG2.out k2)
    clear k1 k2
    go_wp2_with (refine wpList_ex rfl (.agg zk) _ (ex_build1 _ _ (ZK.out.2.2.1 _) rfl rfl) ?_; refine Stp.h ?_)
    refine Stp.mk ?_
    go_wp2_with (refine wpList_allocT rfl rfl Z0.out.2 ?_; intro b3 w4 k4 s4 u4; refine Stp.h ?_)
    have HT4 : Hid (MsSt g l w W w4 q1 b2 b3 z0 z0) := ⟨HR3.out.up u4, grown_trans HG3.out (grown_up u4 (some g)), (u4.block _ (lt_of_block HX3.out)).trans HX3.out, k4, fun e => by have := lt_of_block HX3.out; omega, HS2.out, Nat.le_trans HG3.out.size s4⟩
    clear k4 s4 u4
    refine Stp.mk ?_
    go_wp2_with (refine wpList_storeT (B := b3) rfl rfl rfl rfl HT4.out.x3 (by rw [info_ms, ZK.out.1]) (by rw [Z0.out.1, ZK.out.1]) ZK.out.2.1 ?_; intro w5 k5 g5; refine Stp.h ?_)
    have HT5 := Lib.hid (HT4.out.set HS.out HG.out HL.out g5 k5)
    clear k5 g5 HT4 HX2 HX3 HR2 HR3 HG2 HG3
    refine Stp.mk ?_
    go_wp2_with (refine wpList_ex rfl (.int .i64 1) _ (ex_loadcell (cs := zk) Try.isAgg3 rfl rfl _ HT5.out.x3 ZK.out.2.2.2) ?_; refine Stp.h ?_)
    refine Stp.mk ?_
    go_wp2_with fail
    with_reducible refine Calls.mono (CB.out _ HT5.out.rd) ?_
    rintro e w6 ⟨⟨j, x, rfl, k3, k4⟩, k1, k2⟩
    have HT6 := Lib.hid (HT5.out.read HS.out HG.out k1 k2)
    have HJ6 := Lib.hid k3
    have HX6 := Lib.hid k4
    clear k1 k2 k3 k4
    generalize hlb : bkLs RB j x = lb at *
    have HLB := Lib.hid hlb
    have HN : Hid (lb.length = 9 ∧ ∀ v ∈ lb, v.oneCell' = true) := (show lb.length = 9 ∧ ∀ v ∈ lb, v.oneCell' = true from by rw [← hlb]; exact L1.out j x)
    clear hlb
    go_wp2_with (refine wpList_storeP (B := b3) (off := 1) (l := lb) rfl (by rw [HN.out.1]; exact Try.sizeOf27) rfl rfl rfl HT6.out.x3 (by rw [HN.out.1, ZK.out.1]; decide) HN.out.2 ?_; intro w7 k7 g7; refine Stp.h ?_)
    rw [← HLB.out, P1.out] at k7
    have HT7 := Lib.hid (HT6.out.set HS.out HG.out HL.out g7 k7)
    have HJ7 := Lib.hid (own_box HJ6.out HT6.out.x3 (by decide) g7)
    have HX7 := Lib.hid (own_box HX6.out HT6.out.x3 (by decide) g7)
    clear k7 g7
    refine Stp.mk ?_
    go_wp2_with (refine wpList_ex rfl (.agg (msA { zM 1 with b := RB } { zP with j := j, x := x })) _ (ex_loadrow rfl rfl _ 33 HT7.out.x3 Try.underlying33 rfl (by rw [info_ms, (HMS.out _ _).1])) ?_; refine Stp.h ?_)
    refine Stp.mk ?_
    go_wp2_with (refine wpList_storeT (B := b2) (c1 := msA { zM 1 with b := RB } { zP with j := j, x := x }) rfl rfl rfl rfl HT7.out.x2 (by rw [info_ms, (HMS.out _ _).1]) (by rw [Z0.out.1, (HMS.out _ _).1]) (HMS.out _ _).2 ?_; intro w20 k20 g20; refine Stp.h ?_)
    refine Stp.mk ?_
    go_wp2
    exact bodyPost_ret (results_ms rfl _ _ _ _ rfl k20 (HMS.out _ _).1) rfl (HPOST.out _ _ ⟨⟨{ zP with j := j, x := x }, by rw [HS0.out], by rw [HS0.out]; exact ⟨varg_of_own (own_box HJ7.out HT7.out.x2 (by decide) g20) rfl, targ_of_own (own_box HX7.out HT7.out.x2 (by decide) g20) rfl, varg_none _, varg_none _⟩, ⟨row_low HJ7.out HT5.out.gr.size, row_low HX7.out HT5.out.gr.size, no_low _, no_low _⟩⟩, grown_new HT7.out.gr g20 (fun q e => by cases e; exact HT7.out.far.2.1)⟩)
  by_cases g2 : K = 2
  · subst g2
    have HS0 := Lib.hid (S2.out rfl)
    clear S0 S1 S2 S3 S4 S5 S6 g1
    have HAA : Hid (vsA RV = (vsC RV).toArray) := rfl
    rw [HAA.out] at CV
    generalize hlb : vsC RV = lb at *
    have HLB := Lib.hid hlb
    clear hlb
    go_enter Try.func15, Try.ntmps15
    go_wp2_with (refine wpList_allocT rfl rfl Z0.out.2 ?_; intro b2 w2 k2 s2 u2; refine Stp.h ?_)
    have HX2 := Lib.hid k2
    have HR2 := Lib.hid (H0.out.up u2)
    have HG2 := Lib.hid (grown_up u2 (some g))
    have HS2 := Lib.hid s2
    clear k2 s2 u2
    refine Stp.mk ?_
    go_wp2_with fail
    with_reducible refine Calls.mono (C0.out _ HR2.out) ?_
    rintro e w3 ⟨rfl, k1, k2⟩
    have HX3 := Lib.hid (block_read HX2.out k2 (by have := HG.out; have := HS.out; have := HS2.out; omega))
    have HR3 := Lib.hid k1
    have HG3 := Lib.hid (grown_trans HG2.out k2)
    clear k1 k2
    go_wp2_with (refine wpList_ex rfl (.agg zk) _ (ex_build1 _ _ (ZK.out.2.2.1 _) rfl rfl) ?_; refine Stp.h ?_)
    refine Stp.mk ?_
    go_wp2_with (refine wpList_allocT rfl rfl Z0.out.2 ?_; intro b3 w4 k4 s4 u4; refine Stp.h ?_)
    have HT4 : Hid (MsSt g l w W w4 q1 b2 b3 z0 z0) := ⟨HR3.out.up u4, grown_trans HG3.out (grown_up u4 (some g)), (u4.block _ (lt_of_block HX3.out)).trans HX3.out, k4, fun e => by have := lt_of_block HX3.out; omega, HS2.out, Nat.le_trans HG3.out.size s4⟩
    clear k4 s4 u4
    refine Stp.mk ?_
    go_wp2_with (refine wpList_storeT (B := b3) rfl rfl rfl rfl HT4.out.x3 (by rw [info_ms, ZK.out.1]) (by rw [Z0.out.1, ZK.out.1]) ZK.out.2.1 ?_; intro w5 k5 g5; refine Stp.h ?_)
    have HT5 := Lib.hid (HT4.out.set HS.out HG.out HL.out g5 k5)
    clear k5 g5 HT4 HX2 HX3 HR2 HR3 HG2 HG3
    refine Stp.mk ?_
    go_wp2_with (refine wpList_ex rfl (.int .i64 2) _ (ex_loadcell (cs := zk) Try.isAgg3 rfl rfl _ HT5.out.x3 ZK.out.2.2.2) ?_; refine Stp.h ?_)
    refine Stp.mk ?_
    go_wp2_with fail
    with_reducible refine Calls.mono (CV.out _ HT5.out.rd) ?_
    rintro e w6 ⟨rfl, k1, k2⟩
    have HT6 := Lib.hid (HT5.out.read HS.out HG.out k1 k2)
    clear k1 k2
    go_wp2_with (refine wpList_storeP (B := b3) (off := 10) (l := lb) rfl (by rw [L2.out.1]; exact Try.sizeOf29) rfl rfl rfl HT6.out.x3 (by rw [L2.out.1, ZK.out.1]; decide) L2.out.2 ?_; intro w7 k7 g7; refine Stp.h ?_)
    rw [P2.out] at k7
    have HT7 := Lib.hid (HT6.out.set HS.out HG.out HL.out g7 k7)
    clear k7 g7
    refine Stp.mk ?_
    go_wp2_with (refine wpList_ex rfl (.agg (msA { zM 2 with v := RV } zP)) _ (ex_loadrow rfl rfl _ 33 HT7.out.x3 Try.underlying33 rfl (by rw [info_ms, (HMS.out _ _).1])) ?_; refine Stp.h ?_)
    refine Stp.mk ?_
    go_wp2_with (refine wpList_storeT (B := b2) (c1 := msA { zM 2 with v := RV } zP) rfl rfl rfl rfl HT7.out.x2 (by rw [info_ms, (HMS.out _ _).1]) (by rw [Z0.out.1, (HMS.out _ _).1]) (HMS.out _ _).2 ?_; intro w20 k20 g20; refine Stp.h ?_)
    refine Stp.mk ?_
    go_wp2
    exact bodyPost_ret (results_ms rfl _ _ _ _ rfl k20 (HMS.out _ _).1) rfl (HPOST.out _ _ ⟨⟨zP, by rw [HS0.out], by rw [HS0.out]; exact ⟨varg_none _, targ_none _, varg_none _, varg_none _⟩, ⟨no_low _, no_low _, no_low _, no_low _⟩⟩, grown_new HT7.out.gr g20 (fun q e => by cases e; exact HT7.out.far.2.1)⟩)
  by_cases g3 : K = 3
  · subst g3
    have HS0 := Lib.hid (S3.out rfl)
    clear S0 S1 S2 S3 S4 S5 S6 g1 g2
    go_enter Try.func15, Try.ntmps15
    go_wp2_with (refine wpList_allocT rfl rfl Z0.out.2 ?_; intro b2 w2 k2 s2 u2; refine Stp.h ?_)
    have HX2 := Lib.hid k2
    have HR2 := Lib.hid (H0.out.up u2)
    have HG2 := Lib.hid (grown_up u2 (some g))
    have HS2 := Lib.hid s2
    clear k2 s2 u2
    refine Stp.mk ?_
    go_wp2_with fail
    with_reducible refine Calls.mono (C0.out _ HR2.out) ?_
    rintro e w3 ⟨rfl, k1, k2⟩
    have HX3 := Lib.hid (block_read HX2.out k2 (by have := HG.out; have := HS.out; have := HS2.out; omega))
    have HR3 := Lib.hid k1
    have HG3 := Lib.hid (grown_trans HG2.out k2)
    clear k1 k2
    go_wp2_with (refine wpList_ex rfl (.agg zk) _ (ex_build1 _ _ (ZK.out.2.2.1 _) rfl rfl) ?_; refine Stp.h ?_)
    refine Stp.mk ?_
    go_wp2_with (refine wpList_allocT rfl rfl Z0.out.2 ?_; intro b3 w4 k4 s4 u4; refine Stp.h ?_)
    have HT4 : Hid (MsSt g l w W w4 q1 b2 b3 z0 z0) := ⟨HR3.out.up u4, grown_trans HG3.out (grown_up u4 (some g)), (u4.block _ (lt_of_block HX3.out)).trans HX3.out, k4, fun e => by have := lt_of_block HX3.out; omega, HS2.out, Nat.le_trans HG3.out.size s4⟩
    clear k4 s4 u4
    refine Stp.mk ?_
    go_wp2_with (refine wpList_storeT (B := b3) rfl rfl rfl rfl HT4.out.x3 (by rw [info_ms, ZK.out.1]) (by rw [Z0.out.1, ZK.out.1]) ZK.out.2.1 ?_; intro w5 k5 g5; refine Stp.h ?_)
    have HT5 := Lib.hid (HT4.out.set HS.out HG.out HL.out g5 k5)
    clear k5 g5 HT4 HX2 HX3 HR2 HR3 HG2 HG3
    refine Stp.mk ?_
    go_wp2_with (refine wpList_ex rfl (.int .i64 3) _ (ex_loadcell (cs := zk) Try.isAgg3 rfl rfl _ HT5.out.x3 ZK.out.2.2.2) ?_; refine Stp.h ?_)
    refine Stp.mk ?_
    go_wp2_with fail
    with_reducible refine Calls.mono (CC.out _ HT5.out.rd) ?_
    rintro e w6 ⟨a, n, c, rfl, hn, k3, k1, k2⟩
    have HT6 := Lib.hid (HT5.out.read HS.out HG.out k1 k2)
    have HJ6 := Lib.hid k3
    have HNN := Lib.hid hn
    clear k1 k2 k3
    have hlc : [Value.int .i64 RC.V, .int .i64 RC.H, .string RC.B, .slice a n c] = ctLs RC (a, c) := by rw [← hn]; exact HLS.out (a, c)
    have HLC := Lib.hid hlc
    have HN : Hid ([Value.int .i64 RC.V, .int .i64 RC.H, .string RC.B, .slice a n c].length = 4 ∧ ∀ v ∈ [Value.int .i64 RC.V, .int .i64 RC.H, .string RC.B, .slice a n c], v.oneCell' = true) := (show _ from by rw [hlc]; exact L3.out (a, c))
    clear hlc hn
    go_wp2_with (refine wpList_storeP (B := b3) (off := 17) (l := [Value.int .i64 RC.V, .int .i64 RC.H, .string RC.B, .slice a n c]) rfl Try.sizeOf24 rfl rfl rfl HT6.out.x3 (by rw [HN.out.1, ZK.out.1]; decide) HN.out.2 ?_; intro w7 k7 g7; refine Stp.h ?_)
    rw [HLC.out, P3.out] at k7
    have HT7 := Lib.hid (HT6.out.set HS.out HG.out HL.out g7 k7)
    have HJ7 := Lib.hid (own_box HJ6.out HT6.out.x3 (by decide) g7)
    clear k7 g7
    refine Stp.mk ?_
    go_wp2_with (refine wpList_ex rfl (.agg (msA { zM 3 with c := RC } { zP with c := (a, c) })) _ (ex_loadrow rfl rfl _ 33 HT7.out.x3 Try.underlying33 rfl (by rw [info_ms, (HMS.out _ _).1])) ?_; refine Stp.h ?_)
    refine Stp.mk ?_
    go_wp2_with (refine wpList_storeT (B := b2) (c1 := msA { zM 3 with c := RC } { zP with c := (a, c) }) rfl rfl rfl rfl HT7.out.x2 (by rw [info_ms, (HMS.out _ _).1]) (by rw [Z0.out.1, (HMS.out _ _).1]) (HMS.out _ _).2 ?_; intro w20 k20 g20; refine Stp.h ?_)
    refine Stp.mk ?_
    go_wp2
    exact bodyPost_ret (results_ms rfl _ _ _ _ rfl k20 (HMS.out _ _).1) rfl (HPOST.out _ _ ⟨⟨{ zP with c := (a, c) }, by rw [HS0.out], by rw [HS0.out]; exact ⟨varg_none _, targ_none _, (by show VArg _ (.slice a RC.vs.length c) RC.vs; rw [HNN.out]; exact varg_of_own (own_box HJ7.out HT7.out.x2 (by decide) g20) HNN.out), varg_none _⟩, ⟨no_low _, no_low _, row_low HJ7.out HT5.out.gr.size, no_low _⟩⟩, grown_new HT7.out.gr g20 (fun q e => by cases e; exact HT7.out.far.2.1)⟩)
  by_cases g4 : K = 4
  · subst g4
    have HS0 := Lib.hid (S4.out rfl)
    clear S0 S1 S2 S3 S4 S5 S6 g1 g2 g3
    obtain ⟨n, rfl⟩ : ∃ n : Nat, N7 = n := ⟨N7.toNat, by have := HR7.out; omega⟩
    have hn : n ≤ 7 := by have := HR7.out; omega
    have HQE := HEQ.out
    rw [Int.toNat_natCast] at HQE
    have HQ := Lib.hid HQE
    clear HQE HEQ
    go_enter Try.func15, Try.ntmps15
    go_wp2_with (refine wpList_allocT rfl rfl Z0.out.2 ?_; intro b2 w2 k2 s2 u2; refine Stp.h ?_)
    have HX2 := Lib.hid k2
    have HR2 := Lib.hid (H0.out.up u2)
    have HG2 := Lib.hid (grown_up u2 (some g))
    have HS2 := Lib.hid s2
    clear k2 s2 u2
    refine Stp.mk ?_
    go_wp2_with fail
    with_reducible refine Calls.mono (C0.out _ HR2.out) ?_
    rintro e w3 ⟨rfl, k1, k2⟩
    have HX3 := Lib.hid (block_read HX2.out k2 (by have := HG.out; have := HS.out; have := HS2.out; omega))
    have HR3 := Lib.hid k1
    have HG3 := Lib.hid (grown_trans HG2.out k2)
    clear k1 k2
    go_wp2_with (refine wpList_ex rfl (.agg zk) _ (ex_build1 _ _ (ZK.out.2.2.1 _) rfl rfl) ?_; refine Stp.h ?_)
    refine Stp.mk ?_
    go_wp2_with (refine wpList_allocT rfl rfl Z0.out.2 ?_; intro b3 w4 k4 s4 u4; refine Stp.h ?_)
    have HT4 : Hid (MsSt g l w W w4 q1 b2 b3 z0 z0) := ⟨HR3.out.up u4, grown_trans HG3.out (grown_up u4 (some g)), (u4.block _ (lt_of_block HX3.out)).trans HX3.out, k4, fun e => by have := lt_of_block HX3.out; omega, HS2.out, Nat.le_trans HG3.out.size s4⟩
    clear k4 s4 u4
    refine Stp.mk ?_
    go_wp2_with (refine wpList_storeT (B := b3) rfl rfl rfl rfl HT4.out.x3 (by rw [info_ms, ZK.out.1]) (by rw [Z0.out.1, ZK.out.1]) ZK.out.2.1 ?_; intro w5 k5 g5; refine Stp.h ?_)
    have HT5 := Lib.hid (HT4.out.set HS.out HG.out HL.out g5 k5)
    clear k5 g5 HT4 HX2 HX3 HR2 HR3 HG2 HG3
    refine Stp.mk ?_
    go_wp2_with (refine wpList_ex rfl (.int .i64 4) _ (ex_loadcell (cs := zk) Try.isAgg3 rfl rfl _ HT5.out.x3 ZK.out.2.2.2) ?_; refine Stp.h ?_)
    refine Stp.mk ?_
    go_wp2_with fail
    with_reducible refine Calls.mono (CN.out _ HT5.out.rd) ?_
    rintro e w6 ⟨rfl, k1, k2⟩
    have HT6 := Lib.hid (HT5.out.read HS.out HG.out k1 k2)
    clear k1 k2
    have hx6 := HT6.out.x3
    rw [HZ4.out] at hx6
    have HL8 : Hid (VtLoop g l w w6 w6 b3 33 (fun ls p => msA { zM 4 with bl := ls } { zP with l := p }) q7 n 0 none 0 [] q7) := ⟨rfl, ⟨rfl, .inl ⟨rfl, rfl⟩⟩, HT6.out.rd, HI4.out, by rw [Nat.sub_zero, List.nil_append], KeptBut.refl _ _, hx6⟩
    have HW8 : Hid (w.heap.size ≤ w6.heap.size ∧ w.heap.size ≤ b3 ∧ b3 < w6.heap.size ∧ b2 < w6.heap.size ∧ b2 ≠ g ∧ b2 ≠ b3) := ⟨Nat.le_trans HS.out HT6.out.gr.size, Nat.le_trans HS.out HT6.out.far.2.2, lt_of_block HT6.out.x3, lt_of_block HT6.out.x2, (by have := HG.out; have := HS.out; have := HT6.out.far; omega), HT6.out.far.1⟩
    clear hx6
    go_wp2
    go_loopw [28] (fun vi wr => ∃ (i : Nat) (va : Option Addr) (vc : Nat) (ls : List Vs) (qi : Int × List Int), vi = .int .i64 (i : Nat) ∧ i ≤ n ∧ Hid (VtLoop g l w w6 wr b3 33 (fun ls p => msA { zM 4 with bl := ls } { zP with l := p }) q7 n i va vc ls qi)) (fun vi _ => n - (RowKit.intOf vi).toNat)
    case atStart => exact ⟨0, none, 0, [], q7, rfl, Nat.zero_le _, HL8⟩
    case round =>
      obtain ⟨i, va, vc, ls, qi, rfl, hi, HT⟩ := hrel
      by_cases hlt : i < n
      · have hz : (i : Int) < (n : Int) := by omega
        obtain ⟨x, hx⟩ : ∃ x, rVs qi = x := ⟨_, rfl⟩
        obtain ⟨i1, hi1⟩ : ∃ i1, i + 1 = i1 := ⟨_, rfl⟩
        have HI1 := Lib.hid hi1
        have HVR := Lib.hid (vtRead_on g l qi w wr.drew (HT.out.rd.up (Up.drew1 wr)) HT.out.inv HL.out)
        have HST := Lib.hid (fun y hR hG => vt_step HT.out HCA.out hlt hn HL.out HG.out HW8.out.1 HW8.out.2.1 HW8.out.2.2.1 (by decide) y hR hG)
        have HB0 := Lib.hid (((Up.drew1 wr).block _ (lt_of_block HT.out.box)).trans HT.out.box)
        have hcl := HCA.out.get ls (va, vc)
        rw [HT.out.len] at hcl
        have HCL := Lib.hid hcl
        have HCF := Lib.hid (HCA.out.fit ls (va, vc))
        rw [hx] at HVR HST
        rw [hi1] at HST
        clear hx hi1 hcl
        dsimp only at HST HB0 HCL HCF
        generalize msA { zM 4 with bl := ls } { zP with l := (va, vc) } = cs at HST HB0 HCL HCF
        generalize vsA x = cx at *
        go_wp2
        refine region_alongK (fun _ => True) (.read 0 (.read 2 (.fork 1 (.step 3 (.step 4 (.step 5 (.read 6 (.step 7 (.nil)))))) 3 (.fork 1 (.step 4 (.step 5 (.read 6 (.step 7 (.nil))))) 4 (.step 1 (.step 5 (.read 6 (.step 7 (.nil))))))))) (by kernel_rfl) rfl (by kernel_rfl) (by kernel_rfl) (fun c a d v w h => by cases d <;> exact h) (trivial) ?_
        refine alongK_read (.pointer (some ⟨b3, 21, none⟩)) rfl rfl (fun wx hS => ex_field rfl rfl wx (by simp [go_sem])) ?_
        change AlongK _ _ _ _ _ { tmps := #[.pointer (some ⟨g, 0, none⟩), _, _, .pointer (some ⟨b3, 0, none⟩), _, _, _, _, _, _, _, _, _, _, _, _, _, _, _, _, _, _, _, _, _, _, _, _, _, _, .pointer (some ⟨b3, 21, none⟩), _, _, _, _, _, _, _, _, _, _, _, _, _, _, _, _, _, _], defers := _ } _
        refine alongK_read (.pointer (some ⟨g, 0, none⟩)) rfl rfl (fun wx hS => ex_move (by rfl) (by rfl) wx) ?_
        change AlongK _ _ _ _ _ { tmps := #[.pointer (some ⟨g, 0, none⟩), _, _, .pointer (some ⟨b3, 0, none⟩), _, _, _, _, _, _, _, _, _, _, _, _, _, _, _, _, _, _, _, _, _, _, _, _, _, _, .pointer (some ⟨b3, 21, none⟩), _, .pointer (some ⟨g, 0, none⟩), _, _, _, _, _, _, _, _, _, _, _, _, _, _, _, _], defers := _ } _
        refine alongK_fork ?_ ?_
        refine opK_run (.slice va i vc) _ rfl rfl (ex_loadcell (cs := cs) Try.isAgg22 rfl rfl _ (HB0.out) HCL.out) (fun _ => True) (fun _ _ => trivial) trivial ?_
        change AlongK _ _ _ _ _ { tmps := #[.pointer (some ⟨g, 0, none⟩), _, _, .pointer (some ⟨b3, 0, none⟩), _, _, _, _, _, _, _, _, _, _, _, _, _, _, _, _, _, _, _, _, _, _, _, _, _, _, .pointer (some ⟨b3, 21, none⟩), .slice va i vc, .pointer (some ⟨g, 0, none⟩), _, _, _, _, _, _, _, _, _, _, _, _, _, _, _, _], defers := _ } _
        refine alongK_step ?_
        refine opK_call (vs := [.pointer (some ⟨g, 0, none⟩)]) rfl rfl rfl (enters_of Try.func36 (by kernel_rfl) rfl) rfl ?_
        with_reducible refine Calls.mono (HVR.out) ?_
        rintro e y3 ⟨rfl, hR3, hG3⟩
        obtain ⟨hbx3, va', vc', w8, hb8, hbx4, hap8, hbx8, HT8⟩ := HST.out y3 hR3 hG3
        refine ⟨_, rfl, (fun _ => True), (fun _ _ => trivial), trivial, ?_⟩
        change AlongK _ _ _ _ _ { tmps := #[.pointer (some ⟨g, 0, none⟩), _, _, .pointer (some ⟨b3, 0, none⟩), _, _, _, _, _, _, _, _, _, _, _, _, _, _, _, _, _, _, _, _, _, _, _, _, _, _, .pointer (some ⟨b3, 21, none⟩), .slice va i vc, .pointer (some ⟨g, 0, none⟩), .agg cx, _, _, _, _, _, _, _, _, _, _, _, _, _, _, _], defers := _ } _
        refine alongK_step ?_
        refine opK_run (.slice (some ⟨y3.heap.size, 0, none⟩) 1 1) _ rfl rfl (ex_slice1 _ _ hb8 rfl rfl) (fun _ => True) (fun _ _ => trivial) trivial ?_
        change AlongK _ _ _ _ _ { tmps := #[.pointer (some ⟨g, 0, none⟩), _, _, .pointer (some ⟨b3, 0, none⟩), _, _, _, _, _, _, _, _, _, _, _, _, _, _, _, _, _, _, _, _, _, _, _, _, _, _, .pointer (some ⟨b3, 21, none⟩), .slice va i vc, .pointer (some ⟨g, 0, none⟩), .agg cx, .slice (some ⟨y3.heap.size, 0, none⟩) 1 1, _, _, _, _, _, _, _, _, _, _, _, _, _, _], defers := _ } _
        refine alongK_step ?_
        refine opK_run (.slice va' i1 vc') _ rfl rfl (ex_append1 rfl rfl rfl rfl hap8) (fun _ => True) (fun _ _ => trivial) trivial ?_
        change AlongK _ _ _ _ _ { tmps := #[.pointer (some ⟨g, 0, none⟩), _, _, .pointer (some ⟨b3, 0, none⟩), _, _, _, _, _, _, _, _, _, _, _, _, _, _, _, _, _, _, _, _, _, _, _, _, _, _, .pointer (some ⟨b3, 21, none⟩), .slice va i vc, .pointer (some ⟨g, 0, none⟩), .agg cx, .slice (some ⟨y3.heap.size, 0, none⟩) 1 1, .slice va' i1 vc', _, _, _, _, _, _, _, _, _, _, _, _, _], defers := _ } _
        refine alongK_read (.pointer (some ⟨b3, 21, none⟩)) rfl rfl (fun wx hS => ex_field rfl rfl wx (by simp [go_sem])) ?_
        change AlongK _ _ _ _ _ { tmps := #[.pointer (some ⟨g, 0, none⟩), _, _, .pointer (some ⟨b3, 0, none⟩), _, _, _, _, _, _, _, _, _, _, _, _, _, _, _, _, _, _, _, _, _, _, _, _, _, _, .pointer (some ⟨b3, 21, none⟩), .slice va i vc, .pointer (some ⟨g, 0, none⟩), .agg cx, .slice (some ⟨y3.heap.size, 0, none⟩) 1 1, .slice va' i1 vc', .pointer (some ⟨b3, 21, none⟩), _, _, _, _, _, _, _, _, _, _, _, _], defers := _ } _
        refine alongK_step ?_
        refine opK_store _ rfl rfl (ex_storecell (cs := cs) (off := 21) (v := .slice va' i1 vc') Try.sizeOf22 rfl rfl rfl rfl _ hbx8 HCF.out rfl) (fun _ => True) (fun _ _ => trivial) trivial ?_
        change AlongK _ _ _ _ _ { tmps := #[.pointer (some ⟨g, 0, none⟩), _, _, .pointer (some ⟨b3, 0, none⟩), _, _, _, _, _, _, _, _, _, _, _, _, _, _, _, _, _, _, _, _, _, _, _, _, _, _, .pointer (some ⟨b3, 21, none⟩), .slice va i vc, .pointer (some ⟨g, 0, none⟩), .agg cx, .slice (some ⟨y3.heap.size, 0, none⟩) 1 1, .slice va' i1 vc', .pointer (some ⟨b3, 21, none⟩), _, _, _, _, _, _, _, _, _, _, _, _], defers := _ } _
        refine alongK_done ?_
        focus
          have HT9 := Lib.hid HT8
          clear HT8 hb8 hbx3 hbx4 hap8 hbx8 hR3 hG3
          go_wp2
          go_roundw
          case rel => exact ⟨i1, va', vc', ls ++ [x], vr7 qi, by rw [← HI1.out]; go_num, by rw [← HI1.out]; exact hlt, HT9⟩
          case measure => simp [RowKit.intOf]; have := HI1.out; omega
        rotate_left
        refine opK_call (vs := [.pointer (some ⟨g, 0, none⟩)]) rfl rfl rfl (enters_of Try.func36 (by kernel_rfl) rfl) rfl ?_
        with_reducible refine Calls.mono (HVR.out) ?_
        rintro e y3 ⟨rfl, hR3, hG3⟩
        obtain ⟨hbx3, va', vc', w8, hb8, hbx4, hap8, hbx8, HT8⟩ := HST.out y3 hR3 hG3
        refine ⟨_, rfl, (fun _ => True), (fun _ _ => trivial), trivial, ?_⟩
        change AlongK _ _ _ _ _ { tmps := #[.pointer (some ⟨g, 0, none⟩), _, _, .pointer (some ⟨b3, 0, none⟩), _, _, _, _, _, _, _, _, _, _, _, _, _, _, _, _, _, _, _, _, _, _, _, _, _, _, .pointer (some ⟨b3, 21, none⟩), _, .pointer (some ⟨g, 0, none⟩), .agg cx, _, _, _, _, _, _, _, _, _, _, _, _, _, _, _], defers := _ } _
        refine alongK_fork ?_ ?_
        refine opK_run (.slice va i vc) _ rfl rfl (ex_loadcell (cs := cs) Try.isAgg22 rfl rfl _ (hbx3) HCL.out) (fun _ => True) (fun _ _ => trivial) trivial ?_
        change AlongK _ _ _ _ _ { tmps := #[.pointer (some ⟨g, 0, none⟩), _, _, .pointer (some ⟨b3, 0, none⟩), _, _, _, _, _, _, _, _, _, _, _, _, _, _, _, _, _, _, _, _, _, _, _, _, _, _, .pointer (some ⟨b3, 21, none⟩), .slice va i vc, .pointer (some ⟨g, 0, none⟩), .agg cx, _, _, _, _, _, _, _, _, _, _, _, _, _, _, _], defers := _ } _
        refine alongK_step ?_
        refine opK_run (.slice (some ⟨y3.heap.size, 0, none⟩) 1 1) _ rfl rfl (ex_slice1 _ _ hb8 rfl rfl) (fun _ => True) (fun _ _ => trivial) trivial ?_
        change AlongK _ _ _ _ _ { tmps := #[.pointer (some ⟨g, 0, none⟩), _, _, .pointer (some ⟨b3, 0, none⟩), _, _, _, _, _, _, _, _, _, _, _, _, _, _, _, _, _, _, _, _, _, _, _, _, _, _, .pointer (some ⟨b3, 21, none⟩), .slice va i vc, .pointer (some ⟨g, 0, none⟩), .agg cx, .slice (some ⟨y3.heap.size, 0, none⟩) 1 1, _, _, _, _, _, _, _, _, _, _, _, _, _, _], defers := _ } _
        refine alongK_step ?_
        refine opK_run (.slice va' i1 vc') _ rfl rfl (ex_append1 rfl rfl rfl rfl hap8) (fun _ => True) (fun _ _ => trivial) trivial ?_
        change AlongK _ _ _ _ _ { tmps := #[.pointer (some ⟨g, 0, none⟩), _, _, .pointer (some ⟨b3, 0, none⟩), _, _, _, _, _, _, _, _, _, _, _, _, _, _, _, _, _, _, _, _, _, _, _, _, _, _, .pointer (some ⟨b3, 21, none⟩), .slice va i vc, .pointer (some ⟨g, 0, none⟩), .agg cx, .slice (some ⟨y3.heap.size, 0, none⟩) 1 1, .slice va' i1 vc', _, _, _, _, _, _, _, _, _, _, _, _, _], defers := _ } _
        refine alongK_read (.pointer (some ⟨b3, 21, none⟩)) rfl rfl (fun wx hS => ex_field rfl rfl wx (by simp [go_sem])) ?_
        change AlongK _ _ _ _ _ { tmps := #[.pointer (some ⟨g, 0, none⟩), _, _, .pointer (some ⟨b3, 0, none⟩), _, _, _, _, _, _, _, _, _, _, _, _, _, _, _, _, _, _, _, _, _, _, _, _, _, _, .pointer (some ⟨b3, 21, none⟩), .slice va i vc, .pointer (some ⟨g, 0, none⟩), .agg cx, .slice (some ⟨y3.heap.size, 0, none⟩) 1 1, .slice va' i1 vc', .pointer (some ⟨b3, 21, none⟩), _, _, _, _, _, _, _, _, _, _, _, _], defers := _ } _
        refine alongK_step ?_
        refine opK_store _ rfl rfl (ex_storecell (cs := cs) (off := 21) (v := .slice va' i1 vc') Try.sizeOf22 rfl rfl rfl rfl _ hbx8 HCF.out rfl) (fun _ => True) (fun _ _ => trivial) trivial ?_
        change AlongK _ _ _ _ _ { tmps := #[.pointer (some ⟨g, 0, none⟩), _, _, .pointer (some ⟨b3, 0, none⟩), _, _, _, _, _, _, _, _, _, _, _, _, _, _, _, _, _, _, _, _, _, _, _, _, _, _, .pointer (some ⟨b3, 21, none⟩), .slice va i vc, .pointer (some ⟨g, 0, none⟩), .agg cx, .slice (some ⟨y3.heap.size, 0, none⟩) 1 1, .slice va' i1 vc', .pointer (some ⟨b3, 21, none⟩), _, _, _, _, _, _, _, _, _, _, _, _], defers := _ } _
        refine alongK_done ?_
        focus
          have HT9 := Lib.hid HT8
          clear HT8 hb8 hbx3 hbx4 hap8 hbx8 hR3 hG3
          go_wp2
          go_roundw
          case rel => exact ⟨i1, va', vc', ls ++ [x], vr7 qi, by rw [← HI1.out]; go_num, by rw [← HI1.out]; exact hlt, HT9⟩
          case measure => simp [RowKit.intOf]; have := HI1.out; omega
        rotate_left
        refine opK_run (.slice (some ⟨y3.heap.size, 0, none⟩) 1 1) _ rfl rfl (ex_slice1 _ _ hb8 rfl rfl) (fun _ => True) (fun _ _ => trivial) trivial ?_
        change AlongK _ _ _ _ _ { tmps := #[.pointer (some ⟨g, 0, none⟩), _, _, .pointer (some ⟨b3, 0, none⟩), _, _, _, _, _, _, _, _, _, _, _, _, _, _, _, _, _, _, _, _, _, _, _, _, _, _, .pointer (some ⟨b3, 21, none⟩), _, .pointer (some ⟨g, 0, none⟩), .agg cx, .slice (some ⟨y3.heap.size, 0, none⟩) 1 1, _, _, _, _, _, _, _, _, _, _, _, _, _, _], defers := _ } _
        refine alongK_step ?_
        refine opK_run (.slice va i vc) _ rfl rfl (ex_loadcell (cs := cs) Try.isAgg22 rfl rfl _ (hbx4) HCL.out) (fun _ => True) (fun _ _ => trivial) trivial ?_
        change AlongK _ _ _ _ _ { tmps := #[.pointer (some ⟨g, 0, none⟩), _, _, .pointer (some ⟨b3, 0, none⟩), _, _, _, _, _, _, _, _, _, _, _, _, _, _, _, _, _, _, _, _, _, _, _, _, _, _, .pointer (some ⟨b3, 21, none⟩), .slice va i vc, .pointer (some ⟨g, 0, none⟩), .agg cx, .slice (some ⟨y3.heap.size, 0, none⟩) 1 1, _, _, _, _, _, _, _, _, _, _, _, _, _, _], defers := _ } _
        refine alongK_step ?_
        refine opK_run (.slice va' i1 vc') _ rfl rfl (ex_append1 rfl rfl rfl rfl hap8) (fun _ => True) (fun _ _ => trivial) trivial ?_
        change AlongK _ _ _ _ _ { tmps := #[.pointer (some ⟨g, 0, none⟩), _, _, .pointer (some ⟨b3, 0, none⟩), _, _, _, _, _, _, _, _, _, _, _, _, _, _, _, _, _, _, _, _, _, _, _, _, _, _, .pointer (some ⟨b3, 21, none⟩), .slice va i vc, .pointer (some ⟨g, 0, none⟩), .agg cx, .slice (some ⟨y3.heap.size, 0, none⟩) 1 1, .slice va' i1 vc', _, _, _, _, _, _, _, _, _, _, _, _, _], defers := _ } _
        refine alongK_read (.pointer (some ⟨b3, 21, none⟩)) rfl rfl (fun wx hS => ex_field rfl rfl wx (by simp [go_sem])) ?_
        change AlongK _ _ _ _ _ { tmps := #[.pointer (some ⟨g, 0, none⟩), _, _, .pointer (some ⟨b3, 0, none⟩), _, _, _, _, _, _, _, _, _, _, _, _, _, _, _, _, _, _, _, _, _, _, _, _, _, _, .pointer (some ⟨b3, 21, none⟩), .slice va i vc, .pointer (some ⟨g, 0, none⟩), .agg cx, .slice (some ⟨y3.heap.size, 0, none⟩) 1 1, .slice va' i1 vc', .pointer (some ⟨b3, 21, none⟩), _, _, _, _, _, _, _, _, _, _, _, _], defers := _ } _
        refine alongK_step ?_
        refine opK_store _ rfl rfl (ex_storecell (cs := cs) (off := 21) (v := .slice va' i1 vc') Try.sizeOf22 rfl rfl rfl rfl _ hbx8 HCF.out rfl) (fun _ => True) (fun _ _ => trivial) trivial ?_
        change AlongK _ _ _ _ _ { tmps := #[.pointer (some ⟨g, 0, none⟩), _, _, .pointer (some ⟨b3, 0, none⟩), _, _, _, _, _, _, _, _, _, _, _, _, _, _, _, _, _, _, _, _, _, _, _, _, _, _, .pointer (some ⟨b3, 21, none⟩), .slice va i vc, .pointer (some ⟨g, 0, none⟩), .agg cx, .slice (some ⟨y3.heap.size, 0, none⟩) 1 1, .slice va' i1 vc', .pointer (some ⟨b3, 21, none⟩), _, _, _, _, _, _, _, _, _, _, _, _], defers := _ } _
        refine alongK_done ?_
        focus
          have HT9 := Lib.hid HT8
          clear HT8 hb8 hbx3 hbx4 hap8 hbx8 hR3 hG3
          go_wp2
          go_roundw
          case rel => exact ⟨i1, va', vc', ls ++ [x], vr7 qi, by rw [← HI1.out]; go_num, by rw [← HI1.out]; exact hlt, HT9⟩
          case measure => simp [RowKit.intOf]; have := HI1.out; omega
      · have hie : i = n := by omega
        have hz : ¬ (i : Int) < (n : Int) := by omega
        have HRR : Hid (RL = (ls, qi)) := by
          (have e : RL = (ls, qi) := by
            rw [HQ.out, HT.out.eq, hie, Nat.sub_self]
            show (ls ++ [], qi) = _
            rw [List.append_nil])
          exact e
        have HBR := Lib.hid ((HT.out.kept.block b2 HW8.out.2.2.2.1 (fun e => e.elim HW8.out.2.2.2.2.1 HW8.out.2.2.2.2.2)).trans HT6.out.x2)
        have HGR : Hid (W.grownBy wr (some g)) := ⟨HT.out.kept.os.trans HT6.out.gr.os, HT.out.kept.tape.trans HT6.out.gr.tape, HT.out.kept.output.trans HT6.out.gr.output, Nat.le_trans HT6.out.gr.size HT.out.kept.size, fun k hk e => (HT.out.kept.block k (Nat.lt_of_lt_of_le hk HT6.out.gr.size) (fun e2 => e2.elim (fun e3 => e (by rw [e3])) (fun e3 => by have := HT6.out.far; omega))).trans (HT6.out.gr.block k hk e)⟩
        have HT7 : Hid (MsSt g l w W wr qi b2 b3 z0 (msA { zM 4 with bl := ls } { zP with l := (va, vc) })) := ⟨HT.out.rd, HGR.out, HBR.out, HT.out.box, HT6.out.far⟩
        rw [HRR.out] at HS0
        dsimp only at HS0
        have HNN : Hid (ls.length = i) := HT.out.len
        have HROW := Lib.hid HT.out.row
        clear hie HT
        go_wp2_with (refine wpList_ex rfl (.agg (msA { zM 4 with bl := ls } { zP with l := (va, vc) })) _ (ex_loadrow rfl rfl _ 33 HT7.out.x3 Try.underlying33 rfl (by rw [info_ms, (HMS.out _ _).1])) ?_; refine Stp.h ?_)
        refine Stp.mk ?_
        go_wp2_with (refine wpList_storeT (B := b2) (c1 := msA { zM 4 with bl := ls } { zP with l := (va, vc) }) rfl rfl rfl rfl HT7.out.x2 (by rw [info_ms, (HMS.out _ _).1]) (by rw [Z0.out.1, (HMS.out _ _).1]) (HMS.out _ _).2 ?_; intro w20 k20 g20; refine Stp.h ?_)
        refine Stp.mk ?_
        go_wp2
        exact bodyPost_ret (results_ms rfl _ _ _ _ rfl k20 (HMS.out _ _).1) rfl (HPOST.out _ _ ⟨⟨{ zP with l := (va, vc) }, by rw [HS0.out], by rw [HS0.out]; exact ⟨varg_none _, targ_none _, varg_none _, (by show VArg _ (.slice va ls.length vc) ls; rw [HNN.out]; exact varg_of_own (own_box HROW.out HT7.out.x2 (by decide) g20) HNN.out)⟩, ⟨no_low _, no_low _, no_low _, row_low HROW.out HT6.out.gr.size⟩⟩, grown_new HT7.out.gr g20 (fun q e => by cases e; exact HT7.out.far.2.1)⟩)
  by_cases g5 : K = 5
  · subst g5
    have HS0 := Lib.hid (S5.out rfl)
    clear S0 S1 S2 S3 S4 S5 S6 g1 g2 g3 g4
    go_enter Try.func15, Try.ntmps15
    go_wp2_with (refine wpList_allocT rfl rfl Z0.out.2 ?_; intro b2 w2 k2 s2 u2; refine Stp.h ?_)
    have HX2 := Lib.hid k2
    have HR2 := Lib.hid (H0.out.up u2)
    have HG2 := Lib.hid (grown_up u2 (some g))
    have HS2 := Lib.hid s2
    clear k2 s2 u2
    refine Stp.mk ?_
    go_wp2_with fail
    with_reducible refine Calls.mono (C0.out _ HR2.out) ?_
    rintro e w3 ⟨rfl, k1, k2⟩
    have HX3 := Lib.hid (block_read HX2.out k2 (by have := HG.out; have := HS.out; have := HS2.out; omega))
    have HR3 := Lib.hid k1
    have HG3 := Lib.hid (grown_trans HG2.out k2)
    clear k1 k2
    go_wp2_with (refine wpList_ex rfl (.agg zk) _ (ex_build1 _ _ (ZK.out.2.2.1 _) rfl rfl) ?_; refine Stp.h ?_)
    refine Stp.mk ?_
    go_wp2_with (refine wpList_allocT rfl rfl Z0.out.2 ?_; intro b3 w4 k4 s4 u4; refine Stp.h ?_)
    have HT4 : Hid (MsSt g l w W w4 q1 b2 b3 z0 z0) := ⟨HR3.out.up u4, grown_trans HG3.out (grown_up u4 (some g)), (u4.block _ (lt_of_block HX3.out)).trans HX3.out, k4, fun e => by have := lt_of_block HX3.out; omega, HS2.out, Nat.le_trans HG3.out.size s4⟩
    clear k4 s4 u4
    refine Stp.mk ?_
    go_wp2_with (refine wpList_storeT (B := b3) rfl rfl rfl rfl HT4.out.x3 (by rw [info_ms, ZK.out.1]) (by rw [Z0.out.1, ZK.out.1]) ZK.out.2.1 ?_; intro w5 k5 g5; refine Stp.h ?_)
    have HT5 := Lib.hid (HT4.out.set HS.out HG.out HL.out g5 k5)
    clear k5 g5 HT4 HX2 HX3 HR2 HR3 HG2 HG3
    refine Stp.mk ?_
    go_wp2_with (refine wpList_ex rfl (.int .i64 5) _ (ex_loadcell (cs := zk) Try.isAgg3 rfl rfl _ HT5.out.x3 ZK.out.2.2.2) ?_; refine Stp.h ?_)
    refine Stp.mk ?_
    go_wp2_with fail
    with_reducible refine Calls.mono (CA.out _ HT5.out.rd) ?_
    rintro e w6 ⟨rfl, k1, k2⟩
    have HT6 := Lib.hid (HT5.out.read HS.out HG.out k1 k2)
    clear k1 k2
    go_wp2_with (refine wpList_storeC (B := b3) (off := 22) (v := .string RA) rfl Try.sizeOf9 rfl rfl rfl rfl HT6.out.x3 (by rw [ZK.out.1]; decide) rfl ?_; intro w7 k7 g7; refine Stp.h ?_)
    rw [P5.out] at k7
    have HT7 := Lib.hid (HT6.out.set HS.out HG.out HL.out g7 k7)
    clear k7 g7
    refine Stp.mk ?_
    go_wp2_with (refine wpList_ex rfl (.agg (msA { zM 5 with a := RA } zP)) _ (ex_loadrow rfl rfl _ 33 HT7.out.x3 Try.underlying33 rfl (by rw [info_ms, (HMS.out _ _).1])) ?_; refine Stp.h ?_)
    refine Stp.mk ?_
    go_wp2_with (refine wpList_storeT (B := b2) (c1 := msA { zM 5 with a := RA } zP) rfl rfl rfl rfl HT7.out.x2 (by rw [info_ms, (HMS.out _ _).1]) (by rw [Z0.out.1, (HMS.out _ _).1]) (HMS.out _ _).2 ?_; intro w20 k20 g20; refine Stp.h ?_)
    refine Stp.mk ?_
    go_wp2
    exact bodyPost_ret (results_ms rfl _ _ _ _ rfl k20 (HMS.out _ _).1) rfl (HPOST.out _ _ ⟨⟨zP, by rw [HS0.out], by rw [HS0.out]; exact ⟨varg_none _, targ_none _, varg_none _, varg_none _⟩, ⟨no_low _, no_low _, no_low _, no_low _⟩⟩, grown_new HT7.out.gr g20 (fun q e => by cases e; exact HT7.out.far.2.1)⟩)
  by_cases g6 : K = 6
  · subst g6
    have HS0 := Lib.hid (S6.out rfl)
    clear S0 S1 S2 S3 S4 S5 S6 g1 g2 g3 g4 g5
    have HAA : Hid (tsA RT = (tsC RT).toArray) := rfl
    rw [HAA.out] at CT
    generalize hlb : tsC RT = lb at *
    have HLB := Lib.hid hlb
    clear hlb
    go_enter Try.func15, Try.ntmps15
    go_wp2_with (refine wpList_allocT rfl rfl Z0.out.2 ?_; intro b2 w2 k2 s2 u2; refine Stp.h ?_)
    have HX2 := Lib.hid k2
    have HR2 := Lib.hid (H0.out.up u2)
    have HG2 := Lib.hid (grown_up u2 (some g))
    have HS2 := Lib.hid s2
    clear k2 s2 u2
    refine Stp.mk ?_
    go_wp2_with fail
    with_reducible refine Calls.mono (C0.out _ HR2.out) ?_
    rintro e w3 ⟨rfl, k1, k2⟩
    have HX3 := Lib.hid (block_read HX2.out k2 (by have := HG.out; have := HS.out; have := HS2.out; omega))
    have HR3 := Lib.hid k1
    have HG3 := Lib.hid (grown_trans HG2.out k2)
    clear k1 k2
    go_wp2_with (refine wpList_ex rfl (.agg zk) _ (ex_build1 _ _ (ZK.out.2.2.1 _) rfl rfl) ?_; refine Stp.h ?_)
    refine Stp.mk ?_
    go_wp2_with (refine wpList_allocT rfl rfl Z0.out.2 ?_; intro b3 w4 k4 s4 u4; refine Stp.h ?_)
    have HT4 : Hid (MsSt g l w W w4 q1 b2 b3 z0 z0) := ⟨HR3.out.up u4, grown_trans HG3.out (grown_up u4 (some g)), (u4.block _ (lt_of_block HX3.out)).trans HX3.out, k4, fun e => by have := lt_of_block HX3.out; omega, HS2.out, Nat.le_trans HG3.out.size s4⟩
    clear k4 s4 u4
    refine Stp.mk ?_
    go_wp2_with (refine wpList_storeT (B := b3) rfl rfl rfl rfl HT4.out.x3 (by rw [info_ms, ZK.out.1]) (by rw [Z0.out.1, ZK.out.1]) ZK.out.2.1 ?_; intro w5 k5 g5; refine Stp.h ?_)
    have HT5 := Lib.hid (HT4.out.set HS.out HG.out HL.out g5 k5)
    clear k5 g5 HT4 HX2 HX3 HR2 HR3 HG2 HG3
    refine Stp.mk ?_
    go_wp2_with (refine wpList_ex rfl (.int .i64 6) _ (ex_loadcell (cs := zk) Try.isAgg3 rfl rfl _ HT5.out.x3 ZK.out.2.2.2) ?_; refine Stp.h ?_)
    refine Stp.mk ?_
    go_wp2_with fail
    with_reducible refine Calls.mono (CT.out _ HT5.out.rd) ?_
    rintro e w6 ⟨rfl, k1, k2⟩
    have HT6 := Lib.hid (HT5.out.read HS.out HG.out k1 k2)
    clear k1 k2
    go_wp2_with (refine wpList_storeP (B := b3) (off := 23) (l := lb) rfl (by rw [L6.out.1]; exact Try.sizeOf31) rfl rfl rfl HT6.out.x3 (by rw [L6.out.1, ZK.out.1]; decide) L6.out.2 ?_; intro w7 k7 g7; refine Stp.h ?_)
    rw [P6.out] at k7
    have HT7 := Lib.hid (HT6.out.set HS.out HG.out HL.out g7 k7)
    clear k7 g7
    refine Stp.mk ?_
    go_wp2_with (refine wpList_ex rfl (.agg (msA { zM 6 with t := RT } zP)) _ (ex_loadrow rfl rfl _ 33 HT7.out.x3 Try.underlying33 rfl (by rw [info_ms, (HMS.out _ _).1])) ?_; refine Stp.h ?_)
    refine Stp.mk ?_
    go_wp2_with (refine wpList_storeT (B := b2) (c1 := msA { zM 6 with t := RT } zP) rfl rfl rfl rfl HT7.out.x2 (by rw [info_ms, (HMS.out _ _).1]) (by rw [Z0.out.1, (HMS.out _ _).1]) (HMS.out _ _).2 ?_; intro w20 k20 g20; refine Stp.h ?_)
    refine Stp.mk ?_
    go_wp2
    exact bodyPost_ret (results_ms rfl _ _ _ _ rfl k20 (HMS.out _ _).1) rfl (HPOST.out _ _ ⟨⟨zP, by rw [HS0.out], by rw [HS0.out]; exact ⟨varg_none _, targ_none _, varg_none _, varg_none _⟩, ⟨no_low _, no_low _, no_low _, no_low _⟩⟩, grown_new HT7.out.gr g20 (fun q e => by cases e; exact HT7.out.far.2.1)⟩)
  have HS0 := Lib.hid (S0.out g1 g2 g3 g4 g5 g6)
  have e1 : (K == 1) = false := by rw [beq_eq_false_iff_ne]; exact g1
  have e2 : (K == 2) = false := by rw [beq_eq_false_iff_ne]; exact g2
  have e3 : (K == 3) = false := by rw [beq_eq_false_iff_ne]; exact g3
  have e4 : (K == 4) = false := by rw [beq_eq_false_iff_ne]; exact g4
  have e5 : (K == 5) = false := by rw [beq_eq_false_iff_ne]; exact g5
  have e6 : (K == 6) = false := by rw [beq_eq_false_iff_ne]; exact g6
  clear S0 S1 S2 S3 S4 S5 S6 g1 g2 g3 g4 g5 g6
  go_enter Try.func15, Try.ntmps15
  go_wp2_with (refine wpList_allocT rfl rfl Z0.out.2 ?_; intro b2 w2 k2 s2 u2; refine Stp.h ?_)
  have HX2 := Lib.hid k2
  have HR2 := Lib.hid (H0.out.up u2)
  have HG2 := Lib.hid (grown_up u2 (some g))
  have HS2 := Lib.hid s2
  clear k2 s2 u2
  refine Stp.mk ?_
  go_wp2_with fail
  with_reducible refine Calls.mono (C0.out _ HR2.out) ?_
  rintro e w3 ⟨rfl, k1, k2⟩
  have HX3 := Lib.hid (block_read HX2.out k2 (by have := HG.out; have := HS.out; have := HS2.out; omega))
  have HR3 := Lib.hid k1
  have HG3 := Lib.hid (grown_trans HG2.out k2)
  clear k1 k2
  go_wp2_with (refine wpList_ex rfl (.agg zk) _ (ex_build1 _ _ (ZK.out.2.2.1 _) rfl rfl) ?_; refine Stp.h ?_)
  refine Stp.mk ?_
  go_wp2_with (refine wpList_allocT rfl rfl Z0.out.2 ?_; intro b3 w4 k4 s4 u4; refine Stp.h ?_)
  have HT4 : Hid (MsSt g l w W w4 q1 b2 b3 z0 z0) := ⟨HR3.out.up u4, grown_trans HG3.out (grown_up u4 (some g)), (u4.block _ (lt_of_block HX3.out)).trans HX3.out, k4, fun e => by have := lt_of_block HX3.out; omega, HS2.out, Nat.le_trans HG3.out.size s4⟩
  clear k4 s4 u4
  refine Stp.mk ?_
  go_wp2_with (refine wpList_storeT (B := b3) rfl rfl rfl rfl HT4.out.x3 (by rw [info_ms, ZK.out.1]) (by rw [Z0.out.1, ZK.out.1]) ZK.out.2.1 ?_; intro w5 k5 g5; refine Stp.h ?_)
  have HT5 := Lib.hid (HT4.out.set HS.out HG.out HL.out g5 k5)
  clear k5 g5 HT4 HX2 HX3 HR2 HR3 HG2 HG3
  refine Stp.mk ?_
  go_wp2_with (refine wpList_ex rfl (.int .i64 K) _ (ex_loadcell (cs := zk) Try.isAgg3 rfl rfl _ HT5.out.x3 ZK.out.2.2.2) ?_; refine Stp.h ?_)
  refine Stp.mk ?_
  have HT6 : Hid (MsSt g l w W w5 q1 b2 b3 z0 (msA (zM K) zP)) := (by have k := HT5.out; rw [HZ4.out] at k; exact k)
  clear HT5
  go_wp2_with (refine wpList_ex rfl (.agg (msA (zM K) zP)) _ (ex_loadrow rfl rfl _ 33 HT6.out.x3 Try.underlying33 rfl (by rw [info_ms, (HMS.out _ _).1])) ?_; refine Stp.h ?_)
  refine Stp.mk ?_
  go_wp2_with (refine wpList_storeT (B := b2) (c1 := msA (zM K) zP) rfl rfl rfl rfl HT6.out.x2 (by rw [info_ms, (HMS.out _ _).1]) (by rw [Z0.out.1, (HMS.out _ _).1]) (HMS.out _ _).2 ?_; intro w20 k20 g20; refine Stp.h ?_)
  refine Stp.mk ?_
  go_wp2
  exact bodyPost_ret (results_ms rfl _ _ _ _ rfl k20 (HMS.out _ _).1) rfl (HPOST.out _ _ ⟨⟨zP, by rw [HS0.out], by rw [HS0.out]; exact ⟨varg_none _, targ_none _, varg_none _, varg_none _⟩, ⟨no_low _, no_low _, no_low _, no_low _⟩⟩, grown_new HT6.out.gr g20 (fun q e => by cases e; exact HT6.out.far.2.1)⟩)
end
end Go.Proofs.Ytacamknljicjmaa
