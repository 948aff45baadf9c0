import Derived.Test.YtacamknljicjmaaMsRdCt
/-
  block: Read.
-/
namespace Go.Proofs.Ytacamknljicjmaa
set_option maxRecDepth 100000
section
set_option linter.unusedVariables false
open Go.RowKit Go.Sort Go.Lib

theorem rTsL_le : ∀ (n : Nat) (q : Int × List Int), (rTsL n q).1.length ≤ n
  | 0, q => Nat.zero_le _
  | n + 1, q => by
    unfold rTsL
    split
    · exact Nat.zero_le _
    · have := rTsL_le n (tsR q)
      simp only [List.length_cons]; omega
/-- a block's fields, and the reader's states -/
def rb0 (q : Int × List Int) : Int × List Int := rvTxtS q
def rb1 (q : Int × List Int) : Int × List Int := rvNumS (rb0 q)
def rb2 (q : Int × List Int) : Int × List Int := rvNumS (rb1 q)
def rb3 (q : Int × List Int) : Int × List Int := rvTxtS (rb2 q)
def rb4 (q : Int × List Int) : Int × List Int := rvNumS (rb3 q)
def rb5 (q : Int × List Int) : Int × List Int := (rTxs (rb4 q)).2
noncomputable def rb6 (q : Int × List Int) : Int × List Int := (rcL (rb5 q)).2
noncomputable def rb7 (q : Int × List Int) : Int × List Int := rvTxtS (rb6 q)
noncomputable def rbB (q : Int × List Int) : Bm := ⟨rvNum (rb0 q), rvNum (rb1 q), strOfNums (rvTxt (rb2 q)), rCt (rb5 q), (rTxs (rb4 q)).1, strOfNums (rvTxt (rb6 q))⟩
def RbOk (q : Int × List Int) : Prop := (rb7 q).1 = 0 ∧ strOfNums (rvTxt q) = ⟨#[98, 108, 111, 99, 107]⟩ ∧ rvNum (rb3 q) = (rbB q).J.V ∧ BkMay (rbB q).V (rbB q).H (rbB q).P (rbB q).J.V (rbB q).J.H (rbB q).J.B (rbB q).tx (rbB q).S
open Classical in
noncomputable def rBk (q : Int × List Int) : Bm := if RbOk q then rbB q else zB
theorem rb_inv {q : Int × List Int} (h : RvInv q) : RvInv (rb0 q) ∧ RvInv (rb1 q) ∧ RvInv (rb2 q) ∧ RvInv (rb3 q) ∧ RvInv (rb4 q) ∧ RvInv (rb5 q) ∧ RvInv (rb6 q) ∧ RvInv (rb7 q) := by
  have h0 : RvInv (rb0 q) := rvTxt_inv h
  have h1 : RvInv (rb1 q) := rvNum_inv h0
  have h2 : RvInv (rb2 q) := rvNum_inv h1
  have h3 : RvInv (rb3 q) := rvTxt_inv h2
  have h4 : RvInv (rb4 q) := rvNum_inv h3
  have h5 : RvInv (rb5 q) := rTsL_inv _ _ (rvNum_inv h4)
  have h6 : RvInv (rb6 q) := (rc_inv h5).2.2.2.2
  exact ⟨h0, h1, h2, h3, h4, h5, h6, rvTxt_inv h6⟩
theorem alloc_bk (w : World) : (Instr.alloc 27 true (.tuple #[])).run Try.prog w = .ok (.pointer (some ⟨w.heap.size, 0, none⟩)) (w.alloc (.cells (bkC 0 0 ⟨#[]⟩ 0 0 ⟨#[]⟩ none 0 0 none 0 0 ⟨#[]⟩) 27)) := by
  simp [bkC, go_sem]
theorem build_bk3 (V H : Int) (P : ByteArray) (w : World) : (Instr.build 27 #[(0, .int .i64 V), (1, .int .i64 H), (2, .string P)]).run Try.prog w = .ok (.agg (bkC V H P 0 0 ⟨#[]⟩ none 0 0 none 0 0 ⟨#[]⟩)) w := by
  simp [bkC, go_sem]
theorem build_bk0 (w : World) : (Instr.build 27 #[]).run Try.prog w = .ok (.agg (bkC 0 0 ⟨#[]⟩ 0 0 ⟨#[]⟩ none 0 0 none 0 0 ⟨#[]⟩)) w := by
  simp [bkC, go_sem]
theorem bkC_one (V H : Int) (P : ByteArray) (JV JH : Int) (JB : ByteArray) (ja : Option Addr) (jn jc : Nat) (ta : Option Addr) (tn tc : Nat) (S : ByteArray) : (bkC V H P JV JH JB ja jn jc ta tn tc S).all (·.oneCell') = true := by simp [bkC, Value.oneCell']
theorem results_bk {fn : Func} {p : Tmp} (h : fn.results = #[.cell p 27]) (tmps : Array Value) (w : World) (B : Nat) (cs : Array Value) (hp : tmps.getD p undef = .pointer (some ⟨B, 0, none⟩))
    (hg : w.heap[B]? = some (.cells cs 27 (0, 0))) (hs : cs.size = 9) :
    (results fn tmps).run Try.prog w = .ok (.agg cs) w := by
  have hp' : tmps[p]?.getD undef = .pointer (some ⟨B, 0, none⟩) := by simpa using hp
  have hl := run_loadVar_row (P := Try.prog) w B 27 27 cs (0, 0) _ hg Try.underlying27 rfl (by rw [info_bk, hs])
  simp [results, h, hp', asAddr, hl]
/-- what block.Read tells -/
structure BkRd (g : Nat) (l : Value) (w W : World) (b : Bm) (q7 : Int × List Int) (e : Ending) (w' : World) : Prop where
  ex : ∃ (j x : Pl), e = .returned (.agg (bkLs b j x).toArray) ∧ w'.ownsRow W.heap.size 29 7 (.slice j.1 b.J.vs.length j.2) b.J.vs.length (vsF b.J.vs) ∧ w'.ownsRow W.heap.size 31 5 (.slice x.1 b.tx.length x.2) b.tx.length (tsF b.tx)
  rd : Reads g l w q7.1 q7.2 w'
  gr : W.grownBy w' (some g)
/-- two rows and a box beside a reader -/
structure BkSt (g : Nat) (l : Value) (w W X : World) (q : Int × List Int) (b2 b4 : Nat) (z c : Array Value) : Prop where
  rd : Reads g l w q.1 q.2 X
  gr : W.grownBy X (some g)
  x2 : X.heap[b2]? = some (.cells z 27 (0, 0))
  x4 : X.heap[b4]? = some (.cells c 27 (0, 0))
  far : b2 ≠ b4 ∧ W.heap.size ≤ b2 ∧ W.heap.size ≤ b4
theorem BkSt.read {g : Nat} {l : Value} {w W X Y : World} {q q' : Int × List Int} {b2 b4 : Nat} {z c : Array Value} (h : BkSt g l w W X q b2 b4 z c) (hW : w.heap.size ≤ W.heap.size) (hg : g < w.heap.size) (hr : Reads g l w q'.1 q'.2 Y) (hG : X.grownBy Y (some g)) : BkSt g l w W Y q' b2 b4 z c :=
  ⟨hr, grown_trans h.gr hG, block_read h.x2 hG (by have := h.far; omega), block_read h.x4 hG (by have := h.far; omega), h.far⟩
theorem BkSt.set {g : Nat} {l : Value} {w W X Y : World} {q : Int × List Int} {b2 b4 : Nat} {z c c' : Array Value} (h : BkSt g l w W X q b2 b4 z c) (hW : w.heap.size ≤ W.heap.size) (hg : g < w.heap.size) (hl : ∀ k, l.ownBlock = some k → k < w.heap.size) (hG : X.grownBy Y (some b4)) (hc : Y.heap[b4]? = some (.cells c' 27 (0, 0))) : BkSt g l w W Y q b2 b4 z c' :=
  ⟨h.rd.put hG (by have := h.far; omega) (fun k hk => by have := hl k hk; have := h.far; omega) (by have := h.far; omega), grown_new h.gr hG (fun k e => by cases e; exact h.far.2.2), block_read h.x2 hG h.far.1, hc, h.far⟩
theorem own_box {w w' : World} {base sz n B : Nat} {v : Value} {xs : List Value} {e T : TypeId} {cs : Array Value} (h : w.ownsRow base e sz v n xs) (hB : w.heap[B]? = some (.cells cs T (0, 0))) (hT : T ≠ e) (hG : w.grownBy w' (some B)) : w'.ownsRow base e sz v n xs :=
  own_but h (KeptBut.of_grown (S := fun k => k = B) hG (fun k e => by cases e; rfl)) (fun k hk e => by subst e; exact block_off hB hT h hk.symm)

set_option maxHeartbeats 4000000 in
theorem blkRead_on (g : Nat) (l : Value) (q : Int × List Int) (w W : World) (h : Reads g l w q.1 q.2 W) (hi : RvInv q) (hl : ∀ k, l.ownBlock = some k → k < w.heap.size) (hg : g < w.heap.size) :
    Calls Try.prog 35 #[.pointer (some ⟨g, 0, none⟩)] W (BkRd g l w W (rBk q) (rb7 q)) := by
  have hiv := rb_inv hi
  have C0 : Hid (∀ X, Reads g l w q.1 q.2 X → Calls Try.prog 38 #[.pointer (some ⟨g, 0, none⟩), .int .i64 4096] X fun e w' => e = .returned (.string (strOfNums (rvTxt q))) ∧ Reads g l w (rb0 q).1 (rb0 q).2 w' ∧ X.grownBy w' (some g)) := fun X hX => rtext_on g l _ _ _ w X hX hi.2 (by omega)
  have C1 : Hid (∀ X, Reads g l w (rb0 q).1 (rb0 q).2 X → Calls Try.prog 34 #[.pointer (some ⟨g, 0, none⟩), .int .i64 1099511627776] X fun e w' => e = .returned (.int .i64 (rvNum (rb0 q))) ∧ Reads g l w (rb1 q).1 (rb1 q).2 w' ∧ X.grownBy w' (some g)) := fun X hX => rnum_on g l _ _ _ w X hX hiv.1.2 (by omega)
  have C2 : Hid (∀ X, Reads g l w (rb1 q).1 (rb1 q).2 X → Calls Try.prog 34 #[.pointer (some ⟨g, 0, none⟩), .int .i64 1099511627776] X fun e w' => e = .returned (.int .i64 (rvNum (rb1 q))) ∧ Reads g l w (rb2 q).1 (rb2 q).2 w' ∧ X.grownBy w' (some g)) := fun X hX => rnum_on g l _ _ _ w X hX hiv.2.1.2 (by omega)
  have C3 : Hid (∀ X, Reads g l w (rb2 q).1 (rb2 q).2 X → Calls Try.prog 38 #[.pointer (some ⟨g, 0, none⟩), .int .i64 4096] X fun e w' => e = .returned (.string (strOfNums (rvTxt (rb2 q)))) ∧ Reads g l w (rb3 q).1 (rb3 q).2 w' ∧ X.grownBy w' (some g)) := fun X hX => rtext_on g l _ _ _ w X hX hiv.2.2.1.2 (by omega)
  have C4 : Hid (∀ X, Reads g l w (rb3 q).1 (rb3 q).2 X → Calls Try.prog 34 #[.pointer (some ⟨g, 0, none⟩), .int .i64 1099511627776] X fun e w' => e = .returned (.int .i64 (rvNum (rb3 q))) ∧ Reads g l w (rb4 q).1 (rb4 q).2 w' ∧ X.grownBy w' (some g)) := fun X hX => rnum_on g l _ _ _ w X hX hiv.2.2.2.1.2 (by omega)
  have C5 : Hid (∀ X, Reads g l w (rb4 q).1 (rb4 q).2 X → Calls Try.prog 57 #[.pointer (some ⟨g, 0, none⟩)] X fun e w' => ∃ a n c, e = .returned (.slice a n c) ∧ (rTxs (rb4 q)).1.length = n ∧ w'.ownsRow X.heap.size 31 5 (.slice a n c) n (tsF (rTxs (rb4 q)).1) ∧ Reads g l w (rb5 q).1 (rb5 q).2 w' ∧ X.grownBy w' (some g)) := fun X hX => readTxs_on g l _ w X hX hiv.2.2.2.2.1 hl hg
  have C6 : Hid (∀ X, Reads g l w (rb5 q).1 (rb5 q).2 X → Calls Try.prog 37 #[.pointer (some ⟨g, 0, none⟩)] X fun e w' => ∃ a n c, e = .returned (.agg #[.int .i64 (rCt (rb5 q)).V, .int .i64 (rCt (rb5 q)).H, .string (rCt (rb5 q)).B, .slice a n c]) ∧ (rCt (rb5 q)).vs.length = n ∧ w'.ownsRow X.heap.size 29 7 (.slice a n c) n (vsF (rCt (rb5 q)).vs) ∧ Reads g l w (rb6 q).1 (rb6 q).2 w' ∧ X.grownBy w' (some g)) := fun X hX => ctRead_on g l _ w X hX hiv.2.2.2.2.2.1 hl hg
  have C7 : Hid (∀ X, Reads g l w (rb6 q).1 (rb6 q).2 X → Calls Try.prog 38 #[.pointer (some ⟨g, 0, none⟩), .int .i64 4096] X fun e w' => e = .returned (.string (strOfNums (rvTxt (rb6 q)))) ∧ Reads g l w (rb7 q).1 (rb7 q).2 w' ∧ X.grownBy w' (some g)) := fun X hX => rtext_on g l _ _ _ w X hX hiv.2.2.2.2.2.2.1.2 (by omega)
  have CE : Hid (∀ X, Reads g l w (rb7 q).1 (rb7 q).2 X → Calls Try.prog 58 #[.pointer (some ⟨g, 0, none⟩)] X fun e w' => e = .returned (.int .i64 (rb7 q).1) ∧ X = w') := fun X hX => rerr_on g l _ _ w X hX
  have hr7 := rdNum_rng (rb4 q).1 (rb4 q).2 1099511627776 (by omega)
  have hTL : (rTxs (rb4 q)).1.length ≤ 9223372036854775807 := Nat.le_trans (rTsL_le _ _) (by unfold rvNum; omega)
  have CK : Hid (∀ X a c, TArg X (.slice a (rTxs (rb4 q)).1.length c) (rTxs (rb4 q)).1 → ∀ ja jn jc, Calls Try.prog 41 #[.agg (bkC (rvNum (rb0 q)) (rvNum (rb1 q)) (strOfNums (rvTxt (rb2 q))) (rCt (rb5 q)).V (rCt (rb5 q)).H (rCt (rb5 q)).B ja jn jc a (rTxs (rb4 q)).1.length c (strOfNums (rvTxt (rb6 q))))] X fun e w' => e = .returned (.int .i64 (bkE (rvNum (rb0 q)) (rvNum (rb1 q)) (strOfNums (rvTxt (rb2 q))) (rCt (rb5 q)).V (rCt (rb5 q)).H (rCt (rb5 q)).B (rTxs (rb4 q)).1 (strOfNums (rvTxt (rb6 q))))) ∧ Up X w') := fun X a c ht ja jn jc => bkCheck_any _ _ _ _ _ _ _ _ _ _ _ _ _ _ X hTL ht
  have KE : bkE (rvNum (rb0 q)) (rvNum (rb1 q)) (strOfNums (rvTxt (rb2 q))) (rCt (rb5 q)).V (rCt (rb5 q)).H (rCt (rb5 q)).B (rTxs (rb4 q)).1 (strOfNums (rvTxt (rb6 q))) = 0 ↔ BkMay (rvNum (rb0 q)) (rvNum (rb1 q)) (strOfNums (rvTxt (rb2 q))) (rCt (rb5 q)).V (rCt (rb5 q)).H (rCt (rb5 q)).B (rTxs (rb4 q)).1 (strOfNums (rvTxt (rb6 q))) := ⟨fun k => Classical.byContradiction fun n => (by rw [bkE_no n] at k; cases k), bkE_ok⟩
  have RY : Hid ((rb7 q).1 = 0 → strOfNums (rvTxt q) = ⟨#[98, 108, 111, 99, 107]⟩ → rvNum (rb3 q) = (rCt (rb5 q)).V → bkE (rvNum (rb0 q)) (rvNum (rb1 q)) (strOfNums (rvTxt (rb2 q))) (rCt (rb5 q)).V (rCt (rb5 q)).H (rCt (rb5 q)).B (rTxs (rb4 q)).1 (strOfNums (rvTxt (rb6 q))) = 0 → rBk q = ⟨rvNum (rb0 q), rvNum (rb1 q), strOfNums (rvTxt (rb2 q)), rCt (rb5 q), (rTxs (rb4 q)).1, strOfNums (rvTxt (rb6 q))⟩) := fun k1 k2 k3 k4 => by
    unfold rBk; exact if_pos ⟨k1, k2, k3, KE.1 k4⟩
  have RN : Hid (¬ ((rb7 q).1 = 0 ∧ strOfNums (rvTxt q) = ⟨#[98, 108, 111, 99, 107]⟩ ∧ rvNum (rb3 q) = (rCt (rb5 q)).V ∧ bkE (rvNum (rb0 q)) (rvNum (rb1 q)) (strOfNums (rvTxt (rb2 q))) (rCt (rb5 q)).V (rCt (rb5 q)).H (rCt (rb5 q)).B (rTxs (rb4 q)).1 (strOfNums (rvTxt (rb6 q))) = 0) → rBk q = zB) := fun k => by
    unfold rBk; exact if_neg (fun o => k ⟨o.1, o.2.1, o.2.2.1, KE.2 o.2.2.2⟩)
  have H0 := Lib.hid h
  have HL := Lib.hid hl
  have HG := Lib.hid hg
  have HS := Lib.hid h.size
  have HAL := Lib.hid alloc_bk
  have HBZ := Lib.hid build_bk0
  have Z0 : Hid (bkC 0 0 ⟨#[]⟩ 0 0 ⟨#[]⟩ none 0 0 none 0 0 ⟨#[]⟩ = (bkLs zB zL zL).toArray ∧ (bkC 0 0 ⟨#[]⟩ 0 0 ⟨#[]⟩ none 0 0 none 0 0 ⟨#[]⟩).size = 9 ∧ (bkC 0 0 ⟨#[]⟩ 0 0 ⟨#[]⟩ none 0 0 none 0 0 ⟨#[]⟩).all (·.oneCell') = true) := ⟨rfl, rfl, bkC_one _ _ _ _ _ _ _ _ _ _ _ _ _⟩
  generalize rBk q = BR at *
  generalize bkE (rvNum (rb0 q)) (rvNum (rb1 q)) (strOfNums (rvTxt (rb2 q))) (rCt (rb5 q)).V (rCt (rb5 q)).H (rCt (rb5 q)).B (rTxs (rb4 q)).1 (strOfNums (rvTxt (rb6 q))) = EK at *
  generalize rvNum (rb0 q) = V at *
  generalize rvNum (rb1 q) = Hh at *
  generalize strOfNums (rvTxt (rb2 q)) = PP at *
  generalize rvNum (rb3 q) = V2 at *
  generalize strOfNums (rvTxt (rb6 q)) = SG at *
  generalize strOfNums (rvTxt q) = F0 at *
  generalize rTxs (rb4 q) = TX at *
  generalize rCt (rb5 q) = CT at *
  generalize rb7 q = q7 at *
  generalize rb6 q = q6 at *
  generalize rb5 q = q5 at *
  generalize rb4 q = q4 at *
  generalize rb3 q = q3 at *
  generalize rb2 q = q2 at *
  generalize rb1 q = q1 at *
  generalize rb0 q = q0 at *
  have HB3 := Lib.hid (build_bk3 V Hh PP)
  have HC0 : Hid ((bkC V Hh PP 0 0 ⟨#[]⟩ none 0 0 none 0 0 ⟨#[]⟩).size = 9 ∧ (bkC V Hh PP 0 0 ⟨#[]⟩ none 0 0 none 0 0 ⟨#[]⟩).all (·.oneCell') = true) := ⟨rfl, bkC_one _ _ _ _ _ _ _ _ _ _ _ _ _⟩
  have HP1 : Hid (∀ a n c, putAt (bkC V Hh PP 0 0 ⟨#[]⟩ none 0 0 none 0 0 ⟨#[]⟩) 7 [.slice a n c] = bkC V Hh PP 0 0 ⟨#[]⟩ none 0 0 a n c ⟨#[]⟩) := fun _ _ _ => rfl
  have HP2 : Hid (∀ a n c ja jn jc, putAt (bkC V Hh PP 0 0 ⟨#[]⟩ none 0 0 a n c ⟨#[]⟩) 3 [.int .i64 CT.V, .int .i64 CT.H, .string CT.B, .slice ja jn jc] = bkC V Hh PP CT.V CT.H CT.B ja jn jc a n c ⟨#[]⟩) := fun _ _ _ _ _ _ => rfl
  have HP3 : Hid (∀ a n c ja jn jc, putAt (bkC V Hh PP CT.V CT.H CT.B ja jn jc a n c ⟨#[]⟩) 8 [.string SG] = bkC V Hh PP CT.V CT.H CT.B ja jn jc a n c SG) := fun _ _ _ _ _ _ => rfl
  have HSZ : Hid (∀ JV JH JB ja jn jc a n c S, (bkC V Hh PP JV JH JB ja jn jc a n c S).size = 9 ∧ (bkC V Hh PP JV JH JB ja jn jc a n c S).all (·.oneCell') = true) := fun _ _ _ _ _ _ _ _ _ _ => ⟨rfl, bkC_one _ _ _ _ _ _ _ _ _ _ _ _ _⟩
  have HJV : Hid (∀ ja jn jc a n c S, (bkC V Hh PP CT.V CT.H CT.B ja jn jc a n c S)[3]? = some (.int .i64 CT.V)) := fun _ _ _ _ _ _ _ => rfl
  have HFIN : Hid (∀ ja jn jc a n c, CT.vs.length = jn → TX.1.length = n → bkC V Hh PP CT.V CT.H CT.B ja jn jc a n c SG = (bkLs ⟨V, Hh, PP, CT, TX.1, SG⟩ (ja, jc) (a, c)).toArray) := fun ja jn jc a n c k1 k2 => by subst k1 k2; rfl
  clear h hi hl hg hiv hr7 hTL KE
  generalize bkC 0 0 ⟨#[]⟩ 0 0 ⟨#[]⟩ none 0 0 none 0 0 ⟨#[]⟩ = z at *
  generalize bkC V Hh PP = KF at *
  generalize hPOST : BkRd g l w W BR q7 = POST
  have HPOST : Hid (∀ e w', BkRd g l w W BR q7 e w' → POST e w') := fun e w' k => by rw [← hPOST]; exact k
  clear hPOST
  go_enter Try.func35, Try.ntmps35
  go_wp2_with (refine wpList_allocT rfl rfl HAL.out ?_; intro b2 w2 k2 s2 u2; refine Stp.h ?_)
  have HX2 := Lib.hid k2
  have HR2 := Lib.hid (H0.out.up u2)
  have HG2 := Lib.hid (grown_up u2 (some g))
  have HS2 := Lib.hid s2
  clear k2 s2 u2
  refine Stp.mk ?_
  go_wp2_with fail
  with_reducible refine Calls.mono (C0.out _ HR2.out) ?_
  rintro e w3 ⟨rfl, k1, k2⟩
  have HX3 := Lib.hid (block_read HX2.out k2 (by have := HG.out; have := HS.out; have := HS2.out; omega))
  have HR3 := Lib.hid k1
  have HG3 := Lib.hid (grown_trans HG2.out k2)
  clear k1 k2
  go_wp2_with fail
  with_reducible refine Calls.mono (C1.out _ HR3.out) ?_
  rintro e w4 ⟨rfl, k1, k2⟩
  have HX4 := Lib.hid (block_read HX3.out k2 (by have := HG.out; have := HS.out; have := HS2.out; omega))
  have HR4 := Lib.hid k1
  have HG4 := Lib.hid (grown_trans HG3.out k2)
  clear k1 k2
  go_wp2_with fail
  with_reducible refine Calls.mono (C2.out _ HR4.out) ?_
  rintro e w5 ⟨rfl, k1, k2⟩
  have HX5 := Lib.hid (block_read HX4.out k2 (by have := HG.out; have := HS.out; have := HS2.out; omega))
  have HR5 := Lib.hid k1
  have HG5 := Lib.hid (grown_trans HG4.out k2)
  clear k1 k2
  go_wp2_with fail
  with_reducible refine Calls.mono (C3.out _ HR5.out) ?_
  rintro e w6 ⟨rfl, k1, k2⟩
  have HX6 := Lib.hid (block_read HX5.out k2 (by have := HG.out; have := HS.out; have := HS2.out; omega))
  have HR6 := Lib.hid k1
  have HG6 := Lib.hid (grown_trans HG5.out k2)
  clear k1 k2
  go_wp2_with (refine wpList_ex rfl (.agg (KF 0 0 ⟨#[]⟩ none 0 0 none 0 0 ⟨#[]⟩)) _ (ex_build3 _ _ (HB3.out _) rfl rfl rfl rfl) ?_; refine Stp.h ?_)
  refine Stp.mk ?_
  go_wp2_with (refine wpList_allocT rfl rfl HAL.out ?_; intro b4 w7 k7 s7 u7; refine Stp.h ?_)
  have HT7 : Hid (BkSt g l w W w7 q3 b2 b4 z z) := ⟨HR6.out.up u7, grown_trans HG6.out (grown_up u7 (some g)), (u7.block _ (lt_of_block HX6.out)).trans HX6.out, k7, fun e => by have := lt_of_block HX6.out; omega, HS2.out, Nat.le_trans HG6.out.size s7⟩
  clear k7 s7 u7
  refine Stp.mk ?_
  go_wp2_with (refine wpList_storeT (B := b4) rfl rfl rfl rfl HT7.out.x4 (by rw [info_bk, HC0.out.1]) (by rw [Z0.out.2.1, HC0.out.1]) HC0.out.2 ?_; intro w8 k8 g8; refine Stp.h ?_)
  have HT8 := Lib.hid (HT7.out.set HS.out HG.out HL.out g8 k8)
  clear k8 g8 HX2 HX3 HX4 HX5 HX6 HR2 HR3 HR4 HR5 HR6 HG2 HG3 HG4 HG5 HG6 HT7 C0 C1 C2 C3
  refine Stp.mk ?_
  go_wp2_with fail
  with_reducible refine Calls.mono (C4.out _ HT8.out.rd) ?_
  rintro e w9 ⟨rfl, k1, k2⟩
  have HT9 := Lib.hid (HT8.out.read HS.out HG.out k1 k2)
  clear k1 k2 C4 HT8
  go_wp2_with fail
  with_reducible refine Calls.mono (C5.out _ HT9.out.rd) ?_
  rintro e w10 ⟨ta, tn, tc, rfl, htn, k3, k1, k2⟩
  have HTN := Lib.hid htn
  have HT10 := Lib.hid (HT9.out.read HS.out HG.out k1 k2)
  have HO10 := Lib.hid (own_low k3 HT9.out.gr.size)
  clear k1 k2 k3 htn C5
  go_wp2_with (refine wpList_storeC (B := b4) (off := 7) (v := .slice ta tn tc) rfl Try.sizeOf25 rfl rfl rfl rfl HT10.out.x4 (by rw [(HSZ.out _ _ _ _ _ _ _ _ _ _).1]; decide) rfl ?_; intro w11 k11 g11; refine Stp.h ?_)
  rw [HP1.out] at k11
  have HT11 := Lib.hid (HT10.out.set HS.out HG.out HL.out g11 k11)
  have HO11 := Lib.hid (own_box HO10.out HT10.out.x4 (by decide) g11)
  clear k11 g11 HT9 HT10 HO10
  refine Stp.mk ?_
  go_wp2_with fail
  with_reducible refine Calls.mono (C6.out _ HT11.out.rd) ?_
  rintro e w12 ⟨ja, jn, jc, rfl, hjn, k3, k1, k2⟩
  have HJN := Lib.hid hjn
  have HT12 := Lib.hid (HT11.out.read HS.out HG.out k1 k2)
  have HV12 := Lib.hid (own_low k3 HT11.out.gr.size)
  have HO12 := Lib.hid (own_read HO11.out k2 (by have := HG.out; have := HS.out; omega))
  clear k1 k2 k3 hjn C6
  have HFT : Hid (3 + [Value.int .i64 CT.V, .int .i64 CT.H, .string CT.B, .slice ja jn jc].length ≤ (KF 0 0 ⟨#[]⟩ none 0 0 ta tn tc ⟨#[]⟩).size) := by
    (have k : 3 + [Value.int .i64 CT.V, .int .i64 CT.H, .string CT.B, .slice ja jn jc].length ≤ (KF 0 0 ⟨#[]⟩ none 0 0 ta tn tc ⟨#[]⟩).size := by rw [(HSZ.out _ _ _ _ _ _ _ _ _ _).1]; exact Nat.le_of_ble_eq_true rfl)
    exact k
  have HON : Hid (∀ v ∈ [Value.int .i64 CT.V, .int .i64 CT.H, .string CT.B, .slice ja jn jc], v.oneCell' = true) := by
    (have k : ∀ v ∈ [Value.int .i64 CT.V, .int .i64 CT.H, .string CT.B, .slice ja jn jc], v.oneCell' = true := by intro v hv; simp at hv; rcases hv with rfl | rfl | rfl | rfl <;> rfl)
    exact k
  go_wp2_with (refine wpList_storeP (B := b4) (off := 3) (l := [.int .i64 CT.V, .int .i64 CT.H, .string CT.B, .slice ja jn jc]) rfl Try.sizeOf24 rfl rfl rfl HT12.out.x4 HFT.out HON.out ?_; intro w13 k13 g13; refine Stp.h ?_)
  rw [HP2.out] at k13
  have HT13 := Lib.hid (HT12.out.set HS.out HG.out HL.out g13 k13)
  have HV13 := Lib.hid (own_box HV12.out HT12.out.x4 (by decide) g13)
  have HO13 := Lib.hid (own_box HO12.out HT12.out.x4 (by decide) g13)
  clear k13 g13 HT11 HT12 HV12 HO11 HO12
  refine Stp.mk ?_
  go_wp2_with fail
  with_reducible refine Calls.mono (C7.out _ HT13.out.rd) ?_
  rintro e w14 ⟨rfl, k1, k2⟩
  have HT14 := Lib.hid (HT13.out.read HS.out HG.out k1 k2)
  have HV14 := Lib.hid (own_read HV13.out k2 (by have := HG.out; have := HS.out; omega))
  have HO14 := Lib.hid (own_read HO13.out k2 (by have := HG.out; have := HS.out; omega))
  clear k1 k2 C7
  go_wp2_with (refine wpList_storeC (B := b4) (off := 8) (v := .string SG) rfl Try.sizeOf9 rfl rfl rfl rfl HT14.out.x4 (by rw [(HSZ.out _ _ _ _ _ _ _ _ _ _).1]; decide) rfl ?_; intro w15 k15 g15; refine Stp.h ?_)
  rw [HP3.out] at k15
  have HT15 := Lib.hid (HT14.out.set HS.out HG.out HL.out g15 k15)
  have HV15 := Lib.hid (own_box HV14.out HT14.out.x4 (by decide) g15)
  have HO15 := Lib.hid (own_box HO14.out HT14.out.x4 (by decide) g15)
  clear k15 g15 HT13 HT14 HV13 HV14 HO13 HO14
  have HCK := Lib.hid (CK.out w15 ta tc (by rw [HTN.out]; exact targ_of_own HO15.out HTN.out) ja jn jc)
  rw [HTN.out] at HCK
  have HCE := Lib.hid (CE.out w15 HT15.out.rd)
  have HZE : Hid (∀ Y : World, Reads g l w q7.1 q7.2 Y → W.grownBy Y (some g) → BR = zB → POST (.returned (.agg z)) Y) := fun Y k1 k2 k3 => HPOST.out _ _ ⟨⟨zL, zL, by rw [k3, Z0.out.1], by rw [k3]; exact ⟨rfl, .inl ⟨rfl, rfl⟩⟩, by rw [k3]; exact ⟨rfl, .inl ⟨rfl, rfl⟩⟩⟩, k1, k2⟩
  have HFAR : Hid (b2 ≠ g ∧ (∀ k, l.ownBlock = some k → k ≠ b2) ∧ w.heap.size ≤ b2 ∧ W.heap.size ≤ b2) := ⟨by have := HT15.out.far; have := HG.out; have := HS.out; omega, fun k hk => by have := HL.out k hk; have := HT15.out.far; have := HS.out; omega, by have := HT15.out.far; have := HS.out; omega, HT15.out.far.2.1⟩
  clear CK CE HP1 HP2 HP3
  have HJ : Hid (∀ (ja : Option Addr) (jn jc : Nat) (a : Option Addr) (n c : Nat), (KF CT.V CT.H CT.B ja jn jc a n c SG)[3]? = some (.int .i64 CT.V)) := fun ja jn jc a n c => HJV.out ja jn jc a n c SG
  have HEQ : Hid (∀ b, (b.V = V ∧ b.H = Hh ∧ b.P = PP ∧ b.J = CT ∧ b.tx = TX.1 ∧ b.S = SG) → b = (⟨V, Hh, PP, CT, TX.1, SG⟩ : Bm)) := fun b k => by
    obtain ⟨V', H', P', J', t', S'⟩ := b
    obtain ⟨k1, k2, k3, k4, k5, k6⟩ := k
    simp only at k1 k2 k3 k4 k5 k6
    subst k1 k2 k3 k4 k5 k6; rfl
  have HDONE : Hid (∀ Y : World, Reads g l w q7.1 q7.2 Y → W.grownBy Y (some g) → Y.ownsRow W.heap.size 29 7 (.slice ja jn jc) jn (vsF CT.vs) → Y.ownsRow W.heap.size 31 5 (.slice ta tn tc) tn (tsF TX.1) → BR = ⟨V, Hh, PP, CT, TX.1, SG⟩ → POST (.returned (.agg (KF CT.V CT.H CT.B ja jn jc ta tn tc SG))) Y) := fun Y k1 k2 k3 k4 k5 => HPOST.out _ _ ⟨⟨(ja, jc), (ta, tc), by rw [k5, HFIN.out ja jn jc ta tn tc HJN.out HTN.out], by rw [k5]; show Y.ownsRow W.heap.size 29 7 (.slice ja CT.vs.length jc) CT.vs.length (vsF CT.vs); rw [HJN.out]; exact k3, by rw [k5]; show Y.ownsRow W.heap.size 31 5 (.slice ta TX.1.length tc) TX.1.length (tsF TX.1); rw [HTN.out]; exact k4⟩, k1, k2⟩
  clear HJV HFIN HEQ HPOST HTN HJN
  generalize CT.V = JV at *
  refine Stp.mk ?_
  by_cases hE : q7.1 = 0
  · have HCE2 := HCE
    rw [hE] at HCE
    by_cases hF : F0 = ⟨#[98, 108, 111, 99, 107]⟩
    · by_cases hV : V2 = JV
      · have e3 : (V2 != JV) = false := by rw [bne_eq_false_iff_eq]; exact hV
        by_cases hK : EK = 0
        · have HBR := Lib.hid (RY.out hE hF hV hK)
          subst hF
          have e4 : (EK != 0) = false := by rw [bne_eq_false_iff_eq]; exact hK
          clear hV hK RY RN hE HCE2
          go_wp2_with fail
          with_reducible refine Calls.mono HCE.out ?_
          rintro e w16 ⟨rfl, rfl⟩
          go_wp2_with (refine wpList_exw rfl (.int .i64 JV) _ (ex_loadcell (cs := (KF JV CT.H CT.B ja jn jc ta tn tc SG)) Try.isAgg3 rfl rfl _ HT15.out.x4 (HJ.out _ _ _ _ _ _)) ?_; refine Stp.h ?_)
          refine Stp.mk ?_
          go_wp2_with (refine wpList_exw rfl (.agg (KF JV CT.H CT.B ja jn jc ta tn tc SG)) _ (ex_loadrow rfl rfl _ 27 HT15.out.x4 Try.underlying27 rfl (by rw [info_bk, (HSZ.out _ _ _ _ _ _ _ _ _ _).1])) ?_; refine Stp.h ?_)
          refine Stp.mk ?_
          go_wp2_with fail
          with_reducible refine Calls.mono HCK.out ?_
          rintro e w17 ⟨rfl, u17⟩
          have HX17 := Lib.hid ((u17.block _ (lt_of_block HT15.out.x2)).trans HT15.out.x2)
          have HR17 := Lib.hid (HT15.out.rd.up u17)
          have HG17 := Lib.hid (grown_trans HT15.out.gr (grown_up u17 (some g)))
          have HX4 := Lib.hid ((u17.block _ (lt_of_block HT15.out.x4)).trans HT15.out.x4)
          have HV17 := Lib.hid (ownsRow_up HV15.out u17)
          have HO17 := Lib.hid (ownsRow_up HO15.out u17)
          clear u17
          go_wp2_with (refine wpList_ex rfl (.agg (KF JV CT.H CT.B ja jn jc ta tn tc SG)) _ (ex_loadrow rfl rfl _ 27 HX4.out Try.underlying27 rfl (by rw [info_bk, (HSZ.out _ _ _ _ _ _ _ _ _ _).1])) ?_; refine Stp.h ?_)
          refine Stp.mk ?_
          go_wp2_with (refine wpList_storeT (B := b2) (c1 := (KF JV CT.H CT.B ja jn jc ta tn tc SG)) rfl rfl rfl rfl HX17.out (by rw [info_bk, (HSZ.out _ _ _ _ _ _ _ _ _ _).1]) (by rw [Z0.out.2.1, (HSZ.out _ _ _ _ _ _ _ _ _ _).1]) (HSZ.out _ _ _ _ _ _ _ _ _ _).2 ?_; intro w20 k20 g20; refine Stp.h ?_)
          refine Stp.mk ?_
          go_wp2
          exact bodyPost_ret (results_bk rfl _ _ _ _ rfl k20 (HSZ.out _ _ _ _ _ _ _ _ _ _).1) rfl (HDONE.out _ (HR17.out.put g20 HFAR.out.1 HFAR.out.2.1 HFAR.out.2.2.1) (grown_new HG17.out g20 (fun q e => by cases e; exact HFAR.out.2.2.2)) (own_box HV17.out HX17.out (by decide) g20) (own_box HO17.out HX17.out (by decide) g20) HBR.out)
        · have HBR := Lib.hid (RN.out (fun k => hK k.2.2.2))
          subst hF
          have e4 : (EK != 0) = true := by rw [bne_iff_ne]; exact hK
          clear hV hK RY RN hE HCE2
          go_wp2_with fail
          with_reducible refine Calls.mono HCE.out ?_
          rintro e w16 ⟨rfl, rfl⟩
          go_wp2_with (refine wpList_exw rfl (.int .i64 JV) _ (ex_loadcell (cs := (KF JV CT.H CT.B ja jn jc ta tn tc SG)) Try.isAgg3 rfl rfl _ HT15.out.x4 (HJ.out _ _ _ _ _ _)) ?_; refine Stp.h ?_)
          refine Stp.mk ?_
          go_wp2_with (refine wpList_exw rfl (.agg (KF JV CT.H CT.B ja jn jc ta tn tc SG)) _ (ex_loadrow rfl rfl _ 27 HT15.out.x4 Try.underlying27 rfl (by rw [info_bk, (HSZ.out _ _ _ _ _ _ _ _ _ _).1])) ?_; refine Stp.h ?_)
          refine Stp.mk ?_
          go_wp2_with fail
          with_reducible refine Calls.mono HCK.out ?_
          rintro e w17 ⟨rfl, u17⟩
          have HX17 := Lib.hid ((u17.block _ (lt_of_block HT15.out.x2)).trans HT15.out.x2)
          have HR17 := Lib.hid (HT15.out.rd.up u17)
          have HG17 := Lib.hid (grown_trans HT15.out.gr (grown_up u17 (some g)))
          clear u17
          go_wp2_with (refine wpList_ex rfl (.agg z) _ (ex_build0 _ _ (HBZ.out _) rfl) ?_; refine Stp.h ?_)
          refine Stp.mk ?_
          go_wp2_with (refine wpList_storeT (B := b2) (c1 := z) rfl rfl rfl rfl HX17.out (by rw [info_bk, Z0.out.2.1]) rfl Z0.out.2.2 ?_; intro w20 k20 g20; refine Stp.h ?_)
          refine Stp.mk ?_
          go_wp2
          exact bodyPost_ret (results_bk rfl _ _ _ _ rfl k20 Z0.out.2.1) rfl (HZE.out _ (HR17.out.put g20 HFAR.out.1 HFAR.out.2.1 HFAR.out.2.2.1) (grown_new HG17.out g20 (fun q e => by cases e; exact HFAR.out.2.2.2)) HBR.out)
      · have HBR := Lib.hid (RN.out (fun k => hV k.2.2.1))
        subst hF
        have e3 : (V2 != JV) = true := by rw [bne_iff_ne]; exact hV
        clear hV RY RN hE HCE2
        go_wp2_with fail
        with_reducible refine Calls.mono HCE.out ?_
        rintro e w16 ⟨rfl, rfl⟩
        go_wp2_with (refine wpList_exw rfl (.int .i64 JV) _ (ex_loadcell (cs := (KF JV CT.H CT.B ja jn jc ta tn tc SG)) Try.isAgg3 rfl rfl _ HT15.out.x4 (HJ.out _ _ _ _ _ _)) ?_; refine Stp.h ?_)
        refine Stp.mk ?_
        go_wp2_with (refine wpList_ex rfl (.agg z) _ (ex_build0 _ _ (HBZ.out _) rfl) ?_; refine Stp.h ?_)
        refine Stp.mk ?_
        go_wp2_with (refine wpList_storeT (B := b2) (c1 := z) rfl rfl rfl rfl HT15.out.x2 (by rw [info_bk, Z0.out.2.1]) rfl Z0.out.2.2 ?_; intro w20 k20 g20; refine Stp.h ?_)
        refine Stp.mk ?_
        go_wp2
        exact bodyPost_ret (results_bk rfl _ _ _ _ rfl k20 Z0.out.2.1) rfl (HZE.out _ (HT15.out.rd.put g20 HFAR.out.1 HFAR.out.2.1 HFAR.out.2.2.1) (grown_new HT15.out.gr g20 (fun q e => by cases e; exact HFAR.out.2.2.2)) HBR.out)
    · have HBR := Lib.hid (RN.out (fun k => hF k.2.1))
      have e2 : (F0.toList == [98, 108, 111, 99, 107]) = false := by rw [beq_eq_false_iff_ne]; exact fun h => hF (toList_inj (h.trans (by rw [ByteArray.toList_eq])))
      clear hF RY RN hE HCE2
      go_wp2_with fail
      with_reducible refine Calls.mono HCE.out ?_
      rintro e w16 ⟨rfl, rfl⟩
      go_wp2_with (refine wpList_ex rfl (.agg z) _ (ex_build0 _ _ (HBZ.out _) rfl) ?_; refine Stp.h ?_)
      refine Stp.mk ?_
      go_wp2_with (refine wpList_storeT (B := b2) (c1 := z) rfl rfl rfl rfl HT15.out.x2 (by rw [info_bk, Z0.out.2.1]) rfl Z0.out.2.2 ?_; intro w20 k20 g20; refine Stp.h ?_)
      refine Stp.mk ?_
      go_wp2
      exact bodyPost_ret (results_bk rfl _ _ _ _ rfl k20 Z0.out.2.1) rfl (HZE.out _ (HT15.out.rd.put g20 HFAR.out.1 HFAR.out.2.1 HFAR.out.2.2.1) (grown_new HT15.out.gr g20 (fun q e => by cases e; exact HFAR.out.2.2.2)) HBR.out)
  · have HBR := Lib.hid (RN.out (fun k => hE k.1))
    have e0 : (q7.1 == 0) = false := by rw [beq_eq_false_iff_ne]; exact hE
    have e1 : (q7.1 != 0) = true := by rw [bne, e0]; rfl
    clear RY RN hE
    go_wp2_with fail
    with_reducible refine Calls.mono HCE.out ?_
    rintro e w16 ⟨rfl, rfl⟩
    go_wp2_with (refine wpList_ex rfl (.agg z) _ (ex_build0 _ _ (HBZ.out _) rfl) ?_; refine Stp.h ?_)
    refine Stp.mk ?_
    go_wp2_with (refine wpList_storeT (B := b2) (c1 := z) rfl rfl rfl rfl HT15.out.x2 (by rw [info_bk, Z0.out.2.1]) rfl Z0.out.2.2 ?_; intro w20 k20 g20; refine Stp.h ?_)
    refine Stp.mk ?_
    go_wp2
    exact bodyPost_ret (results_bk rfl _ _ _ _ rfl k20 Z0.out.2.1) rfl (HZE.out _ (HT15.out.rd.put g20 HFAR.out.1 HFAR.out.2.1 HFAR.out.2.2.1) (grown_new HT15.out.gr g20 (fun q e => by cases e; exact HFAR.out.2.2.2)) HBR.out)
end
end Go.Proofs.Ytacamknljicjmaa
