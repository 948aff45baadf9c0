import Derived.Test.YtacamknljicjmaaMsEnc
import Derived.Test.YtacamknljicjmaaMsRdMs
/-
  What was written is read.
-/
namespace Go.Proofs.Ytacamknljicjmaa
set_option maxRecDepth 100000
section
set_option linter.unusedVariables false
open Go.RowKit Go.Sort Go.Lib

theorem nm_enc (n most : Int) (rest : List Int) (h0 : 0 ≤ n) (h1 : n ≤ most) (h2 : most ≤ 1099511627776) : nmV most (0, octAll n 6 ++ rest) = n ∧ nmS most (0, octAll n 6 ++ rest) = (0, rest) := by
  have hl := octAll_length n 6
  have ht : (octAll n 6 ++ rest).take 6 = octAll n 6 := by rw [List.take_append_of_le_length (by omega), List.take_of_length_le (by omega)]
  have hd : (octAll n 6 ++ rest).drop 6 = rest := by rw [List.drop_append_of_le_length (by omega), List.drop_eq_nil_of_le (by omega), List.nil_append]
  have hg : getB (octAll n 6) = n := by rw [getB_back n 6 (by omega)]; omega
  have e : rdNum 0 (octAll n 6 ++ rest) most = (n, 0, rest) := by
    unfold rdNum gNum
    rw [if_pos rfl, ht, hd, hg, if_neg (by rw [List.length_append]; omega), if_neg (by omega)]
  unfold nmV nmS
  simp only [e, and_self]
theorem tm_enc (zs rest : List Int) (most : Int) (h : (zs.length : Int) ≤ most) (h2 : most ≤ 4096) : tmV most (0, (octAll zs.length 2 ++ zs) ++ rest) = zs ∧ tmS most (0, (octAll zs.length 2 ++ zs) ++ rest) = (0, rest) := by
  have e : rdText 0 ((octAll zs.length 2 ++ zs) ++ rest) most = (zs, 0, rest) := by
    have hl := octAll_length (zs.length : Int) 2
    rw [List.append_assoc]
    have ht : (octAll zs.length 2 ++ (zs ++ rest)).take 2 = octAll zs.length 2 := by rw [List.take_append_of_le_length (by omega), List.take_of_length_le (by omega)]
    have hd : (octAll zs.length 2 ++ (zs ++ rest)).drop 2 = zs ++ rest := by rw [List.drop_append_of_le_length (by omega), List.drop_eq_nil_of_le (by omega), List.nil_append]
    have hg : getB (octAll zs.length 2) = zs.length := by rw [getB_back _ 2 (by omega)]; omega
    unfold rdText gText
    rw [if_pos rfl, ht, hd, hg, if_neg (by rw [List.length_append]; omega), if_neg (by omega), if_neg (by rw [List.length_append, List.length_append]; omega)]
    simp
  unfold tmV tmS
  simp only [e, and_self]
theorem vsA_inj {x y : Vs} (h : vsA x = vsA y) (hx : U8s x.1.B) (hy : U8s y.1.B) : x = y := by
  obtain ⟨⟨K, V, H, B, T, G⟩, S⟩ := x
  obtain ⟨⟨K', V', H', B', T', G'⟩, S'⟩ := y
  have h' : (#[.int .i64 K, .int .i64 V, .int .i64 H, .string (strOfNums B), .int .i64 T, .int .i64 G, .string S] : Array Value) = #[.int .i64 K', .int .i64 V', .int .i64 H', .string (strOfNums B'), .int .i64 T', .int .i64 G', .string S'] := h
  simp at h'
  obtain ⟨h1, h2, h3, h4, h5, h6, h7⟩ := h'
  have h4' := strOf_inj _ _ hx hy h4
  simp only at h4'
  subst h1 h2 h3 h4' h5 h6 h7
  rfl
theorem tsA_inj {x y : Ts} (h : tsA x = tsA y) : x = y := by
  obtain ⟨⟨F, T, A, N⟩, S⟩ := x
  obtain ⟨⟨F', T', A', N'⟩, S'⟩ := y
  have h' : (#[.int .i64 F, .int .i64 T, .int .i64 A, .int .i64 N, .string S] : Array Value) = #[.int .i64 F', .int .i64 T', .int .i64 A', .int .i64 N', .string S'] := h
  simp at h'
  obtain ⟨h1, h2, h3, h4, h5⟩ := h'
  subst h1 h2 h3 h4 h5
  rfl
/-- what was read fits -/
theorem wf_i64 {a : Int} (h : -9223372036854775808 ≤ a ∧ a ≤ 9223372036854775807) : (Lit.int .i64 a).wf = true := by
  simp [Lit.wf, IntKind.min, IntKind.max, IntKind.signed, IntKind.bits]; omega
theorem gText_u8s {zs : List Int} {most : Int} (h : U8s zs) : U8s (gText zs most).1 := by
  unfold gText
  split
  · exact nil_u8s
  split
  · exact nil_u8s
  split
  · exact nil_u8s
  exact (h.drop 2).take _
theorem tmV_u8s {most : Int} {q : Int × List Int} (h : RvInv q) : U8s (tmV most q) := by
  unfold tmV rdText
  split
  · exact gText_u8s h.2
  · exact nil_u8s
theorem tmV_len {most : Int} (hm : 0 ≤ most) (q : Int × List Int) : ((tmV most q).length : Int) ≤ most := by
  unfold tmV rdText
  split
  · unfold gText
    split
    · simpa using hm
    split
    · simpa using hm
    split
    · simpa using hm
    · next k _ =>
      have := getB_range (q.2.take 2)
      simp only [List.length_take, List.length_drop]
      omega
  · simpa using hm
theorem rVs_ok {q : Int × List Int} (h : RvInv q) : VsOk (rVs q) := by
  unfold rVs
  split
  · next k =>
    obtain ⟨hm, hs⟩ := vtE_ok k.2.2
    have hv := vr_inv h
    have hk := vtMay_ok hm
    have hb : U8s (vrV q).B := tmV_u8s hv.2.2.2.1
    exact ⟨hb, wf_i64 (by have := hk.k; dsimp only; omega), wf_i64 (by have := hk.vv; dsimp only; omega), wf_i64 (by have := hk.h; dsimp only; omega), Nat.le_trans hk.bl (by decide), wf_i64 (by have := hk.t; dsimp only; omega), wf_i64 (by have := hk.g; dsimp only; omega), Nat.le_trans hs (by decide)⟩
  · exact zV_ok
theorem rTs_ok (q : Int × List Int) : TsOk (rTs q) := by
  unfold rTs
  split
  · next k =>
    obtain ⟨⟨h1, h2, h3, h4⟩, _, hs⟩ := txE_ok k.2.2
    exact ⟨wf_i64 (by simp only; omega), wf_i64 (by simp only; omega), wf_i64 (by simp only; omega), wf_i64 (by simp only; omega), Nat.le_trans hs (by decide)⟩
  · exact zT_ok
theorem rVsL_ok : ∀ (n : Nat) {q : Int × List Int}, RvInv q → (∀ x ∈ (rVsL n q).1, VsOk x) ∧ (rVsL n q).1.length = n
  | 0, q, h => ⟨fun x hx => absurd hx List.not_mem_nil, rfl⟩
  | n + 1, q, h => by
    have k := rVsL_ok n (vr_inv h).2.2.2.2.2.2.2
    refine ⟨fun x hx => ?_, by show ((rVs q :: (rVsL n (vr7 q)).1)).length = n + 1; rw [List.length_cons, k.2]⟩
    rcases List.mem_cons.1 hx with rfl | hx
    · exact rVs_ok h
    · exact k.1 x hx
theorem rTsL_ok : ∀ (n : Nat) (q : Int × List Int), ∀ x ∈ (rTsL n q).1, TsOk x
  | 0, q => fun x hx => absurd hx List.not_mem_nil
  | n + 1, q => fun x hx => by
    unfold rTsL at hx
    split at hx
    · exact absurd hx List.not_mem_nil
    · rcases List.mem_cons.1 hx with rfl | hx
      · exact rTs_ok q
      · exact rTsL_ok n _ x hx
/-- what is known of a cert that was read -/
structure CmOk (c : Cm) : Prop where
  v : 0 ≤ c.V ∧ c.V ≤ 1048576
  h : 0 ≤ c.H ∧ c.H ≤ 1048576
  b : c.B.size ≤ 32
  s : ∀ x ∈ c.vs, VsOk x
  n : c.vs.length ≤ 7
theorem rCt_ok {q : Int × List Int} (h : RvInv q) : CmOk (rCt q) := by
  unfold rCt
  split
  · next k =>
    have hv := rc_inv h
    have h1 := rdNum_rng q.1 q.2 1048576 (by omega)
    have h2 := rdNum_rng (rc1 q).1 (rc1 q).2 1048576 (by omega)
    have h3 := tmV_len (most := 32) (by omega) (rc2 q)
    have h4 := rdNum_rng (rc3 q).1 (rc3 q).2 7 (by omega)
    have h5 := rVsL_ok (rcN q) hv.2.2.2.1
    exact ⟨h1, h2, by rw [strOfNums_size]; omega, h5.1, by show (rcL q).1.length ≤ 7; unfold rcL; rw [h5.2]; unfold rcN nmV; omega⟩
  · exact ⟨⟨by decide, by decide⟩, ⟨by decide, by decide⟩, Nat.zero_le _, fun x hx => absurd hx List.not_mem_nil, Nat.zero_le _⟩
theorem rMs_ok {q : Int × List Int} (h : RvInv q) : MOk (rMs q) := by
  have hk := rdNum_rng q.1 q.2 6 (by omega)
  have z : MOk (zM (rmK q)) := zM_ok ⟨by unfold rmK nmV; omega, by unfold rmK nmV; omega⟩
  have hs : RvInv (rmS q) := nm_inv h
  unfold rMs
  by_cases g1 : rmK q = 1
  · rw [if_pos g1]
    by_cases hr : RbOk (rmS q)
    · have hb : rBk (rmS q) = rbB (rmS q) := by unfold rBk; rw [if_pos hr]
      rw [hb]
      have m := hr.2.2.2
      have hc := rCt_ok (rb_inv hs).2.2.2.2.2.1
      have i1 := m.v; have i2 := m.h; have i3 := m.p; have i4 := m.s; have i5 := m.jv; have i6 := m.jh; have i7 := m.jb; have i8 := m.n
      have hn := hc.n
      exact { z with bv := ⟨by show _ ≤ (rbB (rmS q)).V; omega, by show (rbB (rmS q)).V ≤ _; omega⟩, bh := ⟨by show _ ≤ (rbB (rmS q)).H; omega, by show (rbB (rmS q)).H ≤ _; omega⟩, jv := ⟨by show _ ≤ (rbB (rmS q)).J.V; omega, by show (rbB (rmS q)).J.V ≤ _; omega⟩, jh := ⟨by show _ ≤ (rbB (rmS q)).J.H; omega, by show (rbB (rmS q)).J.H ≤ _; omega⟩, bp := (by show (rbB (rmS q)).P.size ≤ _; rw [i3]; decide), jb := (by show (rbB (rmS q)).J.B.size ≤ _; rw [i7, i3]; decide), bs := Nat.le_trans i4 (by decide), js := hc.s, xs := fun x hx => rTsL_ok _ _ x hx, jn := Nat.le_trans hn (by decide), xn := Nat.le_trans i8 (by decide) }
    · have hb : rBk (rmS q) = zB := by unfold rBk; rw [if_neg hr]
      rw [hb]; exact z
  rw [if_neg g1]
  by_cases g2 : rmK q = 2
  · rw [if_pos g2]; exact { z with v := rVs_ok hs }
  rw [if_neg g2]
  by_cases g3 : rmK q = 3
  · rw [if_pos g3]
    have hc := rCt_ok hs
    have i1 := hc.v; have i2 := hc.h
    exact { z with cv := ⟨by show _ ≤ (rCt (rmS q)).V; omega, by show (rCt (rmS q)).V ≤ _; omega⟩, ch := ⟨by show _ ≤ (rCt (rmS q)).H; omega, by show (rCt (rmS q)).H ≤ _; omega⟩, cb := Nat.le_trans hc.b (by decide), cs := hc.s, cn := Nat.le_trans hc.n (by decide) }
  rw [if_neg g3]
  by_cases g4 : rmK q = 4
  · rw [if_pos g4]
    have k := rVsL_ok (nmV 7 (rmS q)).toNat (nm_inv (most := 7) hs)
    have h7 := rdNum_rng (rmS q).1 (rmS q).2 7 (by omega)
    exact { z with ls := k.1, ln := (by show (rmL (rmS q)).1.length ≤ _; unfold rmL; rw [k.2]; exact Nat.le_trans (by unfold nmV; omega : (nmV 7 (rmS q)).toNat ≤ 7) (by decide)) }
  rw [if_neg g4]
  by_cases g5 : rmK q = 5
  · rw [if_pos g5]
    have k := tmV_len (most := 32) (by omega) (rmS q)
    exact { z with a := (by show (strOfNums (tmV 32 (rmS q))).size ≤ _; rw [strOfNums_size]; exact Nat.le_trans (by omega : (tmV 32 (rmS q)).length ≤ 32) (by decide)) }
  rw [if_neg g5]
  by_cases g6 : rmK q = 6
  · rw [if_pos g6]; exact { z with t := rTs_ok _ }
  rw [if_neg g6]; exact z

theorem inv0 {zs : List Int} (h : U8s zs) : RvInv (0, zs) := ⟨fun k => absurd rfl k, h⟩
theorem rVs_enc {x : Vs} {rest : List Int} (h : vsE x = 0) (hx : U8s x.1.B) (hr : U8s rest) : rVs (0, vsO x ++ rest) = x ∧ vr7 (0, vsO x ++ rest) = (0, rest) := by
  have k := vtRead_ok x.1 (octsOf x.2) rest (by rw [strOf_octs]; exact h)
  have hi : RvInv (0, vsO x ++ rest) := inv0 ((vsO_u8s hx).append hr)
  refine ⟨vsA_inj ?_ (rVs_ok hi).1 hx, k.2⟩
  rw [← rVs_eq]
  exact k.1.trans (by rw [strOf_octs]; rfl)
theorem rTs_enc {x : Ts} {rest : List Int} (h : tsE x = 0) : rTs (0, tsO x ++ rest) = x ∧ tsR (0, tsO x ++ rest) = (0, rest) := by
  have k := read_ok x.1.F x.1.T x.1.A x.1.N (octsOf x.2) rest (by rw [strOf_octs]; exact h)
  refine ⟨tsA_inj ?_, ?_⟩
  · rw [← rTs_eq]
    exact k.1.trans (by rw [strOf_octs]; rfl)
  · unfold tsR
    rw [show rSig (0, tsO x ++ rest) = (octsOf x.2, 0, rest) from k.2]
theorem rVsL_enc : ∀ (xs : List Vs) {rest : List Int}, (∀ x ∈ xs, vsE x = 0) → (∀ x ∈ xs, U8s x.1.B) → U8s rest → rVsL xs.length (0, vsOs xs ++ rest) = (xs, (0, rest))
  | [], rest, _, _, _ => rfl
  | x :: t, rest, h, hx, hr => by
    have e : vsOs (x :: t) ++ rest = vsO x ++ (vsOs t ++ rest) := by unfold vsOs; rw [List.map_cons, List.flatten_cons, List.append_assoc]
    have ht : U8s (vsOs t ++ rest) := (vsOs_u8s (fun y hy => hx y (List.mem_cons_of_mem _ hy))).append hr
    have k := rVs_enc (rest := vsOs t ++ rest) (h x (List.mem_cons_self ..)) (hx x (List.mem_cons_self ..)) ht
    rw [e]
    show (rVs (0, vsO x ++ (vsOs t ++ rest)) :: (rVsL t.length (vr7 (0, vsO x ++ (vsOs t ++ rest)))).1, (rVsL t.length (vr7 (0, vsO x ++ (vsOs t ++ rest)))).2) = _
    rw [k.1, k.2, rVsL_enc t (fun y hy => h y (List.mem_cons_of_mem _ hy)) (fun y hy => hx y (List.mem_cons_of_mem _ hy)) hr]
theorem rTsL_enc : ∀ (xs : List Ts) {rest : List Int}, (∀ x ∈ xs, tsE x = 0) → rTsL xs.length (0, tsOs xs ++ rest) = (xs, (0, rest))
  | [], rest, _ => rfl
  | x :: t, rest, h => by
    have e : tsOs (x :: t) ++ rest = tsO x ++ (tsOs t ++ rest) := by unfold tsOs; rw [List.map_cons, List.flatten_cons, List.append_assoc]
    have k := rTs_enc (rest := tsOs t ++ rest) (h x (List.mem_cons_self ..))
    rw [e]
    show (if (0 : Int) ≠ 0 then ([], ((0 : Int), tsO x ++ (tsOs t ++ rest))) else (rTs (0, tsO x ++ (tsOs t ++ rest)) :: (rTsL t.length (tsR (0, tsO x ++ (tsOs t ++ rest)))).1, (rTsL t.length (tsR (0, tsO x ++ (tsOs t ++ rest)))).2)) = _
    rw [if_neg (fun k => k rfl), k.1, k.2, rTsL_enc t (fun y hy => h y (List.mem_cons_of_mem _ hy))]
theorem rTxs_enc {xs : List Ts} {rest : List Int} (h : ∀ x ∈ xs, tsE x = 0) (hn : xs.length ≤ 4) : rTxs (0, octAll (xs.length : Int) 6 ++ (tsOs xs ++ rest)) = (xs, (0, rest)) := by
  have k := rvNumS_enc (xs.length : Int) (tsOs xs ++ rest) ⟨by omega, by omega⟩
  unfold rTxs
  rw [k.1, k.2, Int.toNat_natCast, rTsL_enc xs h]
theorem chO_app (V H : Int) (B : List Int) (n : Nat) (tail : List Int) : chO V H B n ++ tail = octAll V 6 ++ (octAll H 6 ++ ((octAll B.length 2 ++ B) ++ (octAll (n : Int) 6 ++ tail))) := by
  unfold chO; simp only [List.append_assoc]
theorem rCt_enc {V H : Int} {B : ByteArray} {xs : List Vs} {rest : List Int} (h : CtMay V H B xs) (hx : ∀ x ∈ xs, U8s x.1.B) (hr : U8s rest) : rCt (0, (chO V H (octsOf B) xs.length ++ vsOs xs) ++ rest) = ⟨V, H, B, xs⟩ ∧ (rcL (0, (chO V H (octsOf B) xs.length ++ vsOs xs) ++ rest)).2 = (0, rest) := by
  obtain ⟨h1, h2, h3, h4⟩ := h
  rw [List.append_assoc, chO_app]
  have hBl : (octsOf B).length = 32 := by rw [octsOf_length, h3]
  have hn := h4.1
  have a4 := nm_enc (xs.length : Int) 7 (vsOs xs ++ rest) (by omega) (by omega) (by omega)
  generalize hT4 : octAll (xs.length : Int) 6 ++ (vsOs xs ++ rest) = T4 at a4 ⊢
  have a3 := tm_enc (octsOf B) T4 32 (by omega) (by omega)
  generalize hT3 : (octAll (octsOf B).length 2 ++ octsOf B) ++ T4 = T3 at a3 ⊢
  have a2 := nm_enc H 1048576 T3 h2.1 h2.2 (by omega)
  generalize hT2 : octAll H 6 ++ T3 = T2 at a2 ⊢
  have a1 := nm_enc V 1048576 T2 h1.1 h1.2 (by omega)
  generalize hq : ((0 : Int), octAll V 6 ++ T2) = q at a1 ⊢
  have b1 : rc1 q = (0, T2) := a1.2
  have b2 : rc2 q = (0, T3) := by unfold rc2; rw [b1]; exact a2.2
  have b3 : rc3 q = (0, T4) := by unfold rc3; rw [b2]; exact a3.2
  have b4 : rc4 q = (0, vsOs xs ++ rest) := by unfold rc4; rw [b3]; exact a4.2
  have b5 : rcN q = xs.length := by unfold rcN; rw [b3, a4.1, Int.toNat_natCast]
  have b6 : rcL q = (xs, (0, rest)) := by unfold rcL; rw [b5, b4]; exact rVsL_enc xs h4.2 hx hr
  refine ⟨?_, by rw [b6]⟩
  unfold rCt
  rw [if_pos (by rw [b6]), b6, a1.1, b1, a2.1, b2, a3.1, strOf_octs]
theorem rBk_enc {b : Bm} {rest : List Int} (h : BkMay b.V b.H b.P b.J.V b.J.H b.J.B b.tx b.S) (hc : CtMay b.J.V b.J.H b.J.B b.J.vs) (hx : ∀ x ∈ b.J.vs, U8s x.1.B) (hr : U8s rest) : rBk (0, bkO b.V b.H b.P b.J.V b.J.H b.J.B b.J.vs b.tx b.S ++ rest) = b := by
  have i1 := h.v; have i2 := h.h; have i3 := h.p; have i4 := h.s; have i5 := h.jv; have i8 := h.n
  have hPl : (octsOf b.P).length = 32 := by rw [octsOf_length, i3]
  have hSl : (octsOf b.S).length ≤ 4096 := by rw [octsOf_length]; exact i4
  have e : bkO b.V b.H b.P b.J.V b.J.H b.J.B b.J.vs b.tx b.S ++ rest = (octAll (([98, 108, 111, 99, 107] : List Int).length : Int) 2 ++ [98, 108, 111, 99, 107]) ++ (octAll b.V 6 ++ (octAll b.H 6 ++ ((octAll (octsOf b.P).length 2 ++ octsOf b.P) ++ (octAll b.J.V 6 ++ (octAll (b.tx.length : Int) 6 ++ (tsOs b.tx ++ ((chO b.J.V b.J.H (octsOf b.J.B) b.J.vs.length ++ vsOs b.J.vs) ++ ((octAll (octsOf b.S).length 2 ++ octsOf b.S) ++ rest)))))))) := by
    unfold bkO bkHO; simp only [List.append_assoc]
  rw [e]
  have hsr : U8s ((octAll (octsOf b.S).length 2 ++ octsOf b.S) ++ rest) := ((octAll_u8s _ _).append (octsOf_u8s _)).append hr
  have a7 := rvTxtS_enc (octsOf b.S) rest hSl
  generalize hT7 : (octAll (octsOf b.S).length 2 ++ octsOf b.S) ++ rest = T7 at a7 hsr ⊢
  have a6 := rCt_enc (rest := T7) hc hx hsr
  generalize hT6 : (chO b.J.V b.J.H (octsOf b.J.B) b.J.vs.length ++ vsOs b.J.vs) ++ T7 = T6 at a6 ⊢
  have a5 := rTxs_enc (rest := T6) h.ts i8
  generalize hT5 : octAll (b.tx.length : Int) 6 ++ (tsOs b.tx ++ T6) = T5 at a5 ⊢
  have a4 := rvNumS_enc b.J.V T5 ⟨by omega, by omega⟩
  generalize hT4 : octAll b.J.V 6 ++ T5 = T4 at a4 ⊢
  have a3 := rvTxtS_enc (octsOf b.P) T4 (by omega)
  generalize hT3 : (octAll (octsOf b.P).length 2 ++ octsOf b.P) ++ T4 = T3 at a3 ⊢
  have a2 := rvNumS_enc b.H T3 ⟨by omega, by omega⟩
  generalize hT2 : octAll b.H 6 ++ T3 = T2 at a2 ⊢
  have a1 := rvNumS_enc b.V T2 ⟨by omega, by omega⟩
  generalize hT1 : octAll b.V 6 ++ T2 = T1 at a1 ⊢
  have a0 := rvTxtS_enc [98, 108, 111, 99, 107] T1 (by simp)
  generalize hq : ((0 : Int), (octAll (([98, 108, 111, 99, 107] : List Int).length : Int) 2 ++ [98, 108, 111, 99, 107]) ++ T1) = q at a0 ⊢
  have b0 : rb0 q = (0, T1) := a0.2
  have b1 : rb1 q = (0, T2) := by unfold rb1; rw [b0]; exact a1.2
  have b2 : rb2 q = (0, T3) := by unfold rb2; rw [b1]; exact a2.2
  have b3 : rb3 q = (0, T4) := by unfold rb3; rw [b2]; exact a3.2
  have b4 : rb4 q = (0, T5) := by unfold rb4; rw [b3]; exact a4.2
  have b5 : rb5 q = (0, T6) := by unfold rb5; rw [b4, a5]
  have b6 : rb6 q = (0, T7) := by unfold rb6; rw [b5]; exact a6.2
  have b7 : rb7 q = (0, rest) := by unfold rb7; rw [b6]; exact a7.2
  have hb : rbB q = b := by
    unfold rbB
    rw [b0, a1.1, b1, a2.1, b2, a3.1, strOf_octs, b5, a6.1, b4, a5, b6, a7.1, strOf_octs]
  have hok : RbOk q := by
    refine ⟨by rw [b7], by rw [a0.1]; rfl, by rw [hb, b3, a4.1], by rw [hb]; exact h⟩
  unfold rBk
  rw [if_pos hok, hb]
/-- WHAT WAS PUT IS READ. -/
theorem rMs_enc {m : Mm} {rest : List Int} (h : MayM m) (o : MOk m) (hr : U8s rest) : rMs (0, msO m ++ rest) = m := by
  obtain ⟨hb, he⟩ := h
  have hk : 0 ≤ m.K ∧ m.K ≤ 6 := by rcases hb with ⟨g, _⟩ | ⟨g, _⟩ | ⟨g, _⟩ | ⟨g, _⟩ | ⟨g, _⟩ | ⟨g, _⟩ <;> omega
  have e : msO m ++ rest = octAll m.K 6 ++ (brO m ++ rest) := by unfold msO; rw [List.append_assoc]
  have k := nm_enc m.K 6 (brO m ++ rest) hk.1 hk.2 (by omega)
  have k1 : rmK (0, msO m ++ rest) = m.K := by rw [e]; exact k.1
  have k2 : rmS (0, msO m ++ rest) = (0, brO m ++ rest) := by rw [e]; exact k.2
  unfold rMs
  rw [k1, k2]
  rcases hb with ⟨g, c1, c2⟩ | ⟨g, c1⟩ | ⟨g, c1⟩ | ⟨g, c1⟩ | ⟨g, c1⟩ | ⟨g, c1⟩
  · rw [if_pos g]
    have eb : brO m = bkO m.b.V m.b.H m.b.P m.b.J.V m.b.J.H m.b.J.B m.b.J.vs m.b.tx m.b.S := by unfold brO; rw [if_pos g]
    have em : m = { zM m.K with b := m.b } := by rw [he]; unfold borneM; rw [if_pos g]; simp only [zM]
    rw [eb, rBk_enc c1 c2 (fun x hx => (o.js x hx).1) hr]
    exact em.symm
  · rw [if_neg (by omega), if_pos g]
    have eb : brO m = vsO m.v := by unfold brO; rw [if_neg (by omega), if_pos g]
    have em : m = { zM m.K with v := m.v } := by rw [he]; unfold borneM; rw [if_neg (by omega), if_pos g]; simp only [zM]
    rw [eb, (rVs_enc c1 o.v.1 hr).1]
    exact em.symm
  · rw [if_neg (by omega), if_neg (by omega), if_pos g]
    have eb : brO m = ctO m.c := by unfold brO; rw [if_neg (by omega), if_neg (by omega), if_pos g]
    have em : m = { zM m.K with c := m.c } := by rw [he]; unfold borneM; rw [if_neg (by omega), if_neg (by omega), if_pos g]; simp only [zM]
    have kc := (rCt_enc c1 (fun x hx => (o.cs x hx).1) hr).1
    rw [eb]
    unfold ctO
    rw [kc]
    exact em.symm
  · rw [if_neg (by omega), if_neg (by omega), if_neg (by omega), if_pos g]
    have eb : brO m ++ rest = octAll (m.bl.length : Int) 6 ++ (vsOs m.bl ++ rest) := by unfold brO; rw [if_neg (by omega), if_neg (by omega), if_neg (by omega), if_pos g, List.append_assoc]
    have em : m = { zM m.K with bl := m.bl } := by rw [he]; unfold borneM; rw [if_neg (by omega), if_neg (by omega), if_neg (by omega), if_pos g]; simp only [zM]
    have hn := c1.1
    have a := nm_enc (m.bl.length : Int) 7 (vsOs m.bl ++ rest) (by omega) (by omega) (by omega)
    have kl : rmL (0, brO m ++ rest) = (m.bl, (0, rest)) := by
      unfold rmL
      rw [eb, a.1, a.2, Int.toNat_natCast]
      exact rVsL_enc m.bl c1.2 (fun x hx => (o.ls x hx).1) hr
    rw [kl]
    exact em.symm
  · rw [if_neg (by omega), if_neg (by omega), if_neg (by omega), if_neg (by omega), if_pos g]
    have eb : brO m = octAll (octsOf m.a).length 2 ++ octsOf m.a := by unfold brO; rw [if_neg (by omega), if_neg (by omega), if_neg (by omega), if_neg (by omega), if_pos g]
    have em : m = { zM m.K with a := m.a } := by rw [he]; unfold borneM; rw [if_neg (by omega), if_neg (by omega), if_neg (by omega), if_neg (by omega), if_pos g]; simp only [zM]
    have a := tm_enc (octsOf m.a) rest 32 (by rw [octsOf_length]; omega) (by omega)
    rw [eb, a.1, strOf_octs]
    exact em.symm
  · rw [if_neg (by omega), if_neg (by omega), if_neg (by omega), if_neg (by omega), if_neg (by omega), if_pos g]
    have eb : brO m = tsO m.t := by unfold brO; rw [if_neg (by omega), if_neg (by omega), if_neg (by omega), if_neg (by omega), if_neg (by omega), if_pos g]
    have em : m = { zM m.K with t := m.t } := by rw [he]; unfold borneM; rw [if_neg (by omega), if_neg (by omega), if_neg (by omega), if_neg (by omega), if_neg (by omega), if_pos g]; simp only [zM]
    rw [eb, (rTs_enc c1).1]
    exact em.symm
end
end Go.Proofs.Ytacamknljicjmaa
