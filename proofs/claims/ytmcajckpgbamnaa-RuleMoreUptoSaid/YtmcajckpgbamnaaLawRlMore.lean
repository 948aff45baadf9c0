import Derived.Test.YtmcajckpgbamnaaRlRule
import Derived.Test.YtmcajckpgbamnaaCtArgs
/-
  RuleMore: the walk returns true.
-/
namespace Go.Proofs.Ytmcajckpgbamnaa
set_option maxRecDepth 100000
section
set_option linter.unusedVariables false
open Go.RowKit Go.Sort Go.Lib

theorem enoughR_le {k N q mV mH : Int} {mB : ByteArray} {l l' : List Vs} (h : ∀ x ∈ l, x ∈ l') (he : enoughR k N q mV mH mB l = true) : enoughR k N q mV mH mB l' = true := by
  unfold enoughR at he ⊢
  have h1 := nsg_le (comOf mV mH mB) (fun x : Vs => x.1.G) h
  have h2 := nsg_le (repOf mV mH mB (2 * N)) (fun x : Vs => x.1.G) h
  by_cases e1 : k = 1
  · rw [if_pos e1] at he ⊢
    simp only [decide_eq_true_eq] at he ⊢; omega
  · rw [if_neg e1] at he ⊢
    by_cases e2 : k = 2
    · rw [if_pos e2] at he ⊢
      by_cases e3 : 0 ≤ N ∧ N ≤ 1048576
      · rw [if_pos e3] at he ⊢
        simp only [decide_eq_true_eq] at he ⊢; omega
      · rw [if_neg e3] at he; cases he
    · rw [if_neg e2] at he; cases he
theorem rlInfo : ∃ i, Try.prog.info? 28 = some i ∧ i.zero = some (.agg #[.int .i64 0, .int .i64 0, .int .i64 0, .string ⟨#[]⟩, .int .i64 0, .int .i64 0, .string ⟨#[]⟩]) ∧ i.size = 7 ∧ i.bytes = 72 := by
  have h : (Try.prog.info? 28).map (fun i => (i.zero, i.size, i.bytes)) = some (some (.agg #[.int .i64 0, .int .i64 0, .int .i64 0, .string ⟨#[]⟩, .int .i64 0, .int .i64 0, .string ⟨#[]⟩]), 7, 72) := by kernel_rfl
  cases hq : Try.prog.info? 28 with
  | none => rw [hq] at h; cases h
  | some i =>
    rw [hq] at h
    simp only [Option.map_some, Option.some.injEq, Prod.mk.injEq] at h
    exact ⟨i, rfl, h.1, h.2.1, h.2.2⟩
theorem rlVarg {W : World} {base n : Nat} {v : Value} {D : List Vs} (h : W.ownsRow base 28 7 v n (vsF D)) (hn : D.length = n) : VArg W v D := by
  subst hn
  rcases h.2 with ⟨he, h0⟩ | ⟨g, cap, cur, he, _, hg, hc, _, hs, ht⟩
  · exact ⟨none, 0, by rw [he, h0], Nat.le_of_eq h0, fun _ => rfl, .inl (List.eq_nil_of_length_eq_zero h0)⟩
  · refine ⟨_, cap, he, hc, (fun e => by cases e), .inr ⟨g, 0, rfl, fun j hj => ?_⟩⟩
    rw [Nat.zero_add, cell_of_row _ _ j _ _ _ hg, ← ht, List.getElem?_take_of_lt (by omega), Array.getElem?_toList]
/-- the cells of statements that came in, as append asks for them -/
theorem rlNews {W : World} {a : Option Addr} {n c : Nat} {xs : List Vs} (h : VArg W (.slice a n c) xs) : n = xs.length ∧ (a = none → n = 0 ∧ c = 0) ∧ ∀ ad, a = some ad → ∀ j u, (vsF xs)[j]? = some u → W.cell? (ad.add j) = some u := by
  obtain ⟨a', c', e, h1, h2, h3⟩ := h
  cases e
  refine ⟨rfl, fun e => ?_, fun ad had j u hj => ?_⟩
  · have := h2 e; exact ⟨by omega, this⟩
  · have hjl : j < xs.length * 7 := by have := (List.getElem?_eq_some_iff.1 hj).1; rwa [vsF_length] at this
    rcases h3 with rfl | ⟨b, off, e, hc⟩
    · simp at hjl
    · rw [had] at e
      obtain rfl := Option.some.inj e
      have ha : ((⟨b, off, none⟩ : Addr).add j) = ⟨b, off + j, none⟩ := by unfold Addr.add; split <;> simp_all
      rw [ha, hc j hjl, hj]

set_option maxHeartbeats 1000000 in
theorem lawRlMore_any (k N q mV mH : Int) (mB : ByteArray) (va : Value) (xa : List Vs) (vb : Value) (xb : List Vs) (w : World) (ha : VArg w va xa) (hb : VArg w vb xb) (hla : xa.length ≤ 1048576) (hlb : xb.length ≤ 1048576)
    (hoa : ∀ x ∈ xa, (Lit.int .i64 x.1.G).wf = true) (hob : ∀ x ∈ xb, (Lit.int .i64 x.1.G).wf = true) :
    Calls Try.prog 4 #[.agg #[.int .i64 k, .int .i64 N], .int .i64 q, .agg #[.int .i64 mV, .int .i64 mH, .string mB], va, vb] w fun e w' => e = .returned (.bool true) ∧ Up w w' := by
  obtain ⟨aa, ca, rfl, hca, hna, _⟩ := id ha
  obtain ⟨ab, cb, rfl, hcb, hnb, _⟩ := id hb
  obtain ⟨i0, hi, hz0, hz1, hz2⟩ := rlInfo
  have h0 := heap_alloc_new w (.cells #[.int .i64 k, .int .i64 N] 34)
  have u1 := Up.alloc (Up.refl (w.alloc (.cells #[.int .i64 k, .int .i64 N] 34))) (.cells #[.int .i64 mV, .int .i64 mH, .string mB] 26)
  have h1 := row_up h0 u1
  have h2 := heap_alloc_new (w.alloc (.cells #[.int .i64 k, .int .i64 N] 34)) (.cells #[.int .i64 mV, .int .i64 mH, .string mB] 26)
  rw [show (w.alloc (.cells #[.int .i64 k, .int .i64 N] 34)).heap.size = w.heap.size + 1 by simp] at h2
  have HU := Lib.hid ((Up.alloc (Up.refl w) (.cells #[.int .i64 k, .int .i64 N] 34)).trans u1)
  have HA := Lib.hid h1
  have HB := Lib.hid h2
  have HE : Hid (∀ (wx : World) (v : Value) (l : List Vs), VArg wx v l → (∀ x ∈ l, x ∈ xa ∨ x ∈ xb) → l.length ≤ 2097152 → Calls Try.prog 9 #[.agg #[.int .i64 k, .int .i64 N], .int .i64 q, .agg #[.int .i64 mV, .int .i64 mH, .string mB], v] wx fun e w' => e = .returned (.bool (enoughR k N q mV mH mB l)) ∧ Up wx w') :=
    Lib.hid (fun wx v l hv hl hn => rlEnough_any k N q mV mH mB l v wx hv (by omega) (fun x hx => (hl x hx).elim (hoa x) (hob x)))
  have HMo : Hid (∀ (wx : World) (v : Value) (D : Bool), enoughR k N q mV mH mB (xa ++ xb) = D → VArg wx v (xb ++ xa) → Calls Try.prog 9 #[.agg #[.int .i64 k, .int .i64 N], .int .i64 q, .agg #[.int .i64 mV, .int .i64 mH, .string mB], v] wx fun e w' => e = .returned (.bool D) ∧ Up wx w') := by
    refine Lib.hid (fun wx v D hD hv => ?_)
    have e : enoughR k N q mV mH mB (xb ++ xa) = D := by
      rw [← hD]; unfold enoughR; rw [nsg_comm, nsg_comm (repOf mV mH mB (2 * N))]
    rw [← e]
    exact HE.out wx v _ hv (fun x hx => by rw [List.mem_append] at hx; exact hx.symm) (by rw [List.length_append]; omega)
  have HAs : Hid (∀ (wx : World), VArg wx (.slice aa xa.length ca) xa → enoughR k N q mV mH mB (xa ++ xb) = false → Calls Try.prog 9 #[.agg #[.int .i64 k, .int .i64 N], .int .i64 q, .agg #[.int .i64 mV, .int .i64 mH, .string mB], .slice aa xa.length ca] wx fun e w' => e = .returned (.bool false) ∧ Up wx w') := by
    refine Lib.hid (fun wx hv hD => ?_)
    have e : enoughR k N q mV mH mB xa = false := by
      cases h : enoughR k N q mV mH mB xa with
      | false => rfl
      | true => rw [enoughR_le (l' := xa ++ xb) (fun x hx => List.mem_append.2 (.inl hx)) h] at hD; cases hD
    rw [← e]
    exact HE.out wx _ _ hv (fun x hx => .inl hx) (by omega)
  have HVa := Lib.hid ha
  have HVb := Lib.hid hb
  have HLa := Lib.hid hla
  have HLb := Lib.hid hlb
  clear h0 u1 h1 h2 ha hb hla hlb hoa hob hna hnb
  go_enter Try.func4, Try.ntmps4
  go_wp2_with fail
  generalize (w.alloc (.cells #[.int .i64 k, .int .i64 N] 34)).alloc (.cells #[.int .i64 mV, .int .i64 mH, .string mB] 26) = w2 at HA HB HU ⊢
  obtain ⟨A, hA⟩ : ∃ A, w.heap.size = A := ⟨_, rfl⟩
  have HSz : Hid (w.heap.size = A) := Lib.hid hA
  rw [hA] at HA HB ⊢
  clear hA
  with_reducible refine Calls.mono (rlAlive_any _) ?_
  rintro e w3 ⟨rfl, hU3⟩
  have HU3 := Lib.hid (HU.out.trans hU3)
  have HA3 := Lib.hid (row_up HA.out hU3)
  have HB3 := Lib.hid (row_up HB.out hU3)
  have HVa3 := Lib.hid (rlNews (HVa.out.up HU3.out))
  have HVb3 := Lib.hid (rlNews (HVb.out.up HU3.out))
  clear hU3
  go_upto_region 6 with (first | (refine wpList_append_own_src_at w6 rfl (.tmp 23) (.tmp 24) 22 rfl w5.heap.size 28 i0 (.agg #[.int .i64 0, .int .i64 0, .int .i64 0, .string ⟨#[]⟩, .int .i64 0, .int .i64 0, .string ⟨#[]⟩]) 7 72 Try.underlying22 hi hz0 hz1 hz2 rfl (by decide) v3 (0 + xb.length) (vsF xb) rfl HO3.out aa xa.length ca (vsF xa) rfl (HVa6.out.2.1) (by rw [vsF_length]) (HVa6.out.2.2) (vsF_one _) (by have := HLa.out; have := HLb.out; unfold maxLen; omega) (by have := HLa.out; have := HLb.out; omega) (by have := HBs.out; omega) ?_; intro v4 w7 ho4 hg4 _; have HO4 : Hid (VArg w7 v4 (xb ++ xa)) := Lib.hid (rlVarg (by rw [vsF_append]; exact ho4) (by rw [List.length_append]; omega)); have HU7 := Lib.hid (up_row HU6.out HO3.out hg4 (Nat.le_refl _)); clear ho4 hg4 HBs HVa6 HO3) | (refine wpList_append_own_src_at w5 rfl (.tmp 21) (.tmp 22) 22 rfl w5.heap.size 28 i0 (.agg #[.int .i64 0, .int .i64 0, .int .i64 0, .string ⟨#[]⟩, .int .i64 0, .int .i64 0, .string ⟨#[]⟩]) 7 72 Try.underlying22 hi hz0 hz1 hz2 rfl (by decide) (.slice none 0 0) 0 [] rfl (World.ownsRow_nil _ _ _ _) ab xb.length cb (vsF xb) rfl (HVb5.out.2.1) (by rw [vsF_length]) (HVb5.out.2.2) (vsF_one _) (by have := HLa.out; have := HLb.out; unfold maxLen; omega) (by have := HLa.out; have := HLb.out; omega) (Nat.le_refl _) ?_; intro v3 w6 ho3 hg3 _; have HO3 : Hid (w6.ownsRow w5.heap.size 28 7 v3 (0 + xb.length) (vsF xb)) := Lib.hid (by simpa using ho3); have HU6 := Lib.hid (up_grown hg3); have HVa6 := Lib.hid (rlNews (HVa.out.up (HU3.out.trans (HU5.out.trans HU6.out)))); have HBs := Lib.hid HU6.out.size; clear ho3 hg3) | (refine wpList_append_own_src_at w4 rfl (.tmp 18) (.tmp 19) 22 rfl w3.heap.size 28 i0 (.agg #[.int .i64 0, .int .i64 0, .int .i64 0, .string ⟨#[]⟩, .int .i64 0, .int .i64 0, .string ⟨#[]⟩]) 7 72 Try.underlying22 hi hz0 hz1 hz2 rfl (by decide) v1 (0 + xa.length) (vsF xa) rfl HO1.out ab xb.length cb (vsF xb) rfl (HVb4.out.2.1) (by rw [vsF_length]) (HVb4.out.2.2) (vsF_one _) (by have := HLa.out; have := HLb.out; unfold maxLen; omega) (by have := HLa.out; have := HLb.out; omega) (by have := HBs.out; omega) ?_; intro v2 w5 ho2 hg2 _; have HO2 : Hid (VArg w5 v2 (xa ++ xb)) := Lib.hid (rlVarg (by rw [vsF_append]; exact ho2) (by rw [List.length_append]; omega)); have HU5 := Lib.hid (up_row HU4.out HO1.out hg2 (Nat.le_refl _)); have HVb5 := Lib.hid (rlNews (HVb.out.up (HU3.out.trans HU5.out))); clear ho2 hg2 HBs HVb4 HO1 HVa3) | (refine wpList_append_own_src_at w3 rfl (.tmp 16) (.tmp 17) 22 rfl w3.heap.size 28 i0 (.agg #[.int .i64 0, .int .i64 0, .int .i64 0, .string ⟨#[]⟩, .int .i64 0, .int .i64 0, .string ⟨#[]⟩]) 7 72 Try.underlying22 hi hz0 hz1 hz2 rfl (by decide) (.slice none 0 0) 0 [] rfl (World.ownsRow_nil _ _ _ _) aa xa.length ca (vsF xa) rfl (HVa3.out.2.1) (by rw [vsF_length]) (HVa3.out.2.2) (vsF_one _) (by have := HLa.out; have := HLb.out; unfold maxLen; omega) (by have := HLa.out; have := HLb.out; omega) (Nat.le_refl _) ?_; intro v1 w4 ho1 hg1 _; have HO1 : Hid (w4.ownsRow w3.heap.size 28 7 v1 (0 + xa.length) (vsF xa)) := Lib.hid (by simpa using ho1); have HU4 := Lib.hid (up_grown hg1); have HVb4 := Lib.hid (rlNews (HVb.out.up (HU3.out.trans HU4.out))); have HBs := Lib.hid HU4.out.size; clear ho1 hg1))
  have HU8 := Lib.hid (HU5.out.trans HU7.out)
  have HA8 := Lib.hid (row_up HA3.out HU8.out)
  have HB8 := Lib.hid (row_up HB3.out HU8.out)
  have HO5 := Lib.hid (HO2.out.up HU7.out)
  have HU9 := Lib.hid (HU3.out.trans HU8.out)
  have HE8 := Lib.hid (HE.out w7 v2 (xa ++ xb) HO5.out (fun x hx => List.mem_append.1 hx) (by have := HLa.out; have := HLb.out; rw [List.length_append]; omega))
  obtain ⟨D, hD⟩ : ∃ D, enoughR k N q mV mH mB (xa ++ xb) = D := ⟨_, rfl⟩
  rw [hD] at HE8
  have HD := Lib.hid hD
  clear hD HE HVb5 HVb3 HA3 HB3 HA HB HU HO2 HU5 HU6 HU7 HU4
  have a0 := rl_cell HA8.out 0 (v := .int .i64 k) rfl
  have a1 := rl_cell HA8.out 1 (v := .int .i64 N) rfl
  obtain ⟨b0, b1, b2⟩ := mk_cells HB8.out
  go_wp2_with fail
  with_reducible refine Calls.mono HE8.out ?_
  rintro e w8 ⟨rfl, hU8⟩
  have HU10 := Lib.hid (HU9.out.trans hU8)
  have HA9 := Lib.hid (row_up HA8.out hU8)
  have HB9 := Lib.hid (row_up HB8.out hU8)
  have HE9 := Lib.hid (HMo.out w8 v4 D HD.out (HO4.out.up hU8))
  clear a0 a1 b0 b1 b2 hU8 HE8 HU9 HA8 HB8
  have a0 := rl_cell HA9.out 0 (v := .int .i64 k) rfl
  have a1 := rl_cell HA9.out 1 (v := .int .i64 N) rfl
  obtain ⟨b0, b1, b2⟩ := mk_cells HB9.out
  cases D with
  | true =>
    go_wp2_with (with_reducible refine Calls.mono HE9.out ?_; rintro e w9 ⟨rfl, hU11⟩; have HU11 := Lib.hid (HU10.out.trans hU11); clear hU11)
    go_ret
    exact ⟨rfl, HU11.out⟩
  | false =>
    go_wp2_with fail
    with_reducible refine Calls.mono HE9.out ?_
    rintro e w9 ⟨rfl, hU11⟩
    have HU11 := Lib.hid (HU10.out.trans hU11)
    have HA10 := Lib.hid (row_up HA9.out hU11)
    have HB10 := Lib.hid (row_up HB9.out hU11)
    have HE10 := Lib.hid (HAs.out w9 (HVa.out.up HU11.out) HD.out)
    clear a0 a1 b0 b1 b2 hU11 HE9 HU10 HA9 HB9
    have a0 := rl_cell HA10.out 0 (v := .int .i64 k) rfl
    have a1 := rl_cell HA10.out 1 (v := .int .i64 N) rfl
    obtain ⟨b0, b1, b2⟩ := mk_cells HB10.out
    go_wp2_with (with_reducible refine Calls.mono HE10.out ?_; rintro e w10 ⟨rfl, hU12⟩; have HU12 := Lib.hid (HU11.out.trans hU12); clear hU12)
    go_ret
    exact ⟨rfl, HU12.out⟩
end
end Go.Proofs.Ytmcajckpgbamnaa
