import Derived.Test.YtacamknljicjmaaMsCt
/-
  Blocks held against each other.
-/
namespace Go.Proofs.Ytacamknljicjmaa
set_option maxRecDepth 100000
section
set_option linter.unusedVariables false
open Go.RowKit Go.Sort Go.Lib

set_option maxHeartbeats 2000000 in
theorem sameBlock_any (V H : Int) (P : ByteArray) (JV JH : Int) (JB : ByteArray) (ja : Option Addr) (jn jc : Nat) (ta : Option Addr) (tn tc : Nat) (S : ByteArray) (js : List Vs) (xs : List Ts) (V2 H2 : Int) (P2 : ByteArray) (JV2 JH2 : Int) (JB2 : ByteArray) (ja2 : Option Addr) (jn2 jc2 : Nat) (ta2 : Option Addr) (tn2 tc2 : Nat) (S2 : ByteArray) (js2 : List Vs) (xs2 : List Ts) (w : World) (h1 : VArg w (.slice ja jn jc) js) (h2 : VArg w (.slice ja2 jn2 jc2) js2) (h3 : TArg w (.slice ta tn tc) xs) (h4 : TArg w (.slice ta2 tn2 tc2) xs2) (hux : ∀ x ∈ js, U8s x.1.B) (huy : ∀ y ∈ js2, U8s y.1.B) (hj : jn ≤ 9223372036854775807) (ht : tn ≤ 9223372036854775807) :
    Calls Try.prog 46 #[.agg #[.int .i64 V, .int .i64 H, .string P, .int .i64 JV, .int .i64 JH, .string JB, .slice ja jn jc, .slice ta tn tc, .string S], .agg #[.int .i64 V2, .int .i64 H2, .string P2, .int .i64 JV2, .int .i64 JH2, .string JB2, .slice ja2 jn2 jc2, .slice ta2 tn2 tc2, .string S2]] w fun e w' => e = .returned (.bool (bD (V = V2 ∧ H = H2 ∧ P = P2 ∧ (JV = JV2 ∧ JH = JH2 ∧ JB = JB2 ∧ js = js2) ∧ xs = xs2 ∧ S = S2))) ∧ Up w w' := by
  have hu := Up.alloc (Up.alloc (Up.refl w) (.cells #[.int .i64 V, .int .i64 H, .string P, .int .i64 JV, .int .i64 JH, .string JB, .slice ja jn jc, .slice ta tn tc, .string S] 27)) (.cells #[.int .i64 V2, .int .i64 H2, .string P2, .int .i64 JV2, .int .i64 JH2, .string JB2, .slice ja2 jn2 jc2, .slice ta2 tn2 tc2, .string S2] 27)
  have hb1 := (Up.alloc (Up.refl (w.alloc (.cells #[.int .i64 V, .int .i64 H, .string P, .int .i64 JV, .int .i64 JH, .string JB, .slice ja jn jc, .slice ta tn tc, .string S] 27))) (.cells #[.int .i64 V2, .int .i64 H2, .string P2, .int .i64 JV2, .int .i64 JH2, .string JB2, .slice ja2 jn2 jc2, .slice ta2 tn2 tc2, .string S2] 27)).block _ (lt_of_block (heap_alloc_new w (.cells #[.int .i64 V, .int .i64 H, .string P, .int .i64 JV, .int .i64 JH, .string JB, .slice ja jn jc, .slice ta tn tc, .string S] 27)))
  have hb2 := heap_alloc_new (w.alloc (.cells #[.int .i64 V, .int .i64 H, .string P, .int .i64 JV, .int .i64 JH, .string JB, .slice ja jn jc, .slice ta tn tc, .string S] 27)) (.cells #[.int .i64 V2, .int .i64 H2, .string P2, .int .i64 JV2, .int .i64 JH2, .string JB2, .slice ja2 jn2 jc2, .slice ta2 tn2 tc2, .string S2] 27)
  rw [heap_alloc_new w (.cells #[.int .i64 V, .int .i64 H, .string P, .int .i64 JV, .int .i64 JH, .string JB, .slice ja jn jc, .slice ta tn tc, .string S] 27)] at hb1
  rw [show (w.alloc (.cells #[.int .i64 V, .int .i64 H, .string P, .int .i64 JV, .int .i64 JH, .string JB, .slice ja jn jc, .slice ta tn tc, .string S] 27)).heap.size = w.heap.size + 1 by simp] at hb2
  have HU := Lib.hid hu
  have HB1 : Hid (∀ wx, Up ((w.alloc (.cells #[.int .i64 V, .int .i64 H, .string P, .int .i64 JV, .int .i64 JH, .string JB, .slice ja jn jc, .slice ta tn tc, .string S] 27)).alloc (.cells #[.int .i64 V2, .int .i64 H2, .string P2, .int .i64 JV2, .int .i64 JH2, .string JB2, .slice ja2 jn2 jc2, .slice ta2 tn2 tc2, .string S2] 27)) wx → wx.heap[w.heap.size]? = some (.cells #[.int .i64 V, .int .i64 H, .string P, .int .i64 JV, .int .i64 JH, .string JB, .slice ja jn jc, .slice ta tn tc, .string S] 27 (0, 0))) := fun wx u => (u.block _ (lt_of_block hb1)).trans hb1
  have HB2 : Hid (∀ wx, Up ((w.alloc (.cells #[.int .i64 V, .int .i64 H, .string P, .int .i64 JV, .int .i64 JH, .string JB, .slice ja jn jc, .slice ta tn tc, .string S] 27)).alloc (.cells #[.int .i64 V2, .int .i64 H2, .string P2, .int .i64 JV2, .int .i64 JH2, .string JB2, .slice ja2 jn2 jc2, .slice ta2 tn2 tc2, .string S2] 27)) wx → wx.heap[w.heap.size + 1]? = some (.cells #[.int .i64 V2, .int .i64 H2, .string P2, .int .i64 JV2, .int .i64 JH2, .string JB2, .slice ja2 jn2 jc2, .slice ta2 tn2 tc2, .string S2] 27 (0, 0))) := fun wx u => (u.block _ (lt_of_block hb2)).trans hb2
  have HJ : Hid (∀ wx, Up ((w.alloc (.cells #[.int .i64 V, .int .i64 H, .string P, .int .i64 JV, .int .i64 JH, .string JB, .slice ja jn jc, .slice ta tn tc, .string S] 27)).alloc (.cells #[.int .i64 V2, .int .i64 H2, .string P2, .int .i64 JV2, .int .i64 JH2, .string JB2, .slice ja2 jn2 jc2, .slice ta2 tn2 tc2, .string S2] 27)) wx → Calls Try.prog 47 #[.agg #[.int .i64 JV, .int .i64 JH, .string JB, .slice ja jn jc], .agg #[.int .i64 JV2, .int .i64 JH2, .string JB2, .slice ja2 jn2 jc2]] wx fun e w' => e = .returned (.bool (bD (JV = JV2 ∧ JH = JH2 ∧ JB = JB2 ∧ js = js2))) ∧ Up wx w') := fun wx u => sameCert_any JV JH JB ja jn jc js JV2 JH2 JB2 ja2 jn2 jc2 js2 wx (h1.up (Up.trans hu u)) (h2.up (Up.trans hu u)) hux huy hj
  have HX : Hid (∀ wx, Up ((w.alloc (.cells #[.int .i64 V, .int .i64 H, .string P, .int .i64 JV, .int .i64 JH, .string JB, .slice ja jn jc, .slice ta tn tc, .string S] 27)).alloc (.cells #[.int .i64 V2, .int .i64 H2, .string P2, .int .i64 JV2, .int .i64 JH2, .string JB2, .slice ja2 jn2 jc2, .slice ta2 tn2 tc2, .string S2] 27)) wx → Calls Try.prog 69 #[.slice ta tn tc, .slice ta2 tn2 tc2] wx fun e w' => e = .returned (.bool (bD (xs = xs2))) ∧ Up wx w') := fun wx u => eqTs_any ta ta2 tn tn2 tc tc2 xs xs2 wx (h3.up (Up.trans hu u)) (h4.up (Up.trans hu u)) ht
  have HF1 : Hid (V ≠ V2 → bD (V = V2 ∧ H = H2 ∧ P = P2 ∧ (JV = JV2 ∧ JH = JH2 ∧ JB = JB2 ∧ js = js2) ∧ xs = xs2 ∧ S = S2) = false) := fun g => bD_false (fun h => g h.1)
  have HF2 : Hid (H ≠ H2 → bD (V = V2 ∧ H = H2 ∧ P = P2 ∧ (JV = JV2 ∧ JH = JH2 ∧ JB = JB2 ∧ js = js2) ∧ xs = xs2 ∧ S = S2) = false) := fun g => bD_false (fun h => g h.2.1)
  have HF3 : Hid (P ≠ P2 → bD (V = V2 ∧ H = H2 ∧ P = P2 ∧ (JV = JV2 ∧ JH = JH2 ∧ JB = JB2 ∧ js = js2) ∧ xs = xs2 ∧ S = S2) = false) := fun g => bD_false (fun h => g h.2.2.1)
  have HF4 : Hid (S ≠ S2 → bD (V = V2 ∧ H = H2 ∧ P = P2 ∧ (JV = JV2 ∧ JH = JH2 ∧ JB = JB2 ∧ js = js2) ∧ xs = xs2 ∧ S = S2) = false) := fun g => bD_false (fun h => g h.2.2.2.2.2)
  have HT : Hid (V = V2 → H = H2 → P = P2 → S = S2 → bD (V = V2 ∧ H = H2 ∧ P = P2 ∧ (JV = JV2 ∧ JH = JH2 ∧ JB = JB2 ∧ js = js2) ∧ xs = xs2 ∧ S = S2) = (bD (JV = JV2 ∧ JH = JH2 ∧ JB = JB2 ∧ js = js2) && bD (xs = xs2))) := fun g1 g2 g3 g4 => by
    rw [Bool.eq_iff_iff, Bool.and_eq_true, bD_iff, bD_iff, bD_iff]
    exact ⟨fun h => ⟨h.2.2.2.1, h.2.2.2.2.1⟩, fun h => ⟨g1, g2, g3, h.1, h.2, g4⟩⟩
  generalize bD (V = V2 ∧ H = H2 ∧ P = P2 ∧ (JV = JV2 ∧ JH = JH2 ∧ JB = JB2 ∧ js = js2) ∧ xs = xs2 ∧ S = S2) = RES at HF1 HF2 HF3 HF4 HT ⊢
  generalize bD (JV = JV2 ∧ JH = JH2 ∧ JB = JB2 ∧ js = js2) = EJ at HJ HT
  generalize bD (xs = xs2) = EX at HX HT
  clear h1 h2 h3 h4 hux huy hj ht hb1 hb2 hu
  by_cases g1 : V = V2
  · have e1 : (V != V2) = false := by rw [bne_eq_false_iff_eq]; exact g1
    by_cases g2 : H = H2
    · have e2 : (H != H2) = false := by rw [bne_eq_false_iff_eq]; exact g2
      by_cases g3 : P = P2
      · have e3 : (P.toList == P2.toList) = true := by rw [beq_iff_eq]; rw [g3]
        by_cases g4 : S = S2
        · have e4 : (S.toList == S2.toList) = true := by rw [beq_iff_eq]; rw [g4]
          obtain rfl := HT.out g1 g2 g3 g4
          clear HF1 HF2 HF3 HF4 HT g1 g2 g3 g4
          go_enter Try.func46, Try.ntmps46
          go_wp2_with fail
          generalize ((w.alloc (.cells #[.int .i64 V, .int .i64 H, .string P, .int .i64 JV, .int .i64 JH, .string JB, .slice ja jn jc, .slice ta tn tc, .string S] 27)).alloc (.cells #[.int .i64 V2, .int .i64 H2, .string P2, .int .i64 JV2, .int .i64 JH2, .string JB2, .slice ja2 jn2 jc2, .slice ta2 tn2 tc2, .string S2] 27)) = wz at HU HB1 HB2 HJ HX ⊢
          generalize w.heap.size + 1 = b2 at HB2 ⊢
          generalize w.heap.size = b1 at HB1 ⊢
          have u0 := Up.refl wz
          with_reducible refine Calls.mono (HJ.out _ u0) ?_
          rintro e w1 ⟨rfl, u1⟩
          obtain ⟨p0, p1, p2, p3, p4, p5, p6, p7, p8⟩ := bk_cells (HB1.out w1 u1)
          obtain ⟨q0, q1, q2, q3, q4, q5, q6, q7, q8⟩ := bk_cells (HB2.out w1 u1)
          have HU1 := Lib.hid (Up.trans HU.out u1)
          cases EJ with
          | false =>
            go_wp2
            go_ret
            exact ⟨rfl, HU1.out⟩
          | true =>
            go_wp2_with fail
            with_reducible refine Calls.mono (HX.out _ u1) ?_
            rintro e w2 ⟨rfl, u2⟩
            go_wp2
            go_ret
            exact ⟨rfl, Up.trans HU1.out u2⟩
        · have e4 : (S.toList == S2.toList) = false := by rw [beq_eq_false_iff_ne]; exact fun h => g4 (toList_inj h)
          obtain rfl := HF4.out g4
          clear HF1 HF2 HF3 HF4 HT g1 g2 g3 g4
          go_enter Try.func46, Try.ntmps46
          go_wp2
          go_ret
          exact ⟨rfl, HU.out⟩
      · have e3 : (P.toList == P2.toList) = false := by rw [beq_eq_false_iff_ne]; exact fun h => g3 (toList_inj h)
        obtain rfl := HF3.out g3
        clear HF1 HF2 HF3 HF4 HT g1 g2 g3
        go_enter Try.func46, Try.ntmps46
        go_wp2
        go_ret
        exact ⟨rfl, HU.out⟩
    · have e2 : (H != H2) = true := by rw [bne_iff_ne]; exact g2
      obtain rfl := HF2.out g2
      clear HF1 HF2 HF3 HF4 HT g1 g2
      go_enter Try.func46, Try.ntmps46
      go_wp2
      go_ret
      exact ⟨rfl, HU.out⟩
  · have e1 : (V != V2) = true := by rw [bne_iff_ne]; exact g1
    obtain rfl := HF1.out g1
    clear HF1 HF2 HF3 HF4 HT g1
    go_enter Try.func46, Try.ntmps46
    go_wp2
    go_ret
    exact ⟨rfl, HU.out⟩

set_option maxHeartbeats 2000000 in
theorem refBlk_any (V H : Int) (P : ByteArray) (JV JH : Int) (JB : ByteArray) (ja : Option Addr) (jn jc : Nat) (ta : Option Addr) (tn tc : Nat) (S : ByteArray) (js : List Vs) (xs : List Ts) (V2 H2 : Int) (P2 : ByteArray) (JV2 JH2 : Int) (JB2 : ByteArray) (ja2 : Option Addr) (jn2 jc2 : Nat) (ta2 : Option Addr) (tn2 tc2 : Nat) (S2 : ByteArray) (js2 : List Vs) (xs2 : List Ts) (w : World) (h1 : VArg w (.slice ja jn jc) js) (h2 : VArg w (.slice ja2 jn2 jc2) js2) (h3 : TArg w (.slice ta tn tc) xs) (h4 : TArg w (.slice ta2 tn2 tc2) xs2) (hux : ∀ x ∈ js, U8s x.1.B) (huy : ∀ y ∈ js2, U8s y.1.B) (hj : jn ≤ 9223372036854775807) (ht : tn ≤ 9223372036854775807) :
    Calls Try.prog 18 #[.agg #[.int .i64 V, .int .i64 H, .string P, .int .i64 JV, .int .i64 JH, .string JB, .slice ja jn jc, .slice ta tn tc, .string S], .agg #[.int .i64 V2, .int .i64 H2, .string P2, .int .i64 JV2, .int .i64 JH2, .string JB2, .slice ja2 jn2 jc2, .slice ta2 tn2 tc2, .string S2]] w fun e w' => e = .returned (.bool (bD (V = V2 ∧ H = H2 ∧ P = P2 ∧ (JV = JV2 ∧ JH = JH2 ∧ JB = JB2 ∧ js = js2) ∧ xs = xs2 ∧ S = S2))) ∧ Up w w' := by
  have hu := Up.alloc (Up.alloc (Up.refl w) (.cells #[.int .i64 V, .int .i64 H, .string P, .int .i64 JV, .int .i64 JH, .string JB, .slice ja jn jc, .slice ta tn tc, .string S] 27)) (.cells #[.int .i64 V2, .int .i64 H2, .string P2, .int .i64 JV2, .int .i64 JH2, .string JB2, .slice ja2 jn2 jc2, .slice ta2 tn2 tc2, .string S2] 27)
  have hb1 := (Up.alloc (Up.refl (w.alloc (.cells #[.int .i64 V, .int .i64 H, .string P, .int .i64 JV, .int .i64 JH, .string JB, .slice ja jn jc, .slice ta tn tc, .string S] 27))) (.cells #[.int .i64 V2, .int .i64 H2, .string P2, .int .i64 JV2, .int .i64 JH2, .string JB2, .slice ja2 jn2 jc2, .slice ta2 tn2 tc2, .string S2] 27)).block _ (lt_of_block (heap_alloc_new w (.cells #[.int .i64 V, .int .i64 H, .string P, .int .i64 JV, .int .i64 JH, .string JB, .slice ja jn jc, .slice ta tn tc, .string S] 27)))
  have hb2 := heap_alloc_new (w.alloc (.cells #[.int .i64 V, .int .i64 H, .string P, .int .i64 JV, .int .i64 JH, .string JB, .slice ja jn jc, .slice ta tn tc, .string S] 27)) (.cells #[.int .i64 V2, .int .i64 H2, .string P2, .int .i64 JV2, .int .i64 JH2, .string JB2, .slice ja2 jn2 jc2, .slice ta2 tn2 tc2, .string S2] 27)
  rw [heap_alloc_new w (.cells #[.int .i64 V, .int .i64 H, .string P, .int .i64 JV, .int .i64 JH, .string JB, .slice ja jn jc, .slice ta tn tc, .string S] 27)] at hb1
  rw [show (w.alloc (.cells #[.int .i64 V, .int .i64 H, .string P, .int .i64 JV, .int .i64 JH, .string JB, .slice ja jn jc, .slice ta tn tc, .string S] 27)).heap.size = w.heap.size + 1 by simp] at hb2
  have HU := Lib.hid hu
  have HB1 : Hid (∀ wx, Up ((w.alloc (.cells #[.int .i64 V, .int .i64 H, .string P, .int .i64 JV, .int .i64 JH, .string JB, .slice ja jn jc, .slice ta tn tc, .string S] 27)).alloc (.cells #[.int .i64 V2, .int .i64 H2, .string P2, .int .i64 JV2, .int .i64 JH2, .string JB2, .slice ja2 jn2 jc2, .slice ta2 tn2 tc2, .string S2] 27)) wx → wx.heap[w.heap.size]? = some (.cells #[.int .i64 V, .int .i64 H, .string P, .int .i64 JV, .int .i64 JH, .string JB, .slice ja jn jc, .slice ta tn tc, .string S] 27 (0, 0))) := fun wx u => (u.block _ (lt_of_block hb1)).trans hb1
  have HB2 : Hid (∀ wx, Up ((w.alloc (.cells #[.int .i64 V, .int .i64 H, .string P, .int .i64 JV, .int .i64 JH, .string JB, .slice ja jn jc, .slice ta tn tc, .string S] 27)).alloc (.cells #[.int .i64 V2, .int .i64 H2, .string P2, .int .i64 JV2, .int .i64 JH2, .string JB2, .slice ja2 jn2 jc2, .slice ta2 tn2 tc2, .string S2] 27)) wx → wx.heap[w.heap.size + 1]? = some (.cells #[.int .i64 V2, .int .i64 H2, .string P2, .int .i64 JV2, .int .i64 JH2, .string JB2, .slice ja2 jn2 jc2, .slice ta2 tn2 tc2, .string S2] 27 (0, 0))) := fun wx u => (u.block _ (lt_of_block hb2)).trans hb2
  have HJ : Hid (∀ wx, Up ((w.alloc (.cells #[.int .i64 V, .int .i64 H, .string P, .int .i64 JV, .int .i64 JH, .string JB, .slice ja jn jc, .slice ta tn tc, .string S] 27)).alloc (.cells #[.int .i64 V2, .int .i64 H2, .string P2, .int .i64 JV2, .int .i64 JH2, .string JB2, .slice ja2 jn2 jc2, .slice ta2 tn2 tc2, .string S2] 27)) wx → Calls Try.prog 19 #[.agg #[.int .i64 JV, .int .i64 JH, .string JB, .slice ja jn jc], .agg #[.int .i64 JV2, .int .i64 JH2, .string JB2, .slice ja2 jn2 jc2]] wx fun e w' => e = .returned (.bool (bD (JV = JV2 ∧ JH = JH2 ∧ JB = JB2 ∧ js = js2))) ∧ Up wx w') := fun wx u => refCt_any JV JH JB ja jn jc js JV2 JH2 JB2 ja2 jn2 jc2 js2 wx (h1.up (Up.trans hu u)) (h2.up (Up.trans hu u)) hux huy hj
  have HX : Hid (∀ wx, Up ((w.alloc (.cells #[.int .i64 V, .int .i64 H, .string P, .int .i64 JV, .int .i64 JH, .string JB, .slice ja jn jc, .slice ta tn tc, .string S] 27)).alloc (.cells #[.int .i64 V2, .int .i64 H2, .string P2, .int .i64 JV2, .int .i64 JH2, .string JB2, .slice ja2 jn2 jc2, .slice ta2 tn2 tc2, .string S2] 27)) wx → Calls Try.prog 40 #[.slice ta tn tc, .slice ta2 tn2 tc2] wx fun e w' => e = .returned (.bool (bD (xs = xs2))) ∧ Up wx w') := fun wx u => refTs_any ta ta2 tn tn2 tc tc2 xs xs2 wx (h3.up (Up.trans hu u)) (h4.up (Up.trans hu u)) ht
  have HF1 : Hid (V ≠ V2 → bD (V = V2 ∧ H = H2 ∧ P = P2 ∧ (JV = JV2 ∧ JH = JH2 ∧ JB = JB2 ∧ js = js2) ∧ xs = xs2 ∧ S = S2) = false) := fun g => bD_false (fun h => g h.1)
  have HF2 : Hid (H ≠ H2 → bD (V = V2 ∧ H = H2 ∧ P = P2 ∧ (JV = JV2 ∧ JH = JH2 ∧ JB = JB2 ∧ js = js2) ∧ xs = xs2 ∧ S = S2) = false) := fun g => bD_false (fun h => g h.2.1)
  have HF3 : Hid (P ≠ P2 → bD (V = V2 ∧ H = H2 ∧ P = P2 ∧ (JV = JV2 ∧ JH = JH2 ∧ JB = JB2 ∧ js = js2) ∧ xs = xs2 ∧ S = S2) = false) := fun g => bD_false (fun h => g h.2.2.1)
  have HF4 : Hid (S ≠ S2 → bD (V = V2 ∧ H = H2 ∧ P = P2 ∧ (JV = JV2 ∧ JH = JH2 ∧ JB = JB2 ∧ js = js2) ∧ xs = xs2 ∧ S = S2) = false) := fun g => bD_false (fun h => g h.2.2.2.2.2)
  have HT : Hid (V = V2 → H = H2 → P = P2 → S = S2 → bD (V = V2 ∧ H = H2 ∧ P = P2 ∧ (JV = JV2 ∧ JH = JH2 ∧ JB = JB2 ∧ js = js2) ∧ xs = xs2 ∧ S = S2) = (bD (xs = xs2) && bD (JV = JV2 ∧ JH = JH2 ∧ JB = JB2 ∧ js = js2))) := fun g1 g2 g3 g4 => by
    rw [Bool.eq_iff_iff, Bool.and_eq_true, bD_iff, bD_iff, bD_iff]
    exact ⟨fun h => ⟨h.2.2.2.2.1, h.2.2.2.1⟩, fun h => ⟨g1, g2, g3, h.2, h.1, g4⟩⟩
  generalize bD (V = V2 ∧ H = H2 ∧ P = P2 ∧ (JV = JV2 ∧ JH = JH2 ∧ JB = JB2 ∧ js = js2) ∧ xs = xs2 ∧ S = S2) = RES at HF1 HF2 HF3 HF4 HT ⊢
  generalize bD (JV = JV2 ∧ JH = JH2 ∧ JB = JB2 ∧ js = js2) = EJ at HJ HT
  generalize bD (xs = xs2) = EX at HX HT
  clear h1 h2 h3 h4 hux huy hj ht hb1 hb2 hu
  by_cases g1 : V = V2
  · have e1 : (V == V2) = true := by rw [beq_iff_eq]; exact g1
    by_cases g2 : H = H2
    · have e2 : (H == H2) = true := by rw [beq_iff_eq]; exact g2
      by_cases g3 : P = P2
      · have e3 : (P.toList == P2.toList) = true := by rw [beq_iff_eq]; rw [g3]
        by_cases g4 : S = S2
        · have e4 : (S.toList == S2.toList) = true := by rw [beq_iff_eq]; rw [g4]
          obtain rfl := HT.out g1 g2 g3 g4
          clear HF1 HF2 HF3 HF4 HT g1 g2 g3 g4
          go_enter Try.func18, Try.ntmps18
          go_wp2_with fail
          generalize ((w.alloc (.cells #[.int .i64 V, .int .i64 H, .string P, .int .i64 JV, .int .i64 JH, .string JB, .slice ja jn jc, .slice ta tn tc, .string S] 27)).alloc (.cells #[.int .i64 V2, .int .i64 H2, .string P2, .int .i64 JV2, .int .i64 JH2, .string JB2, .slice ja2 jn2 jc2, .slice ta2 tn2 tc2, .string S2] 27)) = wz at HU HB1 HB2 HJ HX ⊢
          generalize w.heap.size + 1 = b2 at HB2 ⊢
          generalize w.heap.size = b1 at HB1 ⊢
          have u0 := Up.refl wz
          with_reducible refine Calls.mono (HX.out _ u0) ?_
          rintro e w1 ⟨rfl, u1⟩
          obtain ⟨p0, p1, p2, p3, p4, p5, p6, p7, p8⟩ := bk_cells (HB1.out w1 u1)
          obtain ⟨q0, q1, q2, q3, q4, q5, q6, q7, q8⟩ := bk_cells (HB2.out w1 u1)
          have HU1 := Lib.hid (Up.trans HU.out u1)
          cases EX with
          | false =>
            go_wp2
            go_ret
            exact ⟨rfl, HU1.out⟩
          | true =>
            go_wp2_with fail
            with_reducible refine Calls.mono (HJ.out _ u1) ?_
            rintro e w2 ⟨rfl, u2⟩
            go_wp2
            go_ret
            exact ⟨rfl, Up.trans HU1.out u2⟩
        · have e4 : (S.toList == S2.toList) = false := by rw [beq_eq_false_iff_ne]; exact fun h => g4 (toList_inj h)
          obtain rfl := HF4.out g4
          clear HF1 HF2 HF3 HF4 HT g1 g2 g3 g4
          go_enter Try.func18, Try.ntmps18
          go_wp2
          go_ret
          exact ⟨rfl, HU.out⟩
      · have e3 : (P.toList == P2.toList) = false := by rw [beq_eq_false_iff_ne]; exact fun h => g3 (toList_inj h)
        obtain rfl := HF3.out g3
        clear HF1 HF2 HF3 HF4 HT g1 g2 g3
        go_enter Try.func18, Try.ntmps18
        go_wp2
        go_ret
        exact ⟨rfl, HU.out⟩
    · have e2 : (H == H2) = false := by rw [beq_eq_false_iff_ne]; exact g2
      obtain rfl := HF2.out g2
      clear HF1 HF2 HF3 HF4 HT g1 g2
      go_enter Try.func18, Try.ntmps18
      go_wp2
      go_ret
      exact ⟨rfl, HU.out⟩
  · have e1 : (V == V2) = false := by rw [beq_eq_false_iff_ne]; exact g1
    obtain rfl := HF1.out g1
    clear HF1 HF2 HF3 HF4 HT g1
    go_enter Try.func18, Try.ntmps18
    go_wp2
    go_ret
    exact ⟨rfl, HU.out⟩
end
end Go.Proofs.Ytacamknljicjmaa
