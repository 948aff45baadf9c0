import Derived.IntWalk
import Derived.Test.YtnipkhgaceicbaaTxKit
import Derived.Test.YtnipkhgaceicbaaRefTx
namespace Go.Proofs.Ytnipkhgaceicbaa
/-
  The reference: whether a block may be.
-/
section
set_option maxRecDepth 100000
section
set_option linter.unusedVariables false
open Go.RowKit Go.Sort Go.Lib

/-- a block's cells -/
def bkC (V H : Int) (P : ByteArray) (JV JH : Int) (JB : ByteArray) (ja : Option Addr) (jn jc : Nat) (ta : Option Addr) (tn tc : Nat) (S : ByteArray) : Array Value :=
  #[.int .i64 V, .int .i64 H, .string P, .int .i64 JV, .int .i64 JH, .string JB, .slice ja jn jc, .slice ta tn tc, .string S]
/-- a block may be -/
structure BkMay (V H : Int) (P : ByteArray) (JV JH : Int) (JB : ByteArray) (xs : List Ts) (S : ByteArray) : Prop where
  v : 0 ≤ V ∧ V ≤ 1048576
  h : 1 ≤ H ∧ H ≤ 1048576
  p : P.size = 32
  n : xs.length ≤ 4
  s : S.size ≤ 4096
  jb : JB = P
  jh : JH = H - 1
  jv : 0 ≤ JV ∧ JV ≤ V
  ts : ∀ x ∈ xs, tsE x = 0
noncomputable def bkE (V H : Int) (P : ByteArray) (JV JH : Int) (JB : ByteArray) (xs : List Ts) (S : ByteArray) : Int := @ite _ (BkMay V H P JV JH JB xs S) (Classical.propDecidable _) 0 9
theorem bkE_ok {V H : Int} {P : ByteArray} {JV JH : Int} {JB : ByteArray} {xs : List Ts} {S : ByteArray} (h : BkMay V H P JV JH JB xs S) : bkE V H P JV JH JB xs S = 0 := by unfold bkE; rw [if_pos h]
theorem bkE_no {V H : Int} {P : ByteArray} {JV JH : Int} {JB : ByteArray} {xs : List Ts} {S : ByteArray} (h : ¬ BkMay V H P JV JH JB xs S) : bkE V H P JV JH JB xs S = 9 := by unfold bkE; rw [if_neg h]
theorem bk_cells {W : World} {B : Nat} {c0 c1 c2 c3 c4 c5 c6 c7 c8 : Value} {ty : TypeId} {fr : Nat × Nat} (h : W.heap[B]? = some (.cells #[c0, c1, c2, c3, c4, c5, c6, c7, c8] ty fr)) :
    W.cell? ⟨B, 0, none⟩ = some c0 ∧ W.cell? ⟨B, 1, none⟩ = some c1 ∧ W.cell? ⟨B, 2, none⟩ = some c2 ∧ W.cell? ⟨B, 3, none⟩ = some c3 ∧ W.cell? ⟨B, 4, none⟩ = some c4 ∧ W.cell? ⟨B, 5, none⟩ = some c5 ∧ W.cell? ⟨B, 6, none⟩ = some c6 ∧ W.cell? ⟨B, 7, none⟩ = some c7 ∧ W.cell? ⟨B, 8, none⟩ = some c8 :=
  ⟨cell_of_row _ _ 0 _ _ _ h, cell_of_row _ _ 1 _ _ _ h, cell_of_row _ _ 2 _ _ _ h, cell_of_row _ _ 3 _ _ _ h, cell_of_row _ _ 4 _ _ _ h, cell_of_row _ _ 5 _ _ _ h, cell_of_row _ _ 6 _ _ _ h, cell_of_row _ _ 7 _ _ _ h, cell_of_row _ _ 8 _ _ _ h⟩
theorem info_bk : (Try.prog.info? 41).map (·.size) = some 9 := by kernel_rfl

end
end

/-
  block: Check, of whatever block.
-/
section
set_option maxRecDepth 100000
section
set_option linter.unusedVariables false
open Go.RowKit Go.Sort Go.Lib

theorem bkWithin_any (n least most : Int) (w : World) :
    Calls Try.prog 63 #[.int .i64 n, .int .i64 least, .int .i64 most] w fun e w' => e = .returned (.bool (decide (least ≤ n ∧ n ≤ most))) ∧ w = w' := by
  by_cases h1 : least ≤ n
  · by_cases h2 : n ≤ most
    · rw [decide_eq_true ⟨h1, h2⟩]
      go_enter Try.func63, Try.ntmps63
      go_wp2
      go_ret
      exact ⟨rfl, rfl⟩
    · rw [decide_eq_false (fun h => h2 h.2)]
      go_enter Try.func63, Try.ntmps63
      go_wp2
      go_ret
      exact ⟨rfl, rfl⟩
  · rw [decide_eq_false (fun h => h1 h.1)]
    go_enter Try.func63, Try.ntmps63
    go_wp2
    go_ret
    exact ⟨rfl, rfl⟩
theorem bkWithin_yes {n least most : Int} (h : least ≤ n ∧ n ≤ most) (w : World) : Calls Try.prog 63 #[.int .i64 n, .int .i64 least, .int .i64 most] w fun e w' => e = .returned (.bool true) ∧ w = w' := by
  have := bkWithin_any n least most w; rwa [decide_eq_true h] at this
theorem bkWithin_no {n least most : Int} (h : ¬ (least ≤ n ∧ n ≤ most)) (w : World) : Calls Try.prog 63 #[.int .i64 n, .int .i64 least, .int .i64 most] w fun e w' => e = .returned (.bool false) ∧ w = w' := by
  have := bkWithin_any n least most w; rwa [decide_eq_false h] at this

theorem jst_any (V H : Int) (P : ByteArray) (JV JH : Int) (JB : ByteArray) (ja : Option Addr) (jn jc : Nat) (ta : Option Addr) (n tc : Nat) (S : ByteArray) (w : World) (hH : 1 ≤ H ∧ H ≤ 1048576) :
    Calls Try.prog 64 #[.agg #[.int .i64 JV, .int .i64 JH, .string JB, .slice ja jn jc], .agg (bkC V H P JV JH JB ja jn jc ta n tc S)] w fun e w' => e = .returned (.bool (decide (JB = P ∧ JH = H - 1 ∧ 0 ≤ JV ∧ JV ≤ V))) ∧ Up w w' := by
  have HU := Lib.hid (Up.alloc (Up.alloc (Up.refl w) (.cells #[.int .i64 JV, .int .i64 JH, .string JB, .slice ja jn jc] 38)) (.cells (bkC V H P JV JH JB ja jn jc ta n tc S) 41))
  unfold bkC at HU ⊢
  have hw1 : IntKind.i64.wrap (H - 1) = H - 1 := by rw [IntKind.wrap_i64]; omega
  by_cases g1 : JB = P
  · subst g1
    by_cases g2 : JH = H - 1
    · have g2i : (JH == H - 1) = true := by rw [beq_iff_eq]; exact g2
      by_cases g3 : 0 ≤ JV ∧ JV ≤ V
      · rw [decide_eq_true ⟨rfl, g2, g3⟩]
        have HW := Lib.hid (fun wx => bkWithin_yes g3 wx)
        clear g2 g3
        go_enter Try.func64, Try.ntmps64
        go_wp2_with fail
        with_reducible refine Calls.mono (HW.out _) ?_
        rintro e w1 ⟨rfl, rfl⟩
        go_wp2
        go_ret
        exact ⟨rfl, HU.out⟩
      · rw [decide_eq_false (fun h => g3 h.2.2)]
        have HW := Lib.hid (fun wx => bkWithin_no g3 wx)
        clear g2 g3
        go_enter Try.func64, Try.ntmps64
        go_wp2_with fail
        with_reducible refine Calls.mono (HW.out _) ?_
        rintro e w1 ⟨rfl, rfl⟩
        go_wp2
        go_ret
        exact ⟨rfl, HU.out⟩
    · have g2i : (JH == H - 1) = false := by rw [beq_eq_false_iff_ne]; exact g2
      rw [decide_eq_false (fun h => g2 h.2.1)]
      clear g2
      go_enter Try.func64, Try.ntmps64
      go_wp2
      go_ret
      exact ⟨rfl, HU.out⟩
  · have g1i : (JB.toList == P.toList) = false := by rw [toList_dec]; exact decide_eq_false g1
    rw [decide_eq_false (fun h => g1 h.1)]
    clear g1
    go_enter Try.func64, Try.ntmps64
    go_wp2
    go_ret
    exact ⟨rfl, HU.out⟩

theorem isNone_any (x : Ts) (w : World) : Calls Try.prog 78 #[.agg (tsA x)] w fun e w' => e = .returned (.bool (tsE x != 0)) ∧ Up w w' := by
  have HC := Lib.hid (fun wx => check_any x.1.F x.1.T x.1.A x.1.N x.2 wx)
  have HU := Lib.hid (Up.alloc (Up.refl w) (.cells (tsA x) 90))
  unfold tsA tsE at *
  generalize txE x.1.F x.1.T x.1.A x.1.N x.2 = E at HC ⊢
  obtain ⟨⟨F, T, A, N⟩, S⟩ := x
  simp only at HC HU ⊢
  unfold txC at HC HU ⊢
  go_enter Try.func78, Try.ntmps78
  go_wp2_with fail
  with_reducible refine Calls.mono (HC.out _) ?_
  rintro e w1 ⟨rfl, u1⟩
  have HU1 := Lib.hid (Up.trans HU.out u1)
  go_wp2
  go_ret
  exact ⟨rfl, HU1.out⟩

theorem tsIndex_nil (g : FuncId) (cb : Array Value) (a : Option Addr) (cap : Nat) (w : World) :
    Calls Try.prog 88 #[.slice a 0 cap, .func (.func g) #[] cb] w fun e w' => e = .returned (.int .i64 (-1)) ∧ Up w w' := by
  go_enter Try.func88, Try.ntmps88
  go_wp2
  go_loopw [8] (fun vi wr => vi = .int .i64 0 ∧ Hid (Up w wr)) (fun _ _ => 0)
  case atStart => exact ⟨rfl, Lib.hid (Up.refl _)⟩
  case round =>
    obtain ⟨rfl, HU⟩ := hrel
    go_wp2
    go_ret
    exact ⟨rfl, HU.out⟩
theorem tsContains_nil (g : FuncId) (cb : Array Value) (a : Option Addr) (cap : Nat) (w : World) :
    Calls Try.prog 80 #[.slice a 0 cap, .func (.func g) #[] cb] w fun e w' => e = .returned (.bool false) ∧ Up w w' := by
  have Hc := Lib.hid (fun wx => tsIndex_nil g cb a cap wx)
  go_enter Try.func80, Try.ntmps80
  go_wp2_with fail
  with_reducible refine Calls.mono (Hc.out _) ?_
  rintro e w1 ⟨rfl, u⟩
  have HU := Lib.hid u
  go_wp2
  go_ret
  exact ⟨rfl, HU.out⟩
/-- does one not meet it? of whatever slice of transactions -/
theorem tsContains_of (g : FuncId) (cb : Array Value) (eg : ∀ args w, (callFunc g args).run Try.prog w = .ok (.enter g args) w) (p : Ts → Bool) (a : Option Addr) (n cap : Nat) (xs : List Ts) (hn : n < 4611686018427387904) (w : World) (ht : TArg w (.slice a n cap) xs)
    (hc : ∀ x W, x ∈ xs → Up w W → Calls Try.prog g (#[.agg (tsA x)] ++ cb) W fun e w' => e = .returned (.bool (p x)) ∧ Up w w') :
    Calls Try.prog 80 #[.slice a n cap, .func (.func g) #[] cb] w fun e w' => e = .returned (.bool (xs.any p)) ∧ Up w w' := by
  have hl := ht.len
  by_cases h0 : n = 0
  · subst h0
    have : xs = [] := List.eq_nil_of_length_eq_zero hl
    subst this
    exact tsContains_nil g cb a cap w
  · obtain ⟨b, off, rfl⟩ := ht.ptr (by omega)
    have hu : ∀ i, i < n → xs[i]? = some (xs[i]?.getD default) := fun i hi => by rw [List.getElem?_eq_getElem (by omega)]; rfl
    refine (tsContains_any g cb eg (fun _ W => Up w W) (fun i => xs[i]?.getD default) (fun i => p (xs[i]?.getD default)) b off n cap hn (fun i W hi u => (ht.up u).load (hu i hi))
      (fun i W hi u => hc _ W (List.mem_of_getElem? (hu i hi)) u) w (Up.refl w)).mono ?_
    rintro e w' ⟨k, h1, h2, h3, rfl, h5⟩
    refine ⟨?_, h5⟩
    congr 2
    by_cases hk : k < n
    · rw [decide_eq_true hk]
      symm
      rw [List.any_eq_true]
      exact ⟨_, List.mem_of_getElem? (hu k hk), h3 hk⟩
    · rw [decide_eq_false hk]
      symm
      rw [List.any_eq_false]
      intro x hx
      obtain ⟨j, hj⟩ := List.getElem?_of_mem hx
      have hj2 : j < k := by have := (List.getElem?_eq_some_iff.1 hj).1; omega
      have := h2 j hj2
      rw [hj] at this
      simpa using this

theorem txsMayBe_any (a : Option Addr) (n cap : Nat) (xs : List Ts) (hsz : n ≤ 9223372036854775807) (w : World) (ht : TArg w (.slice a n cap) xs) :
    Calls Try.prog 65 #[.slice a n cap] w fun e w' => e = .returned (.bool (decide (xs.length ≤ 4 ∧ ∀ x ∈ xs, tsE x = 0))) ∧ Up w w' := by
  have hl := ht.len
  by_cases h4 : n ≤ 4
  · have hz : (n : Int) ≤ 4 := by omega
    have HC := Lib.hid (tsContains_of 78 #[] (enters_of Try.func78 (by kernel_rfl) rfl) (fun x => tsE x != 0) a n cap xs (by omega) w ht (fun x W hx u => (isNone_any x W).mono fun e w' h => ⟨h.1, Up.trans u h.2⟩))
    have HE : Hid ((!xs.any fun x => tsE x != 0) = decide (xs.length ≤ 4 ∧ ∀ x ∈ xs, tsE x = 0)) := Lib.hid (by
      rw [Bool.eq_iff_iff, decide_eq_true_eq, Bool.not_eq_true', List.any_eq_false]
      constructor
      · intro h
        exact ⟨by omega, fun x hx => by have := h x hx; simpa using this⟩
      · intro h x hx
        simp [h.2 x hx])
    generalize (xs.any fun x => tsE x != 0) = b at HC HE
    rw [← HE.out]
    clear HE ht hl
    go_enter Try.func65, Try.ntmps65
    go_wp2_with fail
    with_reducible refine Calls.mono HC.out ?_
    rintro e w1 ⟨rfl, u⟩
    have HU := Lib.hid u
    go_wp2
    go_ret
    exact ⟨rfl, HU.out⟩
  · have hz : ¬ (n : Int) ≤ 4 := by omega
    rw [decide_eq_false (fun h => h4 (by omega))]
    clear ht hl
    go_enter Try.func65, Try.ntmps65
    go_wp2
    go_ret
    exact ⟨rfl, Up.refl _⟩

set_option maxHeartbeats 4000000 in
theorem bkCheck_any (V H : Int) (P : ByteArray) (JV JH : Int) (JB : ByteArray) (ja : Option Addr) (jn jc : Nat) (ta : Option Addr) (n tc : Nat) (S : ByteArray) (xs : List Ts) (w : World) (hsz : n ≤ 9223372036854775807) (ht : TArg w (.slice ta n tc) xs) :
    Calls Try.prog 53 #[.agg (bkC V H P JV JH JB ja jn jc ta n tc S)] w fun e w' => e = .returned (.int .i64 (bkE V H P JV JH JB xs S)) ∧ Up w w' := by
  have HT : Hid (∀ wx, Up w wx → Calls Try.prog 65 #[.slice ta n tc] wx fun e w' => e = .returned (.bool (decide (xs.length ≤ 4 ∧ ∀ x ∈ xs, tsE x = 0))) ∧ Up wx w') := fun wx u => txsMayBe_any ta n tc xs hsz wx (ht.up u)
  have HU := Lib.hid (Up.alloc (Up.refl w) (.cells (bkC V H P JV JH JB ja jn jc ta n tc S) 41))
  have HB := Lib.hid (heap_alloc_new w (.cells (bkC V H P JV JH JB ja jn jc ta n tc S) 41))
  have HJ : Hid (1 ≤ H ∧ H ≤ 1048576 → ∀ wx, Calls Try.prog 64 #[.agg #[.int .i64 JV, .int .i64 JH, .string JB, .slice ja jn jc], .agg (bkC V H P JV JH JB ja jn jc ta n tc S)] wx fun e w' => e = .returned (.bool (decide (JB = P ∧ JH = H - 1 ∧ 0 ≤ JV ∧ JV ≤ V))) ∧ Up wx w') := fun h wx => jst_any V H P JV JH JB ja jn jc ta n tc S wx h
  unfold bkC at HU HB HJ ⊢
  have HBAD : Hid (¬ BkMay V H P JV JH JB xs S → bkE V H P JV JH JB xs S = 9) := bkE_no
  have HGOOD : Hid (BkMay V H P JV JH JB xs S → bkE V H P JV JH JB xs S = 0) := bkE_ok
  generalize bkE V H P JV JH JB xs S = E at HBAD HGOOD ⊢
  clear ht hsz
  by_cases g0 : 0 ≤ V ∧ V ≤ 1048576
  · have HW0 := Lib.hid (fun wx => bkWithin_yes g0 wx)
    have G0 := Lib.hid g0
    clear g0
    by_cases g1 : 1 ≤ H ∧ H ≤ 1048576
    · have HW1 := Lib.hid (fun wx => bkWithin_yes g1 wx)
      have G1 := Lib.hid g1
      clear g1
      by_cases g2 : P.size = 32
      · have g2i : ((P.size : Int) == 32) = true := by rw [beq_iff_eq]; omega
        have G2 := Lib.hid g2
        clear g2
        have HJ2 := Lib.hid (HJ.out G1.out)
        have HJB : Hid (decide (JB = P ∧ JH = H - 1 ∧ 0 ≤ JV ∧ JV ≤ V) = false → E = 9) := fun h => HBAD.out (fun k => of_decide_eq_false h ⟨k.jb, k.jh, k.jv⟩)
        have HTB : Hid (decide (xs.length ≤ 4 ∧ ∀ x ∈ xs, tsE x = 0) = false → E = 9) := fun h => HBAD.out (fun k => of_decide_eq_false h ⟨k.n, k.ts⟩)
        have HSB : Hid (4096 < S.size → E = 9) := fun h => HBAD.out (fun k => by have := k.s; omega)
        have HGG : Hid (decide (JB = P ∧ JH = H - 1 ∧ 0 ≤ JV ∧ JV ≤ V) = true → decide (xs.length ≤ 4 ∧ ∀ x ∈ xs, tsE x = 0) = true → S.size ≤ 4096 → E = 0) := fun h1 h2 h3 => by
          have h1 := of_decide_eq_true h1
          have h2 := of_decide_eq_true h2
          exact HGOOD.out ⟨G0.out, G1.out, G2.out, h2.1, h3, h1.1, h1.2.1, h1.2.2, h2.2⟩
        generalize decide (JB = P ∧ JH = H - 1 ∧ 0 ≤ JV ∧ JV ≤ V) = jb at HJ2 HJB HGG
        generalize decide (xs.length ≤ 4 ∧ ∀ x ∈ xs, tsE x = 0) = tb at HT HTB HGG
        clear HJ HBAD HGOOD
        go_enter Try.func53, Try.ntmps53
        go_wp2_with fail
        with_reducible refine Calls.mono (HW0.out _) ?_
        rintro e w1 ⟨rfl, rfl⟩
        go_wp2_with fail
        with_reducible refine Calls.mono (HW1.out _) ?_
        rintro e w1 ⟨rfl, rfl⟩
        go_wp2_with fail
        with_reducible refine Calls.mono (HJ2.out _) ?_
        rintro e w2 ⟨rfl, u2⟩
        have HU2 := Lib.hid (Up.trans HU.out u2)
        obtain ⟨_, _, _, _, _, _, _, c7, c8⟩ := bk_cells ((u2.block _ (lt_of_block HB.out)).trans HB.out)
        have HB2 := Lib.hid ((u2.block _ (lt_of_block HB.out)).trans HB.out)
        clear u2 c8
        cases jb with
        | false =>
          obtain rfl := HJB.out rfl
          go_wp2
          go_ret
          exact ⟨rfl, HU2.out⟩
        | true =>
          go_wp2_with fail
          with_reducible refine Calls.mono (HT.out _ HU2.out) ?_
          rintro e w3 ⟨rfl, u3⟩
          have HU3 := Lib.hid (Up.trans HU2.out u3)
          obtain ⟨_, _, _, _, _, _, _, _, c8⟩ := bk_cells ((u3.block _ (lt_of_block HB2.out)).trans HB2.out)
          clear u3 c7
          cases tb with
          | false =>
            obtain rfl := HTB.out rfl
            go_wp2
            go_ret
            exact ⟨rfl, HU3.out⟩
          | true =>
            by_cases g6 : 4096 < S.size
            · have g6i : (4096 : Int) < (S.size : Int) := by omega
              obtain rfl := HSB.out g6
              go_wp2
              go_ret
              exact ⟨rfl, HU3.out⟩
            · have g6i : ¬ (4096 : Int) < (S.size : Int) := by omega
              obtain rfl := HGG.out (by trivial) (by trivial) (by omega)
              go_wp2
              go_ret
              exact ⟨rfl, HU3.out⟩
      · have g2i : ((P.size : Int) == 32) = false := by rw [beq_eq_false_iff_ne]; omega
        obtain rfl := HBAD.out (fun h => g2 h.p)
        clear HBAD HGOOD g2
        go_enter Try.func53, Try.ntmps53
        go_wp2_with fail
        with_reducible refine Calls.mono (HW0.out _) ?_
        rintro e w1 ⟨rfl, rfl⟩
        go_wp2_with fail
        with_reducible refine Calls.mono (HW1.out _) ?_
        rintro e w1 ⟨rfl, rfl⟩
        go_wp2
        go_ret
        exact ⟨rfl, HU.out⟩
    · have HW1 := Lib.hid (fun wx => bkWithin_no g1 wx)
      obtain rfl := HBAD.out (fun h => g1 h.h)
      clear HBAD HGOOD g1
      go_enter Try.func53, Try.ntmps53
      go_wp2_with fail
      with_reducible refine Calls.mono (HW0.out _) ?_
      rintro e w1 ⟨rfl, rfl⟩
      go_wp2_with fail
      with_reducible refine Calls.mono (HW1.out _) ?_
      rintro e w1 ⟨rfl, rfl⟩
      go_wp2
      go_ret
      exact ⟨rfl, HU.out⟩
  · have HW0 := Lib.hid (fun wx => bkWithin_no g0 wx)
    obtain rfl := HBAD.out (fun h => g0 h.v)
    clear HBAD HGOOD g0
    go_enter Try.func53, Try.ntmps53
    go_wp2_with fail
    with_reducible refine Calls.mono (HW0.out _) ?_
    rintro e w1 ⟨rfl, rfl⟩
    go_wp2
    go_ret
    exact ⟨rfl, HU.out⟩
end
end
end Go.Proofs.Ytnipkhgaceicbaa
