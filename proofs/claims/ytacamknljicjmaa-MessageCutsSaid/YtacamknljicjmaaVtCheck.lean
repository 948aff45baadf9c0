import Derived.Test.YtacamknljicjmaaUps
import Derived.Test.YtacamknljicjmaaStrs
import Derived.Test.YtacamknljicjmaaTxCheck
import Derived.Test.YtacamknljicjmaaOpen
namespace Go.Proofs.Ytacamknljicjmaa
section
/-
  vote: whether a statement may be; the page's example.
-/
section
set_option maxRecDepth 100000
section
set_option linter.unusedVariables false
open Go.RowKit

/-- a statement without its Sig -/
structure Vt where
  K : Int
  V : Int
  H : Int
  B : List Int
  T : Int
  G : Int
/-- a statement's cells -/
def vtC (v : Vt) (S : ByteArray) : Array Value := #[.int .i64 v.K, .int .i64 v.V, .int .i64 v.H, .string (strOfNums v.B), .int .i64 v.T, .int .i64 v.G, .string S]
theorem info_vt : (Try.prog.info? 29).map (·.size) = some 7 := by kernel_rfl
theorem vt_cells {W : World} {B : Nat} {c0 c1 c2 c3 c4 c5 c6 : Value} {ty : TypeId} {fr : Nat × Nat} (h : W.heap[B]? = some (.cells #[c0, c1, c2, c3, c4, c5, c6] ty fr)) :
    W.cell? ⟨B, 0, none⟩ = some c0 ∧ W.cell? ⟨B, 1, none⟩ = some c1 ∧ W.cell? ⟨B, 2, none⟩ = some c2 ∧ W.cell? ⟨B, 3, none⟩ = some c3 ∧ W.cell? ⟨B, 4, none⟩ = some c4 ∧ W.cell? ⟨B, 5, none⟩ = some c5 ∧ W.cell? ⟨B, 6, none⟩ = some c6 :=
  ⟨cell_of_row _ _ 0 _ _ _ h, cell_of_row _ _ 1 _ _ _ h, cell_of_row _ _ 2 _ _ _ h, cell_of_row _ _ 3 _ _ _ h, cell_of_row _ _ 4 _ _ _ h, cell_of_row _ _ 5 _ _ _ h, cell_of_row _ _ 6 _ _ _ h⟩

def vtBlk (v : Vt) : Prop := (v.K = 4 → v.H = 0 ∧ v.B = []) ∧ (v.K ≠ 4 → (0 ≤ v.H ∧ v.H ≤ 1048576) ∧ v.B.length = 32)
def vtTck (v : Vt) : Prop := (v.K = 3 → 1 ≤ v.T ∧ v.T ≤ 1048576) ∧ (v.K ≠ 3 → v.T = 0)
def vtMay (v : Vt) : Prop := (1 ≤ v.K ∧ v.K ≤ 4) ∧ (0 ≤ v.V ∧ v.V ≤ 1048576) ∧ (0 ≤ v.G ∧ v.G ≤ 6) ∧ vtBlk v ∧ vtTck v
instance (v : Vt) : Decidable (vtBlk v) := by unfold vtBlk; infer_instance
instance (v : Vt) : Decidable (vtTck v) := by unfold vtTck; infer_instance
instance (v : Vt) : Decidable (vtMay v) := by unfold vtMay; infer_instance
def vtE (v : Vt) (S : ByteArray) : Int := if vtMay v ∧ S.size ≤ 4096 then 0 else 9

theorem within_any (n least most : Int) (w : World) :
    Calls Try.prog 63 #[.int .i64 n, .int .i64 least, .int .i64 most] w fun e w' => e = .returned (.bool (decide (least ≤ n ∧ n ≤ most))) ∧ w = w' := by
  by_cases h1 : least ≤ n
  · by_cases h2 : n ≤ most
    · rw [decide_eq_true (show least ≤ n ∧ n ≤ most from ⟨h1, h2⟩)]
      go_enter Try.func63, Try.ntmps63
      go_wp2
      go_ret
      exact ⟨rfl, rfl⟩
    · rw [decide_eq_false (show ¬ (least ≤ n ∧ n ≤ most) from fun h => h2 h.2)]
      go_enter Try.func63, Try.ntmps63
      go_wp2
      go_ret
      exact ⟨rfl, rfl⟩
  · rw [decide_eq_false (show ¬ (least ≤ n ∧ n ≤ most) from fun h => h1 h.1)]
    go_enter Try.func63, Try.ntmps63
    go_wp2
    go_ret
    exact ⟨rfl, rfl⟩
theorem within_yes {n least most : Int} (h : least ≤ n ∧ n ≤ most) (w : World) : Calls Try.prog 63 #[.int .i64 n, .int .i64 least, .int .i64 most] w fun e w' => e = .returned (.bool true) ∧ w = w' := by
  have := within_any n least most w
  rwa [decide_eq_true h] at this
theorem within_no {n least most : Int} (h : ¬ (least ≤ n ∧ n ≤ most)) (w : World) : Calls Try.prog 63 #[.int .i64 n, .int .i64 least, .int .i64 most] w fun e w' => e = .returned (.bool false) ∧ w = w' := by
  have := within_any n least most w
  rwa [decide_eq_false h] at this

theorem strNil {zs : List Int} (h : zs = []) : strOfNums zs = ⟨#[]⟩ := by subst h; rfl

theorem blk_any (v : Vt) (S : ByteArray) (w : World) :
    Calls Try.prog 64 #[.agg (vtC v S)] w fun e w' => e = .returned (.bool (decide (vtBlk v))) ∧ Up w w' := by
  obtain ⟨K, V, H, B, T, G⟩ := v
  unfold vtC
  by_cases hK : K = 4
  · subst hK
    by_cases hH : H = 0
    · subst hH
      by_cases hB : B = []
      · subst hB
        rw [decide_eq_true (show vtBlk ⟨4, V, 0, [], T, G⟩ from ⟨fun _ => ⟨rfl, rfl⟩, fun h => absurd rfl h⟩)]
        rw [strNil rfl]
        go_enter Try.func64, Try.ntmps64
        go_wp2
        go_ret
        exact ⟨rfl, Up.alloc (Up.refl w) _⟩
      · rw [decide_eq_false (show ¬ vtBlk ⟨4, V, 0, B, T, G⟩ from fun h => hB (h.1 rfl).2)]
        have e3 : ((strOfNums B).toList == []) = false := by
          rw [beq_eq_false_iff_ne]
          intro h
          refine hB (List.eq_nil_of_length_eq_zero ?_)
          rw [← strOfNums_size, ← ByteArray.size_data, ← Array.length_toList, ← ByteArray.toList_eq, h]; rfl
        generalize strOfNums B = BS at e3 ⊢
        clear hB
        go_enter Try.func64, Try.ntmps64
        go_wp2
        go_ret
        exact ⟨rfl, Up.alloc (Up.refl w) _⟩
    · rw [decide_eq_false (show ¬ vtBlk ⟨4, V, H, B, T, G⟩ from fun h => hH (h.1 rfl).1)]
      have e1 : (H == 0) = false := by rw [beq_eq_false_iff_ne]; exact hH
      clear hH
      go_enter Try.func64, Try.ntmps64
      go_wp2
      go_ret
      exact ⟨rfl, Up.alloc (Up.refl w) _⟩
  · have e1 : (K == 4) = false := by rw [beq_eq_false_iff_ne]; exact hK
    by_cases hH : 0 ≤ H ∧ H ≤ 1048576
    · have Hw := Lib.hid (fun wx => within_yes hH wx)
      have Hh := Lib.hid hH
      clear hH
      by_cases hB : B.length = 32
      · rw [decide_eq_true (show vtBlk ⟨K, V, H, B, T, G⟩ from ⟨fun h => absurd h hK, fun _ => ⟨Hh.out, hB⟩⟩)]
        have e2 : ((strOfNums B).size : Int) = 32 := by rw [strOfNums_size]; omega
        generalize strOfNums B = BS at e2 ⊢
        clear hB hK
        go_enter Try.func64, Try.ntmps64
        go_wp2_with fail
        with_reducible refine Calls.mono (Hw.out _) ?_
        rintro e w1 ⟨rfl, rfl⟩
        go_wp2
        go_ret
        exact ⟨rfl, Up.alloc (Up.refl w) _⟩
      · rw [decide_eq_false (show ¬ vtBlk ⟨K, V, H, B, T, G⟩ from fun h => hB (h.2 hK).2)]
        have e2 : ¬ ((strOfNums B).size : Int) = 32 := by rw [strOfNums_size]; omega
        have e3 : (((strOfNums B).size : Int) == 32) = false := by rw [beq_eq_false_iff_ne]; exact e2
        generalize strOfNums B = BS at e2 e3 ⊢
        clear hB hK
        go_enter Try.func64, Try.ntmps64
        go_wp2_with fail
        with_reducible refine Calls.mono (Hw.out _) ?_
        rintro e w1 ⟨rfl, rfl⟩
        go_wp2
        go_ret
        exact ⟨rfl, Up.alloc (Up.refl w) _⟩
    · rw [decide_eq_false (show ¬ vtBlk ⟨K, V, H, B, T, G⟩ from fun h => hH (h.2 hK).1)]
      have Hw := Lib.hid (fun wx => within_no hH wx)
      clear hH hK
      go_enter Try.func64, Try.ntmps64
      go_wp2_with fail
      with_reducible refine Calls.mono (Hw.out _) ?_
      rintro e w1 ⟨rfl, rfl⟩
      go_wp2
      go_ret
      exact ⟨rfl, Up.alloc (Up.refl w) _⟩

theorem tck_any (v : Vt) (S : ByteArray) (w : World) :
    Calls Try.prog 65 #[.agg (vtC v S)] w fun e w' => e = .returned (.bool (decide (vtTck v))) ∧ Up w w' := by
  obtain ⟨K, V, H, B, T, G⟩ := v
  unfold vtC
  by_cases hK : K = 3
  · subst hK
    by_cases hT : 1 ≤ T ∧ T ≤ 1048576
    · rw [decide_eq_true (show vtTck ⟨3, V, H, B, T, G⟩ from ⟨fun _ => hT, fun h => absurd rfl h⟩)]
      have Hw := Lib.hid (fun wx => within_yes hT wx)
      clear hT
      go_enter Try.func65, Try.ntmps65
      go_wp2_with fail
      with_reducible refine Calls.mono (Hw.out _) ?_
      rintro e w1 ⟨rfl, rfl⟩
      go_wp2
      go_ret
      exact ⟨rfl, Up.alloc (Up.refl w) _⟩
    · rw [decide_eq_false (show ¬ vtTck ⟨3, V, H, B, T, G⟩ from fun h => hT (h.1 rfl))]
      have Hw := Lib.hid (fun wx => within_no hT wx)
      clear hT
      go_enter Try.func65, Try.ntmps65
      go_wp2_with fail
      with_reducible refine Calls.mono (Hw.out _) ?_
      rintro e w1 ⟨rfl, rfl⟩
      go_wp2
      go_ret
      exact ⟨rfl, Up.alloc (Up.refl w) _⟩
  · have e1 : (K == 3) = false := by rw [beq_eq_false_iff_ne]; exact hK
    by_cases hT : T = 0
    · subst hT
      rw [decide_eq_true (show vtTck ⟨K, V, H, B, 0, G⟩ from ⟨fun h => absurd h hK, fun _ => rfl⟩)]
      clear hK
      go_enter Try.func65, Try.ntmps65
      go_wp2
      go_ret
      exact ⟨rfl, Up.alloc (Up.refl w) _⟩
    · rw [decide_eq_false (show ¬ vtTck ⟨K, V, H, B, T, G⟩ from fun h => hT (h.2 hK))]
      have e2 : (T == 0) = false := by rw [beq_eq_false_iff_ne]; exact hT
      clear hK hT
      go_enter Try.func65, Try.ntmps65
      go_wp2
      go_ret
      exact ⟨rfl, Up.alloc (Up.refl w) _⟩

set_option maxHeartbeats 2000000 in
theorem vtCheck_any (v : Vt) (S : ByteArray) (w : World) :
    Calls Try.prog 43 #[.agg (vtC v S)] w fun e w' => e = .returned (.int .i64 (vtE v S)) ∧ Up w w' := by
  have Hb : Hid (∀ wx, Calls Try.prog 64 #[.agg #[.int .i64 v.K, .int .i64 v.V, .int .i64 v.H, .string (strOfNums v.B), .int .i64 v.T, .int .i64 v.G, .string S]] wx fun e w' => e = .returned (.bool (decide (vtBlk v))) ∧ Up wx w') := fun wx => blk_any v S wx
  have Ht : Hid (∀ wx, Calls Try.prog 65 #[.agg #[.int .i64 v.K, .int .i64 v.V, .int .i64 v.H, .string (strOfNums v.B), .int .i64 v.T, .int .i64 v.G, .string S]] wx fun e w' => e = .returned (.bool (decide (vtTck v))) ∧ Up wx w') := fun wx => tck_any v S wx
  have hM : vtMay v ↔ ((1 ≤ v.K ∧ v.K ≤ 4) ∧ (0 ≤ v.V ∧ v.V ≤ 1048576) ∧ (0 ≤ v.G ∧ v.G ≤ 6) ∧ decide (vtBlk v) = true ∧ decide (vtTck v) = true) := by simp [vtMay]
  have bad : ∀ (W : World), Up w W → (¬ (vtMay v ∧ S.size ≤ 4096)) → Ending.returned (Value.int .i64 9) = Ending.returned (.int .i64 (vtE v S)) ∧ Up w W := by
    intro W hU hn
    rw [show vtE v S = 9 from if_neg hn]
    exact ⟨rfl, hU⟩
  have good : ∀ (W : World), Up w W → (vtMay v ∧ S.size ≤ 4096) → Ending.returned (Value.int .i64 0) = Ending.returned (.int .i64 (vtE v S)) ∧ Up w W := by
    intro W hU hn
    rw [show vtE v S = 0 from if_pos hn]
    exact ⟨rfl, hU⟩
  generalize vtE v S = E at bad good ⊢
  generalize vtMay v = MAY at bad good hM
  generalize decide (vtBlk v) = pb at Hb hM
  generalize decide (vtTck v) = pt at Ht hM
  have Bad : Hid (∀ (W : World), Up w W → (¬ (((1 ≤ v.K ∧ v.K ≤ 4) ∧ (0 ≤ v.V ∧ v.V ≤ 1048576) ∧ (0 ≤ v.G ∧ v.G ≤ 6) ∧ pb = true ∧ pt = true) ∧ S.size ≤ 4096)) → Ending.returned (Value.int .i64 9) = Ending.returned (.int .i64 E) ∧ Up w W) := fun W hU hn => bad W hU fun h => hn ⟨hM.1 h.1, h.2⟩
  have Good : Hid (∀ (W : World), Up w W → (((1 ≤ v.K ∧ v.K ≤ 4) ∧ (0 ≤ v.V ∧ v.V ≤ 1048576) ∧ (0 ≤ v.G ∧ v.G ≤ 6) ∧ pb = true ∧ pt = true) ∧ S.size ≤ 4096) → Ending.returned (Value.int .i64 0) = Ending.returned (.int .i64 E) ∧ Up w W) := fun W hU hn => good W hU ⟨hM.2 hn.1, hn.2⟩
  clear bad good hM
  unfold vtC
  obtain ⟨K, V, H, B, T, G⟩ := v
  simp only at Hb Ht Bad Good ⊢
  generalize strOfNums B = BS at Hb Ht ⊢
  have hb0 := heap_alloc_new w (.cells #[.int .i64 K, .int .i64 V, .int .i64 H, .string BS, .int .i64 T, .int .i64 G, .string S] 29)
  have HB0 := Lib.hid hb0
  have HU0 := Lib.hid (Up.alloc (Up.refl w) (.cells #[.int .i64 K, .int .i64 V, .int .i64 H, .string BS, .int .i64 T, .int .i64 G, .string S] 29))
  clear hb0
  by_cases h1 : 1 ≤ K ∧ K ≤ 4
  · have Hw1 := Lib.hid (fun wx => within_yes h1 wx)
    have H1 := Lib.hid h1
    clear h1
    by_cases h2 : 0 ≤ V ∧ V ≤ 1048576
    · have Hw2 := Lib.hid (fun wx => within_yes h2 wx)
      have H2 := Lib.hid h2
      clear h2
      by_cases h3 : 0 ≤ G ∧ G ≤ 6
      · have Hw3 := Lib.hid (fun wx => within_yes h3 wx)
        have H3 := Lib.hid h3
        clear h3
        cases pb with
        | false =>
          go_enter Try.func43, Try.ntmps43
          go_wp2_with fail
          with_reducible refine Calls.mono (Hw1.out _) ?_
          rintro e w1 ⟨rfl, rfl⟩
          go_wp2_with fail
          with_reducible refine Calls.mono (Hw2.out _) ?_
          rintro e w1 ⟨rfl, rfl⟩
          go_wp2_with fail
          with_reducible refine Calls.mono (Hw3.out _) ?_
          rintro e w1 ⟨rfl, rfl⟩
          go_wp2_with fail
          with_reducible refine Calls.mono (Hb.out _) ?_
          rintro e w1 ⟨rfl, hU1⟩
          have HU1 := Lib.hid (Up.trans HU0.out hU1)
          clear hU1
          go_wp2
          go_ret
          exact Bad.out _ HU1.out (fun h => by have := h.1.2.2.2.1; cases this)
        | true =>
          cases pt with
          | false =>
            go_enter Try.func43, Try.ntmps43
            go_wp2_with fail
            with_reducible refine Calls.mono (Hw1.out _) ?_
            rintro e w1 ⟨rfl, rfl⟩
            go_wp2_with fail
            with_reducible refine Calls.mono (Hw2.out _) ?_
            rintro e w1 ⟨rfl, rfl⟩
            go_wp2_with fail
            with_reducible refine Calls.mono (Hw3.out _) ?_
            rintro e w1 ⟨rfl, rfl⟩
            go_wp2_with fail
            with_reducible refine Calls.mono (Hb.out _) ?_
            rintro e w1 ⟨rfl, hU1⟩
            have HB1 := Lib.hid ((hU1.block _ (lt_of_block HB0.out)).trans HB0.out)
            have HU1 := Lib.hid (Up.trans HU0.out hU1)
            clear hU1
            obtain ⟨hc0, hc1, hc2, hc3, hc4, hc5, hc6⟩ := vt_cells HB1.out
            go_wp2_with fail
            with_reducible refine Calls.mono (Ht.out _) ?_
            rintro e w2 ⟨rfl, hU2⟩
            have HU2 := Lib.hid (Up.trans HU1.out hU2)
            clear hU2 hc0 hc1 hc2 hc3 hc4 hc5 hc6
            go_wp2
            go_ret
            exact Bad.out _ HU2.out (fun h => by have := h.1.2.2.2.2; cases this)
          | true =>
            by_cases h6 : S.size ≤ 4096
            · have h7 : ¬ (4096 : Int) < (S.size : Int) := by omega
              go_enter Try.func43, Try.ntmps43
              go_wp2_with fail
              with_reducible refine Calls.mono (Hw1.out _) ?_
              rintro e w1 ⟨rfl, rfl⟩
              go_wp2_with fail
              with_reducible refine Calls.mono (Hw2.out _) ?_
              rintro e w1 ⟨rfl, rfl⟩
              go_wp2_with fail
              with_reducible refine Calls.mono (Hw3.out _) ?_
              rintro e w1 ⟨rfl, rfl⟩
              go_wp2_with fail
              with_reducible refine Calls.mono (Hb.out _) ?_
              rintro e w1 ⟨rfl, hU1⟩
              have HB1 := Lib.hid ((hU1.block _ (lt_of_block HB0.out)).trans HB0.out)
              have HU1 := Lib.hid (Up.trans HU0.out hU1)
              clear hU1
              obtain ⟨hc0, hc1, hc2, hc3, hc4, hc5, hc6⟩ := vt_cells HB1.out
              go_wp2_with fail
              with_reducible refine Calls.mono (Ht.out _) ?_
              rintro e w2 ⟨rfl, hU2⟩
              have HB2 := Lib.hid ((hU2.block _ (lt_of_block HB1.out)).trans HB1.out)
              have HU2 := Lib.hid (Up.trans HU1.out hU2)
              clear hU2 hc0 hc1 hc2 hc3 hc4 hc5 hc6
              obtain ⟨hc0, hc1, hc2, hc3, hc4, hc5, hc6⟩ := vt_cells HB2.out
              go_wp2
              go_ret
              exact Good.out _ HU2.out ⟨⟨H1.out, H2.out, H3.out, by trivial, by trivial⟩, h6⟩
            · have h7 : (4096 : Int) < (S.size : Int) := by omega
              go_enter Try.func43, Try.ntmps43
              go_wp2_with fail
              with_reducible refine Calls.mono (Hw1.out _) ?_
              rintro e w1 ⟨rfl, rfl⟩
              go_wp2_with fail
              with_reducible refine Calls.mono (Hw2.out _) ?_
              rintro e w1 ⟨rfl, rfl⟩
              go_wp2_with fail
              with_reducible refine Calls.mono (Hw3.out _) ?_
              rintro e w1 ⟨rfl, rfl⟩
              go_wp2_with fail
              with_reducible refine Calls.mono (Hb.out _) ?_
              rintro e w1 ⟨rfl, hU1⟩
              have HB1 := Lib.hid ((hU1.block _ (lt_of_block HB0.out)).trans HB0.out)
              have HU1 := Lib.hid (Up.trans HU0.out hU1)
              clear hU1
              obtain ⟨hc0, hc1, hc2, hc3, hc4, hc5, hc6⟩ := vt_cells HB1.out
              go_wp2_with fail
              with_reducible refine Calls.mono (Ht.out _) ?_
              rintro e w2 ⟨rfl, hU2⟩
              have HB2 := Lib.hid ((hU2.block _ (lt_of_block HB1.out)).trans HB1.out)
              have HU2 := Lib.hid (Up.trans HU1.out hU2)
              clear hU2 hc0 hc1 hc2 hc3 hc4 hc5 hc6
              obtain ⟨hc0, hc1, hc2, hc3, hc4, hc5, hc6⟩ := vt_cells HB2.out
              go_wp2
              go_ret
              exact Bad.out _ HU2.out (fun h => h6 h.2)
      · have Hw3 := Lib.hid (fun wx => within_no h3 wx)
        have H3 := Lib.hid h3
        clear h3
        go_enter Try.func43, Try.ntmps43
        go_wp2_with fail
        with_reducible refine Calls.mono (Hw1.out _) ?_
        rintro e w1 ⟨rfl, rfl⟩
        go_wp2_with fail
        with_reducible refine Calls.mono (Hw2.out _) ?_
        rintro e w1 ⟨rfl, rfl⟩
        go_wp2_with fail
        with_reducible refine Calls.mono (Hw3.out _) ?_
        rintro e w1 ⟨rfl, rfl⟩
        go_wp2
        go_ret
        exact Bad.out _ HU0.out (fun h => H3.out h.1.2.2.1)
    · have Hw2 := Lib.hid (fun wx => within_no h2 wx)
      have H2 := Lib.hid h2
      clear h2
      go_enter Try.func43, Try.ntmps43
      go_wp2_with fail
      with_reducible refine Calls.mono (Hw1.out _) ?_
      rintro e w1 ⟨rfl, rfl⟩
      go_wp2_with fail
      with_reducible refine Calls.mono (Hw2.out _) ?_
      rintro e w1 ⟨rfl, rfl⟩
      go_wp2
      go_ret
      exact Bad.out _ HU0.out (fun h => H2.out h.1.2.1)
  · have Hw1 := Lib.hid (fun wx => within_no h1 wx)
    have H1 := Lib.hid h1
    clear h1
    go_enter Try.func43, Try.ntmps43
    go_wp2_with fail
    with_reducible refine Calls.mono (Hw1.out _) ?_
    rintro e w1 ⟨rfl, rfl⟩
    go_wp2
    go_ret
    exact Bad.out _ HU0.out (fun h => H1.out h.1.1)

end
end

/-
  vote: the text of a statement, and its octets.
-/
section
set_option maxRecDepth 100000
section
set_option linter.unusedVariables false
open Go.RowKit

/-- a writer's error and octets behind the text's word, and each field -/
def vtS0 (p : Int × List Int) (v : Vt) : Int × List Int := textS p [118, 111, 116, 101]
def vtS1 (p : Int × List Int) (v : Vt) : Int × List Int := numS (vtS0 p v) v.K
def vtS2 (p : Int × List Int) (v : Vt) : Int × List Int := numS (vtS1 p v) v.V
def vtS3 (p : Int × List Int) (v : Vt) : Int × List Int := numS (vtS2 p v) v.H
def vtS4 (p : Int × List Int) (v : Vt) : Int × List Int := textS (vtS3 p v) v.B
def vtS5 (p : Int × List Int) (v : Vt) : Int × List Int := numS (vtS4 p v) v.T
def vtS6 (p : Int × List Int) (v : Vt) : Int × List Int := numS (vtS5 p v) v.G
theorem vtS_le (p : Int × List Int) (v : Vt) (h : p.2.length ≤ 20482) : (vtS0 p v).2.length ≤ 20482 ∧ (vtS1 p v).2.length ≤ 20482 ∧ (vtS2 p v).2.length ≤ 20482 ∧ (vtS3 p v).2.length ≤ 20482 ∧ (vtS4 p v).2.length ≤ 20482 ∧ (vtS5 p v).2.length ≤ 20482 ∧ (vtS6 p v).2.length ≤ 20482 := by
  have h0 : (vtS0 p v).2.length ≤ 20482 := textS_le _ _ h
  have h1 : (vtS1 p v).2.length ≤ 20482 := numS_le _ _ h0
  have h2 : (vtS2 p v).2.length ≤ 20482 := numS_le _ _ h1
  have h3 : (vtS3 p v).2.length ≤ 20482 := numS_le _ _ h2
  have h4 : (vtS4 p v).2.length ≤ 20482 := textS_le _ _ h3
  have h5 : (vtS5 p v).2.length ≤ 20482 := numS_le _ _ h4
  exact ⟨h0, h1, h2, h3, h4, h5, numS_le _ _ h5⟩
/-- what a variable of the language may hold -/
structure VtFit (v : Vt) : Prop where
  k : I64 v.K
  vv : I64 v.V
  h : I64 v.H
  b : U8s v.B
  bl : v.B.length ≤ 9223372036854775807
  t : I64 v.T
  g : I64 v.G

/-- a call on the writer, from any world, told of the world at the beginning -/
theorem word_u8s : U8s [118, 111, 116, 101] := by
  intro j hj
  have hc : j = 0 ∨ j = 1 ∨ j = 2 ∨ j = 3 := by simp at hj; omega
  rcases hc with rfl | rfl | rfl | rfl <;> simp

set_option maxHeartbeats 2000000 in
theorem vtPutText_any (base g : Nat) (o : Value) (E : Int) (bs : List Int) (v : Vt) (S : ByteArray) (w : World) (h : Wr w base g o E bs) (hv : VtFit v) (hb : bs.length ≤ 20482) (hbase : base ≤ w.heap.size) :
    Calls Try.prog 51 #[.pointer (some ⟨g, 0, none⟩), .agg (vtC v S)] w fun e w' => e = .returned (.tuple #[]) ∧ ∃ o', Wr w' base g o' (vtS6 (E, bs) v).1 (vtS6 (E, bs) v).2 ∧ WrStep g o o' w w' := by
  have hle := vtS_le (E, bs) v hb
  have C0 : Hid (∀ (wx : World) (o' : Value), Wr wx base g o' E bs → base ≤ wx.heap.size → Calls Try.prog 30 #[.pointer (some ⟨g, 0, none⟩), .string ⟨#[118, 111, 116, 101]⟩] wx fun e w' => e = .returned (.tuple #[]) ∧ ∃ o'', Wr w' base g o'' (vtS0 (E, bs) v).1 (vtS0 (E, bs) v).2 ∧ WrStep g o' o'' wx w') :=
    fun wx o' hw hbx => wtext_any base g o' E bs [118, 111, 116, 101] wx hw word_u8s (by simp) (by omega) hbx
  have C1 : Hid (∀ (wx : World) (o' : Value), Wr wx base g o' (vtS0 (E, bs) v).1 (vtS0 (E, bs) v).2 → base ≤ wx.heap.size → Calls Try.prog 12 #[.pointer (some ⟨g, 0, none⟩), .int .i64 v.K] wx fun e w' => e = .returned (.tuple #[]) ∧ ∃ o'', Wr w' base g o'' (vtS1 (E, bs) v).1 (vtS1 (E, bs) v).2 ∧ WrStep g o' o'' wx w') :=
    fun wx o' hw hbx => wnum_any base g o' _ _ _ wx hw hv.k (by have := hle.1; omega) hbx
  have C2 : Hid (∀ (wx : World) (o' : Value), Wr wx base g o' (vtS1 (E, bs) v).1 (vtS1 (E, bs) v).2 → base ≤ wx.heap.size → Calls Try.prog 12 #[.pointer (some ⟨g, 0, none⟩), .int .i64 v.V] wx fun e w' => e = .returned (.tuple #[]) ∧ ∃ o'', Wr w' base g o'' (vtS2 (E, bs) v).1 (vtS2 (E, bs) v).2 ∧ WrStep g o' o'' wx w') :=
    fun wx o' hw hbx => wnum_any base g o' _ _ _ wx hw hv.vv (by have := hle.2.1; omega) hbx
  have C3 : Hid (∀ (wx : World) (o' : Value), Wr wx base g o' (vtS2 (E, bs) v).1 (vtS2 (E, bs) v).2 → base ≤ wx.heap.size → Calls Try.prog 12 #[.pointer (some ⟨g, 0, none⟩), .int .i64 v.H] wx fun e w' => e = .returned (.tuple #[]) ∧ ∃ o'', Wr w' base g o'' (vtS3 (E, bs) v).1 (vtS3 (E, bs) v).2 ∧ WrStep g o' o'' wx w') :=
    fun wx o' hw hbx => wnum_any base g o' _ _ _ wx hw hv.h (by have := hle.2.2.1; omega) hbx
  have C4 : Hid (∀ (wx : World) (o' : Value), Wr wx base g o' (vtS3 (E, bs) v).1 (vtS3 (E, bs) v).2 → base ≤ wx.heap.size → Calls Try.prog 30 #[.pointer (some ⟨g, 0, none⟩), .string (strOfNums v.B)] wx fun e w' => e = .returned (.tuple #[]) ∧ ∃ o'', Wr w' base g o'' (vtS4 (E, bs) v).1 (vtS4 (E, bs) v).2 ∧ WrStep g o' o'' wx w') :=
    fun wx o' hw hbx => wtext_any base g o' _ _ v.B wx hw hv.b hv.bl (by have := hle.2.2.2.1; omega) hbx
  have C5 : Hid (∀ (wx : World) (o' : Value), Wr wx base g o' (vtS4 (E, bs) v).1 (vtS4 (E, bs) v).2 → base ≤ wx.heap.size → Calls Try.prog 12 #[.pointer (some ⟨g, 0, none⟩), .int .i64 v.T] wx fun e w' => e = .returned (.tuple #[]) ∧ ∃ o'', Wr w' base g o'' (vtS5 (E, bs) v).1 (vtS5 (E, bs) v).2 ∧ WrStep g o' o'' wx w') :=
    fun wx o' hw hbx => wnum_any base g o' _ _ _ wx hw hv.t (by have := hle.2.2.2.2.1; omega) hbx
  have C6 : Hid (∀ (wx : World) (o' : Value), Wr wx base g o' (vtS5 (E, bs) v).1 (vtS5 (E, bs) v).2 → base ≤ wx.heap.size → Calls Try.prog 12 #[.pointer (some ⟨g, 0, none⟩), .int .i64 v.G] wx fun e w' => e = .returned (.tuple #[]) ∧ ∃ o'', Wr w' base g o'' (vtS6 (E, bs) v).1 (vtS6 (E, bs) v).2 ∧ WrStep g o' o'' wx w') :=
    fun wx o' hw hbx => wnum_any base g o' _ _ _ wx hw hv.g (by have := hle.2.2.2.2.2.1; omega) hbx
  have Hg := Lib.hid h.lt
  have Hw0 := Lib.hid h
  have Ho : Hid (o.ownBlock ≠ some w.heap.size) := fun e => by have := (h.2.2.lt _ e).2; omega
  have Hbase := Lib.hid hbase
  generalize vtS0 (E, bs) v = T0 at C0 C1
  generalize vtS1 (E, bs) v = T1 at C1 C2
  generalize vtS2 (E, bs) v = T2 at C2 C3
  generalize vtS3 (E, bs) v = T3 at C3 C4
  generalize vtS4 (E, bs) v = T4 at C4 C5
  generalize vtS5 (E, bs) v = T5 at C5 C6
  generalize vtS6 (E, bs) v = T6 at C6 ⊢
  unfold vtC
  clear h hv hb hbase hle
  obtain ⟨K, V, H, B, T, G⟩ := v
  simp only at C1 C2 C3 C4 C5 C6 ⊢
  generalize strOfNums B = BS at C4 ⊢
  go_enter Try.func51, Try.ntmps51
  have HX : Hid (∀ (ok : Value) (wk : World), WrStep g o ok (w.alloc (.cells #[Value.int .i64 K, .int .i64 V, .int .i64 H, .string BS, .int .i64 T, .int .i64 G, .string S] 29)) wk → wk.heap[w.heap.size]? = some (.cells #[Value.int .i64 K, .int .i64 V, .int .i64 H, .string BS, .int .i64 T, .int .i64 G, .string S] 29 (0, 0)) ∧ base ≤ wk.heap.size ∧ WrStep g o ok w wk) := by
    intro ok wk hs
    refine ⟨hs.keep (heap_alloc_new w _) (by have := Hg.out; omega) Ho.out, Nat.le_trans Hbase.out (Nat.le_trans (by simp) hs.size), (WrStep.up (Up.alloc (Up.refl w) _)).trans Hg.out hs⟩
  have Hg1 : Hid (g < (w.alloc (.cells #[Value.int .i64 K, .int .i64 V, .int .i64 H, .string BS, .int .i64 T, .int .i64 G, .string S] 29)).heap.size) := by have := Hg.out; show g < _; simp; omega
  go_wp2_with fail
  with_reducible refine Calls.mono (C0.out _ _ (Hw0.out.up (Up.alloc (Up.refl w) _)) (Nat.le_trans Hbase.out (by simp))) ?_
  rintro e w0 ⟨rfl, o0, h1, h2⟩
  have H0 := Lib.hid h1
  have A0 := Lib.hid h2
  clear h1 h2
  obtain ⟨hc0, hc1, hc2, hc3, hc4, hc5, hc6⟩ := vt_cells (HX.out _ _ A0.out).1
  go_wp2_with fail
  with_reducible refine Calls.mono (C1.out _ _ H0.out (HX.out _ _ A0.out).2.1) ?_
  rintro e w1 ⟨rfl, o1, h1, h2⟩
  have H1 := Lib.hid h1
  have A1 := Lib.hid (A0.out.trans Hg1.out h2)
  clear h1 h2
  clear hc0 hc1 hc2 hc3 hc4 hc5 hc6
  obtain ⟨hc0, hc1, hc2, hc3, hc4, hc5, hc6⟩ := vt_cells (HX.out _ _ A1.out).1
  go_wp2_with fail
  with_reducible refine Calls.mono (C2.out _ _ H1.out (HX.out _ _ A1.out).2.1) ?_
  rintro e w2 ⟨rfl, o2, h1, h2⟩
  have H2 := Lib.hid h1
  have A2 := Lib.hid (A1.out.trans Hg1.out h2)
  clear h1 h2
  clear hc0 hc1 hc2 hc3 hc4 hc5 hc6
  obtain ⟨hc0, hc1, hc2, hc3, hc4, hc5, hc6⟩ := vt_cells (HX.out _ _ A2.out).1
  go_wp2_with fail
  with_reducible refine Calls.mono (C3.out _ _ H2.out (HX.out _ _ A2.out).2.1) ?_
  rintro e w3 ⟨rfl, o3, h1, h2⟩
  have H3 := Lib.hid h1
  have A3 := Lib.hid (A2.out.trans Hg1.out h2)
  clear h1 h2
  clear hc0 hc1 hc2 hc3 hc4 hc5 hc6
  obtain ⟨hc0, hc1, hc2, hc3, hc4, hc5, hc6⟩ := vt_cells (HX.out _ _ A3.out).1
  go_wp2_with fail
  with_reducible refine Calls.mono (C4.out _ _ H3.out (HX.out _ _ A3.out).2.1) ?_
  rintro e w4 ⟨rfl, o4, h1, h2⟩
  have H4 := Lib.hid h1
  have A4 := Lib.hid (A3.out.trans Hg1.out h2)
  clear h1 h2
  clear hc0 hc1 hc2 hc3 hc4 hc5 hc6
  obtain ⟨hc0, hc1, hc2, hc3, hc4, hc5, hc6⟩ := vt_cells (HX.out _ _ A4.out).1
  go_wp2_with fail
  with_reducible refine Calls.mono (C5.out _ _ H4.out (HX.out _ _ A4.out).2.1) ?_
  rintro e w5 ⟨rfl, o5, h1, h2⟩
  have H5 := Lib.hid h1
  have A5 := Lib.hid (A4.out.trans Hg1.out h2)
  clear h1 h2
  clear hc0 hc1 hc2 hc3 hc4 hc5 hc6
  obtain ⟨hc0, hc1, hc2, hc3, hc4, hc5, hc6⟩ := vt_cells (HX.out _ _ A5.out).1
  go_wp2_with fail
  with_reducible refine Calls.mono (C6.out _ _ H5.out (HX.out _ _ A5.out).2.1) ?_
  rintro e w6 ⟨rfl, o6, h1, h2⟩
  have H6 := Lib.hid h1
  have A6 := Lib.hid (A5.out.trans Hg1.out h2)
  clear h1 h2
  clear hc0 hc1 hc2 hc3 hc4 hc5 hc6
  go_wp2
  go_end0
  exact ⟨rfl, o6, H6.out, (HX.out _ _ A6.out).2.2⟩

/-- the octets that are signed of a statement that may be -/
def vtT (v : Vt) : List Int := [0, 4, 118, 111, 116, 101] ++ octAll v.K 6 ++ octAll v.V 6 ++ octAll v.H 6 ++ (octAll v.B.length 2 ++ v.B) ++ octAll v.T 6 ++ octAll v.G 6
theorem vtT_length (v : Vt) : (vtT v).length = 38 + v.B.length := by simp [vtT, octAll_length]; omega
theorem vtT_u8s (v : Vt) (h : U8s v.B) : U8s (vtT v) := by
  unfold vtT
  refine (((((((?_ : U8s [0, 4, 118, 111, 116, 101]).append (octAll_u8s _ _)).append (octAll_u8s _ _)).append (octAll_u8s _ _)).append ((octAll_u8s _ _).append h)).append (octAll_u8s _ _)).append (octAll_u8s _ _))
  intro j hj
  have hc : j = 0 ∨ j = 1 ∨ j = 2 ∨ j = 3 ∨ j = 4 ∨ j = 5 := by simp at hj; omega
  rcases hc with rfl | rfl | rfl | rfl | rfl | rfl <;> simp
/-- what a statement that may be holds -/
structure VtOk (v : Vt) : Prop where
  k : 0 ≤ v.K ∧ v.K ≤ 1099511627776
  vv : 0 ≤ v.V ∧ v.V ≤ 1099511627776
  h : 0 ≤ v.H ∧ v.H ≤ 1099511627776
  bl : v.B.length ≤ 32
  t : 0 ≤ v.T ∧ v.T ≤ 1099511627776
  g : 0 ≤ v.G ∧ v.G ≤ 6
theorem vtMay_ok {v : Vt} (h : vtMay v) : VtOk v := by
  obtain ⟨h1, h2, h3, ⟨h4, h5⟩, h6, h7⟩ := h
  have hH : (0 ≤ v.H ∧ v.H ≤ 1048576) ∧ v.B.length ≤ 32 := by
    by_cases hk : v.K = 4
    · obtain ⟨a, b⟩ := h4 hk
      rw [b]; simp; omega
    · obtain ⟨a, b⟩ := h5 hk
      omega
  have hT : 0 ≤ v.T ∧ v.T ≤ 1048576 := by
    by_cases hk : v.K = 3
    · have := h6 hk; omega
    · have := h7 hk; omega
  exact ⟨by omega, by omega, by omega, hH.2, by omega, by omega⟩
theorem VtOk.fit {v : Vt} (h : VtOk v) (hb : U8s v.B) : VtFit v := by
  obtain ⟨h1, h2, h3, h4, h5, h6⟩ := h
  exact ⟨by unfold I64; omega, by unfold I64; omega, by unfold I64; omega, hb, by omega, by unfold I64; omega, by unfold I64; omega⟩
theorem vtS_ok (bs : List Int) (v : Vt) (hv : VtOk v) (hb : bs.length ≤ 16000) : vtS6 (0, bs) v = (0, bs ++ vtT v) := by
  have e : octAll (4 : Int) 2 = [0, 4] := by decide
  have hB := hv.bl
  unfold vtS6 vtS5 vtS4 vtS3 vtS2 vtS1 vtS0
  rw [textS_ok _ _ (by simp) (by omega)]
  rw [show octAll ((([118, 111, 116, 101] : List Int).length : Nat) : Int) 2 = [0, 4] from e]
  rw [numS_ok _ _ hv.k (by simp; omega), numS_ok _ _ hv.vv (by simp [octAll_length]; omega), numS_ok _ _ hv.h (by simp [octAll_length]; omega), textS_ok _ _ (by omega) (by simp [octAll_length]; omega), numS_ok _ _ hv.t (by simp [octAll_length]; omega), numS_ok _ _ ⟨hv.g.1, by have := hv.g.2; omega⟩ (by simp [octAll_length]; omega)]
  simp [vtT]

theorem vtE_ok {v : Vt} {S : ByteArray} (h : vtE v S = 0) : vtMay v ∧ S.size ≤ 4096 := by
  unfold vtE at h
  split at h
  · assumption
  · cases h
theorem vtE_ok_iff {v : Vt} {S : ByteArray} : vtE v S = 0 ↔ vtMay v ∧ S.size ≤ 4096 := ⟨vtE_ok, fun h => if_pos h⟩
theorem vtE_nine {v : Vt} {S : ByteArray} (h : vtE v S ≠ 0) : vtE v S = 9 := by
  unfold vtE at h ⊢
  split
  · rename_i hh; rw [if_pos hh] at h; exact absurd rfl h
  · rfl

set_option maxHeartbeats 1000000 in
theorem vtPut_any (base g : Nat) (o : Value) (E : Int) (bs : List Int) (v : Vt) (sig : List Int) (w : World) (h : Wr w base g o E bs) (hv : VtFit v) (hu : U8s sig) (hs : sig.length ≤ 9223372036854775807) (hb : bs.length ≤ 20482) (hbase : base ≤ w.heap.size) :
    Calls Try.prog 28 #[.pointer (some ⟨g, 0, none⟩), .agg (vtC v (strOfNums sig))] w fun e w' => e = .returned (.tuple #[]) ∧ ∃ o', Wr w' base g o' (textS (vtS6 (E, bs) v) sig).1 (textS (vtS6 (E, bs) v) sig).2 ∧ WrStep g o o' w w' := by
  have Hp : Hid (∀ wx, Up w wx → Calls Try.prog 51 #[.pointer (some ⟨g, 0, none⟩), .agg #[.int .i64 v.K, .int .i64 v.V, .int .i64 v.H, .string (strOfNums v.B), .int .i64 v.T, .int .i64 v.G, .string (strOfNums sig)]] wx fun e w' => e = .returned (.tuple #[]) ∧ ∃ o', Wr w' base g o' (vtS6 (E, bs) v).1 (vtS6 (E, bs) v).2 ∧ WrStep g o o' wx w') := fun wx hx =>
    vtPutText_any base g o E bs v (strOfNums sig) wx (h.up hx) hv hb (Nat.le_trans hbase hx.size)
  have Ht : Hid (∀ (wx : World) (o' : Value), Wr wx base g o' (vtS6 (E, bs) v).1 (vtS6 (E, bs) v).2 → base ≤ wx.heap.size → Calls Try.prog 30 #[.pointer (some ⟨g, 0, none⟩), .string (strOfNums sig)] wx fun e w' => e = .returned (.tuple #[]) ∧ ∃ o'', Wr w' base g o'' (textS (vtS6 (E, bs) v) sig).1 (textS (vtS6 (E, bs) v) sig).2 ∧ WrStep g o' o'' wx w') :=
    fun wx o' hw hbx => wtext_any base g o' _ _ sig wx hw hu hs (by have := (vtS_le (E, bs) v hb).2.2.2.2.2.2; omega) hbx
  have Hg := Lib.hid h.lt
  have Ho : Hid (o.ownBlock ≠ some w.heap.size) := fun e => by have := (h.2.2.lt _ e).2; omega
  have Hbase := Lib.hid hbase
  generalize vtS6 (E, bs) v = T6 at Hp Ht ⊢
  generalize textS T6 sig = T2 at Ht ⊢
  generalize strOfNums sig = S at Hp Ht ⊢
  unfold vtC
  clear h hv hb hbase hu hs
  obtain ⟨K, V, H, B, T, G⟩ := v
  simp only at Hp ⊢
  generalize strOfNums B = BS at Hp ⊢
  go_enter Try.func28, Try.ntmps28
  have hbox0 := vt_cells (heap_alloc_new w (.cells #[Value.int .i64 K, .int .i64 V, .int .i64 H, .string BS, .int .i64 T, .int .i64 G, .string S] 29))
  go_wp2_with fail
  with_reducible refine Calls.mono (Hp.out _ (Up.alloc (Up.refl w) _)) ?_
  rintro e w1 ⟨rfl, o1, h1, h2⟩
  have hbox := h2.keep (heap_alloc_new w (.cells #[Value.int .i64 K, .int .i64 V, .int .i64 H, .string BS, .int .i64 T, .int .i64 G, .string S] 29)) (by have := Hg.out; omega) Ho.out
  have H1 := Lib.hid h1
  have H2 := Lib.hid ((WrStep.up (g := g) (o := o) (Up.alloc (Up.refl w) (.cells #[Value.int .i64 K, .int .i64 V, .int .i64 H, .string BS, .int .i64 T, .int .i64 G, .string S] 29))).trans Hg.out h2)
  clear h1 h2 hbox0
  have hc6 := (vt_cells hbox).2.2.2.2.2.2
  clear hbox
  go_wp2_with fail
  with_reducible refine Calls.mono (Ht.out _ _ H1.out (Nat.le_trans Hbase.out (WrStep.size H2.out))) ?_
  rintro e w2 ⟨rfl, o2, h3, h4⟩
  have H3 := Lib.hid h3
  have H4 := Lib.hid (H2.out.trans Hg.out h4)
  clear h3 h4
  go_wp2
  go_end0
  exact ⟨rfl, o2, H3.out, H4.out⟩
end
end
end

/-
  The reference: whether a statement may be.
-/
section
set_option maxRecDepth 100000
section
set_option linter.unusedVariables false
open Go.RowKit

end
end

/-
  A statement that came in by value, opened.
-/
section
set_option maxRecDepth 100000
section
set_option linter.unusedVariables false
open Go.ChangeShapes Go.WideShapes Go.ChangeAt Go.RowKit Go.Deep Go.Joins
variable {H : Type} {enc : TypeId × Value → H} {W : World}

theorem array_seven {α : Type} {cs : Array α} {c0 c1 c2 c3 c4 c5 c6 : α} (h : cs.size = 7) (h0 : cs[0]? = some c0) (h1 : cs[1]? = some c1) (h2 : cs[2]? = some c2) (h3 : cs[3]? = some c3) (h4 : cs[4]? = some c4) (h5 : cs[5]? = some c5) (h6 : cs[6]? = some c6) : cs = #[c0, c1, c2, c3, c4, c5, c6] := by
  apply Array.ext_getElem?
  intro i
  by_cases hi : i < 7
  · have hc : i = 0 ∨ i = 1 ∨ i = 2 ∨ i = 3 ∨ i = 4 ∨ i = 5 ∨ i = 6 := by omega
    rcases hc with rfl | rfl | rfl | rfl | rfl | rfl | rfl
    · rw [h0]; rfl
    · rw [h1]; rfl
    · rw [h2]; rfl
    · rw [h3]; rfl
    · rw [h4]; rfl
    · rw [h5]; rfl
    · rw [h6]; rfl
  · rw [Array.getElem?_eq_none (by omega), Array.getElem?_eq_none (by simp; omega)]

theorem open_vt {r : Reach} {b0 : Nat} {v : Value} {d : DataW H} {ps : List MemPlace} (hv : Value.okWide Try.prog W r b0 29 v) (h : DataW.Trod enc Try.prog W 0 (fun _ => true) true 29 v d ps) :
    ∃ (u : Vt) (s : ByteArray), v = .agg (vtC u s) ∧ U8s u.B ∧ (Lit.int .i64 u.K).wf = true ∧ (Lit.int .i64 u.V).wf = true ∧ (Lit.int .i64 u.H).wf = true ∧ u.B.length ≤ maxLen ∧ (Lit.int .i64 u.T).wf = true ∧ (Lit.int .i64 u.G).wf = true ∧ s.size ≤ maxLen := by
  obtain ⟨m, cs, ys, rfl, hsz, _, _, hf⟩ := open_agg Try.underlying29 (by kernel_rfl) (by kernel_rfl) hv h
  obtain ⟨c0, y0, k0, _, t0⟩ := hf 0 _ rfl
  obtain ⟨c1, y1, k1, _, t1⟩ := hf 1 _ rfl
  obtain ⟨c2, y2, k2, _, t2⟩ := hf 2 _ rfl
  obtain ⟨c3, y3, k3, _, t3⟩ := hf 3 _ rfl
  obtain ⟨c4, y4, k4, _, t4⟩ := hf 4 _ rfl
  obtain ⟨c5, y5, k5, _, t5⟩ := hf 5 _ rfl
  obtain ⟨c6, y6, k6, _, t6⟩ := hf 6 _ rfl
  obtain ⟨x0, e0, _, w0⟩ := DataW.trod_int Try.underlying3 t0
  obtain ⟨x1, e1, _, w1⟩ := DataW.trod_int Try.underlying3 t1
  obtain ⟨x2, e2, _, w2⟩ := DataW.trod_int Try.underlying3 t2
  obtain ⟨x3, e3, _, w3⟩ := DataW.trod_string Try.underlying9 t3
  obtain ⟨x4, e4, _, w4⟩ := DataW.trod_int Try.underlying3 t4
  obtain ⟨x5, e5, _, w5⟩ := DataW.trod_int Try.underlying3 t5
  obtain ⟨s, e6, _, ws⟩ := DataW.trod_string Try.underlying9 t6
  simp only [List.cons.injEq, and_true] at e0 e1 e2 e3 e4 e5 e6
  subst e0 e1 e2 e3 e4 e5 e6
  refine ⟨⟨x0, x1, x2, octsOf x3, x4, x5⟩, s, ?_, octsOf_u8s _, w0, w1, w2, by rw [octsOf_length]; exact w3, w4, w5, ws⟩
  rw [array_seven hsz k0 k1 k2 k3 k4 k5 k6]
  unfold vtC
  simp only [strOf_octs]
end
end
end Go.Proofs.Ytacamknljicjmaa
