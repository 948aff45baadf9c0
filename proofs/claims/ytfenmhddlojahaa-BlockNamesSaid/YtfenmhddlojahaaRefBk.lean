import Derived.IntWalk
import Derived.Test.YtfenmhddlojahaaTxKit
import Derived.Test.YtfenmhddlojahaaRefTx
/-
  The reference: whether a block may be.
-/
namespace Go.Proofs.Ytfenmhddlojahaa
set_option maxRecDepth 100000
section
set_option linter.unusedVariables false
open Go.RowKit Go.Sort Go.Lib

/-- a block's cells -/
def bkC (V H : Int) (P : ByteArray) (JV JH : Int) (JB : ByteArray) (ja : Option Addr) (jn jc : Nat) (ta : Option Addr) (tn tc : Nat) (S : ByteArray) : Array Value :=
  #[.int .i64 V, .int .i64 H, .string P, .int .i64 JV, .int .i64 JH, .string JB, .slice ja jn jc, .slice ta tn tc, .string S]
/-- a block may be -/
structure BkMay (V H : Int) (P : ByteArray) (JV JH : Int) (JB : ByteArray) (xs : List Ts) (S : ByteArray) : Prop where
  v : 0 ≤ V ∧ V ≤ 1048576
  h : 1 ≤ H ∧ H ≤ 1048576
  p : P.size = 32
  n : xs.length ≤ 4
  s : S.size ≤ 4096
  jb : JB = P
  jh : JH = H - 1
  jv : 0 ≤ JV ∧ JV ≤ V
  ts : ∀ x ∈ xs, tsE x = 0
noncomputable def bkE (V H : Int) (P : ByteArray) (JV JH : Int) (JB : ByteArray) (xs : List Ts) (S : ByteArray) : Int := @ite _ (BkMay V H P JV JH JB xs S) (Classical.propDecidable _) 0 9
theorem bkE_ok {V H : Int} {P : ByteArray} {JV JH : Int} {JB : ByteArray} {xs : List Ts} {S : ByteArray} (h : BkMay V H P JV JH JB xs S) : bkE V H P JV JH JB xs S = 0 := by unfold bkE; rw [if_pos h]
theorem bkE_no {V H : Int} {P : ByteArray} {JV JH : Int} {JB : ByteArray} {xs : List Ts} {S : ByteArray} (h : ¬ BkMay V H P JV JH JB xs S) : bkE V H P JV JH JB xs S = 9 := by unfold bkE; rw [if_neg h]
theorem bk_cells {W : World} {B : Nat} {c0 c1 c2 c3 c4 c5 c6 c7 c8 : Value} {ty : TypeId} {fr : Nat × Nat} (h : W.heap[B]? = some (.cells #[c0, c1, c2, c3, c4, c5, c6, c7, c8] ty fr)) :
    W.cell? ⟨B, 0, none⟩ = some c0 ∧ W.cell? ⟨B, 1, none⟩ = some c1 ∧ W.cell? ⟨B, 2, none⟩ = some c2 ∧ W.cell? ⟨B, 3, none⟩ = some c3 ∧ W.cell? ⟨B, 4, none⟩ = some c4 ∧ W.cell? ⟨B, 5, none⟩ = some c5 ∧ W.cell? ⟨B, 6, none⟩ = some c6 ∧ W.cell? ⟨B, 7, none⟩ = some c7 ∧ W.cell? ⟨B, 8, none⟩ = some c8 :=
  ⟨cell_of_row _ _ 0 _ _ _ h, cell_of_row _ _ 1 _ _ _ h, cell_of_row _ _ 2 _ _ _ h, cell_of_row _ _ 3 _ _ _ h, cell_of_row _ _ 4 _ _ _ h, cell_of_row _ _ 5 _ _ _ h, cell_of_row _ _ 6 _ _ _ h, cell_of_row _ _ 7 _ _ _ h, cell_of_row _ _ 8 _ _ _ h⟩
theorem info_bk : (Try.prog.info? 27).map (·.size) = some 9 := by kernel_rfl

set_option maxHeartbeats 4000000 in
theorem refBlock_any (V H : Int) (P : ByteArray) (JV JH : Int) (JB : ByteArray) (ja : Option Addr) (jn jc : Nat) (ta : Option Addr) (n tc : Nat) (S : ByteArray) (xs : List Ts) (w : World) (ht : TArg w (.slice ta n tc) xs) :
    Calls Try.prog 5 #[.agg (bkC V H P JV JH JB ja jn jc ta n tc S)] w fun e w' => e = .returned (.int .i64 (bkE V H P JV JH JB xs S)) ∧ Up w w' := by
  have hn := ht.len
  have HT := Lib.hid ht
  have HN := Lib.hid hn
  have HU := Lib.hid (Up.alloc (Up.refl w) (.cells (bkC V H P JV JH JB ja jn jc ta n tc S) 27))
  have HB := Lib.hid (heap_alloc_new w (.cells (bkC V H P JV JH JB ja jn jc ta n tc S) 27))
  unfold bkC at HU HB ⊢
  have HBAD : Hid (¬ BkMay V H P JV JH JB xs S → bkE V H P JV JH JB xs S = 9) := bkE_no
  have HGOOD : Hid (BkMay V H P JV JH JB xs S → bkE V H P JV JH JB xs S = 0) := bkE_ok
  generalize bkE V H P JV JH JB xs S = E at HBAD HGOOD ⊢
  clear ht hn
  by_cases g0 : V < 0
  · obtain rfl := HBAD.out (fun h => by have := h.v; omega)
    clear HBAD HGOOD
    go_enter Try.func5, Try.ntmps5
    go_wp2
    go_ret
    exact ⟨rfl, HU.out⟩
  by_cases g1 : 1048576 < V
  · obtain rfl := HBAD.out (fun h => by have := h.v; omega)
    clear HBAD HGOOD
    go_enter Try.func5, Try.ntmps5
    go_wp2
    go_ret
    exact ⟨rfl, HU.out⟩
  by_cases g2 : H < 1
  · obtain rfl := HBAD.out (fun h => by have := h.h; omega)
    clear HBAD HGOOD
    go_enter Try.func5, Try.ntmps5
    go_wp2
    go_ret
    exact ⟨rfl, HU.out⟩
  by_cases g3 : 1048576 < H
  · obtain rfl := HBAD.out (fun h => by have := h.h; omega)
    clear HBAD HGOOD
    go_enter Try.func5, Try.ntmps5
    go_wp2
    go_ret
    exact ⟨rfl, HU.out⟩
  by_cases g4 : P.size = 32
  · have g4i : ((P.size : Int) == 32) = true := by rw [beq_iff_eq]; omega
    have g4j : ((P.size : Int) != 32) = false := by rw [bne, g4i]; rfl
    have G4 := Lib.hid g4
    clear g4 g4i
    by_cases g5 : 4 < n
    · have g5i : (4 : Int) < (n : Int) := by omega
      obtain rfl := HBAD.out (fun h => by have := h.n; have := HN.out; omega)
      clear HBAD HGOOD
      go_enter Try.func5, Try.ntmps5
      go_wp2
      go_ret
      exact ⟨rfl, HU.out⟩
    have g5i : ¬ (4 : Int) < (n : Int) := by omega
    by_cases g6 : 4096 < S.size
    · have g6i : (4096 : Int) < (S.size : Int) := by omega
      obtain rfl := HBAD.out (fun h => by have := h.s; omega)
      clear HBAD HGOOD
      go_enter Try.func5, Try.ntmps5
      go_wp2
      go_ret
      exact ⟨rfl, HU.out⟩
    have g6i : ¬ (4096 : Int) < (S.size : Int) := by omega
    have hw1 : IntKind.i64.wrap (H - 1) = H - 1 := by rw [IntKind.wrap_i64]; omega
    by_cases g7 : JB = P
    · have g7i : (JB.toList == P.toList) = true := by rw [toList_dec]; exact decide_eq_true g7
      have g7j : (JB.toList != P.toList) = false := by rw [bne, g7i]; rfl
      have G7 := Lib.hid g7
      clear g7
      by_cases g8 : JH = H - 1
      · have g8i : (JH == H - 1) = true := by rw [beq_iff_eq]; exact g8
        have g8j : (JH != H - 1) = false := by rw [bne, g8i]; rfl
        have G8 := Lib.hid g8
        clear g8
        by_cases g9 : JV < 0
        · obtain rfl := HBAD.out (fun h => by have := h.jv; omega)
          clear HBAD HGOOD
          go_enter Try.func5, Try.ntmps5
          go_wp2
          go_ret
          exact ⟨rfl, HU.out⟩
        by_cases g10 : V < JV
        · obtain rfl := HBAD.out (fun h => by have := h.jv; omega)
          clear HBAD HGOOD
          go_enter Try.func5, Try.ntmps5
          go_wp2
          go_ret
          exact ⟨rfl, HU.out⟩
        have HG : Hid ((∀ x ∈ xs, tsE x = 0) → E = 0) := fun h => HGOOD.out ⟨by omega, by omega, G4.out, by have := HN.out; omega, by omega, G7.out, G8.out, by omega, h⟩
        have HX : Hid ((∃ x ∈ xs, tsE x ≠ 0) → E = 9) := fun ⟨x, hx, h⟩ => HBAD.out fun k => h (k.ts x hx)
        clear HGOOD HBAD G4 G7 G8
        have HC := Lib.hid (fun (x : Ts) wx => refTx_any x.1.F x.1.T x.1.A x.1.N x.2 wx)
        change Hid (∀ (x : Ts) wx, Calls _ _ #[.agg (tsA x)] wx fun e w' => e = .returned (.int .i64 (tsE x)) ∧ Up wx w') at HC
        go_enter Try.func5, Try.ntmps5
        go_wp2_with fail
        generalize w.alloc (.cells #[.int .i64 V, .int .i64 H, .string P, .int .i64 JV, .int .i64 JH, .string JB, .slice ja jn jc, .slice ta n tc, .string S] 27) = w1 at HU HB ⊢
        generalize w.heap.size = M at HB ⊢
        go_loopw [3] (fun vi wr => ∃ i : Nat, vi = .int .i64 (i : Nat) ∧ i ≤ n ∧ Hid (∀ x ∈ xs.take i, tsE x = 0) ∧ Hid (Up w1 wr)) (fun vi _ => n - (RowKit.intOf vi).toNat)
        case atStart => exact ⟨0, rfl, Nat.zero_le _, Lib.hid (fun x hx => by simp at hx), Lib.hid (Up.refl _)⟩
        case round =>
          obtain ⟨i, rfl, hi, HP, HR⟩ := hrel
          have c7 := (bk_cells ((HR.out.block _ (lt_of_block HB.out)).trans HB.out)).2.2.2.2.2.2.2.1
          by_cases hlt : i < n
          · have hz : (i : Int) < (n : Int) := by omega
            obtain ⟨x, hx⟩ : ∃ x, xs[i]? = some x := ⟨xs[i]'(by have := HN.out; omega), List.getElem?_eq_getElem _⟩
            obtain ⟨b, off, hb1⟩ := (HT.out).ptr (by have := HN.out; omega)
            subst hb1
            have Hl := Lib.hid ((HT.out.up (Up.trans HU.out HR.out)).load hx)
            have hmem := List.mem_of_getElem? hx
            have HNX : Hid (tsE x = 0 → ∀ y ∈ xs.take (i + 1), tsE y = 0) := fun h y hy => by
              obtain ⟨hi2, e⟩ := List.getElem?_eq_some_iff.1 hx
              rw [List.take_succ_eq_append_getElem hi2, e] at hy
              rcases List.mem_append.1 hy with hy | hy
              · exact HP.out y hy
              · rw [List.mem_singleton.1 hy]; exact h
            have HBX : Hid (tsE x ≠ 0 → E = 9) := fun h => HX.out ⟨x, hmem, h⟩
            have HCX := Lib.hid (HC.out x wr)
            clear hx hmem
            go_wp2_with (refine wpList_ex rfl (.agg (tsA x)) wr (ex_ldt (x := .tmp 79) rfl rfl Hl.out) ?_)
            with_reducible refine Calls.mono HCX.out ?_
            rintro e w2 ⟨rfl, u2⟩
            have HR2 := Lib.hid (Up.trans HR.out u2)
            clear u2
            generalize tsE x = T at HNX HBX
            by_cases hT : T = 0
            · have HOK := Lib.hid (HNX.out hT)
              have hTi : (T == 0) = true := by rw [beq_iff_eq]; exact hT
              have hTj : (T != 0) = false := by rw [bne, hTi]; rfl
              clear hT hTi
              go_wp2
              go_roundw
              case rel => first | exact ⟨i + 1, by go_num, hlt, HOK, HR2⟩ | exact ⟨i + 1, by go_num, hlt, HOK⟩
              case measure => simp [RowKit.intOf]; omega
            · obtain rfl := HBX.out hT
              have hTi : (T == 0) = false := by rw [beq_eq_false_iff_ne]; exact hT
              have hTj : (T != 0) = true := by rw [bne, hTi]; rfl
              clear hT hTi
              go_wp2
              go_ret
              exact ⟨rfl, Up.trans HU.out HR2.out⟩
          · have hie : i = n := by omega
            have hz : ¬ (i : Int) < (n : Int) := by omega
            have ht : xs.take i = xs := List.take_of_length_le (by have := HN.out; omega)
            rw [ht] at HP
            obtain rfl := HG.out HP.out
            go_wp2
            go_ret
            exact ⟨rfl, Up.trans HU.out HR.out⟩
      · have g8i : (JH == H - 1) = false := by rw [beq_eq_false_iff_ne]; exact g8
        have g8j : (JH != H - 1) = true := by rw [bne, g8i]; rfl
        obtain rfl := HBAD.out (fun h => g8 h.jh)
        clear HBAD HGOOD g8
        go_enter Try.func5, Try.ntmps5
        go_wp2
        go_ret
        exact ⟨rfl, HU.out⟩
    · have g7i : (JB.toList == P.toList) = false := by rw [toList_dec]; exact decide_eq_false g7
      have g7j : (JB.toList != P.toList) = true := by rw [bne, g7i]; rfl
      obtain rfl := HBAD.out (fun h => g7 h.jb)
      clear HBAD HGOOD g7
      go_enter Try.func5, Try.ntmps5
      go_wp2
      go_ret
      exact ⟨rfl, HU.out⟩
  · have g4i : ((P.size : Int) == 32) = false := by rw [beq_eq_false_iff_ne]; omega
    have g4j : ((P.size : Int) != 32) = true := by rw [bne, g4i]; rfl
    obtain rfl := HBAD.out (fun h => g4 h.p)
    clear HBAD HGOOD g4 g4i
    go_enter Try.func5, Try.ntmps5
    go_wp2
    go_ret
    exact ⟨rfl, HU.out⟩
end
end Go.Proofs.Ytfenmhddlojahaa
