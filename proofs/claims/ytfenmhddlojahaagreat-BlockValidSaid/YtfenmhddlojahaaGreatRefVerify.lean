import Derived.Deep.QuietTactic
import Derived.BigQuiet
import Derived.IntWalk
import Derived.Test.YtfenmhddlojahaaGreatSgVerify
import Derived.Test.YtfenmhddlojahaaGreatRefOpen
import Derived.Test.YtfenmhddlojahaaGreatRefClimb
import Derived.Test.YtfenmhddlojahaaGreatAlong
/-
  The reference: Verify.
-/
namespace Go.Proofs.YtfenmhddlojahaaGreat
set_option maxRecDepth 100000
section
set_option linter.unusedVariables false
open Go.RowKit

set_option linter.unusedSimpArgs false
theorem conv_iu (h : Nat) (hh : h ≤ 4) (w : World) : (convert 3 99 (.int .i64 h)).run Tryz.prog w = .ok (.int .u64 h) w := by
  have hc : h = 0 ∨ h = 1 ∨ h = 2 ∨ h = 3 ∨ h = 4 := by omega
  rcases hc with rfl | rfl | rfl | rfl | rfl <;> (change _ = _; kernel_rfl)
theorem shl_one (x y : Operand) (h : Nat) (hh : h ≤ 4) (w : World) : (do eqGuard .shl 3 x y (.int .i64 1) (.int .u64 h); binOp .shl 3 (.int .i64 1) (.int .u64 h) : Sem Value).run Tryz.prog w = .ok (.int .i64 ((2 ^ h : Nat) : Int)) w := by
  have hc : h = 0 ∨ h = 1 ∨ h = 2 ∨ h = 3 ∨ h = 4 := by omega
  rcases hc with rfl | rfl | rfl | rfl | rfl <;> simp [eqGuard, go_sem] <;> rfl
theorem geq_int (x y : Operand) (p q : Int) (w : World) : (do eqGuard .geq 3 x y (.int .i64 p) (.int .i64 q); binOp .geq 3 (.int .i64 p) (.int .i64 q) : Sem Value).run Tryz.prog w = .ok (.bool (decide (q ≤ p))) w := by
  simp [eqGuard, go_sem]
theorem geq_f (x y : Operand) (p q : Int) (h : decide (q ≤ p) = false) (w : World) : (do eqGuard .geq 3 x y (.int .i64 p) (.int .i64 q); binOp .geq 3 (.int .i64 p) (.int .i64 q) : Sem Value).run Tryz.prog w = .ok (.bool false) w := by
  rw [geq_int, h]
theorem geq_t (x y : Operand) (p q : Int) (h : decide (q ≤ p) = true) (w : World) : (do eqGuard .geq 3 x y (.int .i64 p) (.int .i64 q); binOp .geq 3 (.int .i64 p) (.int .i64 q) : Sem Value).run Tryz.prog w = .ok (.bool true) w := by
  rw [geq_int, h]
theorem neq_str (x y : Operand) (p q : ByteArray) (w : World) : (do eqGuard .neq 9 x y (.string p) (.string q); binOp .neq 9 (.string p) (.string q) : Sem Value).run Tryz.prog w = .ok (.bool (p.toList != q.toList)) w := by
  simp [eqGuard, go_sem, bne]
theorem slice_pre (ad : Addr) (n c k : Nat) (hk : k ≤ c) (w : World) : (Instr.sliceAt 25 (.slice (some ad) n c) none (some (.int .i64 k)) none).run Tryz.prog w = .ok (.slice (some ad) k c) w := by
  simp [go_sem, sliced]
  intro h; omega
theorem slice_suf (b n c k : Nat) (hk : k ≤ n) (hn : n ≤ c) (w : World) : ∃ o, (Instr.sliceAt 25 (.slice (some ⟨b, 0, none⟩) n c) (some (.int .i64 k)) none none).run Tryz.prog w = .ok (.slice (some ⟨b, o, none⟩) (n - k) (c - k)) w ∧ (o = k ∨ c = k) := by
  by_cases h : c = k
  · subst h
    refine ⟨0, ?_, .inr rfl⟩
    simp [go_sem, sliced]
    intro h; omega
  · refine ⟨k, ?_, .inl rfl⟩
    simp [go_sem, sliced]
    rw [if_pos hk, if_neg h]
theorem slice_zero (b : Nat) (w : World) : (Instr.sliceAt 25 (.slice (some ⟨b, 0, none⟩) 11 11) (some (.int .i64 ((11 : Nat) : Int))) none none).run Tryz.prog w = .ok (.slice (some ⟨b, 0, none⟩) 0 0) w := by
  simp [go_sem, sliced]
theorem piece_str (zs : List Int) (p : Nat) : (strOfNums zs).extract p (p + 8) = strOfNums (pieceB zs p) := by
  apply ByteArray.ext
  unfold pieceB
  simp [strOfNums, ByteArray.data_extract, List.map_drop, List.map_take]
theorem Strs.pre {W : World} {a : Option Addr} {n cap : Nat} {ls : List (List Int)} (h : Strs W (.slice a n cap) ls) (M : Nat) (hM : M ≤ ls.length) : Strs W (.slice a M cap) (ls.take M) := by
  obtain ⟨a', cap', he, h2, h3, h4⟩ := h
  simp only [Value.slice.injEq] at he
  obtain ⟨rfl, rfl, rfl⟩ := he
  have hl : (ls.take M).length = M := by rw [List.length_take]; omega
  refine ⟨a, cap, by rw [hl], by rw [hl]; omega, h3, h4.imp (fun e => by rw [e]; simp) ?_⟩
  rintro ⟨b, off, rfl, hc⟩
  refine ⟨b, off, rfl, fun j hj => ?_⟩
  rw [hl] at hj
  rw [hc j (by omega), List.getElem?_take, if_pos hj]
theorem Strs.suf {W : World} {b off n cap : Nat} {ls : List (List Int)} (h : Strs W (.slice (some ⟨b, off, none⟩) n cap) ls) (M : Nat) (hM : M ≤ ls.length) : Strs W (.slice (some ⟨b, off + M, none⟩) (n - M) (cap - M)) (ls.drop M) := by
  obtain ⟨a', cap', he, h2, h3, h4⟩ := h
  simp only [Value.slice.injEq] at he
  obtain ⟨rfl, rfl, rfl⟩ := he
  have hl : (ls.drop M).length = ls.length - M := by rw [List.length_drop]
  refine ⟨_, cap - M, by rw [hl], by rw [hl]; omega, by simp, h4.imp (fun e => by rw [e]; simp) ?_⟩
  rintro ⟨b', off', he, hc⟩
  simp only [Option.some.injEq, Addr.mk.injEq, and_true] at he
  obtain ⟨rfl, rfl⟩ := he
  refine ⟨b, off + M, rfl, fun j hj => ?_⟩
  rw [hl] at hj
  rw [Nat.add_assoc, hc (M + j) (by omega), List.getElem?_drop]
theorem Strs.none {W : World} {a : Option Addr} {cap : Nat} (h : a = none → cap = 0) : Strs W (.slice a 0 cap) [] := ⟨a, cap, rfl, Nat.zero_le _, h, .inl rfl⟩

/-- all pieces behind the number -/
def allPieces (sig : List Int) (k : Nat) : List (List Int) := upTo (fun i => pieceB sig (2 + 8 * i)) k
theorem pieces_pre (sig : List Int) (h : Nat) : (allPieces sig (11 + h)).take 11 = sigParts sig := by
  unfold allPieces sigParts upTo
  rw [← List.map_take, List.take_range]
  congr 2
  omega
theorem pieces_suf (sig : List Int) (h : Nat) : (allPieces sig (11 + h)).drop 11 = sigPath sig h := by
  apply List.ext_getElem (by simp [allPieces, sigPath, upTo_length])
  intro j h1 h2
  simp only [allPieces, sigPath, upTo, List.getElem_drop, List.getElem_map, List.getElem_range]
  congr 1
  omega

set_option maxHeartbeats 1000000 in
theorem refVerify_range (root : ByteArray) (h : Int) (v : Value) (text : List Int) (sig : List Int) (w : World) (hv : Ints .u8 w v text) (hh : h < 0 ∨ 4 < h) :
    Calls Tryz.prog 37 #[.string root, .int .i64 h, v, .string (strOfNums sig)] w (SigTold root h text sig w) := by
  have hno : ¬ GoodSig root h text sig := fun ⟨h1, h2, _⟩ => by omega
  have Hno := Lib.hid hno
  obtain ⟨a, cap, rfl, _, _, _⟩ := hv
  clear hno
  rcases hh with hh | hh
  · go_enter Tryz.func37, Tryz.ntmps37
    go_wp2
    go_ret2
    exact SigTold.no Hno.out (Up.refl _)
  · have h2 : ¬ h < 0 := by omega
    go_enter Tryz.func37, Tryz.ntmps37
    go_wp2
    go_ret2
    exact SigTold.no Hno.out (Up.refl _)

set_option maxHeartbeats 1000000 in
theorem refVerify_size (root : ByteArray) (h : Nat) (v : Value) (text : List Int) (sig : List Int) (w : World) (hv : Ints .u8 w v text) (h4 : h ≤ 4) (hl : sig.length ≠ 90 + 8 * h) (hl2 : sig.length ≤ 9223372036854775807) :
    Calls Tryz.prog 37 #[.string root, .int .i64 h, v, .string (strOfNums sig)] w (SigTold root h text sig w) := by
  have hno : ¬ GoodSig root h text sig := fun ⟨h1, h2, h3, _⟩ => by omega
  have Hno := Lib.hid hno
  have hs0 : (strOfNums sig).size = sig.length := strOfNums_size sig
  have hs1 : (((strOfNums sig).size : Int) == 90 + 8 * (h : Int)) = false := by rw [beq_eq_false_iff_ne]; omega
  have hs2 : (((strOfNums sig).size : Int) != 90 + 8 * (h : Int)) = true := by rw [bne, hs1]; rfl
  have hs3 : ¬ (strOfNums sig).size = 90 + 8 * h := by omega
  have hh1 : ¬ (h : Int) < 0 := by omega
  have hh2 : ¬ 4 < h := by omega
  obtain ⟨a, cap, rfl, _, _, _⟩ := hv
  clear hno hl hs0
  go_enter Tryz.func37, Tryz.ntmps37
  go_wp2
  go_ret2
  exact SigTold.no Hno.out (Up.refl _)

theorem two_sum (zs : List Int) (h : 2 ≤ zs.length) (hu : U8s zs) : zs[0]?.getD 0 * 256 + zs[1]?.getD 0 = sigLeaf zs := by
  match zs, h with
  | x :: y :: r, _ =>
    have h0 := hu 0 (by simp)
    have h1 := hu 1 (by simp)
    simp only [List.getElem?_cons_zero, Option.getD_some, List.getElem?_cons_succ] at h0 h1 ⊢
    simp only [sigLeaf, getB, List.take_succ_cons, List.take_zero, List.foldl_cons, List.foldl_nil, getStep]
    omega

theorem str_index (zs : List Int) (hu : U8s zs) (j : Nat) (hj : j < zs.length) (wx : World) : (Instr.index 9 (.string (strOfNums zs)) (.int .i64 j)).run Tryz.prog wx = .ok (.int .u8 (zs[j]?.getD 0)) wx := by
  have hs : j < (strOfNums zs).size := by rw [strOfNums_size]; exact hj
  have hr := run_index_string (P := Tryz.prog) wx 9 (strOfNums zs) .i64 (j : Int) Tryz.underlying9
  rw [hr, dif_pos ⟨by omega, by omega⟩]
  congr 2
  have h := hu j hj
  simp only [List.getElem?_eq_getElem hj, Option.getD_some] at h ⊢
  have e : (strOfNums zs)[((j : Int)).toNat]'(by simpa using hs) = UInt8.ofNat (zs[j]).toNat := by
    simp [ByteArray.getElem_eq_getElem_data, strOfNums]
  rw [e]
  exact byte_of _ h

set_option maxHeartbeats 4000000 in
theorem refVerify_long (root : ByteArray) (h : Nat) (v : Value) (text : List Int) (sig : List Int) (w : World) (hv : Ints .u8 w v text) (hut : U8s text) (hlt : text.length ≤ 140737488355200) (hu : U8s sig) (h4 : h ≤ 4) (hl : sig.length = 90 + 8 * h) :
    Calls Tryz.prog 37 #[.string root, .int .i64 h, v, .string (strOfNums sig)] w (SigTold root h text sig w) := by
  obtain ⟨i0, hi, hz0, hz1, hz2⟩ := info_parts info_strg
  have hL0 := getB_range (sig.take 2)
  have hL1 : 0 ≤ sigLeaf sig := hL0.1
  have hL2 : sigLeaf sig ≤ 9223372036854775807 := by have := hL0.2; unfold sigLeaf; omega
  have Hopen : Hid (∀ (pv : Value) (wx : World), Up w wx → Strs wx pv (sigParts sig) → Calls Tryz.prog 65 #[v, pv] wx fun e w' => e = .returned (.string (strOfNums (openB text (sigParts sig)))) ∧ Up wx w') := fun pv wx hx hp => refOpen_any v text pv _ wx (hv.up hx) hut hlt hp (parts_u8s sig hu) (by unfold sigParts; rw [upTo_length]; omega)
  have Htiny : Tiny (sigPath sig h) := upTo_all _ _ (fun l => U8s l ∧ l.length ≤ 1048576) ⟨fun j hj => by simp at hj, by simp⟩ fun i _ => ⟨pieceB_u8s sig hu _, by have := pieceB_le sig (90 + 8 * i); omega⟩
  have Hclimb : Hid (∀ (pv : Value) (wx : World), Strs wx pv (sigPath sig h) → Calls Tryz.prog 64 #[.string (strOfNums (openB text (sigParts sig))), .int .i64 (sigLeaf sig), pv] wx fun e w' => e = .returned (.string (strOfNums (climbB (openB text (sigParts sig)) (sigLeaf sig).toNat (sigPath sig h)))) ∧ Up wx w') := fun pv wx hp => refClimb_from _ (sigLeaf sig) (sigLeaf sig).toNat pv _ wx ⟨(openB_small _ _).1, by have := (openB_small text (sigParts sig)).2; omega⟩ hp Htiny (by unfold sigPath; rw [upTo_length]; omega) (by omega) (by omega)
  have Hgood : Hid (GoodSig root h text sig ↔ (sigLeaf sig < ((2 ^ h : Nat) : Int) ∧ strOfNums (climbB (openB text (sigParts sig)) (sigLeaf sig).toNat (sigPath sig h)) = root)) := by
    show _ ↔ _
    unfold GoodSig
    rw [Int.toNat_natCast]
    constructor
    · exact fun ⟨_, _, _, h4, h5⟩ => ⟨h4, h5⟩
    · exact fun ⟨h4', h5⟩ => ⟨by omega, by omega, by omega, h4', h5⟩
  have Hyes : Hid (∀ w', GoodSig root h text sig → Up w w' → SigTold root h text sig w (.returned (.tuple #[.int .i64 (sigLeaf sig), .bool true])) w') := fun w' => SigTold.yes
  have Hno : Hid (∀ w', ¬ GoodSig root h text sig → Up w w' → SigTold root h text sig w (.returned (.tuple #[.int .i64 0, .bool false])) w') := fun w' => SigTold.no
  have Hpre := Lib.hid (pieces_pre sig h)
  have Hsuf := Lib.hid (pieces_suf sig h)
  have Hpl : Hid ((allPieces sig (11 + h)).length = 11 + h) := upTo_length _ _
  have Hpiece : Hid (∀ p, (strOfNums sig).extract p (p + 8) = strOfNums (pieceB sig p)) := piece_str sig
  have Hsucc : Hid (∀ k, allPieces sig (k + 1) = allPieces sig k ++ [pieceB sig (2 + 8 * k)]) := fun k => upTo_succ _ k
  have hu0 := hu.at sig 0
  have hu1 := hu.at sig 1
  have hsum := two_sum sig (by omega) hu
  have hx0 : ∀ wx : World, (Instr.index 9 (.string (strOfNums sig)) (.int .i64 0)).run Tryz.prog wx = .ok (.int .u8 (sig[0]?.getD 0)) wx := fun wx => str_index sig hu 0 (by omega) wx
  have hx1 : ∀ wx : World, (Instr.index 9 (.string (strOfNums sig)) (.int .i64 1)).run Tryz.prog wx = .ok (.int .u8 (sig[1]?.getD 0)) wx := fun wx => str_index sig hu 1 (by omega) wx
  have hs0 : (strOfNums sig).size = sig.length := strOfNums_size sig
  have hs1 : (((strOfNums sig).size : Int) == 90 + 8 * (h : Int)) = true := by rw [beq_iff_eq]; omega
  have hs2 : (((strOfNums sig).size : Int) != 90 + 8 * (h : Int)) = false := by rw [bne, hs1]; rfl
  have hs3 : (strOfNums sig).size = 90 + 8 * h := by omega
  have Hs3 := Lib.hid hs3
  have hh1 : ¬ (h : Int) < 0 := by omega
  have hh2 : ¬ 4 < h := by omega
  obtain ⟨a, cap, rfl, _, _, _⟩ := hv
  generalize SigTold root h text sig w = POST at Hyes Hno ⊢
  generalize GoodSig root h text sig = GOOD at Hyes Hno Hgood
  generalize sigLeaf sig = LF at *
  generalize strOfNums (climbB (openB text (sigParts sig)) LF.toNat (sigPath sig h)) = CL at Hgood Hclimb
  generalize sig[0]?.getD 0 = o0 at hu0 hsum hx0
  generalize sig[1]?.getD 0 = o1 at hu1 hsum hx1
  have Hsum := Lib.hid hsum
  clear hut hlt hu hl hL0 hs0 hsum Htiny
  go_enter Tryz.func37, Tryz.ntmps37
  go_wp2
  go_quiet (fail)
  rw [Hsum.out]
  have hB0 := Up.drewN (Up.refl w) nq
  generalize w.drewN nq = w1 at hB0 ⊢
  clear hx0 hx1 hu0 hu1
  go_wp2
  have r0 : w1.ownsRow w.heap.size 9 1 (.slice none 0 0) 0 (strVs (allPieces sig 0)) := World.ownsRow_nil _ _ _ _
  go_loopw [11, 12] (fun l i wr => ∃ k p : Nat, p = 2 + 8 * k ∧ k ≤ 11 + h ∧ i = .int .i64 p ∧ wr.ownsRow w.heap.size 9 1 l k (strVs (allPieces sig k)) ∧ Up w wr) (fun _ i _ => 90 + 8 * h - (intOf i).toNat)
  case atStart => exact ⟨0, 2, rfl, by omega, rfl, r0, hB0⟩
  case round =>
    obtain ⟨k, p, hp, hk, rfl, hrow, hB⟩ := hrel
    clear r0 hB0
    by_cases hlt : k < 11 + h
    · have hs := Hsucc.out k
      rw [← hp] at hs
      have Hs := Lib.hid hs
      have Hp := Lib.hid hp
      have hsl : ∀ wx : World, (Instr.slice 9 (.string (strOfNums sig)) (some (.int .i64 p)) (some (.int .i64 ((p : Int) + 8))) none).run Tryz.prog wx = .ok (.string (strOfNums (pieceB sig p))) wx := fun wx => by
        have h1 := run_slice_string (P := Tryz.prog) wx 9 (strOfNums sig) .i64 .i64 (p : Int) ((p : Int) + 8) Tryz.underlying9 (by omega) (by omega) (by have := Hs3.out; omega)
        rw [h1, ← Hpiece.out p]
        congr 2
      have hle : (p : Int) + 8 ≤ 90 + 8 * (h : Int) := by omega
      have hlt2 : (p : Int) < 90 + 8 * (h : Int) := by omega
      clear hs hp
      go_wp2_with (at_builtin; refine wpList_append_own _ rfl (.tmp 41) (.tmp 47) 25 rfl w.heap.size 9 i0 (.string ⟨#[]⟩) 1 16 Tryz.underlying25 hi hz0 hz1 hz2 rfl (by decide) _ k _ rfl (hrow.alloc _) ⟨wr.heap.size, 0, none⟩ 1 1 [.string (strOfNums (pieceB sig p))] rfl rfl (cell_one_new _ _ _) (by simp [Value.oneCell']) (by unfold maxLen; omega) (by omega) (by have := hB.size; simp; omega) ?_; intro v' w3 hown' hgrow _)
      go_roundw
      case rel => exact ⟨k + 1, p + 8, by have := Hp.out; omega, by omega, by go_num, by rw [Hs.out, strVs_snoc]; exact hown', (Up.alloc hB _).grown hgrow (by have := hB.size; simp; omega) (fun q e => (hrow.lt q e).1)⟩
      case measure => simp [intOf]; omega
    · obtain rfl : k = 11 + h := by omega
      have hge : ¬ (p : Int) < 90 + 8 * (h : Int) := by omega
      obtain ⟨g, c, rfl, hgc⟩ := row_slice hrow (by omega)
      have hS := Strs.of_row hrow
      have HS5 : Hid (∀ wx, Up wr wx → Strs wx (.slice (some ⟨g, 0, none⟩) 11 c) (sigParts sig)) := fun wx hx => by
        have := hS.pre 11 (by rw [Hpl.out]; omega)
        rw [Hpre.out] at this
        exact this.up hx
      obtain ⟨o, hsuf, ho⟩ : ∃ o, (∀ wx : World, (Instr.sliceAt 25 (.slice (some ⟨g, 0, none⟩) (11 + h) c) (some (.int .i64 ((11 : Nat) : Int))) none none).run Tryz.prog wx = .ok (.slice (some ⟨g, o, none⟩) h (c - 11)) wx) ∧ (o = 11 ∨ c = 11) := by
        by_cases hc : c = 11
        · obtain rfl : h = 0 := by omega
          subst hc
          refine ⟨0, fun wx => ?_, .inr rfl⟩
          obtain ⟨o, h1, h2⟩ := slice_suf g 11 11 11 (by omega) (by omega) wx
          have h3 := slice_zero g wx
          exact h3
        · refine ⟨11, fun wx => ?_, .inl rfl⟩
          obtain ⟨o, h1, h2⟩ := slice_suf g (11 + h) c 11 (by omega) hgc wx
          rcases h2 with rfl | h2
          · rw [h1, show 11 + h - 11 = h from by omega]
          · exact absurd h2 hc
      have HS6 : Hid (∀ wx, Up wr wx → Strs wx (.slice (some ⟨g, o, none⟩) h (c - 11)) (sigPath sig h)) := fun wx hx => by
        rcases ho with rfl | rfl
        · have := hS.suf 11 (by rw [Hpl.out]; omega)
          rw [Hsuf.out, show 11 + h - 11 = h from by omega, Nat.zero_add] at this
          exact this.up hx
        · obtain rfl : h = 0 := by omega
          exact Strs.none (fun e => by cases e)
      have Hsuf2 := Lib.hid hsuf
      clear hsuf ho
      have Hgc := Lib.hid hgc
      have HB := Lib.hid hB
      clear hrow hS hgc hB hp hk hlt
      by_cases hlt : LF < ((2 ^ h : Nat) : Int)
      · have hge2 : decide (((2 ^ h : Nat) : Int) ≤ LF) = false := by rw [decide_eq_false_iff_not]; omega
        have Hlt := Lib.hid hlt
        clear hlt
        go_wp2
        refine region_along [(0, true), (1, true), (2, true), (3, true), (4, true), (5, true), (6, true), (7, true), (8, true), (10, true), (11, true), (12, true), (14, true), (9, false), (13, false), (15, true), (16, true)] (by kernel_rfl) rfl (by kernel_rfl) (by kernel_rfl) (fun c a d v w h => by cases d <;> exact h) ?_
        refine along_move (v := .int .i64 LF) rfl rfl rfl rfl ?_
        change Along _ _ _ _ { tmps := #[.string root, .int .i64 (h : Int), .slice a text.length cap, _, _, _, _, _, _, _, .int .i64 LF, .slice (some ⟨g, 0, none⟩) (11 + h) c, _, _, _, _, _, _, _, _, _, _, _, _, _, _, _, _, _, _, _, _, _, _, _, _, _, _, _, _, _, _, _, _, _, _, _, _, _, .int .i64 LF, _, _, _, _, _, _, _, _, _, _, _, _, _, _, _, _, _], defers := _ } _
        refine along_move (v := .int .i64 (h : Int)) rfl rfl rfl rfl ?_
        change Along _ _ _ _ { tmps := #[.string root, .int .i64 (h : Int), .slice a text.length cap, _, _, _, _, _, _, _, .int .i64 LF, .slice (some ⟨g, 0, none⟩) (11 + h) c, _, _, _, _, _, _, _, _, _, _, _, _, _, _, _, _, _, _, _, _, _, _, _, _, _, _, _, _, _, _, _, _, _, _, _, _, _, .int .i64 LF, .int .i64 (h : Int), _, _, _, _, _, _, _, _, _, _, _, _, _, _, _, _], defers := _ } _
        refine along_conv (v := .int .i64 (h : Int)) (u := .int .u64 (h : Int)) rfl rfl rfl rfl (fun wx _ => conv_iu h h4 wx) ?_
        change Along _ _ _ _ { tmps := #[.string root, .int .i64 (h : Int), .slice a text.length cap, _, _, _, _, _, _, _, .int .i64 LF, .slice (some ⟨g, 0, none⟩) (11 + h) c, _, _, _, _, _, _, _, _, _, _, _, _, _, _, _, _, _, _, _, _, _, _, _, _, _, _, _, _, _, _, _, _, _, _, _, _, _, .int .i64 LF, .int .i64 (h : Int), .int .u64 (h : Int), _, _, _, _, _, _, _, _, _, _, _, _, _, _, _], defers := _ } _
        refine along_bin (v := .int .i64 ((2 ^ h : Nat) : Int)) (fun wx => shl_one _ _ h h4 wx) rfl rfl rfl rfl rfl ?_
        change Along _ _ _ _ { tmps := #[.string root, .int .i64 (h : Int), .slice a text.length cap, _, _, _, _, _, _, _, .int .i64 LF, .slice (some ⟨g, 0, none⟩) (11 + h) c, _, _, _, _, _, _, _, _, _, _, _, _, _, _, _, _, _, _, _, _, _, _, _, _, _, _, _, _, _, _, _, _, _, _, _, _, _, .int .i64 LF, .int .i64 (h : Int), .int .u64 (h : Int), .int .i64 ((2 ^ h : Nat) : Int), _, _, _, _, _, _, _, _, _, _, _, _, _, _], defers := _ } _
        refine along_bin (v := .bool false) (fun wx => geq_f _ _ LF ((2 ^ h : Nat) : Int) hge2 wx) rfl rfl rfl rfl rfl ?_
        change Along _ _ _ _ { tmps := #[.string root, .int .i64 (h : Int), .slice a text.length cap, _, _, _, _, _, _, _, .int .i64 LF, .slice (some ⟨g, 0, none⟩) (11 + h) c, _, _, _, _, _, _, _, _, _, _, _, _, _, _, _, _, _, _, _, _, _, _, _, _, _, _, _, _, _, _, _, _, _, _, _, _, _, .int .i64 LF, .int .i64 (h : Int), .int .u64 (h : Int), .int .i64 ((2 ^ h : Nat) : Int), .bool false, _, _, _, _, _, _, _, _, _, _, _, _, _], defers := _ } _
        refine along_move (v := .bool false) rfl rfl rfl rfl ?_
        change Along _ _ _ _ { tmps := #[.string root, .int .i64 (h : Int), .slice a text.length cap, _, _, _, _, _, _, _, .int .i64 LF, .slice (some ⟨g, 0, none⟩) (11 + h) c, _, _, _, _, _, _, _, _, _, _, _, _, _, _, _, _, _, _, _, _, _, _, _, _, _, _, _, _, _, _, _, _, _, _, _, _, _, .int .i64 LF, .int .i64 (h : Int), .int .u64 (h : Int), .int .i64 ((2 ^ h : Nat) : Int), .bool false, .bool false, _, _, _, _, _, _, _, _, _, _, _, _], defers := _ } _
        refine along_move (v := .slice a text.length cap) rfl rfl rfl rfl ?_
        change Along _ _ _ _ { tmps := #[.string root, .int .i64 (h : Int), .slice a text.length cap, _, _, _, _, _, _, _, .int .i64 LF, .slice (some ⟨g, 0, none⟩) (11 + h) c, _, _, _, _, _, _, _, _, _, _, _, _, _, _, _, _, _, _, _, _, _, _, _, _, _, _, _, _, _, _, _, _, _, _, _, _, _, .int .i64 LF, .int .i64 (h : Int), .int .u64 (h : Int), .int .i64 ((2 ^ h : Nat) : Int), .bool false, .bool false, .slice a text.length cap, _, _, _, _, _, _, _, _, _, _, _], defers := _ } _
        refine along_move (v := .slice (some ⟨g, 0, none⟩) (11 + h) c) rfl rfl rfl rfl ?_
        change Along _ _ _ _ { tmps := #[.string root, .int .i64 (h : Int), .slice a text.length cap, _, _, _, _, _, _, _, .int .i64 LF, .slice (some ⟨g, 0, none⟩) (11 + h) c, _, _, _, _, _, _, _, _, _, _, _, _, _, _, _, _, _, _, _, _, _, _, _, _, _, _, _, _, _, _, _, _, _, _, _, _, _, .int .i64 LF, .int .i64 (h : Int), .int .u64 (h : Int), .int .i64 ((2 ^ h : Nat) : Int), .bool false, .bool false, .slice a text.length cap, .slice (some ⟨g, 0, none⟩) (11 + h) c, _, _, _, _, _, _, _, _, _, _], defers := _ } _
        refine along_slice (v := .slice (some ⟨g, 0, none⟩) 11 c) (fun wx => slice_pre ⟨g, 0, none⟩ (11 + h) c 11 (by have := Hgc.out; omega) wx) rfl rfl rfl rfl rfl rfl ?_
        change Along _ _ _ _ { tmps := #[.string root, .int .i64 (h : Int), .slice a text.length cap, _, _, _, _, _, _, _, .int .i64 LF, .slice (some ⟨g, 0, none⟩) (11 + h) c, _, _, _, _, _, _, _, _, _, _, _, _, _, _, _, _, _, _, _, _, _, _, _, _, _, _, _, _, _, _, _, _, _, _, _, _, _, .int .i64 LF, .int .i64 (h : Int), .int .u64 (h : Int), .int .i64 ((2 ^ h : Nat) : Int), .bool false, .bool false, .slice a text.length cap, .slice (some ⟨g, 0, none⟩) (11 + h) c, .slice (some ⟨g, 0, none⟩) 11 c, _, _, _, _, _, _, _, _, _], defers := _ } _
        refine along_move (v := .int .i64 LF) rfl rfl rfl rfl ?_
        change Along _ _ _ _ { tmps := #[.string root, .int .i64 (h : Int), .slice a text.length cap, _, _, _, _, _, _, _, .int .i64 LF, .slice (some ⟨g, 0, none⟩) (11 + h) c, _, _, _, _, _, _, _, _, _, _, _, _, _, _, _, _, _, _, _, _, _, _, _, _, _, _, _, _, _, _, _, _, _, _, _, _, _, .int .i64 LF, .int .i64 (h : Int), .int .u64 (h : Int), .int .i64 ((2 ^ h : Nat) : Int), .bool false, .bool false, .slice a text.length cap, .slice (some ⟨g, 0, none⟩) (11 + h) c, .slice (some ⟨g, 0, none⟩) 11 c, _, .int .i64 LF, _, _, _, _, _, _, _], defers := _ } _
        refine along_move (v := .slice (some ⟨g, 0, none⟩) (11 + h) c) rfl rfl rfl rfl ?_
        change Along _ _ _ _ { tmps := #[.string root, .int .i64 (h : Int), .slice a text.length cap, _, _, _, _, _, _, _, .int .i64 LF, .slice (some ⟨g, 0, none⟩) (11 + h) c, _, _, _, _, _, _, _, _, _, _, _, _, _, _, _, _, _, _, _, _, _, _, _, _, _, _, _, _, _, _, _, _, _, _, _, _, _, .int .i64 LF, .int .i64 (h : Int), .int .u64 (h : Int), .int .i64 ((2 ^ h : Nat) : Int), .bool false, .bool false, .slice a text.length cap, .slice (some ⟨g, 0, none⟩) (11 + h) c, .slice (some ⟨g, 0, none⟩) 11 c, _, .int .i64 LF, .slice (some ⟨g, 0, none⟩) (11 + h) c, _, _, _, _, _, _], defers := _ } _
        refine along_slice (v := .slice (some ⟨g, o, none⟩) h (c - 11)) (fun wx => Hsuf2.out wx) rfl rfl rfl rfl rfl rfl ?_
        change Along _ _ _ _ { tmps := #[.string root, .int .i64 (h : Int), .slice a text.length cap, _, _, _, _, _, _, _, .int .i64 LF, .slice (some ⟨g, 0, none⟩) (11 + h) c, _, _, _, _, _, _, _, _, _, _, _, _, _, _, _, _, _, _, _, _, _, _, _, _, _, _, _, _, _, _, _, _, _, _, _, _, _, .int .i64 LF, .int .i64 (h : Int), .int .u64 (h : Int), .int .i64 ((2 ^ h : Nat) : Int), .bool false, .bool false, .slice a text.length cap, .slice (some ⟨g, 0, none⟩) (11 + h) c, .slice (some ⟨g, 0, none⟩) 11 c, _, .int .i64 LF, .slice (some ⟨g, 0, none⟩) (11 + h) c, .slice (some ⟨g, o, none⟩) h (c - 11), _, _, _, _, _], defers := _ } _
        refine along_move (v := .string root) rfl rfl rfl rfl ?_
        change Along _ _ _ _ { tmps := #[.string root, .int .i64 (h : Int), .slice a text.length cap, _, _, _, _, _, _, _, .int .i64 LF, .slice (some ⟨g, 0, none⟩) (11 + h) c, _, _, _, _, _, _, _, _, _, _, _, _, _, _, _, _, _, _, _, _, _, _, _, _, _, _, _, _, _, _, _, _, _, _, _, _, _, .int .i64 LF, .int .i64 (h : Int), .int .u64 (h : Int), .int .i64 ((2 ^ h : Nat) : Int), .bool false, .bool false, .slice a text.length cap, .slice (some ⟨g, 0, none⟩) (11 + h) c, .slice (some ⟨g, 0, none⟩) 11 c, _, .int .i64 LF, .slice (some ⟨g, 0, none⟩) (11 + h) c, .slice (some ⟨g, o, none⟩) h (c - 11), _, .string root, _, _, _], defers := _ } _
        refine along_call (vs := [.slice a text.length cap, .slice (some ⟨g, 0, none⟩) 11 c]) rfl rfl rfl (enters_of Tryz.func65 (by kernel_rfl) rfl) rfl ?_
        with_reducible refine Calls.mono (Hopen.out _ _ (Up.drew HB.out) (HS5.out _ (Up.drew1 wr))) ?_
        rintro e w8 ⟨rfl, hU8⟩
        refine ⟨_, rfl, hU8, ?_⟩
        change Along _ _ _ _ { tmps := #[.string root, .int .i64 (h : Int), .slice a text.length cap, _, _, _, _, _, _, _, .int .i64 LF, .slice (some ⟨g, 0, none⟩) (11 + h) c, _, _, _, _, _, _, _, _, _, _, _, _, _, _, _, _, _, _, _, _, _, _, _, _, _, _, _, _, _, _, _, _, _, _, _, _, _, .int .i64 LF, .int .i64 (h : Int), .int .u64 (h : Int), .int .i64 ((2 ^ h : Nat) : Int), .bool false, .bool false, .slice a text.length cap, .slice (some ⟨g, 0, none⟩) (11 + h) c, .slice (some ⟨g, 0, none⟩) 11 c, .string (strOfNums (openB text (sigParts sig))), .int .i64 LF, .slice (some ⟨g, 0, none⟩) (11 + h) c, .slice (some ⟨g, o, none⟩) h (c - 11), _, .string root, _, _, _], defers := _ } _
        refine along_call (vs := [.string (strOfNums (openB text (sigParts sig))), .int .i64 LF, .slice (some ⟨g, o, none⟩) h (c - 11)]) rfl rfl rfl (enters_of Tryz.func64 (by kernel_rfl) rfl) rfl ?_
        with_reducible refine Calls.mono (Hclimb.out _ _ (HS6.out _ (Up.trans (Up.drew1 wr) hU8))) ?_
        rintro e w9 ⟨rfl, hU9⟩
        refine ⟨_, rfl, hU9, ?_⟩
        change Along _ _ _ _ { tmps := #[.string root, .int .i64 (h : Int), .slice a text.length cap, _, _, _, _, _, _, _, .int .i64 LF, .slice (some ⟨g, 0, none⟩) (11 + h) c, _, _, _, _, _, _, _, _, _, _, _, _, _, _, _, _, _, _, _, _, _, _, _, _, _, _, _, _, _, _, _, _, _, _, _, _, _, .int .i64 LF, .int .i64 (h : Int), .int .u64 (h : Int), .int .i64 ((2 ^ h : Nat) : Int), .bool false, .bool false, .slice a text.length cap, .slice (some ⟨g, 0, none⟩) (11 + h) c, .slice (some ⟨g, 0, none⟩) 11 c, .string (strOfNums (openB text (sigParts sig))), .int .i64 LF, .slice (some ⟨g, 0, none⟩) (11 + h) c, .slice (some ⟨g, o, none⟩) h (c - 11), .string CL, .string root, _, _, _], defers := _ } _
        refine along_bin (v := .bool (CL.toList != root.toList)) (fun wx => neq_str _ _ CL root wx) rfl rfl rfl rfl rfl ?_
        change Along _ _ _ _ { tmps := #[.string root, .int .i64 (h : Int), .slice a text.length cap, _, _, _, _, _, _, _, .int .i64 LF, .slice (some ⟨g, 0, none⟩) (11 + h) c, _, _, _, _, _, _, _, _, _, _, _, _, _, _, _, _, _, _, _, _, _, _, _, _, _, _, _, _, _, _, _, _, _, _, _, _, _, .int .i64 LF, .int .i64 (h : Int), .int .u64 (h : Int), .int .i64 ((2 ^ h : Nat) : Int), .bool false, .bool false, .slice a text.length cap, .slice (some ⟨g, 0, none⟩) (11 + h) c, .slice (some ⟨g, 0, none⟩) 11 c, .string (strOfNums (openB text (sigParts sig))), .int .i64 LF, .slice (some ⟨g, 0, none⟩) (11 + h) c, .slice (some ⟨g, o, none⟩) h (c - 11), .string CL, .string root, .bool (CL.toList != root.toList), _, _], defers := _ } _
        refine along_pickf (v := .bool (CL.toList != root.toList)) rfl rfl rfl rfl rfl ?_
        change Along _ _ _ _ { tmps := #[.string root, .int .i64 (h : Int), .slice a text.length cap, _, _, _, _, _, _, _, .int .i64 LF, .slice (some ⟨g, 0, none⟩) (11 + h) c, _, _, _, _, _, _, _, _, _, _, _, _, _, _, _, _, _, _, _, _, _, _, _, _, _, _, _, _, _, _, _, _, _, _, _, _, _, .int .i64 LF, .int .i64 (h : Int), .int .u64 (h : Int), .int .i64 ((2 ^ h : Nat) : Int), .bool false, .bool false, .slice a text.length cap, .slice (some ⟨g, 0, none⟩) (11 + h) c, .slice (some ⟨g, 0, none⟩) 11 c, .string (strOfNums (openB text (sigParts sig))), .int .i64 LF, .slice (some ⟨g, 0, none⟩) (11 + h) c, .slice (some ⟨g, o, none⟩) h (c - 11), .string CL, .string root, .bool (CL.toList != root.toList), .bool (CL.toList != root.toList), _], defers := _ } _
        refine along_done ?_
        have HU9 := Lib.hid (Up.trans (Up.trans (Up.drew HB.out) hU8) hU9)
        by_cases heq : CL = root
        · have Hg := Lib.hid (Hgood.out.2 ⟨Hlt.out, heq⟩)
          subst heq
          have hne : (CL.toList != CL.toList) = false := by simp
          rw [hne]
          clear hU8 hU9
          go_wp2
          exact Hyes.out _ Hg.out HU9.out
        · have hng : ¬ GOOD := fun h => heq (Hgood.out.1 h).2
          have Hng := Lib.hid hng
          have hne : (CL.toList != root.toList) = true := by
            rw [bne_iff_ne]
            exact fun h => heq (toList_inj h)
          rw [hne]
          clear hng hne hU8 hU9
          go_wp2
          exact Hno.out _ Hng.out HU9.out
      · have hng : ¬ GOOD := fun h => hlt (Hgood.out.1 h).1
        have Hng := Lib.hid hng
        have hge2 : decide (((2 ^ h : Nat) : Int) ≤ LF) = true := by rw [decide_eq_true_iff]; omega
        clear hng hlt
        go_wp2
        refine region_along [(0, true), (1, true), (2, true), (3, true), (4, true), (5, true), (6, true), (7, true), (8, true), (9, true), (10, true), (11, true), (12, true), (13, true), (14, true), (15, true), (16, true)] (by kernel_rfl) rfl (by kernel_rfl) (by kernel_rfl) (fun c a d v w h => by cases d <;> exact h) ?_
        refine along_move (v := .int .i64 LF) rfl rfl rfl rfl ?_
        change Along _ _ _ _ { tmps := #[.string root, .int .i64 (h : Int), .slice a text.length cap, _, _, _, _, _, _, _, .int .i64 LF, .slice (some ⟨g, 0, none⟩) (11 + h) c, _, _, _, _, _, _, _, _, _, _, _, _, _, _, _, _, _, _, _, _, _, _, _, _, _, _, _, _, _, _, _, _, _, _, _, _, _, .int .i64 LF, _, _, _, _, _, _, _, _, _, _, _, _, _, _, _, _, _], defers := _ } _
        refine along_move (v := .int .i64 (h : Int)) rfl rfl rfl rfl ?_
        change Along _ _ _ _ { tmps := #[.string root, .int .i64 (h : Int), .slice a text.length cap, _, _, _, _, _, _, _, .int .i64 LF, .slice (some ⟨g, 0, none⟩) (11 + h) c, _, _, _, _, _, _, _, _, _, _, _, _, _, _, _, _, _, _, _, _, _, _, _, _, _, _, _, _, _, _, _, _, _, _, _, _, _, .int .i64 LF, .int .i64 (h : Int), _, _, _, _, _, _, _, _, _, _, _, _, _, _, _, _], defers := _ } _
        refine along_conv (v := .int .i64 (h : Int)) (u := .int .u64 (h : Int)) rfl rfl rfl rfl (fun wx _ => conv_iu h h4 wx) ?_
        change Along _ _ _ _ { tmps := #[.string root, .int .i64 (h : Int), .slice a text.length cap, _, _, _, _, _, _, _, .int .i64 LF, .slice (some ⟨g, 0, none⟩) (11 + h) c, _, _, _, _, _, _, _, _, _, _, _, _, _, _, _, _, _, _, _, _, _, _, _, _, _, _, _, _, _, _, _, _, _, _, _, _, _, .int .i64 LF, .int .i64 (h : Int), .int .u64 (h : Int), _, _, _, _, _, _, _, _, _, _, _, _, _, _, _], defers := _ } _
        refine along_bin (v := .int .i64 ((2 ^ h : Nat) : Int)) (fun wx => shl_one _ _ h h4 wx) rfl rfl rfl rfl rfl ?_
        change Along _ _ _ _ { tmps := #[.string root, .int .i64 (h : Int), .slice a text.length cap, _, _, _, _, _, _, _, .int .i64 LF, .slice (some ⟨g, 0, none⟩) (11 + h) c, _, _, _, _, _, _, _, _, _, _, _, _, _, _, _, _, _, _, _, _, _, _, _, _, _, _, _, _, _, _, _, _, _, _, _, _, _, .int .i64 LF, .int .i64 (h : Int), .int .u64 (h : Int), .int .i64 ((2 ^ h : Nat) : Int), _, _, _, _, _, _, _, _, _, _, _, _, _, _], defers := _ } _
        refine along_bin (v := .bool true) (fun wx => geq_t _ _ LF ((2 ^ h : Nat) : Int) hge2 wx) rfl rfl rfl rfl rfl ?_
        change Along _ _ _ _ { tmps := #[.string root, .int .i64 (h : Int), .slice a text.length cap, _, _, _, _, _, _, _, .int .i64 LF, .slice (some ⟨g, 0, none⟩) (11 + h) c, _, _, _, _, _, _, _, _, _, _, _, _, _, _, _, _, _, _, _, _, _, _, _, _, _, _, _, _, _, _, _, _, _, _, _, _, _, .int .i64 LF, .int .i64 (h : Int), .int .u64 (h : Int), .int .i64 ((2 ^ h : Nat) : Int), .bool true, _, _, _, _, _, _, _, _, _, _, _, _, _], defers := _ } _
        refine along_move (v := .bool true) rfl rfl rfl rfl ?_
        change Along _ _ _ _ { tmps := #[.string root, .int .i64 (h : Int), .slice a text.length cap, _, _, _, _, _, _, _, .int .i64 LF, .slice (some ⟨g, 0, none⟩) (11 + h) c, _, _, _, _, _, _, _, _, _, _, _, _, _, _, _, _, _, _, _, _, _, _, _, _, _, _, _, _, _, _, _, _, _, _, _, _, _, .int .i64 LF, .int .i64 (h : Int), .int .u64 (h : Int), .int .i64 ((2 ^ h : Nat) : Int), .bool true, .bool true, _, _, _, _, _, _, _, _, _, _, _, _], defers := _ } _
        refine along_skip rfl rfl ?_
        change Along _ _ _ _ { tmps := #[.string root, .int .i64 (h : Int), .slice a text.length cap, _, _, _, _, _, _, _, .int .i64 LF, .slice (some ⟨g, 0, none⟩) (11 + h) c, _, _, _, _, _, _, _, _, _, _, _, _, _, _, _, _, _, _, _, _, _, _, _, _, _, _, _, _, _, _, _, _, _, _, _, _, _, .int .i64 LF, .int .i64 (h : Int), .int .u64 (h : Int), .int .i64 ((2 ^ h : Nat) : Int), .bool true, .bool true, undef, _, _, _, _, _, _, _, _, _, _, _], defers := _ } _
        refine along_skip rfl rfl ?_
        change Along _ _ _ _ { tmps := #[.string root, .int .i64 (h : Int), .slice a text.length cap, _, _, _, _, _, _, _, .int .i64 LF, .slice (some ⟨g, 0, none⟩) (11 + h) c, _, _, _, _, _, _, _, _, _, _, _, _, _, _, _, _, _, _, _, _, _, _, _, _, _, _, _, _, _, _, _, _, _, _, _, _, _, .int .i64 LF, .int .i64 (h : Int), .int .u64 (h : Int), .int .i64 ((2 ^ h : Nat) : Int), .bool true, .bool true, undef, undef, _, _, _, _, _, _, _, _, _, _], defers := _ } _
        refine along_skip rfl rfl ?_
        change Along _ _ _ _ { tmps := #[.string root, .int .i64 (h : Int), .slice a text.length cap, _, _, _, _, _, _, _, .int .i64 LF, .slice (some ⟨g, 0, none⟩) (11 + h) c, _, _, _, _, _, _, _, _, _, _, _, _, _, _, _, _, _, _, _, _, _, _, _, _, _, _, _, _, _, _, _, _, _, _, _, _, _, .int .i64 LF, .int .i64 (h : Int), .int .u64 (h : Int), .int .i64 ((2 ^ h : Nat) : Int), .bool true, .bool true, undef, undef, undef, _, _, _, _, _, _, _, _, _], defers := _ } _
        refine along_skip rfl rfl ?_
        change Along _ _ _ _ { tmps := #[.string root, .int .i64 (h : Int), .slice a text.length cap, _, _, _, _, _, _, _, .int .i64 LF, .slice (some ⟨g, 0, none⟩) (11 + h) c, _, _, _, _, _, _, _, _, _, _, _, _, _, _, _, _, _, _, _, _, _, _, _, _, _, _, _, _, _, _, _, _, _, _, _, _, _, .int .i64 LF, .int .i64 (h : Int), .int .u64 (h : Int), .int .i64 ((2 ^ h : Nat) : Int), .bool true, .bool true, undef, undef, undef, undef, _, _, _, _, _, _, _, _], defers := _ } _
        refine along_skip rfl rfl ?_
        change Along _ _ _ _ { tmps := #[.string root, .int .i64 (h : Int), .slice a text.length cap, _, _, _, _, _, _, _, .int .i64 LF, .slice (some ⟨g, 0, none⟩) (11 + h) c, _, _, _, _, _, _, _, _, _, _, _, _, _, _, _, _, _, _, _, _, _, _, _, _, _, _, _, _, _, _, _, _, _, _, _, _, _, .int .i64 LF, .int .i64 (h : Int), .int .u64 (h : Int), .int .i64 ((2 ^ h : Nat) : Int), .bool true, .bool true, undef, undef, undef, undef, undef, _, _, _, _, _, _, _], defers := _ } _
        refine along_skip rfl rfl ?_
        change Along _ _ _ _ { tmps := #[.string root, .int .i64 (h : Int), .slice a text.length cap, _, _, _, _, _, _, _, .int .i64 LF, .slice (some ⟨g, 0, none⟩) (11 + h) c, _, _, _, _, _, _, _, _, _, _, _, _, _, _, _, _, _, _, _, _, _, _, _, _, _, _, _, _, _, _, _, _, _, _, _, _, _, .int .i64 LF, .int .i64 (h : Int), .int .u64 (h : Int), .int .i64 ((2 ^ h : Nat) : Int), .bool true, .bool true, undef, undef, undef, undef, undef, undef, _, _, _, _, _, _], defers := _ } _
        refine along_skip rfl rfl ?_
        change Along _ _ _ _ { tmps := #[.string root, .int .i64 (h : Int), .slice a text.length cap, _, _, _, _, _, _, _, .int .i64 LF, .slice (some ⟨g, 0, none⟩) (11 + h) c, _, _, _, _, _, _, _, _, _, _, _, _, _, _, _, _, _, _, _, _, _, _, _, _, _, _, _, _, _, _, _, _, _, _, _, _, _, .int .i64 LF, .int .i64 (h : Int), .int .u64 (h : Int), .int .i64 ((2 ^ h : Nat) : Int), .bool true, .bool true, undef, undef, undef, undef, undef, undef, undef, _, _, _, _, _], defers := _ } _
        refine along_skip rfl rfl ?_
        change Along _ _ _ _ { tmps := #[.string root, .int .i64 (h : Int), .slice a text.length cap, _, _, _, _, _, _, _, .int .i64 LF, .slice (some ⟨g, 0, none⟩) (11 + h) c, _, _, _, _, _, _, _, _, _, _, _, _, _, _, _, _, _, _, _, _, _, _, _, _, _, _, _, _, _, _, _, _, _, _, _, _, _, .int .i64 LF, .int .i64 (h : Int), .int .u64 (h : Int), .int .i64 ((2 ^ h : Nat) : Int), .bool true, .bool true, undef, undef, undef, undef, undef, undef, undef, undef, _, _, _, _], defers := _ } _
        refine along_skip rfl rfl ?_
        change Along _ _ _ _ { tmps := #[.string root, .int .i64 (h : Int), .slice a text.length cap, _, _, _, _, _, _, _, .int .i64 LF, .slice (some ⟨g, 0, none⟩) (11 + h) c, _, _, _, _, _, _, _, _, _, _, _, _, _, _, _, _, _, _, _, _, _, _, _, _, _, _, _, _, _, _, _, _, _, _, _, _, _, .int .i64 LF, .int .i64 (h : Int), .int .u64 (h : Int), .int .i64 ((2 ^ h : Nat) : Int), .bool true, .bool true, undef, undef, undef, undef, undef, undef, undef, undef, undef, _, _, _], defers := _ } _
        refine along_skip rfl rfl ?_
        change Along _ _ _ _ { tmps := #[.string root, .int .i64 (h : Int), .slice a text.length cap, _, _, _, _, _, _, _, .int .i64 LF, .slice (some ⟨g, 0, none⟩) (11 + h) c, _, _, _, _, _, _, _, _, _, _, _, _, _, _, _, _, _, _, _, _, _, _, _, _, _, _, _, _, _, _, _, _, _, _, _, _, _, .int .i64 LF, .int .i64 (h : Int), .int .u64 (h : Int), .int .i64 ((2 ^ h : Nat) : Int), .bool true, .bool true, undef, undef, undef, undef, undef, undef, undef, undef, undef, undef, _, _], defers := _ } _
        refine along_pick (v := .bool true) rfl rfl rfl rfl rfl ?_
        change Along _ _ _ _ { tmps := #[.string root, .int .i64 (h : Int), .slice a text.length cap, _, _, _, _, _, _, _, .int .i64 LF, .slice (some ⟨g, 0, none⟩) (11 + h) c, _, _, _, _, _, _, _, _, _, _, _, _, _, _, _, _, _, _, _, _, _, _, _, _, _, _, _, _, _, _, _, _, _, _, _, _, _, .int .i64 LF, .int .i64 (h : Int), .int .u64 (h : Int), .int .i64 ((2 ^ h : Nat) : Int), .bool true, .bool true, undef, undef, undef, undef, undef, undef, undef, undef, undef, undef, .bool true, _], defers := _ } _
        refine along_done ?_
        have HU9 := Lib.hid (Up.drew HB.out)
        go_wp2
        exact Hno.out _ Hng.out HU9.out

/-- the reference's Verify, of whatever comes in -/
theorem refVerify_any (root : ByteArray) (h : Int) (v : Value) (text : List Int) (sig : List Int) (w : World) (hv : Ints .u8 w v text) (hut : U8s text) (hlt : text.length ≤ 140737488355200) (hu : U8s sig) (hl : sig.length ≤ 9223372036854775807) :
    Calls Tryz.prog 37 #[.string root, .int .i64 h, v, .string (strOfNums sig)] w (SigTold root h text sig w) := by
  by_cases hh : h < 0 ∨ 4 < h
  · exact refVerify_range root h v text sig w hv hh
  · obtain ⟨n, rfl⟩ : ∃ n : Nat, h = n := ⟨h.toNat, by omega⟩
    by_cases hs : sig.length = 90 + 8 * n
    · exact refVerify_long root n v text sig w hv hut hlt hu (by omega) hs
    · exact refVerify_size root n v text sig w hv (by omega) hs hl
end
end Go.Proofs.YtfenmhddlojahaaGreat
