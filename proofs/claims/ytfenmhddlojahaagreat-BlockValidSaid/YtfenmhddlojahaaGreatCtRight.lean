import Derived.Test.YtfenmhddlojahaaGreatCtArgs
import Derived.Test.YtfenmhddlojahaaGreatVtMake
import Derived.Test.YtfenmhddlojahaaGreatCtKit
import Derived.Test.YtfenmhddlojahaaGreatCtFirst
namespace Go.Proofs.YtfenmhddlojahaaGreat
/-
  What is wrong with a vote of a cert: the closure that keeps the last Signer.
-/
section
set_option maxRecDepth 100000
section
set_option linter.unusedVariables false
open Go.RowKit Go.Sort Go.Lib

/-- a statement is valid -/
noncomputable def vgB (ls : List (List Int)) (x : Vs) : Bool := @decide (VtGood x.1 (octsOf x.2) ls) (Classical.propDecidable _)
/-- what is wrong -/
noncomputable def wrongB (V H : Int) (B : ByteArray) (ls : List (List Int)) (last : Int) (x : Vs) : Bool := !decide (last < x.1.G) || !vsOf V H B x || !vgB ls x
theorem valid_vs (x : Vs) (hx : VsOk x) (rv : Value) (ls : List (List Int)) (w : World) (hs : Strs w rv ls) (hll : ls.length ≤ 9223372036854775807) :
    Calls Tryz.prog 60 #[.agg (vsA x), rv] w fun e w' => e = .returned (.bool (vgB ls x)) ∧ Up w w' := by
  obtain ⟨h1, _, _, _, _, _, _, h8⟩ := hx
  have h := vtValid_any x.1 (octsOf x.2) rv ls w hs h1 (octsOf_u8s _) (by rw [octsOf_length]; exact h8) hll
  rw [strOf_octs] at h
  rw [vsA_eq]
  refine h.mono ?_
  rintro e w' ⟨b, rfl, g1, g2, hu⟩
  refine ⟨?_, hu⟩
  unfold vgB
  by_cases hg : VtGood x.1 (octsOf x.2) ls
  · rw [g1 hg]; simp [hg]
  · rw [g2 hg]; simp [hg]
/-- where all lies -/
structure Vb (w0 : World) (LB CB RB M : Nat) (V H : Int) (B : ByteArray) (rv : Value) (last : Int) (w : World) : Prop where
  up : Up w0 w
  lb : w.heap[LB]? = some (.cells #[.int .i64 last] 3 (0, 0))
  told : Told w CB M V H B
  rb : w.heap[RB]? = some (.cells #[rv] 25 (0, 0))
theorem Vb.later {w0 : World} {LB CB RB M : Nat} {V H : Int} {B : ByteArray} {rv : Value} {last : Int} {w w' : World} (h : Vb w0 LB CB RB M V H B rv last w) (u : Up w w') : Vb w0 LB CB RB M V H B rv last w' :=
  ⟨Up.trans h.up u, (u.block _ (lt_of_block h.lb)).trans h.lb, ⟨(u.block _ (lt_of_block h.told.1)).trans h.told.1, (u.block _ (lt_of_block h.told.2)).trans h.told.2⟩, (u.block _ (lt_of_block h.rb)).trans h.rb⟩
theorem Vb.put {w0 : World} {LB CB RB M : Nat} {V H : Int} {B : ByteArray} {rv : Value} {last : Int} {w : World} (h : Vb w0 LB CB RB M V H B rv last w) (hL : w0.heap.size ≤ LB) (hrv : ∀ i, rv ≠ .int .i64 i) (n : Int) : Vb w0 LB CB RB M V H B rv n (w.setCell ⟨LB, 0, none⟩ (.int .i64 n)) := by
  have k : KeptBut (fun k => k = LB) w (w.setCell ⟨LB, 0, none⟩ (.int .i64 n)) := KeptBut.of_grown (grownBy_setCell w ⟨LB, 0, none⟩ _) (fun k e => by cases e; rfl)
  have n1 : CB ≠ LB := by
    rintro rfl
    have := h.lb.symm.trans h.told.1
    simp [forV] at this
  have n2 : M ≠ LB := by
    rintro rfl
    have := h.lb.symm.trans h.told.2
    simp at this
  have n3 : RB ≠ LB := by
    rintro rfl
    have := h.lb.symm.trans h.rb
    simp only [Option.some.injEq, Obj.cells.injEq, Array.mk.injEq, List.cons.injEq, and_true] at this
    exact hrv _ this.1.symm
  refine ⟨up_at h.up (grownBy_setCell w ⟨LB, 0, none⟩ _) hL, set_field h.lb 0 _ rfl, ⟨?_, ?_⟩, ?_⟩
  · exact (k.block CB (lt_of_block h.told.1) n1).trans h.told.1
  · exact (k.block M (lt_of_block h.told.2) n2).trans h.told.2
  · exact (k.block RB (lt_of_block h.rb) n3).trans h.rb

theorem ex_stoi {o : Oper} {x y : Operand} {ρ : Operand → Value} {w : World} {cb i : Nat} {cs : Array Value} {ty : TypeId} {n : Int} (hop : o.op = .store 3 x y) (hx : ρ x = .pointer (some ⟨cb, i, none⟩)) (hy : ρ y = .int .i64 n)
    (hg : w.heap[cb]? = some (.cells cs ty (0, 0))) (hi : i < cs.size) : (execOp ρ o).run Tryz.prog w = .ok .skip (w.setCell ⟨cb, i, none⟩ (.int .i64 n)) := by
  have h1 := run_storeCells_cells (P := Tryz.prog) cb i [.int .i64 n] 0 w (fun j hj => by
      have : j = 0 := by simpa using hj
      subst this
      rw [Nat.add_zero, cell_of_row _ _ i _ _ _ hg, Array.getElem?_eq_getElem hi]; rfl)
    (fun j hj => by
      have : j = 0 := by simpa using hj
      subst this
      exact frozen_of_row _ _ _ _ _ hg)
    (fun u hu => by simp at hu; subst hu; simp [Value.oneCell'])
  have h2 : w.setCells cb (i + 0) [.int .i64 n] = w.setCell ⟨cb, i, none⟩ (.int .i64 n) := rfl
  rw [h2] at h1
  unfold execOp; rw [hop]; simp only [hx, hy]
  simp [Instr.storeAt, Instr.sureAddr, storeVar, Value.cells, Tryz.sizeOf3, h1, Result.andThen]

set_option maxHeartbeats 2000000 in
theorem wrong_any (w0 : World) (LB CB RB M : Nat) (V H : Int) (B : ByteArray) (rv : Value) (ls : List (List Int)) (hs : Strs w0 rv ls) (hll : ls.length ≤ 9223372036854775807) (hL : w0.heap.size ≤ LB) (last : Int) (x : Vs) (hx : VsOk x) (w : World) (hb : Vb w0 LB CB RB M V H B rv last w) :
    Calls Tryz.prog 59 (#[.agg (vsA x)] ++ #[.pointer (some ⟨LB, 0, none⟩), .pointer (some ⟨CB, 0, none⟩), .pointer (some ⟨RB, 0, none⟩)]) w fun e w' => e = .returned (.bool (wrongB V H B ls last x)) ∧ Vb w0 LB CB RB M V H B rv x.1.G w' := by
  have hrv : ∀ i, rv ≠ .int .i64 i := fun i e => by obtain ⟨a, c, h, _⟩ := hs; rw [h] at e; cases e
  have HVL : Hid (∀ wx, Up w0 wx → Calls Tryz.prog 60 #[.agg (vsA x), rv] wx fun e w' => e = .returned (.bool (vgB ls x)) ∧ Up wx w') := fun wx hu => valid_vs x hx rv ls wx (hs.up hu) hll
  have HCN : Hid (∀ wx, wx.heap[M]? = some (.cells #[.int .i64 V, .int .i64 H, .string B] 27 (0, 0)) → Calls Tryz.prog 73 #[.agg (vsA x), .pointer (some ⟨M, 0, none⟩)] wx fun e w' => e = .returned (.bool (vsOf V H B x)) ∧ Gr wx w') := fun wx h => counts_gr V H B M x wx h
  have h1 := hb.later (Up.alloc (Up.refl w) (.cells (vsA x) 49))
  have HB1 := Lib.hid (heap_alloc_new w (.cells (vsA x) 49))
  have hnb : w.heap.size ≠ LB := fun e => by have := lt_of_block hb.lb; omega
  unfold wrongB
  generalize vgB ls x = VG at HVL ⊢
  generalize vsOf V H B x = VC at HCN ⊢
  obtain ⟨⟨K, V1, H1, BL, T, G⟩, SG⟩ := x
  show Calls Tryz.prog 59 #[.agg (vsA (⟨K, V1, H1, BL, T, G⟩, SG)), .pointer (some ⟨LB, 0, none⟩), .pointer (some ⟨CB, 0, none⟩), .pointer (some ⟨RB, 0, none⟩)] w fun e w' => e = .returned (.bool (!decide (last < G) || !VC || !VG)) ∧ Vb w0 LB CB RB M V H B rv G w'
  have HW1 := Lib.hid h1
  have HP : Hid (∀ wx, Vb w0 LB CB RB M V H B rv last wx → Vb w0 LB CB RB M V H B rv G (wx.setCell ⟨LB, 0, none⟩ (.int .i64 G))) := fun wx h => h.put hL hrv G
  clear h1 hb hs hx hrv
  go_enter Tryz.func59, Tryz.ntmps59
  have HBX : Hid ((w.alloc (.cells (vsA (⟨K, V1, H1, BL, T, G⟩, SG)) 49)).heap[w.heap.size]? = some (.cells #[.int .i64 K, .int .i64 V1, .int .i64 H1, .string (strOfNums BL), .int .i64 T, .int .i64 G, .string SG] 49 (0, 0))) := HB1.out
  have hva : vsA (⟨K, V1, H1, BL, T, G⟩, SG) = #[.int .i64 K, .int .i64 V1, .int .i64 H1, .string (strOfNums BL), .int .i64 T, .int .i64 G, .string SG] := rfl
  rw [hva] at HW1 HBX HVL HCN ⊢
  generalize strOfNums BL = BS at HW1 HBX HVL HCN ⊢
  clear hva HB1
  have k2 : KeptBut (fun k => k = LB) (w.alloc (.cells #[.int .i64 K, .int .i64 V1, .int .i64 H1, .string BS, .int .i64 T, .int .i64 G, .string SG] 49)) ((w.alloc (.cells #[.int .i64 K, .int .i64 V1, .int .i64 H1, .string BS, .int .i64 T, .int .i64 G, .string SG] 49)).setCell ⟨LB, 0, none⟩ (.int .i64 G)) := KeptBut.of_grown (grownBy_setCell _ ⟨LB, 0, none⟩ _) (fun k e => by cases e; rfl)
  have HBX2 := Lib.hid ((k2.block w.heap.size (lt_of_block HBX.out) hnb).trans HBX.out)
  have HW2 := Lib.hid (HP.out _ HW1.out)
  clear k2 HP hnb hll hL
  have d5 := (vt_cells HBX.out).2.2.2.2.2.1
  have l0 := cell_of_row _ _ 0 _ _ _ HW1.out.lb
  simp only [List.getElem?_toArray, List.getElem?_cons_zero] at l0
  have HLB := Lib.hid HW1.out.lb
  by_cases hlt : last < G
  · rw [decide_eq_true hlt]
    go_wp2_with (refine wpList_exs rfl _ (ex_stoi (x := .tmp 1) (y := .tmp 12) rfl rfl rfl HLB.out (by simp)) ?_; generalize (w.alloc (.cells #[.int .i64 K, .int .i64 V1, .int .i64 H1, .string BS, .int .i64 T, .int .i64 G, .string SG] 49)).setCell ⟨LB, 0, none⟩ (.int .i64 G) = w2 at HW2 HBX2 ⊢; obtain ⟨e0, e1, e2, e3, e4, e5, e6⟩ := vt_cells HBX2.out; have k0 : w2.cell? ⟨CB, 0, none⟩ = some (.func (.func 73) #[] #[.pointer (some ⟨M, 0, none⟩)]) := cell_of_row _ _ 0 _ _ _ HW2.out.told.1; have r0 : w2.cell? ⟨RB, 0, none⟩ = some rv := cell_of_row _ _ 0 _ _ _ HW2.out.rb)
    have HC2 := HCN.out _ HW2.out.told.2
    with_reducible refine Calls.mono HC2 ?_
    clear HC2
    rintro e w3 ⟨rfl, g3⟩
    have HW3 := Lib.hid (HW2.out.later g3.up)
    have HBX3 := Lib.hid (g3.block HBX2.out)
    clear g3 k0 r0 e0 e1 e2 e3 e4 e5 e6
    have r0 : w3.cell? ⟨RB, 0, none⟩ = some rv := cell_of_row _ _ 0 _ _ _ HW3.out.rb
    obtain ⟨e0, e1, e2, e3, e4, e5, e6⟩ := vt_cells HBX3.out
    cases VC with
    | false =>
      go_wp2
      go_ret
      exact ⟨rfl, HW3.out⟩
    | true =>
      go_wp2_with fail
      with_reducible refine Calls.mono (HVL.out w3 HW3.out.up) ?_
      rintro e w4 ⟨rfl, u4⟩
      go_wp2
      go_ret
      exact ⟨by simp, HW3.out.later u4⟩
  · rw [decide_eq_false hlt]
    go_wp2_with (refine wpList_exs rfl _ (ex_stoi (x := .tmp 1) (y := .tmp 12) rfl rfl rfl HLB.out (by simp)) ?_; generalize (w.alloc (.cells #[.int .i64 K, .int .i64 V1, .int .i64 H1, .string BS, .int .i64 T, .int .i64 G, .string SG] 49)).setCell ⟨LB, 0, none⟩ (.int .i64 G) = w2 at HW2 HBX2 ⊢; obtain ⟨e0, e1, e2, e3, e4, e5, e6⟩ := vt_cells HBX2.out; have k0 : w2.cell? ⟨CB, 0, none⟩ = some (.func (.func 73) #[] #[.pointer (some ⟨M, 0, none⟩)]) := cell_of_row _ _ 0 _ _ _ HW2.out.told.1; have r0 : w2.cell? ⟨RB, 0, none⟩ = some rv := cell_of_row _ _ 0 _ _ _ HW2.out.rb)
    go_ret
    exact ⟨rfl, HW2.out⟩
end
end

/-
  cert.isVoted of whatever cert.
-/
section
set_option maxRecDepth 100000
section
set_option linter.unusedVariables false
open Go.RowKit Go.Sort Go.Lib

/-- the Signer before -/
def lastAt (xs : List Vs) (j : Nat) : Int := if j = 0 then -1 else (xs[j - 1]?.getD default).1.G
noncomputable def wrongAt (V H : Int) (B : ByteArray) (ls : List (List Int)) (xs : List Vs) (j : Nat) : Bool := wrongB V H B ls (lastAt xs j) (xs[j]?.getD default)
/-- what a cert that was voted is -/
def VotedP (V H : Int) (B : ByteArray) (ls : List (List Int)) (xs : List Vs) (q : Int) : Prop := 1 ≤ q ∧ (xs.length : Int) = q ∧ ∀ j, j < xs.length → wrongAt V H B ls xs j = false

/-- it answers if a thing is so -/
structure SaysP (w : World) (P : Prop) (e : Ending) (w' : World) : Prop where
  ex : ∃ b : Bool, e = .returned (.bool b) ∧ (b = true ↔ P)
  up : Up w w'

set_option maxHeartbeats 2000000 in
theorem isVoted_any (V H : Int) (B : ByteArray) (a : Option Addr) (n cap : Nat) (xs : List Vs) (rv : Value) (ls : List (List Int)) (q : Int) (w : World) (hl : VArg w (.slice a n cap) xs) (hn : xs.length = n) (hsz : n < 4611686018427387904) (hs : Strs w rv ls) (hll : ls.length ≤ 9223372036854775807) (hok : ∀ (j : Nat) (x : Vs), xs[j]? = some x → VsOk x) :
    Calls Tryz.prog 31 #[.agg #[.int .i64 V, .int .i64 H, .string B, .slice a n cap], rv, .int .i64 q] w (SaysP w (VotedP V H B ls xs q)) := by
  have hs0 := hs
  obtain ⟨ra, rc, e, _⟩ := hs0
  subst e
  have u1 := Up.alloc (Up.refl w) (.cells #[.int .i64 V, .int .i64 H, .string B, .slice a n cap] 24)
  have b1 := heap_alloc_new w (.cells #[.int .i64 V, .int .i64 H, .string B, .slice a n cap] 24)
  have u2 := Up.alloc (Up.refl (w.alloc (.cells #[.int .i64 V, .int .i64 H, .string B, .slice a n cap] 24))) (.cells #[.slice ra ls.length rc] 25)
  have b2 := heap_alloc_new (w.alloc (.cells #[.int .i64 V, .int .i64 H, .string B, .slice a n cap] 24)) (.cells #[.slice ra ls.length rc] 25)
  rw [show (w.alloc (.cells #[.int .i64 V, .int .i64 H, .string B, .slice a n cap] 24)).heap.size = w.heap.size + 1 by simp] at b2
  have c1 := (u2.block _ (lt_of_block b1)).trans b1
  have HU := Lib.hid (Up.trans u1 u2)
  have HC1 := Lib.hid c1
  have HB2 := Lib.hid b2
  obtain ⟨k0, k1, k2, k3⟩ := ct_cells c1
  clear u1 b1 u2 b2 c1
  by_cases h1 : q < 1
  · have HNO : Hid (¬ VotedP V H B ls xs q) := fun h => by have := h.1; omega
    go_enter Tryz.func31, Tryz.ntmps31
    go_wp2
    go_ret
    exact ⟨⟨false, rfl, ⟨(fun h => by cases h), fun h => absurd h HNO.out⟩⟩, HU.out⟩
  · by_cases h2 : (n : Int) = q
    · subst h2
      have hn1 : 1 ≤ n := by omega
      obtain ⟨b, off, hb⟩ := hl.ptr (by omega)
      subst hb
      have HL := Lib.hid hl
      have HS := Lib.hid hs
      have HOK := Lib.hid hok
      have HN := Lib.hid hn
      clear hl hs hok hn
      go_enter Tryz.func31, Tryz.ntmps31
      go_wp2_with fail
      generalize (w.alloc (.cells #[.int .i64 V, .int .i64 H, .string B, .slice (some ⟨b, off, none⟩) n cap] 24)).alloc (.cells #[.slice ra ls.length rc] 25) = w1 at HU HC1 HB2 k0 k1 k2 k3 ⊢
      with_reducible refine Calls.mono (mark_any V H B (some ⟨b, off, none⟩) n cap w1) ?_
      rintro e w2 ⟨rfl, u2⟩
      have HC2 := Lib.hid ((u2.block _ (lt_of_block HC1.out)).trans HC1.out)
      have HB3 := Lib.hid ((u2.block _ (lt_of_block HB2.out)).trans HB2.out)
      have HU2 := Lib.hid (Up.trans HU.out u2)
      clear u2 k0 k1 k2 k3 HC1 HB2 HU
      go_wp2_with fail
      with_reducible refine Calls.mono (votesFor_any V H B w2) ?_
      rintro e w3 ⟨rfl, rfl⟩
      unfold forV
      have g1 := Up.alloc (Up.refl w2) (.cells #[.int .i64 V, .int .i64 H, .string B] 27)
      have g2 := Up.alloc (Up.refl (w2.alloc (.cells #[.int .i64 V, .int .i64 H, .string B] 27))) (.cells #[.func (.func 73) #[] #[.pointer (some ⟨w2.heap.size, 0, none⟩)]] 80)
      have g3 := Up.alloc (Up.refl ((w2.alloc (.cells #[.int .i64 V, .int .i64 H, .string B] 27)).alloc (.cells #[.func (.func 73) #[] #[.pointer (some ⟨w2.heap.size, 0, none⟩)]] 80))) (.cells #[.int .i64 (-1)] 3)
      have m1 := heap_alloc_new w2 (.cells #[.int .i64 V, .int .i64 H, .string B] 27)
      have m2 := heap_alloc_new (w2.alloc (.cells #[.int .i64 V, .int .i64 H, .string B] 27)) (.cells #[.func (.func 73) #[] #[.pointer (some ⟨w2.heap.size, 0, none⟩)]] 80)
      have m3 := heap_alloc_new ((w2.alloc (.cells #[.int .i64 V, .int .i64 H, .string B] 27)).alloc (.cells #[.func (.func 73) #[] #[.pointer (some ⟨w2.heap.size, 0, none⟩)]] 80)) (.cells #[.int .i64 (-1)] 3)
      rw [show (w2.alloc (.cells #[.int .i64 V, .int .i64 H, .string B] 27)).heap.size = w2.heap.size + 1 by simp] at m2
      rw [show ((w2.alloc (.cells #[.int .i64 V, .int .i64 H, .string B] 27)).alloc (.cells #[.func (.func 73) #[] #[.pointer (some ⟨w2.heap.size, 0, none⟩)]] 80)).heap.size = w2.heap.size + 1 + 1 by simp] at m3
      have g23 := Up.trans g2 g3
      have g13 := Up.trans g1 g23
      have HVB : Hid (Vb w (w2.heap.size + 1 + 1) (w2.heap.size + 1) (w.heap.size + 1) w2.heap.size V H B (.slice ra ls.length rc) (-1) (((w2.alloc (.cells #[.int .i64 V, .int .i64 H, .string B] 27)).alloc (.cells #[.func (.func 73) #[] #[.pointer (some ⟨w2.heap.size, 0, none⟩)]] 80)).alloc (.cells #[.int .i64 (-1)] 3))) :=
        ⟨Up.trans HU2.out g13, m3, ⟨(g3.block _ (lt_of_block m2)).trans m2, (g23.block _ (lt_of_block m1)).trans m1⟩, (g13.block _ (lt_of_block HB3.out)).trans HB3.out⟩
      have HLB : Hid (w.heap.size ≤ w2.heap.size + 1 + 1) := by have := HU2.out.size; exact Lib.hid (by omega)
      have k3 := (ct_cells ((g13.block _ (lt_of_block HC2.out)).trans HC2.out)).2.2.2
      clear g1 g2 g3 m1 m2 m3 g23 g13
      have Hcon := Lib.hid (contains_any 59 #[.pointer (some ⟨w2.heap.size + 1 + 1, 0, none⟩), .pointer (some ⟨w2.heap.size + 1, 0, none⟩), .pointer (some ⟨w.heap.size + 1, 0, none⟩)] (enters_of Tryz.func59 (by kernel_rfl) rfl)
        (fun i W => Vb w (w2.heap.size + 1 + 1) (w2.heap.size + 1) (w.heap.size + 1) w2.heap.size V H B (.slice ra ls.length rc) (lastAt xs i) W) (fun i => xs[i]?.getD default) (wrongAt V H B ls xs) b off n cap hsz
        (fun i W hi hS => by
          obtain ⟨x, hx⟩ : ∃ x, xs[i]? = some x := ⟨xs[i]'(by have := HN.out; omega), List.getElem?_eq_getElem _⟩
          rw [hx]
          exact (HL.out.up hS.up).load hx)
        (fun i W hi hS => by
          obtain ⟨x, hx⟩ : ∃ x, xs[i]? = some x := ⟨xs[i]'(by have := HN.out; omega), List.getElem?_eq_getElem _⟩
          have := wrong_any w (w2.heap.size + 1 + 1) (w2.heap.size + 1) (w.heap.size + 1) w2.heap.size V H B (.slice ra ls.length rc) ls HS.out hll HLB.out (lastAt xs i) x (HOK.out i x hx) W hS
          have e1 : wrongAt V H B ls xs i = wrongB V H B ls (lastAt xs i) x := by unfold wrongAt; rw [hx]; rfl
          have e2 : lastAt xs (i + 1) = x.1.G := by unfold lastAt; simp [hx]
          rw [e1, e2, hx]
          exact this) (((w2.alloc (.cells #[.int .i64 V, .int .i64 H, .string B] 27)).alloc (.cells #[.func (.func 73) #[] #[.pointer (some ⟨w2.heap.size, 0, none⟩)]] 80)).alloc (.cells #[.int .i64 (-1)] 3)) HVB.out)
      have HFIN : Hid (∀ k : Nat, k ≤ n → (∀ j, j < k → wrongAt V H B ls xs j = false) → (k < n → wrongAt V H B ls xs k = true) → ((!decide (k < n)) = true ↔ VotedP V H B ls xs n)) := fun k h1 h2 h3 => by
        have hN := HN.out
        constructor
        · intro h
          have hk : k = n := by simp at h; omega
          exact ⟨by omega, by omega, fun j hj => h2 j (by omega)⟩
        · rintro ⟨_, _, h⟩
          by_cases hk : k < n
          · have := h k (by omega); rw [h3 hk] at this; cases this
          · simp [hk]
      clear HVB
      go_wp2_with fail
      with_reducible refine Calls.mono Hcon.out ?_
      rintro e w5 ⟨k, p1, p2, p3, rfl, p5⟩
      have HF := Lib.hid (HFIN.out k p1 p2 p3)
      have HU5 := Lib.hid p5.up
      clear p1 p2 p3 p5
      generalize decide (k < n) = D at HF ⊢
      go_wp2
      go_ret
      exact ⟨⟨!D, rfl, HF.out⟩, HU5.out⟩
    · have HNO : Hid (¬ VotedP V H B ls xs q) := fun h => h2 (by rw [← hn]; exact h.2.1)
      have h3 : ((n : Int) != q) = true := by rw [bne_iff_ne]; exact h2
      go_enter Tryz.func31, Tryz.ntmps31
      go_wp2
      go_ret
      exact ⟨⟨false, rfl, ⟨(fun h => by cases h), fun h => absurd h HNO.out⟩⟩, HU.out⟩
end
end

/-
  cert.Check of whatever cert.
-/
section
set_option maxRecDepth 100000
section
set_option linter.unusedVariables false
open Go.RowKit Go.Sort Go.Lib

/-- a cert is right -/
def RightP (V H : Int) (B : ByteArray) (ls : List (List Int)) (xs : List Vs) (q : Int) : Prop := ((V = 0 ∧ H = 0 ∧ B = strOfNums gen32) ∧ xs.length = 0) ∨ VotedP V H B ls xs q
/-- what Check answers -/
structure CheckP (w : World) (P : Prop) (e : Ending) (w' : World) : Prop where
  yes : P → e = .returned (.int .i64 0)
  no : ¬ P → e = .returned (.int .i64 41)
  up : Up w w'

set_option maxHeartbeats 2000000 in
theorem ctCheck_any (V H : Int) (B : ByteArray) (a : Option Addr) (n cap : Nat) (xs : List Vs) (rv : Value) (ls : List (List Int)) (q : Int) (w : World) (hl : VArg w (.slice a n cap) xs) (hn : xs.length = n) (hsz : n < 4611686018427387904) (hs : Strs w rv ls) (hll : ls.length ≤ 9223372036854775807) (hok : ∀ (j : Nat) (x : Vs), xs[j]? = some x → VsOk x) :
    Calls Tryz.prog 12 #[.agg #[.int .i64 V, .int .i64 H, .string B, .slice a n cap], rv, .int .i64 q] w (CheckP w (RightP V H B ls xs q)) := by
  have HF := Lib.hid (fun wx => isFirst_any V H B a n cap _ rfl wx)
  have HV : Hid (∀ wx, Up w wx → Calls Tryz.prog 31 #[.agg #[.int .i64 V, .int .i64 H, .string B, .slice a n cap], rv, .int .i64 q] wx (SaysP wx (VotedP V H B ls xs q))) := fun wx u => isVoted_any V H B a n cap xs rv ls q wx (hl.up u) hn hsz (hs.up u) hll hok
  have HR : Hid (∀ F : Bool, F = (decide (V = 0 ∧ H = 0 ∧ B = strOfNums gen32) && ((n : Int) == 0)) → (F = true → RightP V H B ls xs q) ∧ (F = false → (RightP V H B ls xs q ↔ VotedP V H B ls xs q))) := fun F hF => by
    constructor
    · intro h
      rw [h] at hF
      have := hF.symm
      simp only [Bool.and_eq_true, decide_eq_true_eq, beq_iff_eq] at this
      exact .inl ⟨this.1, by omega⟩
    · intro h
      rw [h] at hF
      refine ⟨fun k => k.elim (fun k => ?_) id, .inr⟩
      have e : (decide (V = 0 ∧ H = 0 ∧ B = strOfNums gen32) && ((n : Int) == 0)) = true := by
        rw [Bool.and_eq_true]
        exact ⟨decide_eq_true k.1, by rw [beq_iff_eq]; omega⟩
      rw [e] at hF
      cases hF
  have HUz := Lib.hid (Up.alloc (Up.refl w) (.cells #[.int .i64 V, .int .i64 H, .string B, .slice a n cap] 24))
  have HB0 := Lib.hid (heap_alloc_new w (.cells #[.int .i64 V, .int .i64 H, .string B, .slice a n cap] 24))
  obtain ⟨hc0, hc1, hc2, hc3⟩ := ct_cells HB0.out
  clear hl hs hok hn
  generalize hF : (decide (V = 0 ∧ H = 0 ∧ B = strOfNums gen32) && ((n : Int) == 0)) = F at HF
  have HR2 := Lib.hid (HR.out F hF.symm)
  clear hF HR
  generalize RightP V H B ls xs q = R at HR2 ⊢
  go_enter Tryz.func12, Tryz.ntmps12
  go_wp2_with fail
  with_reducible refine Calls.mono (HF.out _) ?_
  rintro e w1 ⟨rfl, hU1⟩
  have B1 := Lib.hid ((hU1.block _ (lt_of_block HB0.out)).trans HB0.out)
  have HU1 := Lib.hid (Up.trans HUz.out hU1)
  clear hU1 hc0 hc1 hc2 hc3
  obtain ⟨hc0, hc1, hc2, hc3⟩ := ct_cells B1.out
  cases F with
  | true =>
    go_wp2
    go_ret
    exact ⟨fun _ => rfl, fun h => absurd (HR2.out.1 (by trivial)) h, HU1.out⟩
  | false =>
    go_wp2_with fail
    have HV1 := HV.out w1 HU1.out
    with_reducible refine Calls.mono HV1 ?_
    rintro e w2 ⟨⟨b, rfl, hb⟩, u2⟩
    have HU2 := Lib.hid (Up.trans HU1.out u2)
    have HB := Lib.hid (hb.trans (HR2.out.2 (by trivial)).symm)
    clear u2 hb HV1
    cases b with
    | true =>
      go_wp2
      go_ret
      exact ⟨fun _ => rfl, fun h => absurd (HB.out.1 (by trivial)) h, HU2.out⟩
    | false =>
      go_wp2
      go_ret
      exact ⟨fun h => (by have := HB.out.2 h; cases this), fun _ => rfl, HU2.out⟩
end
end
end Go.Proofs.YtfenmhddlojahaaGreat
