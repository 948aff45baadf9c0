import Derived.Test.YtacamknljicjmaaTxCheck
import Derived.Test.YtacamknljicjmaaPkReader
import Derived.Test.YtacamknljicjmaaAlong
namespace Go.Proofs.Ytacamknljicjmaa
/-
  tx: Read, of whatever reader.
-/
section
set_option maxRecDepth 100000
section
set_option linter.unusedVariables false
open Go.RowKit

def noTx : Array Value := #[.int .i64 0, .int .i64 0, .int .i64 0, .int .i64 0, .string ⟨#[]⟩]
theorem alloc_tx (w : World) : (Instr.alloc 31 true (.tuple #[])).run Try.prog w = .ok (.pointer (some ⟨w.heap.size, 0, none⟩)) (w.alloc (.cells noTx 31)) := by
  simp [noTx, go_sem]
theorem one_tx (f t a n : Int) (S : ByteArray) : (#[.int .i64 f, .int .i64 t, .int .i64 a, .int .i64 n, .string S] : Array Value).all (·.oneCell') = true := by simp [Value.oneCell']
theorem bld_tx (f t a n : Int) (S : ByteArray) (w : World) : (Instr.build 31 #[(0, .int .i64 f), (1, .int .i64 t), (2, .int .i64 a), (3, .int .i64 n), (4, .string S)]).run Try.prog w = .ok (.agg #[.int .i64 f, .int .i64 t, .int .i64 a, .int .i64 n, .string S]) w := by
  simp [go_sem]
theorem ex_build5 {P : Program} {o : Oper} {ρ : Operand → Value} {v : Value} {x0 x1 x2 x3 x4 : Operand} {t : TypeId} {v0 v1 v2 v3 v4 : Value} (w w' : World) (hr : (Instr.build t #[(0, v0), (1, v1), (2, v2), (3, v3), (4, v4)]).run P w = .ok v w') (hop : o.op = .build t #[(0, x0), (1, x1), (2, x2), (3, x3), (4, x4)]) (h0 : ρ x0 = v0) (h1 : ρ x1 = v1) (h2 : ρ x2 = v2) (h3 : ρ x3 = v3) (h4 : ρ x4 = v4) : (execOp ρ o).run P w = .ok (.value v) w' :=
  ex_build hop (by simp only [List.map_toArray, List.map_cons, List.map_nil, h0, h1, h2, h3, h4]) w w' hr
/-- the address of an element of an array -/
theorem ex_indexa {P : Program} {o : Oper} {ρ : Operand → Value} {x y : Operand} {t e : TypeId} {b off n k s : Nat} (hu : P.underlying t = some (.array n e)) (hsz : ∀ w, (sizeOf e).run P w = .ok s w) (hop : o.op = .indexAddr t x y) (hx : ρ x = .pointer (some ⟨b, off, none⟩)) (hk : k < n) (w : World) (hy : ρ y = .int .i64 (k : Nat) := by rfl) :
    (execOp ρ o).run P w = .ok (.value (.pointer (some ⟨b, off + k * s, none⟩))) w := by
  have h2 : ((⟨b, off, none⟩ : Addr).add (k * s)) = ⟨b, off + k * s, none⟩ := by unfold Addr.add; split <;> simp_all
  have he : P.elem t = e := by simp [Program.elem, hu]
  have hl : P.arrayLen t = n := by simp [Program.arrayLen, hu]
  have h3 := run_indexAt_array (P := P) (w := w) t ⟨b, off, none⟩ .i64 k (by rw [he, hl]; exact hu)
  have hr : (Instr.indexAt t (.pointer (some ⟨b, off, none⟩)) (.int .i64 k)).run P w = .ok (.pointer (some ⟨b, off + k * s, none⟩)) w := by
    rw [hl, if_pos ⟨by omega, by omega⟩, he, hsz] at h3
    rw [h3]
    simp [h2]
  unfold execOp; rw [hop]; simp only [hx, hy, Sem.run_bind, hr, Result.andThen_ok, Sem.run_pure]
theorem results_tx {fn : Func} {p : Tmp} (h : fn.results = #[.cell p 31]) (tmps : Array Value) (w : World) (B : Nat) (cs : Array Value) (hp : tmps.getD p undef = .pointer (some ⟨B, 0, none⟩))
    (hg : w.heap[B]? = some (.cells cs 31 (0, 0))) (hs : cs.size = 5) :
    (results fn tmps).run Try.prog w = .ok (.agg cs) w := by
  have hp' : tmps[p]?.getD undef = .pointer (some ⟨B, 0, none⟩) := by simpa using hp
  have hl := run_loadVar_row (P := Try.prog) w B 31 31 cs (0, 0) _ hg Try.underlying31 rfl (by rw [info_tx, hs])
  simp [results, h, hp', asAddr, hl]

/-- the reader's state behind the word and k numbers of a transaction -/
def rS (p : Int × List Int) : Nat → Int × List Int
  | 0 => ((rdText p.1 p.2 4096).2.1, (rdText p.1 p.2 4096).2.2)
  | k + 1 => ((rdNum (rS p k).1 (rS p k).2 1099511627776).2.1, (rdNum (rS p k).1 (rS p k).2 1099511627776).2.2)
def rX (p : Int × List Int) (k : Nat) : Int := (rdNum (rS p k).1 (rS p k).2 1099511627776).1
def rSig (p : Int × List Int) : List Int × Int × List Int := rdText (rS p 4).1 (rS p 4).2 4096
/-- what Read tells -/
def rTxC (p : Int × List Int) : Array Value :=
  if (rSig p).2.1 = 0 ∧ strOfNums (rdText p.1 p.2 4096).1 = ⟨#[116, 120]⟩ ∧ txE (rX p 0) (rX p 1) (rX p 2) (rX p 3) (strOfNums (rSig p).1) = 0 then
    txC (rX p 0) (rX p 1) (rX p 2) (rX p 3) (strOfNums (rSig p).1) else noTx
theorem rS_inv (p : Int × List Int) (h0 : p.1 ≠ 0 → p.2 = []) (hu : U8s p.2) : ∀ k, ((rS p k).1 ≠ 0 → (rS p k).2 = []) ∧ U8s (rS p k).2
  | 0 => ⟨(rdText_inv p.1 p.2 4096 h0 hu).1, (rdText_inv p.1 p.2 4096 h0 hu).2.1⟩
  | k + 1 => ⟨(rdNum_inv _ _ 1099511627776 (rS_inv p h0 hu k).1 (rS_inv p h0 hu k).2).1, (rdNum_inv _ _ 1099511627776 (rS_inv p h0 hu k).1 (rS_inv p h0 hu k).2).2.1⟩
/-- four numbers, of which k are read -/
def arrN (X : Nat → Int) (k : Nat) : Array Value := #[.int .i64 (if 0 < k then X 0 else 0), .int .i64 (if 1 < k then X 1 else 0), .int .i64 (if 2 < k then X 2 else 0), .int .i64 (if 3 < k then X 3 else 0)]
theorem arrN_next (X : Nat → Int) (k : Nat) (hk : k < 4) : (arrN X k).setIfInBounds k (.int .i64 (X k)) = arrN X (k + 1) := by
  have hc : k = 0 ∨ k = 1 ∨ k = 2 ∨ k = 3 := by omega
  rcases hc with rfl | rfl | rfl | rfl <;> simp [arrN]

set_option maxHeartbeats 2000000 in
theorem txRead_any (g : Nat) (l : Value) (E : Int) (zs : List Int) (w : World) (h : Rd w g l E zs) (h0 : E ≠ 0 → zs = []) (hu : U8s zs) (hl : ∀ k, l.ownBlock = some k → k < w.heap.size) :
    Calls Try.prog 39 #[.pointer (some ⟨g, 0, none⟩)] w fun e w' => e = .returned (.agg (rTxC (E, zs))) ∧ Reads g l w (rSig (E, zs)).2.1 (rSig (E, zs)).2.2 w' := by
  have HF : Hid (∀ W, Reads g l w E zs W → Calls Try.prog 38 #[.pointer (some ⟨g, 0, none⟩), .int .i64 4096] W fun e w' => e = .returned (.string (strOfNums (rdText E zs 4096).1)) ∧ Reads g l w (rS (E, zs) 0).1 (rS (E, zs) 0).2 w' ∧ W.grownBy w' (some g)) := fun W hW => rtext_on g l E zs 4096 w W hW hu (by omega)
  have HN : Hid (∀ (k : Nat) (W : World), Reads g l w (rS (E, zs) k).1 (rS (E, zs) k).2 W → Calls Try.prog 34 #[.pointer (some ⟨g, 0, none⟩), .int .i64 1099511627776] W fun e w' => e = .returned (.int .i64 (rX (E, zs) k)) ∧ Reads g l w (rS (E, zs) (k + 1)).1 (rS (E, zs) (k + 1)).2 w' ∧ W.grownBy w' (some g)) := fun k W hW => rnum_on g l _ _ _ w W hW (rS_inv (E, zs) h0 hu k).2 (by omega)
  have HT : Hid (∀ W, Reads g l w (rS (E, zs) 4).1 (rS (E, zs) 4).2 W → Calls Try.prog 38 #[.pointer (some ⟨g, 0, none⟩), .int .i64 4096] W fun e w' => e = .returned (.string (strOfNums (rSig (E, zs)).1)) ∧ Reads g l w (rSig (E, zs)).2.1 (rSig (E, zs)).2.2 w' ∧ W.grownBy w' (some g)) := fun W hW => rtext_on g l _ _ 4096 w W hW (rS_inv (E, zs) h0 hu 4).2 (by omega)
  have HE : Hid (∀ W, Reads g l w (rSig (E, zs)).2.1 (rSig (E, zs)).2.2 W → Calls Try.prog 58 #[.pointer (some ⟨g, 0, none⟩)] W fun e w' => e = .returned (.int .i64 (rSig (E, zs)).2.1) ∧ W = w') := fun W hW => rerr_on g l _ _ w W hW
  have Hg := Lib.hid (lt_of_block h.1)
  have H0 : Hid (Reads g l w E zs w) := Reads.start h
  have Hl := Lib.hid hl
  have hR : Hid (rTxC (E, zs) = if (rSig (E, zs)).2.1 = 0 ∧ strOfNums (rdText E zs 4096).1 = ⟨#[116, 120]⟩ ∧ txE (rX (E, zs) 0) (rX (E, zs) 1) (rX (E, zs) 2) (rX (E, zs) 3) (strOfNums (rSig (E, zs)).1) = 0 then
    txC (rX (E, zs) 0) (rX (E, zs) 1) (rX (E, zs) 2) (rX (E, zs) 3) (strOfNums (rSig (E, zs)).1) else noTx) := rfl
  generalize rTxC (E, zs) = RES at hR ⊢
  generalize (rSig (E, zs)).2.1 = E5 at HT HE hR ⊢
  generalize (rSig (E, zs)).2.2 = z5 at HT HE ⊢
  generalize strOfNums (rSig (E, zs)).1 = SG at HT hR
  generalize strOfNums (rdText E zs 4096).1 = F0 at HF hR
  generalize rX (E, zs) = X at HN hR
  generalize rS (E, zs) = T at HF HN HT
  have Hc : Hid (∀ wx, Calls Try.prog 45 #[.agg #[.int .i64 (X 0), .int .i64 (X 1), .int .i64 (X 2), .int .i64 (X 3), .string SG]] wx fun e w' => e = .returned (.int .i64 (txE (X 0) (X 1) (X 2) (X 3) SG)) ∧ Up wx w') := fun wx => check_any _ _ _ _ _ wx
  clear h h0 hu hl
  go_enter Try.func39, Try.ntmps39
  go_wp2_with fail
  with_reducible refine Calls.mono (HF.out _ (H0.out.up (Up.alloc (Up.refl w) _))) ?_
  rintro e w1 ⟨rfl, h1, h2⟩
  have H1 := Lib.hid h1
  have HB2 : Hid (w1.heap[w.heap.size]? = some (.cells noTx 31 (0, 0))) := (h2.block w.heap.size (by simp) (fun e => by have := Hg.out; simp at e; omega)).trans (heap_alloc_new w _)
  clear h1 h2
  go_wp2
  have HA0 : Hid ((w1.alloc (.cells #[.int .i64 0, .int .i64 0, .int .i64 0, .int .i64 0] 98)).heap[w1.heap.size]? = some (.cells (arrN X 0) 98 (0, 0))) := heap_alloc_new w1 _
  have HB20 : Hid ((w1.alloc (.cells #[.int .i64 0, .int .i64 0, .int .i64 0, .int .i64 0] 98)).heap[w.heap.size]? = some (.cells noTx 31 (0, 0))) := ((Up.alloc (Up.refl w1) _).block _ (lt_of_block HB2.out)).trans HB2.out
  have H10 := Lib.hid (H1.out.up (Up.alloc (Up.refl w1) (.cells #[.int .i64 0, .int .i64 0, .int .i64 0, .int .i64 0] 98)))
  have Hwne := Lib.hid (lt_of_block HB2.out)
  go_loopw [9] (fun i wr => ∃ k : Nat, k ≤ 4 ∧ i = .int .i64 k ∧ Hid (Reads g l w (T k).1 (T k).2 wr) ∧ Hid (wr.heap[w1.heap.size]? = some (.cells (arrN X k) 98 (0, 0))) ∧ Hid (wr.heap[w.heap.size]? = some (.cells noTx 31 (0, 0)))) (fun i _ => 4 - (intOf i).toNat)
  case atStart => exact ⟨0, by omega, rfl, H10, HA0, HB20⟩
  case round =>
    obtain ⟨k, hk, rfl, HRr, HAr, HBr⟩ := hrel
    by_cases hlt : k < 4
    · have Hk := Lib.hid hlt
      have Hc1 := Lib.hid (HN.out k wr HRr.out)
      have Hnx := Lib.hid (arrN_next X k hlt)
      have Hcl : Hid (∃ v, (arrN X k)[k]? = some v) := ⟨(arrN X k)[k]'(by simp [arrN]; omega), by simp⟩
      clear hk
      generalize X k = x at Hc1 Hnx
      go_wp2_with fail
      with_reducible refine Calls.mono Hc1.out ?_
      rintro e w5 ⟨rfl, h5, h6⟩
      have hA5 := (h6.block w1.heap.size (lt_of_block HAr.out) (fun e => by have := Hg.out; have := Hwne.out; simp at e; omega)).trans HAr.out
      have hB5 := (h6.block w.heap.size (lt_of_block HBr.out) (fun e => by have := Hg.out; simp at e; omega)).trans HBr.out
      have H5 := Lib.hid h5
      have HA5 := Lib.hid hA5
      have HB5 := Lib.hid hB5
      obtain ⟨v0, hv0⟩ := Hcl.out
      have hcell := (cell_of_row _ _ k _ _ _ hA5).trans hv0
      have hfr := frozen_of_row _ _ k _ _ hA5
      clear h5 h6 hA5 hB5 hv0
      go_wp2
      go_roundw
      case rel =>
        have h1 := Hwne.out
        have h2 := Hg.out
        exact ⟨k + 1, by omega, by go_num, H5.out.put (n := w1.heap.size) (grownBy_setCell _ ⟨w1.heap.size, k, none⟩ _) (by omega) (fun b hb => by have := Hl.out b hb; omega) (by omega), set_field HA5.out k (.int .i64 x) Hnx.out,
          ((grownBy_setCell w5 ⟨w1.heap.size, k, none⟩ (.int .i64 x)).block w.heap.size (lt_of_block HB5.out) (fun e => by simp at e; omega)).trans HB5.out⟩
      case measure => simp [intOf]; omega
    · obtain rfl : k = 4 := by omega
      have Hgr := Lib.hid (Nat.lt_of_lt_of_le Hg.out HRr.out.size)
      have Hne := Hwne.out
      have HC : Hid (∀ wx, wr.grownBy wx (some g) → wx.cell? ⟨w1.heap.size, 0 + 0 * 1, none⟩ = some (.int .i64 (X 0)) ∧ wx.cell? ⟨w1.heap.size, 0 + 1 * 1, none⟩ = some (.int .i64 (X 1)) ∧ wx.cell? ⟨w1.heap.size, 0 + 2 * 1, none⟩ = some (.int .i64 (X 2)) ∧ wx.cell? ⟨w1.heap.size, 0 + 3 * 1, none⟩ = some (.int .i64 (X 3))) := by
        intro wx hS
        have hb := (hS.block w1.heap.size (lt_of_block HAr.out) (fun e => by have := Hg.out; simp at e; omega)).trans HAr.out
        exact ⟨cell_of_row _ _ 0 _ _ _ hb, cell_of_row _ _ 1 _ _ _ hb, cell_of_row _ _ 2 _ _ _ hb, cell_of_row _ _ 3 _ _ _ hb⟩
      have Hlr : Hid (∀ n, wr.heap.size ≤ n → n ≠ g ∧ (∀ k, l.ownBlock = some k → k ≠ n) ∧ w.heap.size ≤ n ∧ w.heap.size ≠ n) := by
        intro n hn
        have h1 := HRr.out.size
        have h2 := Hg.out
        have h3 := lt_of_block HBr.out
        exact ⟨by omega, fun k hk => by have := Hl.out k hk; omega, by omega, by omega⟩
      have Hlw : Hid (w.heap.size ≠ g ∧ (∀ k, l.ownBlock = some k → k ≠ w.heap.size)) := ⟨by have := Hg.out; omega, fun k hk => by have := Hl.out k hk; omega⟩
      go_wp2
      clear Hne hlt hk
      generalize w1.heap.size = B4 at HC ⊢
      generalize hB2e : w.heap.size = B2 at HBr Hlw Hlr ⊢
      refine region_alongK (fun x => wr.grownBy x (some g)) (.read 0 (.read 1 (.read 2 (.read 3 (.read 4 (.read 5 (.read 6 (.read 7 (.read 8 (.fork 9 (.read 10 (.step 11 (.step 12 (.nil)))) 11 (.step 9 (.read 10 (.step 12 (.nil)))))))))))))) (by kernel_rfl) rfl (by kernel_rfl) (by kernel_rfl) (fun c a d v w h => by cases d <;> exact h) (grown_up (Up.drew1 wr) (some g)) ?_
      refine alongK_read (.pointer (some ⟨B4, 0 + 0 * 1, none⟩)) rfl rfl (fun wx hS => ex_indexa (k := 0) Try.underlying98 Try.sizeOf3 (by rfl) (by rfl) (by omega) wx) ?_
      change AlongK _ _ _ _ _ { tmps := #[.pointer (some ⟨g, 0, none⟩), _, .pointer (some ⟨B2, 0, none⟩), .string F0, .pointer (some ⟨B4, 0, none⟩), _, _, _, _, _, _, _, _, _, _, _, _, .pointer (some ⟨B4, 0 + 0 * 1, none⟩), _, _, _, _, _, _, _, _, _, _, _, _, _, _, _, _, _, _, _, _, _, _, _, _], defers := _ } _
      refine alongK_read (.int .i64 (X 0)) rfl rfl (fun wx hS => ex_load Try.isAgg3 rfl rfl wx ((HC.out wx hS).1)) ?_
      change AlongK _ _ _ _ _ { tmps := #[.pointer (some ⟨g, 0, none⟩), _, .pointer (some ⟨B2, 0, none⟩), .string F0, .pointer (some ⟨B4, 0, none⟩), _, _, _, _, _, _, _, _, _, _, _, _, .pointer (some ⟨B4, 0 + 0 * 1, none⟩), .int .i64 (X 0), _, _, _, _, _, _, _, _, _, _, _, _, _, _, _, _, _, _, _, _, _, _, _], defers := _ } _
      refine alongK_read (.pointer (some ⟨B4, 0 + 1 * 1, none⟩)) rfl rfl (fun wx hS => ex_indexa (k := 1) Try.underlying98 Try.sizeOf3 (by rfl) (by rfl) (by omega) wx) ?_
      change AlongK _ _ _ _ _ { tmps := #[.pointer (some ⟨g, 0, none⟩), _, .pointer (some ⟨B2, 0, none⟩), .string F0, .pointer (some ⟨B4, 0, none⟩), _, _, _, _, _, _, _, _, _, _, _, _, .pointer (some ⟨B4, 0 + 0 * 1, none⟩), .int .i64 (X 0), .pointer (some ⟨B4, 0 + 1 * 1, none⟩), _, _, _, _, _, _, _, _, _, _, _, _, _, _, _, _, _, _, _, _, _, _], defers := _ } _
      refine alongK_read (.int .i64 (X 1)) rfl rfl (fun wx hS => ex_load Try.isAgg3 rfl rfl wx ((HC.out wx hS).2.1)) ?_
      change AlongK _ _ _ _ _ { tmps := #[.pointer (some ⟨g, 0, none⟩), _, .pointer (some ⟨B2, 0, none⟩), .string F0, .pointer (some ⟨B4, 0, none⟩), _, _, _, _, _, _, _, _, _, _, _, _, .pointer (some ⟨B4, 0 + 0 * 1, none⟩), .int .i64 (X 0), .pointer (some ⟨B4, 0 + 1 * 1, none⟩), .int .i64 (X 1), _, _, _, _, _, _, _, _, _, _, _, _, _, _, _, _, _, _, _, _, _], defers := _ } _
      refine alongK_read (.pointer (some ⟨B4, 0 + 2 * 1, none⟩)) rfl rfl (fun wx hS => ex_indexa (k := 2) Try.underlying98 Try.sizeOf3 (by rfl) (by rfl) (by omega) wx) ?_
      change AlongK _ _ _ _ _ { tmps := #[.pointer (some ⟨g, 0, none⟩), _, .pointer (some ⟨B2, 0, none⟩), .string F0, .pointer (some ⟨B4, 0, none⟩), _, _, _, _, _, _, _, _, _, _, _, _, .pointer (some ⟨B4, 0 + 0 * 1, none⟩), .int .i64 (X 0), .pointer (some ⟨B4, 0 + 1 * 1, none⟩), .int .i64 (X 1), .pointer (some ⟨B4, 0 + 2 * 1, none⟩), _, _, _, _, _, _, _, _, _, _, _, _, _, _, _, _, _, _, _, _], defers := _ } _
      refine alongK_read (.int .i64 (X 2)) rfl rfl (fun wx hS => ex_load Try.isAgg3 rfl rfl wx ((HC.out wx hS).2.2.1)) ?_
      change AlongK _ _ _ _ _ { tmps := #[.pointer (some ⟨g, 0, none⟩), _, .pointer (some ⟨B2, 0, none⟩), .string F0, .pointer (some ⟨B4, 0, none⟩), _, _, _, _, _, _, _, _, _, _, _, _, .pointer (some ⟨B4, 0 + 0 * 1, none⟩), .int .i64 (X 0), .pointer (some ⟨B4, 0 + 1 * 1, none⟩), .int .i64 (X 1), .pointer (some ⟨B4, 0 + 2 * 1, none⟩), .int .i64 (X 2), _, _, _, _, _, _, _, _, _, _, _, _, _, _, _, _, _, _, _], defers := _ } _
      refine alongK_read (.pointer (some ⟨B4, 0 + 3 * 1, none⟩)) rfl rfl (fun wx hS => ex_indexa (k := 3) Try.underlying98 Try.sizeOf3 (by rfl) (by rfl) (by omega) wx) ?_
      change AlongK _ _ _ _ _ { tmps := #[.pointer (some ⟨g, 0, none⟩), _, .pointer (some ⟨B2, 0, none⟩), .string F0, .pointer (some ⟨B4, 0, none⟩), _, _, _, _, _, _, _, _, _, _, _, _, .pointer (some ⟨B4, 0 + 0 * 1, none⟩), .int .i64 (X 0), .pointer (some ⟨B4, 0 + 1 * 1, none⟩), .int .i64 (X 1), .pointer (some ⟨B4, 0 + 2 * 1, none⟩), .int .i64 (X 2), .pointer (some ⟨B4, 0 + 3 * 1, none⟩), _, _, _, _, _, _, _, _, _, _, _, _, _, _, _, _, _, _], defers := _ } _
      refine alongK_read (.int .i64 (X 3)) rfl rfl (fun wx hS => ex_load Try.isAgg3 rfl rfl wx ((HC.out wx hS).2.2.2)) ?_
      change AlongK _ _ _ _ _ { tmps := #[.pointer (some ⟨g, 0, none⟩), _, .pointer (some ⟨B2, 0, none⟩), .string F0, .pointer (some ⟨B4, 0, none⟩), _, _, _, _, _, _, _, _, _, _, _, _, .pointer (some ⟨B4, 0 + 0 * 1, none⟩), .int .i64 (X 0), .pointer (some ⟨B4, 0 + 1 * 1, none⟩), .int .i64 (X 1), .pointer (some ⟨B4, 0 + 2 * 1, none⟩), .int .i64 (X 2), .pointer (some ⟨B4, 0 + 3 * 1, none⟩), .int .i64 (X 3), _, _, _, _, _, _, _, _, _, _, _, _, _, _, _, _, _], defers := _ } _
      refine alongK_read (.pointer (some ⟨g, 0, none⟩)) rfl rfl (fun wx hS => ex_move (by rfl) (by rfl) wx) ?_
      change AlongK _ _ _ _ _ { tmps := #[.pointer (some ⟨g, 0, none⟩), _, .pointer (some ⟨B2, 0, none⟩), .string F0, .pointer (some ⟨B4, 0, none⟩), _, _, _, _, _, _, _, _, _, _, _, _, .pointer (some ⟨B4, 0 + 0 * 1, none⟩), .int .i64 (X 0), .pointer (some ⟨B4, 0 + 1 * 1, none⟩), .int .i64 (X 1), .pointer (some ⟨B4, 0 + 2 * 1, none⟩), .int .i64 (X 2), .pointer (some ⟨B4, 0 + 3 * 1, none⟩), .int .i64 (X 3), .pointer (some ⟨g, 0, none⟩), _, _, _, _, _, _, _, _, _, _, _, _, _, _, _, _], defers := _ } _
      refine alongK_fork ?_ ?_
      refine opK_call (vs := [.pointer (some ⟨g, 0, none⟩), .int .i64 4096]) rfl rfl rfl (enters_of Try.func38 (by kernel_rfl) rfl) rfl ?_
      with_reducible refine Calls.mono (HT.out _ (HRr.out.up (Up.drew1 wr))) ?_
      rintro e w7 ⟨rfl, hR7, hG7⟩
      have hW7 : wr.grownBy w7 (some g) := grown_trans (grown_up (Up.drew1 wr) (some g)) hG7
      refine ⟨_, rfl, (fun x => wr.grownBy x (some g)), (fun x hx => hx), hW7, ?_⟩
      change AlongK _ _ _ _ _ { tmps := #[.pointer (some ⟨g, 0, none⟩), _, .pointer (some ⟨B2, 0, none⟩), .string F0, .pointer (some ⟨B4, 0, none⟩), _, _, _, _, _, _, _, _, _, _, _, _, .pointer (some ⟨B4, 0 + 0 * 1, none⟩), .int .i64 (X 0), .pointer (some ⟨B4, 0 + 1 * 1, none⟩), .int .i64 (X 1), .pointer (some ⟨B4, 0 + 2 * 1, none⟩), .int .i64 (X 2), .pointer (some ⟨B4, 0 + 3 * 1, none⟩), .int .i64 (X 3), .pointer (some ⟨g, 0, none⟩), .string SG, _, _, _, _, _, _, _, _, _, _, _, _, _, _, _], defers := _ } _
      refine alongK_read (.agg #[.int .i64 (X 0), .int .i64 (X 1), .int .i64 (X 2), .int .i64 (X 3), .string SG]) rfl rfl (fun wx hS => ex_build5 wx wx (bld_tx _ _ _ _ _ wx) rfl (by rfl) (by rfl) (by rfl) (by rfl) (by rfl)) ?_
      change AlongK _ _ _ _ _ { tmps := #[.pointer (some ⟨g, 0, none⟩), _, .pointer (some ⟨B2, 0, none⟩), .string F0, .pointer (some ⟨B4, 0, none⟩), _, _, _, _, _, _, _, _, _, _, _, _, .pointer (some ⟨B4, 0 + 0 * 1, none⟩), .int .i64 (X 0), .pointer (some ⟨B4, 0 + 1 * 1, none⟩), .int .i64 (X 1), .pointer (some ⟨B4, 0 + 2 * 1, none⟩), .int .i64 (X 2), .pointer (some ⟨B4, 0 + 3 * 1, none⟩), .int .i64 (X 3), .pointer (some ⟨g, 0, none⟩), .string SG, .agg #[.int .i64 (X 0), .int .i64 (X 1), .int .i64 (X 2), .int .i64 (X 3), .string SG], _, _, _, _, _, _, _, _, _, _, _, _, _, _], defers := _ } _
      refine alongK_step ?_
      refine opK_run (.pointer (some ⟨w7.heap.size, 0, none⟩)) _ rfl rfl (ex_alloc rfl _ _ (alloc_tx w7)) (fun x => wr.grownBy x (some g)) (fun x hx => hx) (grown_trans hW7 (grown_up (Up.alloc (Up.refl _) _) _)) ?_
      change AlongK _ _ _ _ _ { tmps := #[.pointer (some ⟨g, 0, none⟩), _, .pointer (some ⟨B2, 0, none⟩), .string F0, .pointer (some ⟨B4, 0, none⟩), _, .pointer (some ⟨w7.heap.size, 0, none⟩), _, _, _, _, _, _, _, _, _, _, .pointer (some ⟨B4, 0 + 0 * 1, none⟩), .int .i64 (X 0), .pointer (some ⟨B4, 0 + 1 * 1, none⟩), .int .i64 (X 1), .pointer (some ⟨B4, 0 + 2 * 1, none⟩), .int .i64 (X 2), .pointer (some ⟨B4, 0 + 3 * 1, none⟩), .int .i64 (X 3), .pointer (some ⟨g, 0, none⟩), .string SG, .agg #[.int .i64 (X 0), .int .i64 (X 1), .int .i64 (X 2), .int .i64 (X 3), .string SG], _, _, _, _, _, _, _, _, _, _, _, _, _, _], defers := _ } _
      refine alongK_step ?_
      refine opK_store _ rfl rfl (ex_storerow (c1 := #[.int .i64 (X 0), .int .i64 (X 1), .int .i64 (X 2), .int .i64 (X 3), .string SG]) rfl rfl rfl _ 31 (heap_alloc_new w7 _) info_tx rfl (one_tx _ _ _ _ _)) (fun x => wr.grownBy x (some g)) (fun x hx => hx) (grown_new (grown_trans hW7 (grown_up (Up.alloc (Up.refl w7) _) (some g))) (grownBy_setRow _ _ _) (fun q e => by cases e; exact hW7.size)) ?_
      change AlongK _ _ _ _ _ { tmps := #[.pointer (some ⟨g, 0, none⟩), _, .pointer (some ⟨B2, 0, none⟩), .string F0, .pointer (some ⟨B4, 0, none⟩), _, .pointer (some ⟨w7.heap.size, 0, none⟩), _, _, _, _, _, _, _, _, _, _, .pointer (some ⟨B4, 0 + 0 * 1, none⟩), .int .i64 (X 0), .pointer (some ⟨B4, 0 + 1 * 1, none⟩), .int .i64 (X 1), .pointer (some ⟨B4, 0 + 2 * 1, none⟩), .int .i64 (X 2), .pointer (some ⟨B4, 0 + 3 * 1, none⟩), .int .i64 (X 3), .pointer (some ⟨g, 0, none⟩), .string SG, .agg #[.int .i64 (X 0), .int .i64 (X 1), .int .i64 (X 2), .int .i64 (X 3), .string SG], _, _, _, _, _, _, _, _, _, _, _, _, _, _], defers := _ } _
      have HR9 := Lib.hid ((hR7.up (Up.alloc (Up.refl w7) (.cells noTx 31))).put (grownBy_setRow (w7.alloc (.cells noTx 31)) w7.heap.size #[.int .i64 (X 0), .int .i64 (X 1), .int .i64 (X 2), .int .i64 (X 3), .string SG]) (Hlr.out _ hW7.size).1 (Hlr.out _ hW7.size).2.1 (by rw [hB2e]; exact (Hlr.out _ hW7.size).2.2.1))
      have HG9 := Lib.hid (grown_new (grown_trans hW7 (grown_up (Up.alloc (Up.refl w7) (.cells noTx 31)) (some g))) (grownBy_setRow (w7.alloc (.cells noTx 31)) w7.heap.size #[.int .i64 (X 0), .int .i64 (X 1), .int .i64 (X 2), .int .i64 (X 3), .string SG]) (fun q e => by cases e; exact hW7.size))
      have HT9 := Lib.hid (setRow_heap (w7.alloc (.cells noTx 31)) w7.heap.size _ #[.int .i64 (X 0), .int .i64 (X 1), .int .i64 (X 2), .int .i64 (X 3), .string SG] _ _ (heap_alloc_new w7 _))
      refine alongK_done ?_
      generalize (w7.alloc (.cells noTx 31)).setRow w7.heap.size #[.int .i64 (X 0), .int .i64 (X 1), .int .i64 (X 2), .int .i64 (X 3), .string SG] = w9 at HR9 HG9 HT9 ⊢
      have Hn9 := Lib.hid (Hlr.out _ hW7.size)
      generalize w7.heap.size = n9 at HT9 Hn9 ⊢
      rotate_left
      refine opK_run (.pointer (some ⟨wr.heap.size, 0, none⟩)) _ rfl rfl (ex_alloc rfl _ _ (alloc_tx wr.drew)) (fun x => wr.grownBy x (some g)) (fun x hx => hx) (grown_trans (grown_up (Up.drew1 wr) (some g)) (grown_up (Up.alloc (Up.refl _) _) _)) ?_
      change AlongK _ _ _ _ _ { tmps := #[.pointer (some ⟨g, 0, none⟩), _, .pointer (some ⟨B2, 0, none⟩), .string F0, .pointer (some ⟨B4, 0, none⟩), _, .pointer (some ⟨wr.heap.size, 0, none⟩), _, _, _, _, _, _, _, _, _, _, .pointer (some ⟨B4, 0 + 0 * 1, none⟩), .int .i64 (X 0), .pointer (some ⟨B4, 0 + 1 * 1, none⟩), .int .i64 (X 1), .pointer (some ⟨B4, 0 + 2 * 1, none⟩), .int .i64 (X 2), .pointer (some ⟨B4, 0 + 3 * 1, none⟩), .int .i64 (X 3), .pointer (some ⟨g, 0, none⟩), _, _, _, _, _, _, _, _, _, _, _, _, _, _, _, _], defers := _ } _
      refine alongK_step ?_
      refine opK_call (vs := [.pointer (some ⟨g, 0, none⟩), .int .i64 4096]) rfl rfl rfl (enters_of Try.func38 (by kernel_rfl) rfl) rfl ?_
      with_reducible refine Calls.mono (HT.out _ (HRr.out.up (Up.alloc (Up.drew1 wr) _))) ?_
      rintro e w7 ⟨rfl, hR7, hG7⟩
      have hW7 : wr.grownBy w7 (some g) := grown_trans (grown_up (Up.alloc (Up.drew1 wr) _) (some g)) hG7
      refine ⟨_, rfl, (fun x => wr.grownBy x (some g)), (fun x hx => hx), hW7, ?_⟩
      change AlongK _ _ _ _ _ { tmps := #[.pointer (some ⟨g, 0, none⟩), _, .pointer (some ⟨B2, 0, none⟩), .string F0, .pointer (some ⟨B4, 0, none⟩), _, .pointer (some ⟨wr.heap.size, 0, none⟩), _, _, _, _, _, _, _, _, _, _, .pointer (some ⟨B4, 0 + 0 * 1, none⟩), .int .i64 (X 0), .pointer (some ⟨B4, 0 + 1 * 1, none⟩), .int .i64 (X 1), .pointer (some ⟨B4, 0 + 2 * 1, none⟩), .int .i64 (X 2), .pointer (some ⟨B4, 0 + 3 * 1, none⟩), .int .i64 (X 3), .pointer (some ⟨g, 0, none⟩), .string SG, _, _, _, _, _, _, _, _, _, _, _, _, _, _, _], defers := _ } _
      refine alongK_read (.agg #[.int .i64 (X 0), .int .i64 (X 1), .int .i64 (X 2), .int .i64 (X 3), .string SG]) rfl rfl (fun wx hS => ex_build5 wx wx (bld_tx _ _ _ _ _ wx) rfl (by rfl) (by rfl) (by rfl) (by rfl) (by rfl)) ?_
      change AlongK _ _ _ _ _ { tmps := #[.pointer (some ⟨g, 0, none⟩), _, .pointer (some ⟨B2, 0, none⟩), .string F0, .pointer (some ⟨B4, 0, none⟩), _, .pointer (some ⟨wr.heap.size, 0, none⟩), _, _, _, _, _, _, _, _, _, _, .pointer (some ⟨B4, 0 + 0 * 1, none⟩), .int .i64 (X 0), .pointer (some ⟨B4, 0 + 1 * 1, none⟩), .int .i64 (X 1), .pointer (some ⟨B4, 0 + 2 * 1, none⟩), .int .i64 (X 2), .pointer (some ⟨B4, 0 + 3 * 1, none⟩), .int .i64 (X 3), .pointer (some ⟨g, 0, none⟩), .string SG, .agg #[.int .i64 (X 0), .int .i64 (X 1), .int .i64 (X 2), .int .i64 (X 3), .string SG], _, _, _, _, _, _, _, _, _, _, _, _, _, _], defers := _ } _
      refine alongK_step ?_
      have hC7 := (hG7.block wr.heap.size (lt_alloc1 wr _) (fun e => (Hlr.out _ (Nat.le_refl _)).1 (by simpa using e))).trans (heap_alloc_new wr.drew (.cells noTx 31))
      refine opK_store _ rfl rfl (ex_storerow (c1 := #[.int .i64 (X 0), .int .i64 (X 1), .int .i64 (X 2), .int .i64 (X 3), .string SG]) rfl rfl rfl _ 31 hC7 info_tx rfl (one_tx _ _ _ _ _)) (fun x => wr.grownBy x (some g)) (fun x hx => hx) (grown_new hW7 (grownBy_setRow _ _ _) (fun q e => by cases e; exact Nat.le_refl _)) ?_
      change AlongK _ _ _ _ _ { tmps := #[.pointer (some ⟨g, 0, none⟩), _, .pointer (some ⟨B2, 0, none⟩), .string F0, .pointer (some ⟨B4, 0, none⟩), _, .pointer (some ⟨wr.heap.size, 0, none⟩), _, _, _, _, _, _, _, _, _, _, .pointer (some ⟨B4, 0 + 0 * 1, none⟩), .int .i64 (X 0), .pointer (some ⟨B4, 0 + 1 * 1, none⟩), .int .i64 (X 1), .pointer (some ⟨B4, 0 + 2 * 1, none⟩), .int .i64 (X 2), .pointer (some ⟨B4, 0 + 3 * 1, none⟩), .int .i64 (X 3), .pointer (some ⟨g, 0, none⟩), .string SG, .agg #[.int .i64 (X 0), .int .i64 (X 1), .int .i64 (X 2), .int .i64 (X 3), .string SG], _, _, _, _, _, _, _, _, _, _, _, _, _, _], defers := _ } _
      have HR9 := Lib.hid (hR7.put (grownBy_setRow w7 wr.heap.size #[.int .i64 (X 0), .int .i64 (X 1), .int .i64 (X 2), .int .i64 (X 3), .string SG]) (Hlr.out _ (Nat.le_refl _)).1 (Hlr.out _ (Nat.le_refl _)).2.1 (by rw [hB2e]; exact (Hlr.out _ (Nat.le_refl _)).2.2.1))
      have HG9 := Lib.hid (grown_new hW7 (grownBy_setRow w7 wr.heap.size #[.int .i64 (X 0), .int .i64 (X 1), .int .i64 (X 2), .int .i64 (X 3), .string SG]) (fun q e => by cases e; exact Nat.le_refl _))
      have HT9 := Lib.hid (setRow_heap w7 wr.heap.size _ #[.int .i64 (X 0), .int .i64 (X 1), .int .i64 (X 2), .int .i64 (X 3), .string SG] _ _ hC7)
      refine alongK_done ?_
      generalize w7.setRow wr.heap.size #[.int .i64 (X 0), .int .i64 (X 1), .int .i64 (X 2), .int .i64 (X 3), .string SG] = w9 at HR9 HG9 HT9 ⊢
      have Hn9 := Lib.hid (Hlr.out _ (Nat.le_refl wr.heap.size))
      generalize wr.heap.size = n9 at HT9 Hn9 ⊢
      all_goals
        clear hR7 hG7 hW7
        have HB5 := Lib.hid ((HG9.out.block B2 (lt_of_block HBr.out) (fun e => Hlw.out.1 (by simpa using e))).trans HBr.out)
        obtain ⟨hc0, hc1, hc2, hc3, hc4⟩ := tx_cells HT9.out
        have Hput : Hid (∀ (wx wy : World), Reads g l w E5 z5 wx → wx.grownBy wy (some B2) → Reads g l w E5 z5 wy) := fun wx wy h1 h2 => h1.put h2 Hlw.out.1 Hlw.out.2 (by rw [hB2e]; exact Nat.le_refl _)
        by_cases hE5 : E5 = 0
        · by_cases hF : F0 = ⟨#[116, 120]⟩
          · have Hr2 := Lib.hid hR.out
            have H9 := Lib.hid HR9.out
            have HErr := Lib.hid (HE.out w9 H9.out)
            clear hR
            subst hE5 hF
            obtain ⟨K, hK⟩ : ∃ K, txE (X 0) (X 1) (X 2) (X 3) SG = K := ⟨_, rfl⟩
            rw [hK] at Hc Hr2
            clear hK
            by_cases hK0 : K = 0
            · subst hK0
              have hres := Lib.hid (Hr2.out.trans (if_pos ⟨rfl, rfl, rfl⟩))
              go_wp2_with fail
              with_reducible refine Calls.mono HErr.out ?_
              rintro e w10 ⟨rfl, rfl⟩
              go_wp2_with fail
              with_reducible refine Calls.mono (Hc.out _) ?_
              rintro e w11 ⟨rfl, hU11⟩
              have HT11 := Lib.hid ((hU11.block n9 (lt_of_block HT9.out)).trans HT9.out)
              have HB11 := Lib.hid ((hU11.block B2 (lt_of_block HB5.out)).trans HB5.out)
              have HR11 := Lib.hid (H9.out.up hU11)
              clear hU11 hc0 hc1 hc2 hc3 hc4
              obtain ⟨hc0, hc1, hc2, hc3, hc4⟩ := tx_cells HT11.out
              go_wp2_with (refine wpList_store_agg rfl 31 (.tmp 2) (.tmp 41) rfl B2 _ #[.int .i64 (X 0), .int .i64 (X 1), .int .i64 (X 2), .int .i64 (X 3), .string SG] rfl rfl 31 HB11.out info_tx rfl (one_tx _ _ _ _ _) ?_; intro w12 hg12 hgr12)
              refine bodyPost_ret (results_tx rfl _ _ _ _ rfl hg12 rfl) rfl ⟨?_, Hput.out _ _ HR11.out hgr12⟩
              rw [hres.out]; rfl
            · have hres := Lib.hid (Hr2.out.trans (if_neg fun h => hK0 h.2.2))
              have e1 : (K == 0) = false := by rw [beq_eq_false_iff_ne]; exact hK0
              have e2 : (K != 0) = true := by rw [bne, e1]; rfl
              go_wp2_with fail
              with_reducible refine Calls.mono HErr.out ?_
              rintro e w10 ⟨rfl, rfl⟩
              go_wp2_with fail
              with_reducible refine Calls.mono (Hc.out _) ?_
              rintro e w11 ⟨rfl, hU11⟩
              have HB11 := Lib.hid ((hU11.block B2 (lt_of_block HB5.out)).trans HB5.out)
              have HR11 := Lib.hid (H9.out.up hU11)
              clear hU11 hc0 hc1 hc2 hc3 hc4
              go_wp2_with (refine wpList_store_agg rfl 31 (.tmp 2) (.tmp 40) rfl B2 _ #[.int .i64 0, .int .i64 0, .int .i64 0, .int .i64 0, .string ⟨#[]⟩] rfl rfl 31 HB11.out info_tx rfl (one_tx _ _ _ _ _) ?_; intro w12 hg12 hgr12)
              refine bodyPost_ret (results_tx rfl _ _ _ _ rfl hg12 rfl) rfl ⟨?_, Hput.out _ _ HR11.out hgr12⟩
              rw [hres.out]; rfl
          · have hres := Lib.hid (hR.out.trans (if_neg fun h => hF h.2.1))
            have HErr := Lib.hid (HE.out w9 HR9.out)
            have e3 : (F0.toList == [116, 120]) = false := by rw [beq_eq_false_iff_ne]; exact fun h => hF (toList_inj (h.trans (by rw [ByteArray.toList_eq])))
            subst hE5
            clear hF
            go_wp2_with fail
            with_reducible refine Calls.mono HErr.out ?_
            rintro e w10 ⟨rfl, rfl⟩
            go_wp2_with (refine wpList_store_agg rfl 31 (.tmp 2) (.tmp 40) rfl B2 _ #[.int .i64 0, .int .i64 0, .int .i64 0, .int .i64 0, .string ⟨#[]⟩] rfl rfl 31 HB5.out info_tx rfl (one_tx _ _ _ _ _) ?_; intro w12 hg12 hgr12)
            refine bodyPost_ret (results_tx rfl _ _ _ _ rfl hg12 rfl) rfl ⟨?_, Hput.out _ _ HR9.out hgr12⟩
            rw [hres.out]; rfl
        · have hres := Lib.hid (hR.out.trans (if_neg fun h => hE5 h.1))
          have HErr := Lib.hid (HE.out w9 HR9.out)
          have e1 : (E5 == 0) = false := by rw [beq_eq_false_iff_ne]; exact hE5
          have e2 : (E5 != 0) = true := by rw [bne, e1]; rfl
          clear hE5
          go_wp2_with fail
          with_reducible refine Calls.mono HErr.out ?_
          rintro e w10 ⟨rfl, rfl⟩
          go_wp2_with (refine wpList_store_agg rfl 31 (.tmp 2) (.tmp 40) rfl B2 _ #[.int .i64 0, .int .i64 0, .int .i64 0, .int .i64 0, .string ⟨#[]⟩] rfl rfl 31 HB5.out info_tx rfl (one_tx _ _ _ _ _) ?_; intro w12 hg12 hgr12)
          refine bodyPost_ret (results_tx rfl _ _ _ _ rfl hg12 rfl) rfl ⟨?_, Hput.out _ _ HR9.out hgr12⟩
          rw [hres.out]; rfl
end
end

/-
  tx: what Put writes, Read reads.
-/
section
set_option maxRecDepth 100000
section
set_option linter.unusedVariables false
open Go.RowKit

/-- a transaction's octets -/
def txO (f t a n : Int) (sig : List Int) : List Int := txT f t a n ++ (octAll sig.length 2 ++ sig)
theorem txE_ok {f t a n : Int} {S : ByteArray} (h : txE f t a n S = 0) : ((0 ≤ f ∧ f ≤ 3) ∧ (0 ≤ t ∧ t ≤ 3) ∧ (1 ≤ a ∧ a ≤ 1000) ∧ (0 ≤ n ∧ n ≤ 1099511627776)) ∧ f ≠ t ∧ S.size ≤ 4096 := by
  unfold txE at h
  split at h
  · assumption
  · cases h
theorem txE_ok_iff {f t a n : Int} {S : ByteArray} : txE f t a n S = 0 ↔ ((0 ≤ f ∧ f ≤ 3) ∧ (0 ≤ t ∧ t ≤ 3) ∧ (1 ≤ a ∧ a ≤ 1000) ∧ (0 ≤ n ∧ n ≤ 1099511627776)) ∧ f ≠ t ∧ S.size ≤ 4096 := ⟨txE_ok, fun h => if_pos h⟩
theorem txO_u8s (f t a n : Int) (sig : List Int) (h : U8s sig) : U8s (txO f t a n sig) := (txT_u8s _ _ _ _).append ((octAll_u8s _ _).append h)
theorem txO_length (f t a n : Int) (sig : List Int) : (txO f t a n sig).length = 30 + sig.length := by
  unfold txO; rw [List.length_append, List.length_append, txT_length, octAll_length]; omega
theorem put_ok (bs : List Int) (f t a n : Int) (sig : List Int) (h : txE f t a n (strOfNums sig) = 0) (hb : bs.length ≤ 16000) : textS (txS (0, bs) f t a n 4) sig = (0, bs ++ txO f t a n sig) := by
  obtain ⟨⟨hf, ht, ha, hn⟩, _, hs⟩ := txE_ok h
  rw [strOfNums_size] at hs
  rw [txS_ok bs f t a n (by omega) (by omega) (by omega) (by omega) hb, textS_ok _ _ hs (by rw [List.length_append, txT_length]; omega), List.append_assoc]
  rfl
theorem rS_ok (f t a n : Int) (tail : List Int) (hf : 0 ≤ f ∧ f ≤ 1099511627776) (ht : 0 ≤ t ∧ t ≤ 1099511627776) (ha : 0 ≤ a ∧ a ≤ 1099511627776) (hn : 0 ≤ n ∧ n ≤ 1099511627776) :
    rdText 0 (txT f t a n ++ tail) 4096 = ([116, 120], 0, octAll f 6 ++ (octAll t 6 ++ (octAll a 6 ++ (octAll n 6 ++ tail)))) ∧
    rS (0, txT f t a n ++ tail) 0 = (0, octAll f 6 ++ (octAll t 6 ++ (octAll a 6 ++ (octAll n 6 ++ tail)))) ∧ rS (0, txT f t a n ++ tail) 1 = (0, octAll t 6 ++ (octAll a 6 ++ (octAll n 6 ++ tail))) ∧ rS (0, txT f t a n ++ tail) 2 = (0, octAll a 6 ++ (octAll n 6 ++ tail)) ∧ rS (0, txT f t a n ++ tail) 3 = (0, octAll n 6 ++ tail) ∧ rS (0, txT f t a n ++ tail) 4 = (0, tail) := by
  have e2 : octAll (([116, 120] : List Int).length : Int) 2 = [0, 2] := by decide
  have h0 : rdText 0 (txT f t a n ++ tail) 4096 = ([116, 120], 0, octAll f 6 ++ (octAll t 6 ++ (octAll a 6 ++ (octAll n 6 ++ tail)))) := by
    rw [← rdText_enc [116, 120] (octAll f 6 ++ (octAll t 6 ++ (octAll a 6 ++ (octAll n 6 ++ tail)))) (by simp), e2]
    simp [txT]
  have h1 : rS (0, txT f t a n ++ tail) 0 = (0, octAll f 6 ++ (octAll t 6 ++ (octAll a 6 ++ (octAll n 6 ++ tail)))) := by simp only [rS]; rw [h0]
  have h2 : rS (0, txT f t a n ++ tail) 1 = (0, octAll t 6 ++ (octAll a 6 ++ (octAll n 6 ++ tail))) := by rw [rS, h1]; simp only; rw [rdNum_enc f _ hf.1 hf.2]
  have h3 : rS (0, txT f t a n ++ tail) 2 = (0, octAll a 6 ++ (octAll n 6 ++ tail)) := by rw [rS, h2]; simp only; rw [rdNum_enc t _ ht.1 ht.2]
  have h4 : rS (0, txT f t a n ++ tail) 3 = (0, octAll n 6 ++ tail) := by rw [rS, h3]; simp only; rw [rdNum_enc a _ ha.1 ha.2]
  have h5 : rS (0, txT f t a n ++ tail) 4 = (0, tail) := by rw [rS, h4]; simp only; rw [rdNum_enc n _ hn.1 hn.2]
  exact ⟨h0, h1, h2, h3, h4, h5⟩
/-- WHAT WAS PUT IS READ. -/
theorem read_ok (f t a n : Int) (sig rest : List Int) (h : txE f t a n (strOfNums sig) = 0) : rTxC (0, txO f t a n sig ++ rest) = txC f t a n (strOfNums sig) ∧ rSig (0, txO f t a n sig ++ rest) = (sig, 0, rest) := by
  obtain ⟨⟨hf, ht, ha, hn⟩, _, hs⟩ := txE_ok h
  rw [strOfNums_size] at hs
  unfold txO
  rw [List.append_assoc]
  obtain ⟨h0, h1, h2, h3, h4, h5⟩ := rS_ok f t a n ((octAll sig.length 2 ++ sig) ++ rest) (by omega) (by omega) (by omega) (by omega)
  have hg : rSig (0, txT f t a n ++ ((octAll sig.length 2 ++ sig) ++ rest)) = (sig, 0, rest) := by unfold rSig; rw [h5]; exact rdText_enc sig rest hs
  refine ⟨?_, hg⟩
  have x0 : rX (0, txT f t a n ++ ((octAll sig.length 2 ++ sig) ++ rest)) 0 = f := by unfold rX; rw [h1, rdNum_enc f _ (by omega) (by omega)]
  have x1 : rX (0, txT f t a n ++ ((octAll sig.length 2 ++ sig) ++ rest)) 1 = t := by unfold rX; rw [h2, rdNum_enc t _ (by omega) (by omega)]
  have x2 : rX (0, txT f t a n ++ ((octAll sig.length 2 ++ sig) ++ rest)) 2 = a := by unfold rX; rw [h3, rdNum_enc a _ (by omega) (by omega)]
  have x3 : rX (0, txT f t a n ++ ((octAll sig.length 2 ++ sig) ++ rest)) 3 = n := by unfold rX; rw [h4, rdNum_enc n _ (by omega) (by omega)]
  unfold rTxC
  simp only [hg, x0, x1, x2, x3, h0, h]
  rfl
end
end
end Go.Proofs.Ytacamknljicjmaa
