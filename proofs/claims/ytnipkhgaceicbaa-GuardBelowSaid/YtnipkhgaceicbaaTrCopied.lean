import Derived.Test.YtnipkhgaceicbaaTrClone
/-
  tree.copied.
-/
namespace Go.Proofs.Ytnipkhgaceicbaa
set_option maxRecDepth 100000
section
set_option linter.unusedVariables false
open Go.RowKit Go.Sort Go.Lib

/-- a slice is stored in a row -/
theorem ex_setS {P : Program} {o : Oper} {x y : Operand} {ρ : Operand → Value} {W : World} {g j : Nat} {cs : Array Value} {t T : TypeId} {a : Option Addr} {n c : Nat} (hg : W.heap[g]? = some (.cells cs t (0, 0))) (hj : j < cs.size) (hop : o.op = .store T x y) (hx : ρ x = .pointer (some ⟨g, j, none⟩)) (hy : ρ y = .slice a n c) (hsz : ∀ w, (sizeOf T).run P w = .ok 1 w) :
    (execOp ρ o).run P W = .ok .skip (W.setRow g (cs.setIfInBounds j (.slice a n c))) := by
  have hcell : W.cell? ⟨g, j, none⟩ = some cs[j] := by rw [cell_of_row _ _ j _ _ _ hg, Array.getElem?_eq_getElem hj]
  have hf : W.frozen? ⟨g, j, none⟩ = false := frozen_of_row W g j cs _ hg
  rw [← setCell_eq_setRow W g j cs t (0, 0) (.slice a n c) hg]
  unfold execOp; rw [hop]; simp only [hx, hy]
  simp [Instr.storeAt, Instr.sureAddr, storeVar, hsz, hcell, hf, go_sem, Result.andThen]
theorem results_bkC {fn : Func} {p : Tmp} (h : fn.results = #[.cell p 41]) (tmps : Array Value) (w : World) (B : Nat) (cs : Array Value) (hp : tmps.getD p undef = .pointer (some ⟨B, 0, none⟩))
    (hg : w.heap[B]? = some (.cells cs 41 (0, 0))) (hs : cs.size = 9) :
    (results fn tmps).run Try.prog w = .ok (.agg cs) w := by
  have hp' : tmps[p]?.getD undef = .pointer (some ⟨B, 0, none⟩) := by simpa using hp
  have hl := run_loadVar_row (P := Try.prog) w B 41 41 cs (0, 0) _ hg Try.underlying41 rfl (by rw [info_bk, hs])
  simp [results, h, hp', asAddr, hl]
/-- the same block, its lists elsewhere -/
def Tb.at (x : Tb) (ra : Option Addr) (rc : Nat) (rb : Option Addr) (rbc : Nat) : Tb := ⟨x.V, x.H, x.P, x.JV, x.JH, x.JB, rb, rbc, x.vs, ra, rc, x.tx, x.S⟩
set_option maxHeartbeats 2000000 in
theorem copied_any (x : Tb) (w : World) (hx : TbIn w x) (h1 : x.vs.length * 72 ≤ 140737488355328) (h2 : x.tx.length * 48 ≤ 140737488355328) :
    Calls Try.prog 29 #[.agg (tbA x)] w fun e w' => ∃ ra rc rb rbc, e = .returned (.agg (tbA (x.at ra rc rb rbc))) ∧ TbIn w' (x.at ra rc rb rbc) ∧ Up w w' ∧ ∀ b o, ra = some ⟨b, o, none⟩ ∨ rb = some ⟨b, o, none⟩ → w.heap.size ≤ b := by
  have hu1 := Up.alloc (Up.refl w) (.cells (tbA x) 41)
  have hu2 := Up.alloc (Up.refl (w.alloc (.cells (tbA x) 41))) (.cells #[.int .i64 0, .int .i64 0, .string ⟨#[]⟩, .int .i64 0, .int .i64 0, .string ⟨#[]⟩, .slice none 0 0, .slice none 0 0, .string ⟨#[]⟩] 41)
  have hb1 := (hu2.block _ (lt_of_block (heap_alloc_new w (.cells (tbA x) 41)))).trans (heap_alloc_new w (.cells (tbA x) 41))
  have hb2 := heap_alloc_new (w.alloc (.cells (tbA x) 41)) (.cells #[.int .i64 0, .int .i64 0, .string ⟨#[]⟩, .int .i64 0, .int .i64 0, .string ⟨#[]⟩, .slice none 0 0, .slice none 0 0, .string ⟨#[]⟩] 41)
  rw [show (w.alloc (.cells (tbA x) 41)).heap.size = w.heap.size + 1 by simp] at hb2
  have hbs : w.heap.size + 1 < ((w.alloc (.cells (tbA x) 41)).alloc (.cells #[.int .i64 0, .int .i64 0, .string ⟨#[]⟩, .int .i64 0, .int .i64 0, .string ⟨#[]⟩, .slice none 0 0, .slice none 0 0, .string ⟨#[]⟩] 41)).heap.size := by simp
  have HU2 := Lib.hid (hu1.trans hu2)
  have HX : Hid (∀ wx, Up ((w.alloc (.cells (tbA x) 41)).alloc (.cells #[.int .i64 0, .int .i64 0, .string ⟨#[]⟩, .int .i64 0, .int .i64 0, .string ⟨#[]⟩, .slice none 0 0, .slice none 0 0, .string ⟨#[]⟩] 41)) wx → Calls Try.prog 44 #[.slice x.ta x.tx.length x.tc] wx fun e w' => ∃ ra rc, e = .returned (.slice ra x.tx.length rc) ∧ TArg w' (.slice ra x.tx.length rc) x.tx ∧ Up wx w' ∧ ∀ b o, ra = some ⟨b, o, none⟩ → wx.heap.size ≤ b) := Lib.hid fun wx hu => cloneTx_any x.ta x.tc x.tx wx (hx.2.up ((hu1.trans hu2).trans hu)) h2
  have HV : Hid (∀ wx, Up ((w.alloc (.cells (tbA x) 41)).alloc (.cells #[.int .i64 0, .int .i64 0, .string ⟨#[]⟩, .int .i64 0, .int .i64 0, .string ⟨#[]⟩, .slice none 0 0, .slice none 0 0, .string ⟨#[]⟩] 41)) wx → Calls Try.prog 45 #[.slice x.ja x.vs.length x.jc] wx fun e w' => ∃ ra rc, e = .returned (.slice ra x.vs.length rc) ∧ VArg w' (.slice ra x.vs.length rc) x.vs ∧ Up wx w' ∧ ∀ b o, ra = some ⟨b, o, none⟩ → wx.heap.size ≤ b) := Lib.hid fun wx hu => cloneVs_any x.ja x.jc x.vs wx (hx.1.up ((hu1.trans hu2).trans hu)) h1
  have HC7 : Hid (∀ wx, Up ((w.alloc (.cells (tbA x) 41)).alloc (.cells #[.int .i64 0, .int .i64 0, .string ⟨#[]⟩, .int .i64 0, .int .i64 0, .string ⟨#[]⟩, .slice none 0 0, .slice none 0 0, .string ⟨#[]⟩] 41)) wx → wx.cell? ⟨w.heap.size, 7, none⟩ = some (.slice x.ta x.tx.length x.tc)) := Lib.hid fun wx hu => tx_cell ((hu.block _ (lt_of_block hb1)).trans hb1) 7 rfl
  have HC6 : Hid (∀ wx, Up ((w.alloc (.cells (tbA x) 41)).alloc (.cells #[.int .i64 0, .int .i64 0, .string ⟨#[]⟩, .int .i64 0, .int .i64 0, .string ⟨#[]⟩, .slice none 0 0, .slice none 0 0, .string ⟨#[]⟩] 41)) wx → wx.cell? ⟨w.heap.size, 6, none⟩ = some (.slice x.ja x.vs.length x.jc)) := Lib.hid fun wx hu => tx_cell ((hu.block _ (lt_of_block hb1)).trans hb1) 6 rfl
  have HB : Hid (∀ wx, Up ((w.alloc (.cells (tbA x) 41)).alloc (.cells #[.int .i64 0, .int .i64 0, .string ⟨#[]⟩, .int .i64 0, .int .i64 0, .string ⟨#[]⟩, .slice none 0 0, .slice none 0 0, .string ⟨#[]⟩] 41)) wx → wx.heap[w.heap.size]? = some (.cells (tbA x) 41 (0, 0))) := Lib.hid fun wx hu => (hu.block _ (lt_of_block hb1)).trans hb1
  have HB2 : Hid (∀ wx, Up ((w.alloc (.cells (tbA x) 41)).alloc (.cells #[.int .i64 0, .int .i64 0, .string ⟨#[]⟩, .int .i64 0, .int .i64 0, .string ⟨#[]⟩, .slice none 0 0, .slice none 0 0, .string ⟨#[]⟩] 41)) wx → wx.heap[w.heap.size + 1]? = some (.cells #[.int .i64 0, .int .i64 0, .string ⟨#[]⟩, .int .i64 0, .int .i64 0, .string ⟨#[]⟩, .slice none 0 0, .slice none 0 0, .string ⟨#[]⟩] 41 (0, 0))) := Lib.hid fun wx hu => (hu.block _ (lt_of_block hb2)).trans hb2
  have hcs : (tbA x).size = 9 := rfl
  have HAT : Hid (∀ ra rc rb rbc, ((tbA x).setIfInBounds 7 (.slice ra x.tx.length rc)).setIfInBounds 6 (.slice rb x.vs.length rbc) = tbA (x.at ra rc rb rbc)) := Lib.hid fun ra rc rb rbc => rfl
  have HONE : Hid (∀ ra rc rb rbc, (((tbA x).setIfInBounds 7 (.slice ra x.tx.length rc)).setIfInBounds 6 (.slice rb x.vs.length rbc)).all (·.oneCell') = true) := Lib.hid fun ra rc rb rbc => by rw [HAT.out]; exact tbA_one _
  have HBS := Lib.hid hbs
  obtain ⟨tn, htn⟩ : ∃ n, x.tx.length = n := ⟨_, rfl⟩
  obtain ⟨vn, hvn⟩ : ∃ n, x.vs.length = n := ⟨_, rfl⟩
  have HTN := Lib.hid htn
  have HVN := Lib.hid hvn
  rw [htn] at HX HC7 HAT HONE
  rw [hvn] at HV HC6 HAT HONE
  clear hu1 hu2 hb1 hb2 hbs htn hvn hx h1 h2
  generalize tbA x = cs at *
  have HU3 := Lib.hid (Up.drew1 ((w.alloc (.cells cs 41)).alloc (.cells #[.int .i64 0, .int .i64 0, .string ⟨#[]⟩, .int .i64 0, .int .i64 0, .string ⟨#[]⟩, .slice none 0 0, .slice none 0 0, .string ⟨#[]⟩] 41)))
  go_enter Try.func29, Try.ntmps29
  go_wp2
  refine region_alongK (fun _ => True) (.read 0 (.read 3 (.read 4 (.fork 1 (.fork 2 (.step 5 (.read 7 (.step 6 (.step 8 (.read 9 (.read 10 (.step 11 (.nil)))))))) 5 (.step 2 (.read 7 (.step 6 (.step 8 (.read 9 (.read 10 (.step 11 (.nil))))))))) 5 (.step 1 (.step 2 (.read 7 (.step 6 (.step 8 (.read 9 (.read 10 (.step 11 (.nil))))))))))))) (by kernel_rfl) rfl (by kernel_rfl) (by kernel_rfl) (fun c a d v w h => by cases d <;> exact h) (trivial) ?_
  refine alongK_read (.pointer (some ⟨w.heap.size, 7, none⟩)) rfl rfl (fun wx hS => ex_field rfl rfl wx (by simp [go_sem])) ?_
  change AlongK _ _ _ _ _ { tmps := #[.agg cs, .pointer (some ⟨w.heap.size, 0, none⟩), .pointer (some ⟨w.heap.size + 1, 0, none⟩), .pointer (some ⟨w.heap.size, 7, none⟩), _, _, _, _, _, _, _, _, _, _], defers := [] } _
  refine alongK_read (.pointer (some ⟨w.heap.size, 3, none⟩)) rfl rfl (fun wx hS => ex_field rfl rfl wx (by simp [go_sem])) ?_
  change AlongK _ _ _ _ _ { tmps := #[.agg cs, .pointer (some ⟨w.heap.size, 0, none⟩), .pointer (some ⟨w.heap.size + 1, 0, none⟩), .pointer (some ⟨w.heap.size, 7, none⟩), _, _, .pointer (some ⟨w.heap.size, 3, none⟩), _, _, _, _, _, _, _], defers := [] } _
  refine alongK_read (.pointer (some ⟨w.heap.size, 6, none⟩)) rfl rfl (fun wx hS => ex_field rfl rfl wx (by simp [go_sem])) ?_
  change AlongK _ _ _ _ _ { tmps := #[.agg cs, .pointer (some ⟨w.heap.size, 0, none⟩), .pointer (some ⟨w.heap.size + 1, 0, none⟩), .pointer (some ⟨w.heap.size, 7, none⟩), _, _, .pointer (some ⟨w.heap.size, 3, none⟩), .pointer (some ⟨w.heap.size, 6, none⟩), _, _, _, _, _, _], defers := [] } _
  refine alongK_fork ?_ ?_
  refine opK_run (.slice x.ta tn x.tc) _ rfl rfl (ex_load Try.isAgg39 rfl rfl _ (HC7.out _ HU3.out)) (fun _ => True) (fun _ h => h) trivial ?_
  change AlongK _ _ _ _ _ { tmps := #[.agg cs, .pointer (some ⟨w.heap.size, 0, none⟩), .pointer (some ⟨w.heap.size + 1, 0, none⟩), .pointer (some ⟨w.heap.size, 7, none⟩), .slice x.ta tn x.tc, _, .pointer (some ⟨w.heap.size, 3, none⟩), .pointer (some ⟨w.heap.size, 6, none⟩), _, _, _, _, _, _], defers := [] } _
  refine alongK_fork ?_ ?_
  refine opK_call (vs := [.slice x.ta tn x.tc]) rfl rfl rfl (enters_of Try.func44 (by kernel_rfl) rfl) rfl ?_
  with_reducible refine Calls.mono (HX.out _ HU3.out) ?_
  rintro e w4 ⟨ra, rc, rfl, hT, hU, hN⟩
  have HU4 := Lib.hid (Up.trans HU3.out hU)
  have HHHX := Lib.hid hT
  have HLHX := Lib.hid hU
  have HNHHX : Hid (∀ b o, ra = some ⟨b, o, none⟩ → w.heap.size + 1 < b) := Lib.hid fun b o e => Nat.lt_of_lt_of_le HBS.out (Nat.le_trans (HU3.out).size (hN b o e))
  clear hU hT hN
  refine ⟨_, rfl, (fun _ => True), (fun _ h => h), trivial, ?_⟩
  change AlongK _ _ _ _ _ { tmps := #[.agg cs, .pointer (some ⟨w.heap.size, 0, none⟩), .pointer (some ⟨w.heap.size + 1, 0, none⟩), .pointer (some ⟨w.heap.size, 7, none⟩), .slice x.ta tn x.tc, .slice ra tn rc, .pointer (some ⟨w.heap.size, 3, none⟩), .pointer (some ⟨w.heap.size, 6, none⟩), _, _, _, _, _, _], defers := [] } _
  refine alongK_step ?_
  refine opK_run (.slice x.ja vn x.jc) _ rfl rfl (ex_load Try.isAgg36 rfl rfl _ (HC6.out _ HU4.out)) (fun _ => True) (fun _ h => h) trivial ?_
  change AlongK _ _ _ _ _ { tmps := #[.agg cs, .pointer (some ⟨w.heap.size, 0, none⟩), .pointer (some ⟨w.heap.size + 1, 0, none⟩), .pointer (some ⟨w.heap.size, 7, none⟩), .slice x.ta tn x.tc, .slice ra tn rc, .pointer (some ⟨w.heap.size, 3, none⟩), .pointer (some ⟨w.heap.size, 6, none⟩), .slice x.ja vn x.jc, _, _, _, _, _], defers := [] } _
  refine alongK_read (.pointer (some ⟨w.heap.size, 7, none⟩)) rfl rfl (fun wx hS => ex_field rfl rfl wx (by simp [go_sem])) ?_
  change AlongK _ _ _ _ _ { tmps := #[.agg cs, .pointer (some ⟨w.heap.size, 0, none⟩), .pointer (some ⟨w.heap.size + 1, 0, none⟩), .pointer (some ⟨w.heap.size, 7, none⟩), .slice x.ta tn x.tc, .slice ra tn rc, .pointer (some ⟨w.heap.size, 3, none⟩), .pointer (some ⟨w.heap.size, 6, none⟩), .slice x.ja vn x.jc, _, .pointer (some ⟨w.heap.size, 7, none⟩), _, _, _], defers := [] } _
  refine alongK_step ?_
  refine opK_call (vs := [.slice x.ja vn x.jc]) rfl rfl rfl (enters_of Try.func45 (by kernel_rfl) rfl) rfl ?_
  with_reducible refine Calls.mono (HV.out _ HU4.out) ?_
  rintro e w5 ⟨rb, rbc, rfl, hT, hU, hN⟩
  have HU5 := Lib.hid (Up.trans HU4.out hU)
  have HHHV := Lib.hid hT
  have HLHV := Lib.hid hU
  have HNHHV : Hid (∀ b o, rb = some ⟨b, o, none⟩ → w.heap.size + 1 < b) := Lib.hid fun b o e => Nat.lt_of_lt_of_le HBS.out (Nat.le_trans (HU4.out).size (hN b o e))
  clear hU hT hN
  refine ⟨_, rfl, (fun _ => True), (fun _ h => h), trivial, ?_⟩
  change AlongK _ _ _ _ _ { tmps := #[.agg cs, .pointer (some ⟨w.heap.size, 0, none⟩), .pointer (some ⟨w.heap.size + 1, 0, none⟩), .pointer (some ⟨w.heap.size, 7, none⟩), .slice x.ta tn x.tc, .slice ra tn rc, .pointer (some ⟨w.heap.size, 3, none⟩), .pointer (some ⟨w.heap.size, 6, none⟩), .slice x.ja vn x.jc, .slice rb vn rbc, .pointer (some ⟨w.heap.size, 7, none⟩), _, _, _], defers := [] } _
  refine alongK_step ?_
  have hr5 := HB.out _ HU5.out
  have hg6 := setRow_heap w5 w.heap.size _ (cs.setIfInBounds 7 (.slice ra tn rc)) _ _ hr5
  refine opK_store _ rfl rfl (ex_setS hr5 (by rw [hcs]; decide) rfl rfl rfl Try.sizeOf39) (fun _ => True) (fun _ h => h) trivial ?_
  generalize hw6 : w5.setRow w.heap.size (cs.setIfInBounds 7 (.slice ra tn rc)) = w6 at hg6 ⊢
  change AlongK _ _ _ _ _ { tmps := #[.agg cs, .pointer (some ⟨w.heap.size, 0, none⟩), .pointer (some ⟨w.heap.size + 1, 0, none⟩), .pointer (some ⟨w.heap.size, 7, none⟩), .slice x.ta tn x.tc, .slice ra tn rc, .pointer (some ⟨w.heap.size, 3, none⟩), .pointer (some ⟨w.heap.size, 6, none⟩), .slice x.ja vn x.jc, .slice rb vn rbc, .pointer (some ⟨w.heap.size, 7, none⟩), _, _, _], defers := [] } _
  refine alongK_read (.pointer (some ⟨w.heap.size, 3, none⟩)) rfl rfl (fun wx hS => ex_field rfl rfl wx (by simp [go_sem])) ?_
  change AlongK _ _ _ _ _ { tmps := #[.agg cs, .pointer (some ⟨w.heap.size, 0, none⟩), .pointer (some ⟨w.heap.size + 1, 0, none⟩), .pointer (some ⟨w.heap.size, 7, none⟩), .slice x.ta tn x.tc, .slice ra tn rc, .pointer (some ⟨w.heap.size, 3, none⟩), .pointer (some ⟨w.heap.size, 6, none⟩), .slice x.ja vn x.jc, .slice rb vn rbc, .pointer (some ⟨w.heap.size, 7, none⟩), .pointer (some ⟨w.heap.size, 3, none⟩), _, _], defers := [] } _
  refine alongK_read (.pointer (some ⟨w.heap.size, 6, none⟩)) rfl rfl (fun wx hS => ex_field rfl rfl wx (by simp [go_sem])) ?_
  change AlongK _ _ _ _ _ { tmps := #[.agg cs, .pointer (some ⟨w.heap.size, 0, none⟩), .pointer (some ⟨w.heap.size + 1, 0, none⟩), .pointer (some ⟨w.heap.size, 7, none⟩), .slice x.ta tn x.tc, .slice ra tn rc, .pointer (some ⟨w.heap.size, 3, none⟩), .pointer (some ⟨w.heap.size, 6, none⟩), .slice x.ja vn x.jc, .slice rb vn rbc, .pointer (some ⟨w.heap.size, 7, none⟩), .pointer (some ⟨w.heap.size, 3, none⟩), .pointer (some ⟨w.heap.size, 6, none⟩), _], defers := [] } _
  refine alongK_step ?_
  have hg7 := setRow_heap w6 w.heap.size _ ((cs.setIfInBounds 7 (.slice ra tn rc)).setIfInBounds 6 (.slice rb vn rbc)) _ _ hg6
  refine opK_store _ rfl rfl (ex_setS hg6 (by simp; rw [hcs]; decide) rfl rfl rfl Try.sizeOf36) (fun _ => True) (fun _ h => h) trivial ?_
  generalize hw7 : w6.setRow w.heap.size ((cs.setIfInBounds 7 (.slice ra tn rc)).setIfInBounds 6 (.slice rb vn rbc)) = w7 at hg7 ⊢
  change AlongK _ _ _ _ _ { tmps := #[.agg cs, .pointer (some ⟨w.heap.size, 0, none⟩), .pointer (some ⟨w.heap.size + 1, 0, none⟩), .pointer (some ⟨w.heap.size, 7, none⟩), .slice x.ta tn x.tc, .slice ra tn rc, .pointer (some ⟨w.heap.size, 3, none⟩), .pointer (some ⟨w.heap.size, 6, none⟩), .slice x.ja vn x.jc, .slice rb vn rbc, .pointer (some ⟨w.heap.size, 7, none⟩), .pointer (some ⟨w.heap.size, 3, none⟩), .pointer (some ⟨w.heap.size, 6, none⟩), _], defers := [] } _
  refine alongK_done ?_
  focus
    have HT5 := Lib.hid (HHHX.out.up HLHV.out)
    have HK7 : Hid (KeptBut (fun k => k = w.heap.size) w5 w7) := Lib.hid (by
      rw [← hw7, ← hw6]
      exact ⟨rfl, rfl, rfl, by simp [World.setRow], fun k hk hne => by rw [setRow_other _ w.heap.size k _ hne, setRow_other _ w.heap.size k _ hne]⟩)
    clear hw6 hw7 hr5 hg6
    have HG7 := Lib.hid hg7
    have hB2 : w7.heap[w.heap.size + 1]? = some (.cells #[.int .i64 0, .int .i64 0, .string ⟨#[]⟩, .int .i64 0, .int .i64 0, .string ⟨#[]⟩, .slice none 0 0, .slice none 0 0, .string ⟨#[]⟩] 41 (0, 0)) := (HK7.out.block (w.heap.size + 1) (by have := HU5.out.size; have := HBS.out; omega) (by omega)).trans (HB2.out _ HU5.out)
    go_wp2_with (first | (refine wpList_ex rfl (.agg ((cs.setIfInBounds 7 (.slice ra tn rc)).setIfInBounds 6 (.slice rb vn rbc))) _ (ex_loadrow (x := .tmp 1) rfl rfl _ 41 HG7.out Try.underlying41 rfl (by simp only [Array.size_setIfInBounds]; rw [hcs]; exact info_bk)) ?_) | (refine wpList_store_agg rfl 41 (.tmp 2) (.tmp 13) rfl (w.heap.size + 1) _ ((cs.setIfInBounds 7 (.slice ra tn rc)).setIfInBounds 6 (.slice rb vn rbc)) rfl rfl 41 hB2 (by simp only [Array.size_setIfInBounds]; rw [hcs]; exact info_bk) (by simp [hcs]) (HONE.out ra rc rb rbc) ?_; intro w8 hg8 hgr8))
    
    have hK8 : KeptBut (fun k => k = w.heap.size ∨ k = w.heap.size + 1) w5 w8 := KeptBut.trans ⟨HK7.out.os, HK7.out.tape, HK7.out.output, HK7.out.size, fun k hk hn => HK7.out.block k hk (fun e => hn (.inl e))⟩ (KeptBut.of_grown (S := fun k => k = w.heap.size + 1) hgr8 (fun k e => by cases e; rfl)) (fun _ _ e => .inr e)
    refine bodyPost_ret (results_bkC rfl _ _ _ _ rfl hg8 (by simp [hcs])) rfl ⟨ra, rc, rb, rbc, ?_, ?_, ?_, ?_⟩
    · rw [HAT.out]
    · have hn : ∀ b o, ra = some ⟨b, o, none⟩ → ¬ (b = w.heap.size ∨ b = w.heap.size + 1) := fun b o e => by have := HNHHX.out b o e; omega
      have hn2 : ∀ b o, rb = some ⟨b, o, none⟩ → ¬ (b = w.heap.size ∨ b = w.heap.size + 1) := fun b o e => by have := HNHHV.out b o e; omega
      refine ⟨?_, ?_⟩
      · show VArg w8 (.slice rb x.vs.length rbc) x.vs
        rw [HVN.out]; exact varg_but HHHV.out hK8 hn2
      · show TArg w8 (.slice ra x.tx.length rc) x.tx
        rw [HTN.out]; exact targ_but HT5.out hK8 hn
    · exact Below.trans (B := w.heap.size) (HU2.out.trans HU5.out) (hK8.below (by have := HU5.out.size; have := HBS.out; omega) (fun k hk => by rcases hk with rfl | rfl <;> omega))
    · rintro b o (e | e)
      · have := HNHHX.out b o e; omega
      · have := HNHHV.out b o e; omega
  refine opK_run (.slice x.ja vn x.jc) _ rfl rfl (ex_load Try.isAgg36 rfl rfl _ (HC6.out _ HU3.out)) (fun _ => True) (fun _ h => h) trivial ?_
  change AlongK _ _ _ _ _ { tmps := #[.agg cs, .pointer (some ⟨w.heap.size, 0, none⟩), .pointer (some ⟨w.heap.size + 1, 0, none⟩), .pointer (some ⟨w.heap.size, 7, none⟩), .slice x.ta tn x.tc, _, .pointer (some ⟨w.heap.size, 3, none⟩), .pointer (some ⟨w.heap.size, 6, none⟩), .slice x.ja vn x.jc, _, _, _, _, _], defers := [] } _
  refine alongK_step ?_
  refine opK_call (vs := [.slice x.ta tn x.tc]) rfl rfl rfl (enters_of Try.func44 (by kernel_rfl) rfl) rfl ?_
  with_reducible refine Calls.mono (HX.out _ HU3.out) ?_
  rintro e w4 ⟨ra, rc, rfl, hT, hU, hN⟩
  have HU4 := Lib.hid (Up.trans HU3.out hU)
  have HHHX := Lib.hid hT
  have HLHX := Lib.hid hU
  have HNHHX : Hid (∀ b o, ra = some ⟨b, o, none⟩ → w.heap.size + 1 < b) := Lib.hid fun b o e => Nat.lt_of_lt_of_le HBS.out (Nat.le_trans (HU3.out).size (hN b o e))
  clear hU hT hN
  refine ⟨_, rfl, (fun _ => True), (fun _ h => h), trivial, ?_⟩
  change AlongK _ _ _ _ _ { tmps := #[.agg cs, .pointer (some ⟨w.heap.size, 0, none⟩), .pointer (some ⟨w.heap.size + 1, 0, none⟩), .pointer (some ⟨w.heap.size, 7, none⟩), .slice x.ta tn x.tc, .slice ra tn rc, .pointer (some ⟨w.heap.size, 3, none⟩), .pointer (some ⟨w.heap.size, 6, none⟩), .slice x.ja vn x.jc, _, _, _, _, _], defers := [] } _
  refine alongK_read (.pointer (some ⟨w.heap.size, 7, none⟩)) rfl rfl (fun wx hS => ex_field rfl rfl wx (by simp [go_sem])) ?_
  change AlongK _ _ _ _ _ { tmps := #[.agg cs, .pointer (some ⟨w.heap.size, 0, none⟩), .pointer (some ⟨w.heap.size + 1, 0, none⟩), .pointer (some ⟨w.heap.size, 7, none⟩), .slice x.ta tn x.tc, .slice ra tn rc, .pointer (some ⟨w.heap.size, 3, none⟩), .pointer (some ⟨w.heap.size, 6, none⟩), .slice x.ja vn x.jc, _, .pointer (some ⟨w.heap.size, 7, none⟩), _, _, _], defers := [] } _
  refine alongK_step ?_
  refine opK_call (vs := [.slice x.ja vn x.jc]) rfl rfl rfl (enters_of Try.func45 (by kernel_rfl) rfl) rfl ?_
  with_reducible refine Calls.mono (HV.out _ HU4.out) ?_
  rintro e w5 ⟨rb, rbc, rfl, hT, hU, hN⟩
  have HU5 := Lib.hid (Up.trans HU4.out hU)
  have HHHV := Lib.hid hT
  have HLHV := Lib.hid hU
  have HNHHV : Hid (∀ b o, rb = some ⟨b, o, none⟩ → w.heap.size + 1 < b) := Lib.hid fun b o e => Nat.lt_of_lt_of_le HBS.out (Nat.le_trans (HU4.out).size (hN b o e))
  clear hU hT hN
  refine ⟨_, rfl, (fun _ => True), (fun _ h => h), trivial, ?_⟩
  change AlongK _ _ _ _ _ { tmps := #[.agg cs, .pointer (some ⟨w.heap.size, 0, none⟩), .pointer (some ⟨w.heap.size + 1, 0, none⟩), .pointer (some ⟨w.heap.size, 7, none⟩), .slice x.ta tn x.tc, .slice ra tn rc, .pointer (some ⟨w.heap.size, 3, none⟩), .pointer (some ⟨w.heap.size, 6, none⟩), .slice x.ja vn x.jc, .slice rb vn rbc, .pointer (some ⟨w.heap.size, 7, none⟩), _, _, _], defers := [] } _
  refine alongK_step ?_
  have hr5 := HB.out _ HU5.out
  have hg6 := setRow_heap w5 w.heap.size _ (cs.setIfInBounds 7 (.slice ra tn rc)) _ _ hr5
  refine opK_store _ rfl rfl (ex_setS hr5 (by rw [hcs]; decide) rfl rfl rfl Try.sizeOf39) (fun _ => True) (fun _ h => h) trivial ?_
  generalize hw6 : w5.setRow w.heap.size (cs.setIfInBounds 7 (.slice ra tn rc)) = w6 at hg6 ⊢
  change AlongK _ _ _ _ _ { tmps := #[.agg cs, .pointer (some ⟨w.heap.size, 0, none⟩), .pointer (some ⟨w.heap.size + 1, 0, none⟩), .pointer (some ⟨w.heap.size, 7, none⟩), .slice x.ta tn x.tc, .slice ra tn rc, .pointer (some ⟨w.heap.size, 3, none⟩), .pointer (some ⟨w.heap.size, 6, none⟩), .slice x.ja vn x.jc, .slice rb vn rbc, .pointer (some ⟨w.heap.size, 7, none⟩), _, _, _], defers := [] } _
  refine alongK_read (.pointer (some ⟨w.heap.size, 3, none⟩)) rfl rfl (fun wx hS => ex_field rfl rfl wx (by simp [go_sem])) ?_
  change AlongK _ _ _ _ _ { tmps := #[.agg cs, .pointer (some ⟨w.heap.size, 0, none⟩), .pointer (some ⟨w.heap.size + 1, 0, none⟩), .pointer (some ⟨w.heap.size, 7, none⟩), .slice x.ta tn x.tc, .slice ra tn rc, .pointer (some ⟨w.heap.size, 3, none⟩), .pointer (some ⟨w.heap.size, 6, none⟩), .slice x.ja vn x.jc, .slice rb vn rbc, .pointer (some ⟨w.heap.size, 7, none⟩), .pointer (some ⟨w.heap.size, 3, none⟩), _, _], defers := [] } _
  refine alongK_read (.pointer (some ⟨w.heap.size, 6, none⟩)) rfl rfl (fun wx hS => ex_field rfl rfl wx (by simp [go_sem])) ?_
  change AlongK _ _ _ _ _ { tmps := #[.agg cs, .pointer (some ⟨w.heap.size, 0, none⟩), .pointer (some ⟨w.heap.size + 1, 0, none⟩), .pointer (some ⟨w.heap.size, 7, none⟩), .slice x.ta tn x.tc, .slice ra tn rc, .pointer (some ⟨w.heap.size, 3, none⟩), .pointer (some ⟨w.heap.size, 6, none⟩), .slice x.ja vn x.jc, .slice rb vn rbc, .pointer (some ⟨w.heap.size, 7, none⟩), .pointer (some ⟨w.heap.size, 3, none⟩), .pointer (some ⟨w.heap.size, 6, none⟩), _], defers := [] } _
  refine alongK_step ?_
  have hg7 := setRow_heap w6 w.heap.size _ ((cs.setIfInBounds 7 (.slice ra tn rc)).setIfInBounds 6 (.slice rb vn rbc)) _ _ hg6
  refine opK_store _ rfl rfl (ex_setS hg6 (by simp; rw [hcs]; decide) rfl rfl rfl Try.sizeOf36) (fun _ => True) (fun _ h => h) trivial ?_
  generalize hw7 : w6.setRow w.heap.size ((cs.setIfInBounds 7 (.slice ra tn rc)).setIfInBounds 6 (.slice rb vn rbc)) = w7 at hg7 ⊢
  change AlongK _ _ _ _ _ { tmps := #[.agg cs, .pointer (some ⟨w.heap.size, 0, none⟩), .pointer (some ⟨w.heap.size + 1, 0, none⟩), .pointer (some ⟨w.heap.size, 7, none⟩), .slice x.ta tn x.tc, .slice ra tn rc, .pointer (some ⟨w.heap.size, 3, none⟩), .pointer (some ⟨w.heap.size, 6, none⟩), .slice x.ja vn x.jc, .slice rb vn rbc, .pointer (some ⟨w.heap.size, 7, none⟩), .pointer (some ⟨w.heap.size, 3, none⟩), .pointer (some ⟨w.heap.size, 6, none⟩), _], defers := [] } _
  refine alongK_done ?_
  focus
    have HT5 := Lib.hid (HHHX.out.up HLHV.out)
    have HK7 : Hid (KeptBut (fun k => k = w.heap.size) w5 w7) := Lib.hid (by
      rw [← hw7, ← hw6]
      exact ⟨rfl, rfl, rfl, by simp [World.setRow], fun k hk hne => by rw [setRow_other _ w.heap.size k _ hne, setRow_other _ w.heap.size k _ hne]⟩)
    clear hw6 hw7 hr5 hg6
    have HG7 := Lib.hid hg7
    have hB2 : w7.heap[w.heap.size + 1]? = some (.cells #[.int .i64 0, .int .i64 0, .string ⟨#[]⟩, .int .i64 0, .int .i64 0, .string ⟨#[]⟩, .slice none 0 0, .slice none 0 0, .string ⟨#[]⟩] 41 (0, 0)) := (HK7.out.block (w.heap.size + 1) (by have := HU5.out.size; have := HBS.out; omega) (by omega)).trans (HB2.out _ HU5.out)
    go_wp2_with (first | (refine wpList_ex rfl (.agg ((cs.setIfInBounds 7 (.slice ra tn rc)).setIfInBounds 6 (.slice rb vn rbc))) _ (ex_loadrow (x := .tmp 1) rfl rfl _ 41 HG7.out Try.underlying41 rfl (by simp only [Array.size_setIfInBounds]; rw [hcs]; exact info_bk)) ?_) | (refine wpList_store_agg rfl 41 (.tmp 2) (.tmp 13) rfl (w.heap.size + 1) _ ((cs.setIfInBounds 7 (.slice ra tn rc)).setIfInBounds 6 (.slice rb vn rbc)) rfl rfl 41 hB2 (by simp only [Array.size_setIfInBounds]; rw [hcs]; exact info_bk) (by simp [hcs]) (HONE.out ra rc rb rbc) ?_; intro w8 hg8 hgr8))
    
    have hK8 : KeptBut (fun k => k = w.heap.size ∨ k = w.heap.size + 1) w5 w8 := KeptBut.trans ⟨HK7.out.os, HK7.out.tape, HK7.out.output, HK7.out.size, fun k hk hn => HK7.out.block k hk (fun e => hn (.inl e))⟩ (KeptBut.of_grown (S := fun k => k = w.heap.size + 1) hgr8 (fun k e => by cases e; rfl)) (fun _ _ e => .inr e)
    refine bodyPost_ret (results_bkC rfl _ _ _ _ rfl hg8 (by simp [hcs])) rfl ⟨ra, rc, rb, rbc, ?_, ?_, ?_, ?_⟩
    · rw [HAT.out]
    · have hn : ∀ b o, ra = some ⟨b, o, none⟩ → ¬ (b = w.heap.size ∨ b = w.heap.size + 1) := fun b o e => by have := HNHHX.out b o e; omega
      have hn2 : ∀ b o, rb = some ⟨b, o, none⟩ → ¬ (b = w.heap.size ∨ b = w.heap.size + 1) := fun b o e => by have := HNHHV.out b o e; omega
      refine ⟨?_, ?_⟩
      · show VArg w8 (.slice rb x.vs.length rbc) x.vs
        rw [HVN.out]; exact varg_but HHHV.out hK8 hn2
      · show TArg w8 (.slice ra x.tx.length rc) x.tx
        rw [HTN.out]; exact targ_but HT5.out hK8 hn
    · exact Below.trans (B := w.heap.size) (HU2.out.trans HU5.out) (hK8.below (by have := HU5.out.size; have := HBS.out; omega) (fun k hk => by rcases hk with rfl | rfl <;> omega))
    · rintro b o (e | e)
      · have := HNHHX.out b o e; omega
      · have := HNHHV.out b o e; omega
  refine opK_run (.slice x.ja vn x.jc) _ rfl rfl (ex_load Try.isAgg36 rfl rfl _ (HC6.out _ HU3.out)) (fun _ => True) (fun _ h => h) trivial ?_
  change AlongK _ _ _ _ _ { tmps := #[.agg cs, .pointer (some ⟨w.heap.size, 0, none⟩), .pointer (some ⟨w.heap.size + 1, 0, none⟩), .pointer (some ⟨w.heap.size, 7, none⟩), _, _, .pointer (some ⟨w.heap.size, 3, none⟩), .pointer (some ⟨w.heap.size, 6, none⟩), .slice x.ja vn x.jc, _, _, _, _, _], defers := [] } _
  refine alongK_step ?_
  refine opK_run (.slice x.ta tn x.tc) _ rfl rfl (ex_load Try.isAgg39 rfl rfl _ (HC7.out _ HU3.out)) (fun _ => True) (fun _ h => h) trivial ?_
  change AlongK _ _ _ _ _ { tmps := #[.agg cs, .pointer (some ⟨w.heap.size, 0, none⟩), .pointer (some ⟨w.heap.size + 1, 0, none⟩), .pointer (some ⟨w.heap.size, 7, none⟩), .slice x.ta tn x.tc, _, .pointer (some ⟨w.heap.size, 3, none⟩), .pointer (some ⟨w.heap.size, 6, none⟩), .slice x.ja vn x.jc, _, _, _, _, _], defers := [] } _
  refine alongK_step ?_
  refine opK_call (vs := [.slice x.ta tn x.tc]) rfl rfl rfl (enters_of Try.func44 (by kernel_rfl) rfl) rfl ?_
  with_reducible refine Calls.mono (HX.out _ HU3.out) ?_
  rintro e w4 ⟨ra, rc, rfl, hT, hU, hN⟩
  have HU4 := Lib.hid (Up.trans HU3.out hU)
  have HHHX := Lib.hid hT
  have HLHX := Lib.hid hU
  have HNHHX : Hid (∀ b o, ra = some ⟨b, o, none⟩ → w.heap.size + 1 < b) := Lib.hid fun b o e => Nat.lt_of_lt_of_le HBS.out (Nat.le_trans (HU3.out).size (hN b o e))
  clear hU hT hN
  refine ⟨_, rfl, (fun _ => True), (fun _ h => h), trivial, ?_⟩
  change AlongK _ _ _ _ _ { tmps := #[.agg cs, .pointer (some ⟨w.heap.size, 0, none⟩), .pointer (some ⟨w.heap.size + 1, 0, none⟩), .pointer (some ⟨w.heap.size, 7, none⟩), .slice x.ta tn x.tc, .slice ra tn rc, .pointer (some ⟨w.heap.size, 3, none⟩), .pointer (some ⟨w.heap.size, 6, none⟩), .slice x.ja vn x.jc, _, _, _, _, _], defers := [] } _
  refine alongK_read (.pointer (some ⟨w.heap.size, 7, none⟩)) rfl rfl (fun wx hS => ex_field rfl rfl wx (by simp [go_sem])) ?_
  change AlongK _ _ _ _ _ { tmps := #[.agg cs, .pointer (some ⟨w.heap.size, 0, none⟩), .pointer (some ⟨w.heap.size + 1, 0, none⟩), .pointer (some ⟨w.heap.size, 7, none⟩), .slice x.ta tn x.tc, .slice ra tn rc, .pointer (some ⟨w.heap.size, 3, none⟩), .pointer (some ⟨w.heap.size, 6, none⟩), .slice x.ja vn x.jc, _, .pointer (some ⟨w.heap.size, 7, none⟩), _, _, _], defers := [] } _
  refine alongK_step ?_
  refine opK_call (vs := [.slice x.ja vn x.jc]) rfl rfl rfl (enters_of Try.func45 (by kernel_rfl) rfl) rfl ?_
  with_reducible refine Calls.mono (HV.out _ HU4.out) ?_
  rintro e w5 ⟨rb, rbc, rfl, hT, hU, hN⟩
  have HU5 := Lib.hid (Up.trans HU4.out hU)
  have HHHV := Lib.hid hT
  have HLHV := Lib.hid hU
  have HNHHV : Hid (∀ b o, rb = some ⟨b, o, none⟩ → w.heap.size + 1 < b) := Lib.hid fun b o e => Nat.lt_of_lt_of_le HBS.out (Nat.le_trans (HU4.out).size (hN b o e))
  clear hU hT hN
  refine ⟨_, rfl, (fun _ => True), (fun _ h => h), trivial, ?_⟩
  change AlongK _ _ _ _ _ { tmps := #[.agg cs, .pointer (some ⟨w.heap.size, 0, none⟩), .pointer (some ⟨w.heap.size + 1, 0, none⟩), .pointer (some ⟨w.heap.size, 7, none⟩), .slice x.ta tn x.tc, .slice ra tn rc, .pointer (some ⟨w.heap.size, 3, none⟩), .pointer (some ⟨w.heap.size, 6, none⟩), .slice x.ja vn x.jc, .slice rb vn rbc, .pointer (some ⟨w.heap.size, 7, none⟩), _, _, _], defers := [] } _
  refine alongK_step ?_
  have hr5 := HB.out _ HU5.out
  have hg6 := setRow_heap w5 w.heap.size _ (cs.setIfInBounds 7 (.slice ra tn rc)) _ _ hr5
  refine opK_store _ rfl rfl (ex_setS hr5 (by rw [hcs]; decide) rfl rfl rfl Try.sizeOf39) (fun _ => True) (fun _ h => h) trivial ?_
  generalize hw6 : w5.setRow w.heap.size (cs.setIfInBounds 7 (.slice ra tn rc)) = w6 at hg6 ⊢
  change AlongK _ _ _ _ _ { tmps := #[.agg cs, .pointer (some ⟨w.heap.size, 0, none⟩), .pointer (some ⟨w.heap.size + 1, 0, none⟩), .pointer (some ⟨w.heap.size, 7, none⟩), .slice x.ta tn x.tc, .slice ra tn rc, .pointer (some ⟨w.heap.size, 3, none⟩), .pointer (some ⟨w.heap.size, 6, none⟩), .slice x.ja vn x.jc, .slice rb vn rbc, .pointer (some ⟨w.heap.size, 7, none⟩), _, _, _], defers := [] } _
  refine alongK_read (.pointer (some ⟨w.heap.size, 3, none⟩)) rfl rfl (fun wx hS => ex_field rfl rfl wx (by simp [go_sem])) ?_
  change AlongK _ _ _ _ _ { tmps := #[.agg cs, .pointer (some ⟨w.heap.size, 0, none⟩), .pointer (some ⟨w.heap.size + 1, 0, none⟩), .pointer (some ⟨w.heap.size, 7, none⟩), .slice x.ta tn x.tc, .slice ra tn rc, .pointer (some ⟨w.heap.size, 3, none⟩), .pointer (some ⟨w.heap.size, 6, none⟩), .slice x.ja vn x.jc, .slice rb vn rbc, .pointer (some ⟨w.heap.size, 7, none⟩), .pointer (some ⟨w.heap.size, 3, none⟩), _, _], defers := [] } _
  refine alongK_read (.pointer (some ⟨w.heap.size, 6, none⟩)) rfl rfl (fun wx hS => ex_field rfl rfl wx (by simp [go_sem])) ?_
  change AlongK _ _ _ _ _ { tmps := #[.agg cs, .pointer (some ⟨w.heap.size, 0, none⟩), .pointer (some ⟨w.heap.size + 1, 0, none⟩), .pointer (some ⟨w.heap.size, 7, none⟩), .slice x.ta tn x.tc, .slice ra tn rc, .pointer (some ⟨w.heap.size, 3, none⟩), .pointer (some ⟨w.heap.size, 6, none⟩), .slice x.ja vn x.jc, .slice rb vn rbc, .pointer (some ⟨w.heap.size, 7, none⟩), .pointer (some ⟨w.heap.size, 3, none⟩), .pointer (some ⟨w.heap.size, 6, none⟩), _], defers := [] } _
  refine alongK_step ?_
  have hg7 := setRow_heap w6 w.heap.size _ ((cs.setIfInBounds 7 (.slice ra tn rc)).setIfInBounds 6 (.slice rb vn rbc)) _ _ hg6
  refine opK_store _ rfl rfl (ex_setS hg6 (by simp; rw [hcs]; decide) rfl rfl rfl Try.sizeOf36) (fun _ => True) (fun _ h => h) trivial ?_
  generalize hw7 : w6.setRow w.heap.size ((cs.setIfInBounds 7 (.slice ra tn rc)).setIfInBounds 6 (.slice rb vn rbc)) = w7 at hg7 ⊢
  change AlongK _ _ _ _ _ { tmps := #[.agg cs, .pointer (some ⟨w.heap.size, 0, none⟩), .pointer (some ⟨w.heap.size + 1, 0, none⟩), .pointer (some ⟨w.heap.size, 7, none⟩), .slice x.ta tn x.tc, .slice ra tn rc, .pointer (some ⟨w.heap.size, 3, none⟩), .pointer (some ⟨w.heap.size, 6, none⟩), .slice x.ja vn x.jc, .slice rb vn rbc, .pointer (some ⟨w.heap.size, 7, none⟩), .pointer (some ⟨w.heap.size, 3, none⟩), .pointer (some ⟨w.heap.size, 6, none⟩), _], defers := [] } _
  refine alongK_done ?_
  focus
    have HT5 := Lib.hid (HHHX.out.up HLHV.out)
    have HK7 : Hid (KeptBut (fun k => k = w.heap.size) w5 w7) := Lib.hid (by
      rw [← hw7, ← hw6]
      exact ⟨rfl, rfl, rfl, by simp [World.setRow], fun k hk hne => by rw [setRow_other _ w.heap.size k _ hne, setRow_other _ w.heap.size k _ hne]⟩)
    clear hw6 hw7 hr5 hg6
    have HG7 := Lib.hid hg7
    have hB2 : w7.heap[w.heap.size + 1]? = some (.cells #[.int .i64 0, .int .i64 0, .string ⟨#[]⟩, .int .i64 0, .int .i64 0, .string ⟨#[]⟩, .slice none 0 0, .slice none 0 0, .string ⟨#[]⟩] 41 (0, 0)) := (HK7.out.block (w.heap.size + 1) (by have := HU5.out.size; have := HBS.out; omega) (by omega)).trans (HB2.out _ HU5.out)
    go_wp2_with (first | (refine wpList_ex rfl (.agg ((cs.setIfInBounds 7 (.slice ra tn rc)).setIfInBounds 6 (.slice rb vn rbc))) _ (ex_loadrow (x := .tmp 1) rfl rfl _ 41 HG7.out Try.underlying41 rfl (by simp only [Array.size_setIfInBounds]; rw [hcs]; exact info_bk)) ?_) | (refine wpList_store_agg rfl 41 (.tmp 2) (.tmp 13) rfl (w.heap.size + 1) _ ((cs.setIfInBounds 7 (.slice ra tn rc)).setIfInBounds 6 (.slice rb vn rbc)) rfl rfl 41 hB2 (by simp only [Array.size_setIfInBounds]; rw [hcs]; exact info_bk) (by simp [hcs]) (HONE.out ra rc rb rbc) ?_; intro w8 hg8 hgr8))
    
    have hK8 : KeptBut (fun k => k = w.heap.size ∨ k = w.heap.size + 1) w5 w8 := KeptBut.trans ⟨HK7.out.os, HK7.out.tape, HK7.out.output, HK7.out.size, fun k hk hn => HK7.out.block k hk (fun e => hn (.inl e))⟩ (KeptBut.of_grown (S := fun k => k = w.heap.size + 1) hgr8 (fun k e => by cases e; rfl)) (fun _ _ e => .inr e)
    refine bodyPost_ret (results_bkC rfl _ _ _ _ rfl hg8 (by simp [hcs])) rfl ⟨ra, rc, rb, rbc, ?_, ?_, ?_, ?_⟩
    · rw [HAT.out]
    · have hn : ∀ b o, ra = some ⟨b, o, none⟩ → ¬ (b = w.heap.size ∨ b = w.heap.size + 1) := fun b o e => by have := HNHHX.out b o e; omega
      have hn2 : ∀ b o, rb = some ⟨b, o, none⟩ → ¬ (b = w.heap.size ∨ b = w.heap.size + 1) := fun b o e => by have := HNHHV.out b o e; omega
      refine ⟨?_, ?_⟩
      · show VArg w8 (.slice rb x.vs.length rbc) x.vs
        rw [HVN.out]; exact varg_but HHHV.out hK8 hn2
      · show TArg w8 (.slice ra x.tx.length rc) x.tx
        rw [HTN.out]; exact targ_but HT5.out hK8 hn
    · exact Below.trans (B := w.heap.size) (HU2.out.trans HU5.out) (hK8.below (by have := HU5.out.size; have := HBS.out; omega) (fun k hk => by rcases hk with rfl | rfl <;> omega))
    · rintro b o (e | e)
      · have := HNHHX.out b o e; omega
      · have := HNHHV.out b o e; omega
end
end Go.Proofs.Ytnipkhgaceicbaa
