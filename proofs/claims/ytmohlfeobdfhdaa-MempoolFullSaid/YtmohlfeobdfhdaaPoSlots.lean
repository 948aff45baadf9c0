import Derived.Test.YtmohlfeobdfhdaaPoSet
import Derived.Test.YtmohlfeobdfhdaaPoKit
/-
  mempool: which slot a transaction has; is it there; the next one in its place.
-/
namespace Go.Proofs.Ytmohlfeobdfhdaa
set_option maxRecDepth 100000
section
set_option linter.unusedVariables false
open Go.RowKit Go.Sort Go.Lib

theorem info_slot : (Try.prog.info? 52).map (·.size) = some 2 := by kernel_rfl
theorem results_slot {fn : Func} {p : Tmp} (h : fn.results = #[.cell p 52]) (tmps : Array Value) (w : World) (B : Nat) (cs : Array Value) (hp : tmps.getD p undef = .pointer (some ⟨B, 0, none⟩))
    (hg : w.heap[B]? = some (.cells cs 52 (0, 0))) (hs : cs.size = 2) :
    (results fn tmps).run Try.prog w = .ok (.agg cs) w := by
  have hp' : tmps[p]?.getD undef = .pointer (some ⟨B, 0, none⟩) := by simpa using hp
  have hl := run_loadVar_row (P := Try.prog) w B 52 52 cs (0, 0) _ hg Try.underlying52 rfl (by rw [info_slot, hs])
  simp [results, h, hp', asAddr, hl]
theorem fill_slot (W : World) (c0 c1 : Array Value) (o : Oper) (x y : Operand) (ρ : Operand → Value) (hop : o.op = .store 52 x y) (hx : ρ x = .pointer (some ⟨W.heap.size, 0, none⟩)) (hy : ρ y = .agg c1) (h0 : c0.size = 2) (h1 : c1.size = 2) (h2 : c1.all (·.oneCell') = true) :
    (execOp ρ o).run Try.prog (W.alloc (.cells c0 52)) = .ok .skip (W.alloc (.cells c1 52)) := by
  have h3 := ex_storerow (P := Try.prog) (g := W.heap.size) (c0 := c0) (c1 := c1) hop hx hy (W.alloc (.cells c0 52)) 52 (heap_alloc_new W _) (by rw [info_slot, h1]) (by rw [h0, h1]) h2
  rwa [alloc_setRow] at h3
theorem slotOf_any (f t a n : Int) (S : ByteArray) (w : World) :
    Calls Try.prog 23 #[.agg #[.int .i64 f, .int .i64 t, .int .i64 a, .int .i64 n, .string S]] w fun e w' => e = .returned (.agg #[.int .i64 f, .int .i64 n]) ∧ Gr w w' := by
  have h0 := heap_alloc_new w (.cells #[.int .i64 f, .int .i64 t, .int .i64 a, .int .i64 n, .string S] 29)
  have h1 := ((Up.alloc (Up.refl _) (.cells #[.int .i64 0, .int .i64 0] 52)).block _ (lt_of_block h0)).trans h0
  have c0 := tx_cell h1 0 rfl
  have c3 := tx_cell h1 3 rfl
  clear h0 h1
  go_enter Try.func23, Try.ntmps23
  go_wp2_with (refine wpList_exs rfl _ (fill_slot (w.alloc (.cells #[.int .i64 f, .int .i64 t, .int .i64 a, .int .i64 n, .string S] 29)) #[.int .i64 0, .int .i64 0] #[.int .i64 f, .int .i64 n] _ (.tmp 2) (.tmp 7) _ rfl (by simp) rfl rfl rfl rfl) ?_)
  refine bodyPost_ret (results_slot rfl _ _ (w.heap.size + 1) _ rfl (by rw [show w.heap.size + 1 = (w.alloc (.cells #[.int .i64 f, .int .i64 t, .int .i64 a, .int .i64 n, .string S] 29)).heap.size by simp]; exact heap_alloc_new _ _) rfl) rfl ⟨rfl, ?_⟩
  exact (Gr.alloc _ _).trans (Gr.alloc _ _)

set_option maxHeartbeats 400000 in
theorem has_any (b m : Nat) (S : Int → Int → Bool) (x : Ts) (hx : TsOk x) (w : World) (hs : SlotSet w b m S) :
    Calls Try.prog 15 #[.map (some b), .agg (tsA x)] w fun e w' => e = .returned (.bool (S x.1.F x.1.N)) ∧ Gr w w' := by
  obtain ⟨⟨f, t, a, n⟩, sg⟩ := x
  obtain ⟨wf, _, _, wn, _⟩ := hx
  show Calls Try.prog 15 #[.map (some b), .agg #[.int .i64 f, .int .i64 t, .int .i64 a, .int .i64 n, .string sg]] w fun e w' => e = .returned (.bool (S f n)) ∧ Gr w w'
  have h0 := heap_alloc_new w (.cells #[.int .i64 f, .int .i64 t, .int .i64 a, .int .i64 n, .string sg] 29)
  have H0 := Lib.hid h0
  have Hc := Lib.hid (slotOf_any f t a n sg (w.alloc (.cells #[.int .i64 f, .int .i64 t, .int .i64 a, .int .i64 n, .string sg] 29)))
  have HS := Lib.hid (hs.up (Up.alloc (Up.refl w) (.cells #[.int .i64 f, .int .i64 t, .int .i64 a, .int .i64 n, .string sg] 29)))
  have WF := Lib.hid (And.intro wf wn)
  clear h0 hs wf wn
  go_enter Try.func15, Try.ntmps15
  go_wp2_with (refine wpList_ex rfl (.agg #[.int .i64 f, .int .i64 t, .int .i64 a, .int .i64 n, .string sg]) _ (ex_loadrow (x := .tmp 3) rfl rfl _ 29 H0.out Try.underlying29 rfl info_tx) ?_)
  with_reducible refine Calls.mono Hc.out ?_
  rintro e w1 ⟨rfl, hG⟩
  have HG := Lib.hid hG
  have HS1 := Lib.hid (HS.out.up hG.up)
  clear hG Hc HS H0
  go_wp2_with (at_lookup; refine wpList_slotHas rfl _ _ rfl HS1.out WF.out.1 WF.out.2 rfl rfl ?_)
  go_ret
  exact ⟨rfl, ((Gr.alloc _ _).trans HG.out).trans (Gr.alloc _ _)⟩

/-- the one behind it in its place -/
def passS (f n : Int) (S : Int → Int → Bool) (f' k' : Int) : Bool := (decide (f' = f) && decide (k' = wrap64 (n + 1))) || (!(decide (f' = f) && decide (k' = n)) && S f' k')
set_option maxHeartbeats 400000 in
theorem pass_any (b m : Nat) (S : Int → Int → Bool) (x : Ts) (hx : TsOk x) (hm : m < 1000000) (w : World) (hs : SlotSet w b m S) :
    Calls Try.prog 16 #[.map (some b), .agg (tsA x)] w fun e w' => e = .returned (.tuple #[]) ∧ w.grownBy w' (some b) ∧
      SlotSet w' b (m + 1) (passS x.1.F x.1.N S) := by
  obtain ⟨⟨f, t, a, n⟩, sg⟩ := x
  obtain ⟨wf, _, _, wn, _⟩ := hx
  show Calls Try.prog 16 #[.map (some b), .agg #[.int .i64 f, .int .i64 t, .int .i64 a, .int .i64 n, .string sg]] w fun e w' => e = .returned (.tuple #[]) ∧ w.grownBy w' (some b) ∧ SlotSet w' b (m + 1) (passS f n S)
  have h0 := heap_alloc_new w (.cells #[.int .i64 f, .int .i64 t, .int .i64 a, .int .i64 n, .string sg] 29)
  have H0 := Lib.hid h0
  have Hc := Lib.hid (slotOf_any f t a n sg (w.alloc (.cells #[.int .i64 f, .int .i64 t, .int .i64 a, .int .i64 n, .string sg] 29)))
  have HS := Lib.hid (hs.up (Up.alloc (Up.refl w) (.cells #[.int .i64 f, .int .i64 t, .int .i64 a, .int .i64 n, .string sg] 29)))
  have WF := Lib.hid (And.intro wf (And.intro wn (And.intro (wrap64_wf (n + 1)) hm)))
  have HB := Lib.hid hs.lt
  clear h0 hs wf wn hm
  go_enter Try.func16, Try.ntmps16
  go_wp2_with (refine wpList_ex rfl (.agg #[.int .i64 f, .int .i64 t, .int .i64 a, .int .i64 n, .string sg]) _ (ex_loadrow (x := .tmp 3) rfl rfl _ 29 H0.out Try.underlying29 rfl info_tx) ?_)
  with_reducible refine Calls.mono Hc.out ?_
  rintro e w1 ⟨rfl, hG⟩
  have HU1 := Lib.hid (Up.trans (Up.alloc (Up.refl w) (.cells #[.int .i64 f, .int .i64 t, .int .i64 a, .int .i64 n, .string sg] 29)) hG.up)
  have HS1 := Lib.hid (HS.out.up hG.up)
  have H1 := Lib.hid (hG.block H0.out)
  clear hG Hc HS H0
  have HL := Lib.hid (lt_of_block H1.out)
  go_wp2_with (first | (at_delete; refine wpList_slotDel rfl _ _ rfl HS1.out WF.out.1 WF.out.2.1 rfl rfl ?_; intro w2 hs2 hg2; have HS2 := Lib.hid hs2; have HG2 := Lib.hid hg2; have h2 := (hg2.block _ HL.out (fun e => by have := HB.out; cases e; omega)).trans H1.out; have c0 := tx_cell h2 0 rfl; have c3 := tx_cell h2 3 rfl; clear hs2 hg2 h2 HS1 H1) | (at_mapUpdate; refine wpList_slotPut rfl _ _ _ rfl HS2.out (by have := WF.out.2.2.2; unfold maxLen; omega) WF.out.1 WF.out.2.2.1 rfl rfl rfl ?_; intro w3 hs3 hg3; have HS3 : Hid (SlotSet w3 b (m + 1) (passS f n S)) := Lib.hid hs3; have HG3 := Lib.hid hg3; clear hs3 hg3))
  refine bodyPost_end (results_none rfl _ _ _) rfl ?_
  refine ⟨rfl, ?_, HS3.out⟩
  exact grown_trans (grown_trans (grown_up HU1.out _) HG2.out) HG3.out
end
end Go.Proofs.Ytmohlfeobdfhdaa
