import Derived.Test.YtnipkhgaceicbaaGdEnter
/-
  guard.isOpen, block.Mark.
-/
namespace Go.Proofs.Ytnipkhgaceicbaa
set_option maxRecDepth 100000
section
set_option linter.unusedVariables false
open Go.RowKit Go.Sort Go.Lib

def openG (s : Gs) (V : Int) : Bool := decide (V = s.V) && !s.sp
set_option maxHeartbeats 1000000 in
theorem isOpen_any (s : Gs) (MV MH : Int) (MB : ByteArray) (w : World) : Calls Try.prog 19 #[.agg (gsA s), .agg (mkC MV MH MB)] w fun e w' => e = .returned (.bool (openG s MV)) ∧ Up w w' := by
  have hc0 : (gsA s)[0]? = some (.int .i64 s.V) := rfl
  have hc10 : (gsA s)[10]? = some (.bool s.sp) := rfl
  unfold mkC openG
  generalize s.V = V at hc0 ⊢
  generalize s.sp = SP at hc10 ⊢
  generalize gsA s = cs at *
  have ha0 := heap_alloc_new w (.cells cs 28)
  have hu1 := Up.alloc (Up.refl (w.alloc (.cells cs 28))) (.cells #[.int .i64 MV, .int .i64 MH, .string MB] 26)
  have ha := (hu1.block _ (lt_of_block ha0)).trans ha0
  have hb := heap_alloc_new (w.alloc (.cells cs 28)) (.cells #[.int .i64 MV, .int .i64 MH, .string MB] 26)
  rw [show (w.alloc (.cells cs 28)).heap.size = w.heap.size + 1 by simp] at hb
  have HU := Lib.hid ((Up.alloc (Up.refl w) (.cells cs 28)).trans hu1)
  have a0 := tx_cell ha 0 hc0
  have a10 := tx_cell ha 10 hc10
  obtain ⟨b0, b1, b2⟩ := mk_cells hb
  clear ha0 hu1 ha hb hc0 hc10
  by_cases c2 : MV = V
  · subst c2
    rw [decide_eq_true rfl]
    go_enter Try.func19, Try.ntmps19
    go_upto_region 1 with fail
    generalize (w.alloc (.cells cs 28)).alloc (.cells #[.int .i64 MV, .int .i64 MH, .string MB] 26) = w3 at a0 a10 b0 b1 b2 HU ⊢
    generalize w.heap.size + 1 = B at b0 b1 b2 ⊢
    generalize w.heap.size = A at a0 a10 ⊢
    cases SP with
    | true => go_wp2; go_ret; exact ⟨rfl, HU.out⟩
    | false => go_wp2; go_ret; exact ⟨rfl, HU.out⟩
  · rw [decide_eq_false c2]
    go_enter Try.func19, Try.ntmps19
    go_upto_region 1 with fail
    generalize (w.alloc (.cells cs 28)).alloc (.cells #[.int .i64 MV, .int .i64 MH, .string MB] 26) = w3 at a0 a10 b0 b1 b2 HU ⊢
    generalize w.heap.size + 1 = B at b0 b1 b2 ⊢
    generalize w.heap.size = A at a0 a10 ⊢
    go_wp2
    go_ret
    exact ⟨rfl, HU.out⟩

theorem build_mkG (V H : Int) (B : ByteArray) (w : World) : (Instr.build 26 #[(0, .int .i64 V), (1, .int .i64 H), (2, .string B)]).run Try.prog w = .ok (.agg #[.int .i64 V, .int .i64 H, .string B]) w := by
  simp [go_sem]
set_option maxHeartbeats 1000000 in
theorem bkMark_any (x : Tb) (w : World) (hx : TArg w (.slice x.ta x.tx.length x.tc) x.tx) (hn : x.tx.length ≤ 9223372036854775807) :
    Calls Try.prog 18 #[.agg (tbA x)] w fun e w' => e = .returned (.agg (mkC x.V x.H (nameT x))) ∧ Up w w' := by
  have hu1 := Up.alloc (Up.refl w) (.cells (tbA x) 41)
  have hu2 := Up.alloc (Up.refl (w.alloc (.cells (tbA x) 41))) (.cells #[.int .i64 0, .int .i64 0, .string ⟨#[]⟩] 26)
  have hu := hu1.trans hu2
  have HNm : Hid (∀ wx, Up ((w.alloc (.cells (tbA x) 41)).alloc (.cells #[.int .i64 0, .int .i64 0, .string ⟨#[]⟩] 26)) wx → Calls Try.prog 26 #[.agg (tbA x)] wx fun e w' => e = .returned (.string (nameT x)) ∧ Up wx w') := Lib.hid (fun wx h => name_any x wx (hx.up (hu.trans h)) hn)
  have HU0 := Lib.hid hu
  have hb0 := heap_alloc_new w (.cells (tbA x) 41)
  have hb1 := (hu2.block _ (lt_of_block hb0)).trans hb0
  have B1 := heap_alloc_new (w.alloc (.cells (tbA x) 41)) (.cells #[.int .i64 0, .int .i64 0, .string ⟨#[]⟩] 26)
  rw [show (w.alloc (.cells (tbA x) 41)).heap.size = w.heap.size + 1 by simp] at B1
  have HB0 := Lib.hid hb1
  have HB1 := Lib.hid B1
  have hx0 : (tbA x)[0]? = some (.int .i64 x.V) := rfl
  have hx1 : (tbA x)[1]? = some (.int .i64 x.H) := rfl
  have HSZ : Hid ((Try.prog.info? 41).map (·.size) = some (tbA x).size) := Lib.hid info_bk
  clear hx hu1 hu2 hu hb0 hb1 B1
  generalize nameT x = NM at HNm ⊢
  generalize x.V = V at hx0 ⊢
  generalize x.H = HH at hx1 ⊢
  generalize tbA x = cs at *
  go_enter Try.func18, Try.ntmps18
  go_upto_region 1 with fail
  generalize (w.alloc (.cells cs 41)).alloc (.cells #[.int .i64 0, .int .i64 0, .string ⟨#[]⟩] 26) = w3 at HB0 HB1 HU0 HNm ⊢
  obtain ⟨A, hA⟩ : ∃ A, w.heap.size = A := ⟨_, rfl⟩
  have HG : Hid (w.heap.size ≤ A + 1) := Lib.hid (by omega)
  rw [hA] at HB0 HB1 ⊢
  clear hA
  refine region_alongK (fun x => x.heap[A]? = some (.cells cs 41 (0, 0))) (.read 0 (.read 1 (.read 2 (.read 3 (.read 4 (.step 5 (.read 6 (.step 7 (.nil))))))))) (by kernel_rfl) rfl (by kernel_rfl) (by kernel_rfl) (fun c a d v w h => by cases d <;> exact h) (HB0.out) ?_
  refine alongK_read (.pointer (some ⟨A, 0, none⟩)) rfl rfl (fun wx hS => ex_field rfl rfl wx (by simp [go_sem])) ?_
  change AlongK _ _ _ _ _ { tmps := #[.agg cs, .pointer (some ⟨A, 0, none⟩), .pointer (some ⟨A + 1, 0, none⟩), .pointer (some ⟨A, 0, none⟩), _, _, _, _, _, _], defers := _ } _
  refine alongK_read (.int .i64 V) rfl rfl (fun wx hS => ex_load Try.isAgg3 rfl rfl wx (tx_cell hS 0 hx0)) ?_
  change AlongK _ _ _ _ _ { tmps := #[.agg cs, .pointer (some ⟨A, 0, none⟩), .pointer (some ⟨A + 1, 0, none⟩), .pointer (some ⟨A, 0, none⟩), .int .i64 V, _, _, _, _, _], defers := _ } _
  refine alongK_read (.pointer (some ⟨A, 1, none⟩)) rfl rfl (fun wx hS => ex_field rfl rfl wx (by simp [go_sem])) ?_
  change AlongK _ _ _ _ _ { tmps := #[.agg cs, .pointer (some ⟨A, 0, none⟩), .pointer (some ⟨A + 1, 0, none⟩), .pointer (some ⟨A, 0, none⟩), .int .i64 V, .pointer (some ⟨A, 1, none⟩), _, _, _, _], defers := _ } _
  refine alongK_read (.int .i64 HH) rfl rfl (fun wx hS => ex_load Try.isAgg3 rfl rfl wx (tx_cell hS 1 hx1)) ?_
  change AlongK _ _ _ _ _ { tmps := #[.agg cs, .pointer (some ⟨A, 0, none⟩), .pointer (some ⟨A + 1, 0, none⟩), .pointer (some ⟨A, 0, none⟩), .int .i64 V, .pointer (some ⟨A, 1, none⟩), .int .i64 HH, _, _, _], defers := _ } _
  refine alongK_read (.agg cs) rfl rfl (fun wx hS => ex_loadrow rfl rfl wx 41 (hS) Try.underlying41 rfl HSZ.out) ?_
  change AlongK _ _ _ _ _ { tmps := #[.agg cs, .pointer (some ⟨A, 0, none⟩), .pointer (some ⟨A + 1, 0, none⟩), .pointer (some ⟨A, 0, none⟩), .int .i64 V, .pointer (some ⟨A, 1, none⟩), .int .i64 HH, .agg cs, _, _], defers := _ } _
  refine alongK_step ?_
  refine opK_call (vs := [.agg cs]) rfl rfl rfl (enters_of Try.func26 (by kernel_rfl) rfl) rfl ?_
  with_reducible refine Calls.mono (HNm.out _ (Up.drew1 w3)) ?_
  rintro e w4 ⟨rfl, hU4⟩
  have HU4 := Lib.hid (Up.trans (Up.drew1 w3) hU4)
  have HA4 := Lib.hid (row_up HB0.out HU4.out)
  have HB4 := Lib.hid (row_up HB1.out HU4.out)
  clear hU4
  refine ⟨_, rfl, (fun x => x.heap[A]? = some (.cells cs 41 (0, 0))), (fun x hx => hx), HA4.out, ?_⟩
  change AlongK _ _ _ _ _ { tmps := #[.agg cs, .pointer (some ⟨A, 0, none⟩), .pointer (some ⟨A + 1, 0, none⟩), .pointer (some ⟨A, 0, none⟩), .int .i64 V, .pointer (some ⟨A, 1, none⟩), .int .i64 HH, .agg cs, .string NM, _], defers := _ } _
  refine alongK_read (.agg #[.int .i64 V, .int .i64 HH, .string NM]) rfl rfl (fun wx hS => ex_build3 wx wx (build_mkG _ _ _ wx) rfl rfl rfl rfl) ?_
  change AlongK _ _ _ _ _ { tmps := #[.agg cs, .pointer (some ⟨A, 0, none⟩), .pointer (some ⟨A + 1, 0, none⟩), .pointer (some ⟨A, 0, none⟩), .int .i64 V, .pointer (some ⟨A, 1, none⟩), .int .i64 HH, .agg cs, .string NM, .agg #[.int .i64 V, .int .i64 HH, .string NM]], defers := _ } _
  refine alongK_step ?_
  refine opK_store (w4.setRow (A + 1) #[.int .i64 V, .int .i64 HH, .string NM]) rfl rfl (ex_storerow rfl rfl rfl w4 26 HB4.out info_mk rfl (one_mk _ _ _)) (fun x => x.heap[A]? = some (.cells cs 41 (0, 0))) (fun _ h => h) ((Go.setRow_other w4 (A + 1) A _ (by omega)).trans HA4.out) ?_
  change AlongK _ _ _ _ _ { tmps := #[.agg cs, .pointer (some ⟨A, 0, none⟩), .pointer (some ⟨A + 1, 0, none⟩), .pointer (some ⟨A, 0, none⟩), .int .i64 V, .pointer (some ⟨A, 1, none⟩), .int .i64 HH, .agg cs, .string NM, .agg #[.int .i64 V, .int .i64 HH, .string NM]], defers := _ } _
  refine alongK_done ?_
  have hres : (w4.setRow (A + 1) #[.int .i64 V, .int .i64 HH, .string NM]).heap[A + 1]? = some (.cells #[.int .i64 V, .int .i64 HH, .string NM] 26 (0, 0)) := setRow_heap w4 (A + 1) _ _ 26 (0, 0) HB4.out
  go_wp2
  exact bodyPost_ret (results_mk rfl _ _ _ _ rfl hres rfl) rfl ⟨rfl, up_at (HU0.out.trans HU4.out) (grownBy_setRow _ _ _) HG.out⟩
end
end Go.Proofs.Ytnipkhgaceicbaa
