import Derived.Test.YtbdjbmgeelleiaaPkRead
/-
  PackNobody: the walk.
-/
namespace Go.Proofs.Ytbdjbmgeelleiaa
set_option maxRecDepth 100000
section
set_option linter.unusedVariables false
open Go.RowKit

/-- a writer that nobody made tells of state, whatever comes -/
def NoWriter (p : Value) (w : World) : Prop := (∃ a, p = .pointer a) ∧ ∀ wx, Up w wx → Calls Try.prog 28 #[p] wx fun e w' => e = .returned (.int .i64 9) ∧ wx = w'
def NoReader (p : Value) (w : World) : Prop := (∃ a, p = .pointer a) ∧ ∀ wx, Up w wx → Calls Try.prog 21 #[p] wx fun e w' => e = .returned (.int .i64 9) ∧ wx = w'

set_option maxHeartbeats 1000000 in
theorem wnum_no (p : Value) (n : Int) (w : World) (hn : -9223372036854775808 ≤ n ∧ n ≤ 9223372036854775807) (h : NoWriter p w) :
    Calls Try.prog 8 #[p, .int .i64 n] w fun e w' => e = .returned (.tuple #[]) ∧ Up w w' := by
  have Hf := Lib.hid (wfail_again p h.1 9 4 w (by decide) (h.2 w (Up.refl w)))
  have Hp := Lib.hid (put_any n 6 hn (by omega) 6 (by omega) w)
  have Hw : Hid (∀ (v : Value) (wx : World), Up w wx → (∃ a m c, v = .slice a m c) → Calls Try.prog 24 #[p, v] wx fun e w' => e = .returned (.tuple #[]) ∧ wx = w') := Lib.hid fun v wx hx hv => wwrite_again p h.1 v [] hv 9 wx (by decide) (h.2 wx hx)
  obtain ⟨a, rfl⟩ := h.1
  clear h
  by_cases h0 : n < 0
  · go_enter Try.func8, Try.ntmps8
    go_wp2_with fail
    with_reducible refine Calls.mono Hf.out ?_
    rintro e w1 ⟨rfl, rfl⟩
    go_wp2
    exact bodyPost_ret (results_none rfl _ _ _) rfl ⟨rfl, Up.refl _⟩
  by_cases h1 : 1099511627776 < n
  · go_enter Try.func8, Try.ntmps8
    go_wp2_with fail
    with_reducible refine Calls.mono Hf.out ?_
    rintro e w1 ⟨rfl, rfl⟩
    go_wp2
    exact bodyPost_ret (results_none rfl _ _ _) rfl ⟨rfl, Up.refl _⟩
  go_enter Try.func8, Try.ntmps8
  go_wp2_with fail
  with_reducible refine Calls.mono Hp.out ?_
  rintro e w1 ⟨v, rfl, hrow, hU⟩
  have HU : Hid (Up w w1) := Lib.hid hU
  obtain ⟨ra, rc, rfl⟩ := row_shape hrow
  clear hrow hU
  go_wp2_with fail
  with_reducible refine Calls.mono (Hw.out _ _ HU.out ⟨_, _, _, rfl⟩) ?_
  rintro e w2 ⟨rfl, rfl⟩
  go_wp2
  go_end0
  exact ⟨rfl, HU.out⟩
set_option maxHeartbeats 1000000 in
theorem wtext_no (p : Value) (zs : List Int) (w : World) (hu : U8s zs) (hz : zs.length ≤ 9223372036854775807) (h : NoWriter p w) :
    Calls Try.prog 10 #[p, .string (strOfNums zs)] w fun e w' => e = .returned (.tuple #[]) ∧ Up w w' := by
  have Hf := Lib.hid (wfail_again p h.1 9 5 w (by decide) (h.2 w (Up.refl w)))
  have hp := put_any zs.length 2 (by omega) (by omega) 2 (by omega) w
  have hsz : (strOfNums zs).size = zs.length := strOfNums_size zs
  rw [← hsz] at hp
  have Hp := Lib.hid hp
  have Hconv : Hid (∀ wx : World, ∃ a c w', (convert 9 25 (.string (strOfNums zs))).run Try.prog wx = .ok (.slice a zs.length c) w' ∧ Ints .u8 w' (.slice a zs.length c) zs ∧ Up wx w') := fun wx => conv_str zs hu wx
  have Hw : Hid (∀ (v : Value) (wx : World), Up w wx → (∃ a m c, v = .slice a m c) → Calls Try.prog 24 #[p, v] wx fun e w' => e = .returned (.tuple #[]) ∧ wx = w') := Lib.hid fun v wx hx hv => wwrite_again p h.1 v [] hv 9 wx (by decide) (h.2 wx hx)
  obtain ⟨a, rfl⟩ := h.1
  clear h hp hsz
  by_cases hr : 4096 < zs.length
  · have hs : (4096 : Int) < ((strOfNums zs).size : Int) := by rw [strOfNums_size]; omega
    have hs2 : 4096 < (strOfNums zs).size := by rw [strOfNums_size]; exact hr
    go_enter Try.func10, Try.ntmps10
    go_wp2_with fail
    with_reducible refine Calls.mono Hf.out ?_
    rintro e w1 ⟨rfl, rfl⟩
    go_wp2
    exact bodyPost_ret (results_none rfl _ _ _) rfl ⟨rfl, Up.refl _⟩
  · have h1 : ¬ (4096 : Int) < ((strOfNums zs).size : Int) := by rw [strOfNums_size]; omega
    have hl := octAll_length (IntKind.u64.wrap ((strOfNums zs).size : Int)) 2
    have Hj : Hid (∀ (v : Value) (wx : World), Rows8 wx v [octAll (IntKind.u64.wrap ((strOfNums zs).size : Int)) 2, zs] → Calls Try.prog 27 #[v] wx fun e w' => ∃ a m c, e = .returned (.slice a m c) ∧ Up wx w') := Lib.hid fun v wx hx => (join_any v _ wx hx (by simp) (by simp only [List.flatten_cons, List.flatten_nil, List.append_nil, List.length_append, hl]; omega)).mono fun e w' ⟨h1, h2, h3⟩ => ⟨_, _, _, h1, h3⟩
    clear hr hl
    generalize octAll (IntKind.u64.wrap ((strOfNums zs).size : Int)) 2 = oct at *
    generalize strOfNums zs = S at *
    go_enter Try.func10, Try.ntmps10
    go_wp2_with fail
    with_reducible refine Calls.mono Hp.out ?_
    rintro e w1 ⟨v, rfl, hrow, hU⟩
    have HI := Lib.hid (Ints.of_row hrow)
    obtain ⟨ra, rc, rfl⟩ := row_shape hrow
    have HU : Hid (Up w w1) := Lib.hid hU
    clear hrow hU
    obtain ⟨a2, c2, w2, hrun, hi2, hu2⟩ := Hconv.out w1
    have HI2 := Lib.hid hi2
    have HU2 := Lib.hid hu2
    clear hi2 hu2
    go_wp2_with fail
    with_reducible refine Calls.mono (Hj.out _ _ (Rows8.new2 w2 _ _ _ _ _ _ rfl (HI.out.up HU2.out) HI2.out)) ?_
    rintro e w3 ⟨a3, n3, c3, rfl, hu3⟩
    have HU3 := Lib.hid ((HU.out.trans HU2.out).trans (Up.trans (Up.alloc (Up.refl w2) _) hu3))
    clear hu3 hrun
    go_wp2_with fail
    with_reducible refine Calls.mono (Hw.out _ _ HU3.out ⟨_, _, _, rfl⟩) ?_
    rintro e w4 ⟨rfl, rfl⟩
    go_wp2
    go_end0
    exact ⟨rfl, HU3.out⟩

/-- the world of the two slices -/
def nobodyW (w : World) : World := ((((w.alloc (.cells #[.bool false, .slice none 0 0, .int .i64 0] 55)).alloc (.cells #[.pointer none, .pointer (some ⟨w.heap.size, 0, none⟩)] 23)).alloc
  (.cells #[.bool false, .slice none 0 0, .int .i64 0] 58)).alloc (.cells #[.pointer none, .pointer (some ⟨w.heap.size + 1 + 1, 0, none⟩)] 42))
theorem nobody_up (w : World) : Up w (nobodyW w) := Up.alloc (Up.alloc (Up.alloc (Up.alloc (Up.refl w) _) _) _) _
theorem alloc_size1 (w : World) (o : Obj) : (w.alloc o).heap.size = w.heap.size + 1 := by simp
theorem nobody_heap (w : World) : (nobodyW w).heap[w.heap.size]? = some (.cells #[.bool false, .slice none 0 0, .int .i64 0] 55 (0, 0)) ∧
    (nobodyW w).heap[w.heap.size + 1]? = some (.cells #[.pointer none, .pointer (some ⟨w.heap.size, 0, none⟩)] 23 (0, 0)) ∧
    (nobodyW w).heap[w.heap.size + 1 + 1]? = some (.cells #[.bool false, .slice none 0 0, .int .i64 0] 58 (0, 0)) ∧
    (nobodyW w).heap[w.heap.size + 1 + 1 + 1]? = some (.cells #[.pointer none, .pointer (some ⟨w.heap.size + 1 + 1, 0, none⟩)] 42 (0, 0)) := by
  unfold nobodyW
  generalize (Obj.cells #[.bool false, .slice none 0 0, .int .i64 0] 55 : Obj) = A
  generalize (Obj.cells #[.pointer none, .pointer (some ⟨w.heap.size, 0, none⟩)] 23 : Obj) = B
  generalize (Obj.cells #[.bool false, .slice none 0 0, .int .i64 0] 58 : Obj) = C
  generalize (Obj.cells #[.pointer none, .pointer (some ⟨w.heap.size + 1 + 1, 0, none⟩)] 42 : Obj) = D
  have z1 := alloc_size1 w A
  have n0 := heap_alloc_new w A
  have u1 := Up.alloc (Up.alloc (Up.alloc (Up.refl (w.alloc A)) B) C) D
  generalize w.alloc A = w1 at *
  have z2 := alloc_size1 w1 B
  have n1 := heap_alloc_new w1 B
  have u2 := Up.alloc (Up.alloc (Up.refl (w1.alloc B)) C) D
  generalize w1.alloc B = w2 at *
  have z3 := alloc_size1 w2 C
  have n2 := heap_alloc_new w2 C
  have u3 := Up.alloc (Up.refl (w2.alloc C)) D
  generalize w2.alloc C = w3 at *
  have n3 := heap_alloc_new w3 D
  rw [z1] at n1
  rw [z2, z1] at n2
  rw [z3, z2, z1] at n3
  exact ⟨(u1.block _ (by omega)).trans n0, (u2.block _ (by omega)).trans n1, (u3.block _ (by omega)).trans n2, n3⟩
theorem nobody_at (w : World) (k : Nat) (hk : k < 2) : ∃ pa ra, (nobodyW w).cell? ⟨w.heap.size + 1, k, none⟩ = some (.pointer pa) ∧ (nobodyW w).cell? ⟨w.heap.size + 1 + 1 + 1, k, none⟩ = some (.pointer ra) ∧ NoWriter (.pointer pa) (nobodyW w) ∧ NoReader (.pointer ra) (nobodyW w) := by
  obtain ⟨b0, b1, b2, b3⟩ := nobody_heap w
  have h : k = 0 ∨ k = 1 := by omega
  rcases h with rfl | rfl
  · exact ⟨none, none, cell_of_row _ _ 0 _ _ _ b1, cell_of_row _ _ 0 _ _ _ b3, ⟨⟨_, rfl⟩, fun wx _ => wfault_nil wx⟩, ⟨⟨_, rfl⟩, fun wx _ => rerr_nil wx⟩⟩
  · exact ⟨_, _, cell_of_row _ _ 1 _ _ _ b1, cell_of_row _ _ 1 _ _ _ b3, ⟨⟨_, rfl⟩, fun wx hx => wfault_un _ _ _ wx ((hx.block _ (lt_of_block b0)).trans b0)⟩, ⟨⟨_, rfl⟩, fun wx hx => rerr_un _ _ _ wx ((hx.block _ (lt_of_block b2)).trans b2)⟩⟩
theorem NoWriter.up {p : Value} {w w' : World} (h : NoWriter p w) (hu : Up w w') : NoWriter p w' := ⟨h.1, fun wx hx => h.2 wx (hu.trans hx)⟩
theorem NoWriter.at {p : Value} {w w' : World} (h : NoWriter p w) (hu : Up w w') : Calls Try.prog 28 #[p] w' fun e w'' => e = .returned (.int .i64 9) ∧ w' = w'' := h.2 w' hu
theorem NoReader.at {p : Value} {w w' : World} (h : NoReader p w) (hu : Up w w') : Calls Try.prog 21 #[p] w' fun e w'' => e = .returned (.int .i64 9) ∧ w' = w'' := h.2 w' hu

set_option maxHeartbeats 4000000 in
theorem lawPkNobody_any (n : Int) (zs : List Int) (w : World) (hn : -9223372036854775808 ≤ n ∧ n ≤ 9223372036854775807) (hu : U8s zs) (hz : zs.length ≤ 9223372036854775807) :
    Calls Try.prog 6 #[.int .i64 n, .string (strOfNums zs)] w fun e w' => e = .returned (.bool true) ∧ Up w w' := by
  have Hnum : Hid (∀ p wx, NoWriter p wx → Calls Try.prog 8 #[p, .int .i64 n] wx fun e w' => e = .returned (.tuple #[]) ∧ Up wx w') := Lib.hid fun p wx h => wnum_no p n wx hn h
  have Htext : Hid (∀ p wx, NoWriter p wx → Calls Try.prog 10 #[p, .string (strOfNums zs)] wx fun e w' => e = .returned (.tuple #[]) ∧ Up wx w') := Lib.hid fun p wx h => wtext_no p zs wx hu hz h
  generalize strOfNums zs = S at *
  clear hu hz
  go_enter Try.func6, Try.ntmps6
  go_wp2
  go_loopw [9] (fun i wr => ∃ k : Nat, k ≤ 2 ∧ i = .int .i64 k ∧ Up (nobodyW w) wr) (fun i _ => 2 - (intOf i).toNat)
  case atStart => exact ⟨0, Nat.zero_le _, rfl, Up.refl (nobodyW w)⟩
  case round =>
    obtain ⟨k, hk, rfl, hW⟩ := hrel
    have HW := Lib.hid hW
    clear hW
    by_cases hlt : k < 2
    · obtain ⟨pa, ra, hcp, hcr, hNW, hNR⟩ := nobody_at w k hlt
      have HNW := Lib.hid hNW
      have HNR := Lib.hid hNR
      have Hc : Hid (∀ wx, Up (nobodyW w) wx → wx.cell? ⟨w.heap.size + 1, k, none⟩ = some (.pointer pa) ∧ wx.cell? ⟨w.heap.size + 1 + 1 + 1, k, none⟩ = some (.pointer ra)) := Lib.hid fun wx hx => ⟨later_cellF hcp hx, later_cellF hcr hx⟩
      clear hNW hNR hcp hcr
      obtain ⟨c1, _⟩ := Hc.out wr HW.out
      go_wp2_with fail
      with_reducible refine Calls.mono (Hnum.out _ _ (HNW.out.up HW.out)) ?_
      rintro e w5 ⟨rfl, h5⟩
      have H5 := Lib.hid (HW.out.trans h5)
      clear h5 c1
      obtain ⟨c1, _⟩ := Hc.out w5 H5.out
      go_wp2_with fail
      with_reducible refine Calls.mono (Htext.out _ _ (HNW.out.up H5.out)) ?_
      rintro e w6 ⟨rfl, h6⟩
      have H6 := Lib.hid (H5.out.trans h6)
      clear h6 c1
      obtain ⟨c1, c2⟩ := Hc.out w6 H6.out
      go_wp2_with fail
      with_reducible refine Calls.mono (wdone_err _ ⟨_, rfl⟩ 9 w6 (by decide) (HNW.out.at H6.out)) ?_
      rintro e w7 ⟨rfl, rfl⟩
      go_wp2_with fail
      with_reducible refine Calls.mono (rnum_bad _ ⟨_, rfl⟩ 9 n w6 (by decide) (HNR.out.at H6.out)) ?_
      rintro e w7 ⟨rfl, rfl⟩
      go_wp2_with fail
      with_reducible refine Calls.mono (rtext_bad _ ⟨_, rfl⟩ 9 n w6 (by decide) (HNR.out.at H6.out)) ?_
      rintro e w7 ⟨rfl, rfl⟩
      go_wp2_with fail
      with_reducible refine Calls.mono (rleft_bad _ ⟨_, rfl⟩ 9 w6 (by decide) (HNR.out.at H6.out)) ?_
      rintro e w7 ⟨rfl, rfl⟩
      go_wp2_with fail
      with_reducible refine Calls.mono (HNR.out.at H6.out) ?_
      rintro e w7 ⟨rfl, rfl⟩
      go_wp2
      go_roundw
      case rel => exact ⟨k + 1, by omega, by go_num, H6.out⟩
      case measure => simp [intOf]; omega
    · obtain rfl : k = 2 := by omega
      go_wp2_with fail
      with_reducible refine Calls.mono (pkAlive_any _) ?_
      rintro e w8 ⟨rfl, h9⟩
      have H9 := Lib.hid (((nobody_up w).trans HW.out).trans h9)
      clear h9
      go_wp2
      go_ret
      exact ⟨rfl, H9.out⟩
theorem lawPkNobody_str (n : Int) (s : ByteArray) (w : World) (hn : -9223372036854775808 ≤ n ∧ n ≤ 9223372036854775807) (hs : s.size ≤ 9223372036854775807) :
    Calls Try.prog 6 #[.int .i64 n, .string s] w fun e w' => e = .returned (.bool true) ∧ Up w w' := by
  have h := lawPkNobody_any n (octsOf s) w hn (octsOf_u8s s) (by rw [octsOf_length]; exact hs)
  rwa [strOf_octs] at h
end
end Go.Proofs.Ytbdjbmgeelleiaa
