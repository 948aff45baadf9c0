import Derived.Lib.SliceRun
import Derived.Test.YtbdjbmgeelleiaaPkWriter
/-
  slices.Clone of octets; the writer's Done; the example.
-/
namespace Go.Proofs.Ytbdjbmgeelleiaa
set_option maxRecDepth 100000
section
set_option linter.unusedVariables false
open Go.RowKit

theorem clone8_nil (w : World) :
    Calls Try.prog 29 #[.slice none 0 0] w fun e w' => e = .returned (.slice none 0 0) ∧ w = w' := by
  have hnn := Lib.run_eql_slice_nil (P := Try.prog) w 25 5 none 0 0 0 0 Try.underlying25
  go_enter Try.func29, Try.ntmps29
  go_wp2
  go_ret
  exact ⟨rfl, rfl⟩
set_option maxHeartbeats 1000000 in
theorem clone8_some (ad : Addr) (c : Nat) (bs : List Int) (w : World) (hs : Ints .u8 w (.slice (some ad) bs.length c) bs) (hl : bs.length ≤ 140737488355328) :
    Calls Try.prog 29 #[.slice (some ad) bs.length c] w fun e w' => ∃ r, e = .returned r ∧ w'.ownsRow w.heap.size 5 1 r bs.length (bs.map (Value.int .u8)) ∧ Up w w' := by
  obtain ⟨i0, hi, hz0, hz1, hz2⟩ := info_parts info_u8
  have hnn := Lib.run_eql_slice_nil (P := Try.prog) w 25 5 (some ad) bs.length c 0 0 Try.underlying25
  obtain ⟨a1, c1, he, hc1, hn1, hcs⟩ := hs.up (Up.alloc (Up.refl w) (.cells #[] 5))
  simp only [Value.slice.injEq] at he
  obtain ⟨rfl, _, rfl⟩ := he
  have Hnews := Lib.hid (cells_all hcs)
  have r0 := ownsRow_empty w 5
  clear hs hcs hn1 hc1
  go_enter Try.func29, Try.ntmps29
  go_wp2_with (at_builtin; refine wpList_append_own_src _ rfl (.tmp 5) (.tmp 6) 25 rfl w.heap.size 5 i0 (.int .u8 0) 1 1 Try.underlying25 hi hz0 hz1 hz2 rfl (by decide) _ 0 _ rfl r0 (some ad) bs.length c (bs.map (Value.int .u8)) rfl (fun e => by cases e) (by simp) Hnews.out (u8_cells bs) (by unfold maxLen; omega) (by omega) (by simp) ?_; intro v' w3 hown' hgrow _)
  rw [Nat.zero_add, List.nil_append] at hown'
  go_ret
  exact ⟨_, rfl, hown', Below.grown (Up.alloc (Up.refl w) _) hgrow (by simp) (fun q e => (r0.lt q e).1)⟩
theorem clone8_any (v : Value) (bs : List Int) (w : World) (hs : Ints .u8 w v bs) (hl : bs.length ≤ 140737488355328) :
    Calls Try.prog 29 #[v] w fun e w' => ∃ r, e = .returned r ∧ w'.ownsRow w.heap.size 5 1 r bs.length (bs.map (Value.int .u8)) ∧ Up w w' := by
  obtain ⟨a, c, rfl, h1, h2, h3⟩ := hs
  cases a with
  | none =>
    have h0 := none_empty h3 rfl
    obtain rfl := List.eq_nil_of_length_eq_zero h0
    obtain rfl := h2 rfl
    exact (clone8_nil w).mono fun e w' ⟨he, hw⟩ => ⟨_, he, World.ownsRow_nil _ _ _ _, by rw [← hw]; exact Up.refl w⟩
  | some ad => exact clone8_some ad c bs w ⟨_, _, rfl, h1, h2, h3⟩ hl

/-- what Done answers -/
def doneE (E : Int) (bs : List Int) : Int := if E ≠ 0 then E else if 16384 < bs.length then 5 else 0
def doneB (E : Int) (bs : List Int) : List Int := if E ≠ 0 ∨ 16384 < bs.length then [] else bs

theorem wdone_err (p : Value) (hp : ∃ a, p = .pointer a) (E : Int) (w : World) (hE : E ≠ 0) (h : Calls Try.prog 28 #[p] w fun e w' => e = .returned (.int .i64 E) ∧ w = w') :
    Calls Try.prog 12 #[p] w fun e w' => e = .returned (.tuple #[.slice none 0 0, .int .i64 E]) ∧ w = w' := by
  have Hf := Lib.hid h
  have e1 : (E == 0) = false := by rw [beq_eq_false_iff_ne]; exact hE
  have e2 : (E != 0) = true := by rw [bne, e1]; rfl
  obtain ⟨a, rfl⟩ := hp
  clear h
  go_enter Try.func12, Try.ntmps12
  go_wp2_with fail
  with_reducible refine Calls.mono Hf.out ?_
  rintro e w1 ⟨rfl, rfl⟩
  go_wp2
  go_ret2
  exact ⟨rfl, rfl⟩
set_option maxHeartbeats 1000000 in
theorem wdone_ok (base g : Nat) (o : Value) (bs : List Int) (w : World) (h : Wr w base g o 0 bs) (hb : bs.length ≤ 30000) :
    Calls Try.prog 12 #[.pointer (some ⟨g, 0, none⟩)] w fun e w' => ∃ r, e = .returned (.tuple #[r, .int .i64 (doneE 0 bs)]) ∧ w'.ownsRow w.heap.size 5 1 r (doneB 0 bs).length ((doneB 0 bs).map (Value.int .u8)) ∧ Up w w' := by
  have Hf := Lib.hid (wfault_any g o 0 w h.1)
  have hc1 := cell_of_row _ _ 1 _ _ _ h.1
  simp only [List.getElem?_toArray, List.getElem?_cons_zero, List.getElem?_cons_succ] at hc1
  have Hcl := Lib.hid (clone8_any o bs w (Ints.of_row h.2.2) (by omega))
  obtain ⟨a, c, rfl⟩ := row_shape h.2.2
  clear h
  by_cases hl : 16384 < bs.length
  · rw [show doneE 0 bs = 5 from by simp [doneE, hl], show doneB 0 bs = [] from by simp [doneB, hl]]
    go_enter Try.func12, Try.ntmps12
    go_wp2_with fail
    with_reducible refine Calls.mono Hf.out ?_
    rintro e w1 ⟨rfl, rfl⟩
    go_wp2
    go_ret2
    exact ⟨_, rfl, World.ownsRow_nil _ _ _ _, Up.refl _⟩
  · rw [show doneE 0 bs = 0 from by simp [doneE, hl], show doneB 0 bs = bs from by simp [doneB, hl]]
    go_enter Try.func12, Try.ntmps12
    go_wp2_with fail
    with_reducible refine Calls.mono Hf.out ?_
    rintro e w1 ⟨rfl, rfl⟩
    go_wp2_with fail
    with_reducible refine Calls.mono Hcl.out ?_
    rintro e w2 ⟨r, rfl, h1, h2⟩
    have H1 := Lib.hid h1
    have H2 := Lib.hid h2
    obtain ⟨a1, c1, rfl⟩ := row_shape h1
    clear h1 h2
    go_wp2
    go_ret2
    exact ⟨_, rfl, H1.out, H2.out⟩
theorem wdone_any (base g : Nat) (o : Value) (E : Int) (bs : List Int) (w : World) (h : Wr w base g o E bs) (hb : bs.length ≤ 30000) :
    Calls Try.prog 12 #[.pointer (some ⟨g, 0, none⟩)] w fun e w' => ∃ r, e = .returned (.tuple #[r, .int .i64 (doneE E bs)]) ∧ w'.ownsRow w.heap.size 5 1 r (doneB E bs).length ((doneB E bs).map (Value.int .u8)) ∧ Up w w' := by
  by_cases hE : E = 0
  · subst hE; exact wdone_ok base g o bs w h hb
  · rw [show doneE E bs = E from by simp [doneE, hE], show doneB E bs = [] from by simp [doneB, hE]]
    exact (wdone_err _ ⟨_, rfl⟩ E w hE (wfault_any g o E w h.1)).mono fun e w' ⟨h1, h2⟩ => ⟨_, h1, World.ownsRow_nil _ _ _ _, by rw [← h2]; exact Up.refl w⟩
theorem pkNum_any (E : Int) (w : World) : Calls Try.prog 14 #[.int .i64 E] w fun e w' => e = .returned (.int .i64 E) ∧ w = w' := by
  go_enter Try.func14, Try.ntmps14
  go_wp2
  go_ret
  exact ⟨rfl, rfl⟩
theorem wr_new (w : World) : Wr (w.alloc (.cells #[.bool true, .slice none 0 0, .int .i64 0] 55)) w.heap.size w.heap.size (.slice none 0 0) 0 [] := ⟨heap_alloc_new w _, Nat.le_refl _, World.ownsRow_nil _ _ _ _⟩
theorem wPut_le (E : Int) (bs fs : List Int) (m : Nat) (h : bs.length ≤ 16384 + m) (hf : fs.length ≤ m) : (wPut E bs fs).length ≤ 16384 + m := by
  unfold wPut
  split
  · rw [List.length_append]; omega
  · exact h
theorem wCut_le (E : Int) (bs : List Int) (m : Nat) (h : bs.length ≤ m) : (wCut E bs).length ≤ m := by
  unfold wCut; split
  · simp
  · exact h
theorem wNumB_le (E : Int) (bs : List Int) (n : Int) (h : bs.length ≤ 20482) : (wNumB E bs n).length ≤ 20482 := by
  unfold wNumB; split
  · exact wCut_le _ _ _ h
  · exact wPut_le _ _ _ 4098 h (by rw [octAll_length]; omega)
theorem wTextB_le (E : Int) (bs zs : List Int) (h : bs.length ≤ 20482) : (wTextB E bs zs).length ≤ 20482 := by
  unfold wTextB; split
  · exact wCut_le _ _ _ h
  · exact wPut_le _ _ _ 4098 h (by rw [List.length_append, octAll_length]; omega)

/-- the example of the page -/
theorem pkAlive_any (w : World) : Calls Try.prog 15 #[] w fun e w' => e = .returned (.bool true) ∧ Up w w' := by
  have hW := wr_new w
  obtain ⟨w1, h1⟩ : ∃ w1, w.alloc (.cells #[.bool true, .slice none 0 0, .int .i64 0] 55) = w1 := ⟨_, rfl⟩
  have hU1 : Up w w1 := by rw [← h1]; exact Up.alloc (Up.refl w) _
  have hn := new_any w
  rw [h1] at hW hn
  have Hn := Lib.hid hn
  have Hnum := Lib.hid (wnum_any w.heap.size w.heap.size _ 0 [] 1 w1 hW (by omega) (by simp) hU1.size)
  have HW := Lib.hid hW
  have HU1 := Lib.hid hU1
  clear hn hW hU1 h1
  go_enter Try.func15, Try.ntmps15
  go_wp2_with fail
  with_reducible refine Calls.mono Hn.out ?_
  rintro e w2 ⟨rfl, rfl⟩
  go_wp2_with fail
  with_reducible refine Calls.mono Hnum.out ?_
  rintro e w2 ⟨rfl, o', h3, h4⟩
  have hU2 : Up w w2 := Below.trans HU1.out (HW.out.below h4 HU1.out.size)
  have h5 : Wr w2 w.heap.size w.heap.size o' 0 [0, 0, 0, 0, 0, 1] := h3
  have HU2 := Lib.hid hU2
  have hd := wdone_any _ _ _ _ _ w2 h5 (by simp)
  rw [show doneE 0 [0, 0, 0, 0, 0, 1] = 0 from by decide, show doneB 0 [0, 0, 0, 0, 0, 1] = [0, 0, 0, 0, 0, 1] from by decide] at hd
  have Hd := Lib.hid hd
  clear h3 h4 h5 hd hU2
  go_wp2_with fail
  with_reducible refine Calls.mono Hd.out ?_
  rintro e w3 ⟨r, rfl, h6, h7⟩
  have HU3 := Lib.hid (HU2.out.trans h7)
  have hconv := (Ints.of_row h6).str
  rw [show strOfNums [0, 0, 0, 0, 0, 1] = ⟨#[0, 0, 0, 0, 0, 1]⟩ from rfl] at hconv
  rw [show ([0, 0, 0, 0, 0, 1] : List Int).length = 6 from rfl] at h6
  obtain ⟨a1, c1, rfl⟩ := row_shape h6
  clear h6 h7
  go_wp2_with fail
  with_reducible refine Calls.mono (pkNum_any _ _) ?_
  rintro e w4 ⟨rfl, rfl⟩
  go_wp2
  go_ret
  exact ⟨rfl, HU3.out⟩
end
end Go.Proofs.Ytbdjbmgeelleiaa
