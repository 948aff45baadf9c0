import Derived.Lib.SliceRun
import Derived.Test.YtgmicppfiapilaaDoorPkWriter
/-
  slices.Clone of octets; the writer's Done; the example.
-/
namespace Go.Proofs.YtgmicppfiapilaaDoor
set_option maxRecDepth 100000
section
set_option linter.unusedVariables false
open Go.RowKit

theorem clone8_nil (w : World) :
    Calls Tryd.prog 24 #[.slice none 0 0] w fun e w' => e = .returned (.slice none 0 0) ∧ w = w' := by
  have hnn := Lib.run_eql_slice_nil (P := Tryd.prog) w 38 5 none 0 0 0 0 Tryd.underlying38
  go_enter Tryd.func24, Tryd.ntmps24
  go_wp2
  go_ret
  exact ⟨rfl, rfl⟩
set_option maxHeartbeats 1000000 in
theorem clone8_some (ad : Addr) (c : Nat) (bs : List Int) (w : World) (hs : Ints .u8 w (.slice (some ad) bs.length c) bs) (hl : bs.length ≤ 140737488355328) :
    Calls Tryd.prog 24 #[.slice (some ad) bs.length c] w fun e w' => ∃ r, e = .returned r ∧ w'.ownsRow w.heap.size 5 1 r bs.length (bs.map (Value.int .u8)) ∧ Up w w' := by
  obtain ⟨i0, hi, hz0, hz1, hz2⟩ := info_parts info_u8
  have hnn := Lib.run_eql_slice_nil (P := Tryd.prog) w 38 5 (some ad) bs.length c 0 0 Tryd.underlying38
  obtain ⟨a1, c1, he, hc1, hn1, hcs⟩ := hs.up (Up.alloc (Up.refl w) (.cells #[] 5))
  simp only [Value.slice.injEq] at he
  obtain ⟨rfl, _, rfl⟩ := he
  have Hnews := Lib.hid (cells_all hcs)
  have r0 := ownsRow_empty w 5
  clear hs hcs hn1 hc1
  go_enter Tryd.func24, Tryd.ntmps24
  go_wp2_with (at_builtin; refine wpList_append_own_src _ rfl (.tmp 5) (.tmp 6) 38 rfl w.heap.size 5 i0 (.int .u8 0) 1 1 Tryd.underlying38 hi hz0 hz1 hz2 rfl (by decide) _ 0 _ rfl r0 (some ad) bs.length c (bs.map (Value.int .u8)) rfl (fun e => by cases e) (by simp) Hnews.out (u8_cells bs) (by unfold maxLen; omega) (by omega) (by simp) ?_; intro v' w3 hown' hgrow _)
  rw [Nat.zero_add, List.nil_append] at hown'
  go_ret
  exact ⟨_, rfl, hown', Below.grown (Up.alloc (Up.refl w) _) hgrow (by simp) (fun q e => (r0.lt q e).1)⟩
theorem clone8_any (v : Value) (bs : List Int) (w : World) (hs : Ints .u8 w v bs) (hl : bs.length ≤ 140737488355328) :
    Calls Tryd.prog 24 #[v] w fun e w' => ∃ r, e = .returned r ∧ w'.ownsRow w.heap.size 5 1 r bs.length (bs.map (Value.int .u8)) ∧ Up w w' := by
  obtain ⟨a, c, rfl, h1, h2, h3⟩ := hs
  cases a with
  | none =>
    have h0 := none_empty h3 rfl
    obtain rfl := List.eq_nil_of_length_eq_zero h0
    obtain rfl := h2 rfl
    exact (clone8_nil w).mono fun e w' ⟨he, hw⟩ => ⟨_, he, World.ownsRow_nil _ _ _ _, by rw [← hw]; exact Up.refl w⟩
  | some ad => exact clone8_some ad c bs w ⟨_, _, rfl, h1, h2, h3⟩ hl

/-- what Done answers -/
def doneE (E : Int) (bs : List Int) : Int := if E ≠ 0 then E else if 16384 < bs.length then 5 else 0
def doneB (E : Int) (bs : List Int) : List Int := if E ≠ 0 ∨ 16384 < bs.length then [] else bs

theorem wdone_err (p : Value) (hp : ∃ a, p = .pointer a) (E : Int) (w : World) (hE : E ≠ 0) (h : Calls Tryd.prog 23 #[p] w fun e w' => e = .returned (.int .i64 E) ∧ w = w') :
    Calls Tryd.prog 11 #[p] w fun e w' => e = .returned (.tuple #[.slice none 0 0, .int .i64 E]) ∧ w = w' := by
  have Hf := Lib.hid h
  have e1 : (E == 0) = false := by rw [beq_eq_false_iff_ne]; exact hE
  have e2 : (E != 0) = true := by rw [bne, e1]; rfl
  obtain ⟨a, rfl⟩ := hp
  clear h
  go_enter Tryd.func11, Tryd.ntmps11
  go_wp2_with fail
  with_reducible refine Calls.mono Hf.out ?_
  rintro e w1 ⟨rfl, rfl⟩
  go_wp2
  go_ret2
  exact ⟨rfl, rfl⟩
set_option maxHeartbeats 1000000 in
theorem wdone_ok (base g : Nat) (o : Value) (bs : List Int) (w : World) (h : Wr w base g o 0 bs) (hb : bs.length ≤ 30000) :
    Calls Tryd.prog 11 #[.pointer (some ⟨g, 0, none⟩)] w fun e w' => ∃ r, e = .returned (.tuple #[r, .int .i64 (doneE 0 bs)]) ∧ w'.ownsRow w.heap.size 5 1 r (doneB 0 bs).length ((doneB 0 bs).map (Value.int .u8)) ∧ Up w w' := by
  have Hf := Lib.hid (wfault_any g o 0 w h.1)
  have hc1 := cell_of_row _ _ 1 _ _ _ h.1
  simp only [List.getElem?_toArray, List.getElem?_cons_zero, List.getElem?_cons_succ] at hc1
  have Hcl := Lib.hid (clone8_any o bs w (Ints.of_row h.2.2) (by omega))
  obtain ⟨a, c, rfl⟩ := row_shape h.2.2
  clear h
  by_cases hl : 16384 < bs.length
  · rw [show doneE 0 bs = 5 from by simp [doneE, hl], show doneB 0 bs = [] from by simp [doneB, hl]]
    go_enter Tryd.func11, Tryd.ntmps11
    go_wp2_with fail
    with_reducible refine Calls.mono Hf.out ?_
    rintro e w1 ⟨rfl, rfl⟩
    go_wp2
    go_ret2
    exact ⟨_, rfl, World.ownsRow_nil _ _ _ _, Up.refl _⟩
  · rw [show doneE 0 bs = 0 from by simp [doneE, hl], show doneB 0 bs = bs from by simp [doneB, hl]]
    go_enter Tryd.func11, Tryd.ntmps11
    go_wp2_with fail
    with_reducible refine Calls.mono Hf.out ?_
    rintro e w1 ⟨rfl, rfl⟩
    go_wp2_with fail
    with_reducible refine Calls.mono Hcl.out ?_
    rintro e w2 ⟨r, rfl, h1, h2⟩
    have H1 := Lib.hid h1
    have H2 := Lib.hid h2
    obtain ⟨a1, c1, rfl⟩ := row_shape h1
    clear h1 h2
    go_wp2
    go_ret2
    exact ⟨_, rfl, H1.out, H2.out⟩
theorem wdone_any (base g : Nat) (o : Value) (E : Int) (bs : List Int) (w : World) (h : Wr w base g o E bs) (hb : bs.length ≤ 30000) :
    Calls Tryd.prog 11 #[.pointer (some ⟨g, 0, none⟩)] w fun e w' => ∃ r, e = .returned (.tuple #[r, .int .i64 (doneE E bs)]) ∧ w'.ownsRow w.heap.size 5 1 r (doneB E bs).length ((doneB E bs).map (Value.int .u8)) ∧ Up w w' := by
  by_cases hE : E = 0
  · subst hE; exact wdone_ok base g o bs w h hb
  · rw [show doneE E bs = E from by simp [doneE, hE], show doneB E bs = [] from by simp [doneB, hE]]
    exact (wdone_err _ ⟨_, rfl⟩ E w hE (wfault_any g o E w h.1)).mono fun e w' ⟨h1, h2⟩ => ⟨_, h1, World.ownsRow_nil _ _ _ _, by rw [← h2]; exact Up.refl w⟩
theorem wr_new (w : World) : Wr (w.alloc (.cells #[.bool true, .slice none 0 0, .int .i64 0] 55)) w.heap.size w.heap.size (.slice none 0 0) 0 [] := ⟨heap_alloc_new w _, Nat.le_refl _, World.ownsRow_nil _ _ _ _⟩
theorem wPut_le (E : Int) (bs fs : List Int) (m : Nat) (h : bs.length ≤ 16384 + m) (hf : fs.length ≤ m) : (wPut E bs fs).length ≤ 16384 + m := by
  unfold wPut
  split
  · rw [List.length_append]; omega
  · exact h
theorem wCut_le (E : Int) (bs : List Int) (m : Nat) (h : bs.length ≤ m) : (wCut E bs).length ≤ m := by
  unfold wCut; split
  · simp
  · exact h
theorem wNumB_le (E : Int) (bs : List Int) (n : Int) (h : bs.length ≤ 20482) : (wNumB E bs n).length ≤ 20482 := by
  unfold wNumB; split
  · exact wCut_le _ _ _ h
  · exact wPut_le _ _ _ 4098 h (by rw [octAll_length]; omega)
theorem wTextB_le (E : Int) (bs zs : List Int) (h : bs.length ≤ 20482) : (wTextB E bs zs).length ≤ 20482 := by
  unfold wTextB; split
  · exact wCut_le _ _ _ h
  · exact wPut_le _ _ _ 4098 h (by rw [List.length_append, octAll_length]; omega)

end
end Go.Proofs.YtgmicppfiapilaaDoor
