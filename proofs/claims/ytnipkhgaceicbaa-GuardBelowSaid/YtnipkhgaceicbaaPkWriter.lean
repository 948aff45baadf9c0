import Derived.Lib.SliceRun
import Derived.Test.YtnipkhgaceicbaaUps
import Derived.Test.YtnipkhgaceicbaaOct
import Derived.Test.YtnipkhgaceicbaaStrs
import Derived.Test.YtnipkhgaceicbaaOwn
namespace Go.Proofs.Ytnipkhgaceicbaa
/-
  pack: the writer.
-/
section
set_option maxRecDepth 100000
section
set_option linter.unusedVariables false
open Go.RowKit

/-- THE WRITER in block g: no error but E; bs is what was written, in a row of its own from base on. -/
def Wr (W : World) (base g : Nat) (o : Value) (E : Int) (bs : List Int) : Prop :=
  W.heap[g]? = some (.cells #[.bool true, o, .int .i64 E] 127 (0, 0)) ∧ base ≤ g ∧ W.ownsRow base 5 1 o bs.length (bs.map (Value.int .u8))
theorem Wr.lt {W : World} {base g : Nat} {o : Value} {E : Int} {bs : List Int} (h : Wr W base g o E bs) : g < W.heap.size := lt_of_block h.1
theorem Wr.below {w w' : World} {base g : Nat} {o o' : Value} {E : Int} {bs : List Int} (h : Wr w base g o E bs) (hs : WrStep g o o' w w') (hb : base ≤ w.heap.size) : Below base w w' :=
  hs.1.below hb fun k hk => by
    rcases hk with rfl | e
    · exact h.2.1
    · exact (h.2.2.lt k e).1
theorem Wr.up {w w' : World} {base g : Nat} {o : Value} {E : Int} {bs : List Int} (h : Wr w base g o E bs) (hu : Up w w') : Wr w' base g o E bs :=
  ⟨(hu.block g h.lt).trans h.1, h.2.1, ownsRow_up h.2.2 hu⟩
theorem new_any (w : World) :
    Calls Try.prog 55 #[] w fun e w' => e = .returned (.pointer (some ⟨w.heap.size, 0, none⟩)) ∧ w.alloc (.cells #[.bool true, .slice none 0 0, .int .i64 0] 127) = w' := by
  go_enter Try.func55, Try.ntmps55
  go_wp2
  go_ret
  exact ⟨rfl, rfl⟩

set_option maxHeartbeats 1000000 in
theorem wfault_any (g : Nat) (o : Value) (E : Int) (w : World) (h : w.heap[g]? = some (.cells #[.bool true, o, .int .i64 E] 127 (0, 0))) :
    Calls Try.prog 71 #[.pointer (some ⟨g, 0, none⟩)] w fun e w' => e = .returned (.int .i64 E) ∧ w = w' := by
  have hc0 := cell_of_row _ _ 0 _ _ _ h
  have hc2 := cell_of_row _ _ 2 _ _ _ h
  simp only [List.getElem?_toArray, List.getElem?_cons_zero, List.getElem?_cons_succ] at hc0 hc2
  clear h
  go_enter Try.func71, Try.ntmps71
  go_wp2
  go_ret
  exact ⟨rfl, rfl⟩

theorem wfault_nil (w : World) :
    Calls Try.prog 71 #[.pointer none] w fun e w' => e = .returned (.int .i64 9) ∧ w = w' := by
  go_enter Try.func71, Try.ntmps71
  go_wp2
  go_ret
  exact ⟨rfl, rfl⟩
theorem wfault_un (g : Nat) (o : Value) (E : Value) (w : World) (h : w.heap[g]? = some (.cells #[.bool false, o, E] 127 (0, 0))) :
    Calls Try.prog 71 #[.pointer (some ⟨g, 0, none⟩)] w fun e w' => e = .returned (.int .i64 9) ∧ w = w' := by
  have hc0 := cell_of_row _ _ 0 _ _ _ h
  simp only [List.getElem?_toArray, List.getElem?_cons_zero] at hc0
  clear h
  go_enter Try.func71, Try.ntmps71
  go_wp2
  go_ret
  exact ⟨rfl, rfl⟩

set_option maxHeartbeats 1000000 in
theorem wfail_first (g : Nat) (o : Value) (x : Int) (w : World) (h : w.heap[g]? = some (.cells #[.bool true, o, .int .i64 0] 127 (0, 0))) :
    Calls Try.prog 81 #[.pointer (some ⟨g, 0, none⟩), .int .i64 x] w fun e w' => e = .returned (.tuple #[]) ∧ w'.heap[g]? = some (.cells #[.bool true, .slice none 0 0, .int .i64 x] 127 (0, 0)) ∧ w.grownBy w' (some g) := by
  have Hf := Lib.hid (wfault_any g o 0 w h)
  have hf1 := frozen_of_row _ _ 1 _ _ h
  have hf2 := frozen_of_row _ _ 2 _ _ h
  have hc1 := cell_of_row _ _ 1 _ _ _ h
  have hc2 := cell_of_row _ _ 2 _ _ _ h
  simp only [List.getElem?_toArray, List.getElem?_cons_zero, List.getElem?_cons_succ] at hc1 hc2
  have H := Lib.hid h
  clear h
  go_enter Try.func81, Try.ntmps81
  go_wp2_with fail
  with_reducible refine Calls.mono Hf.out ?_
  rintro e w1 ⟨rfl, rfl⟩
  go_wp2
  go_end0
  exact ⟨rfl, set_field (set_field H.out 2 (.int .i64 x) rfl) 1 (.slice none 0 0) rfl, grownBy_trans (grownBy_setCell _ ⟨g, 2, none⟩ _) (grownBy_setCell _ ⟨g, 1, none⟩ _)⟩

/-- of a writer that has an error, or that nobody made, nothing turns -/
theorem wfail_again (p : Value) (hp : ∃ a, p = .pointer a) (E x : Int) (w : World) (hE : E ≠ 0) (h : Calls Try.prog 71 #[p] w fun e w' => e = .returned (.int .i64 E) ∧ w = w') :
    Calls Try.prog 81 #[p, .int .i64 x] w fun e w' => e = .returned (.tuple #[]) ∧ w = w' := by
  have Hf := Lib.hid h
  have e1 : (E == 0) = false := by rw [beq_eq_false_iff_ne]; exact hE
  obtain ⟨a, rfl⟩ := hp
  clear h
  go_enter Try.func81, Try.ntmps81
  go_wp2_with fail
  with_reducible refine Calls.mono Hf.out ?_
  rintro e w1 ⟨rfl, rfl⟩
  go_wp2
  go_end0
  exact ⟨rfl, rfl⟩

theorem wwrite_again (p : Value) (hp : ∃ a, p = .pointer a) (v : Value) (bs : List Int) (hv : ∃ a n c, v = .slice a n c) (E : Int) (w : World) (hE : E ≠ 0) (h : Calls Try.prog 71 #[p] w fun e w' => e = .returned (.int .i64 E) ∧ w = w') :
    Calls Try.prog 82 #[p, v] w fun e w' => e = .returned (.tuple #[]) ∧ w = w' := by
  have Hf := Lib.hid h
  have e1 : (E == 0) = false := by rw [beq_eq_false_iff_ne]; exact hE
  have e2 : (E != 0) = true := by rw [bne, e1]; rfl
  obtain ⟨a, rfl⟩ := hp
  obtain ⟨b, n, c, rfl⟩ := hv
  clear h
  go_enter Try.func82, Try.ntmps82
  go_wp2_with fail
  with_reducible refine Calls.mono Hf.out ?_
  rintro e w1 ⟨rfl, rfl⟩
  go_wp2
  exact bodyPost_ret (results_none rfl _ _ _) rfl ⟨rfl, rfl⟩

/-- the writer that has no error, and room -/
theorem wwrite_full (base g : Nat) (o v : Value) (bs fs : List Int) (w : World) (h : Wr w base g o 0 bs) (hv : Ints .u8 w v fs) (hb : 16384 < bs.length) (hb2 : bs.length ≤ 30000) :
    Calls Try.prog 82 #[.pointer (some ⟨g, 0, none⟩), v] w fun e w' => e = .returned (.tuple #[]) ∧ w = w' := by
  have Hf := Lib.hid (wfault_any g o 0 w h.1)
  have hc1 := cell_of_row _ _ 1 _ _ _ h.1
  simp only [List.getElem?_toArray, List.getElem?_cons_zero, List.getElem?_cons_succ] at hc1
  obtain ⟨a, c, rfl⟩ := row_shape h.2.2
  obtain ⟨b, d, rfl, _, _, _⟩ := hv
  clear h
  go_enter Try.func82, Try.ntmps82
  go_wp2_with fail
  with_reducible refine Calls.mono Hf.out ?_
  rintro e w1 ⟨rfl, rfl⟩
  go_wp2
  exact bodyPost_ret (results_none rfl _ _ _) rfl ⟨rfl, rfl⟩

set_option maxHeartbeats 1000000 in
theorem wwrite_on (base g : Nat) (o v : Value) (bs fs : List Int) (w : World) (h : Wr w base g o 0 bs) (hv : Ints .u8 w v fs) (hb : bs.length ≤ 16384) (hf : fs.length ≤ 10000) (hbase : base ≤ w.heap.size) :
    Calls Try.prog 82 #[.pointer (some ⟨g, 0, none⟩), v] w fun e w' => e = .returned (.tuple #[]) ∧ ∃ o', Wr w' base g o' 0 (bs ++ fs) ∧ WrStep g o o' w w' := by
  obtain ⟨i0, hi, hz0, hz1, hz2⟩ := info_parts info_u8
  have Hf := Lib.hid (wfault_any g o 0 w h.1)
  have hc1 := cell_of_row _ _ 1 _ _ _ h.1
  simp only [List.getElem?_toArray, List.getElem?_cons_zero, List.getElem?_cons_succ] at hc1
  have H := Lib.hid h
  have Hoff := Lib.hid (block_off h.1 (by decide) h.2.2)
  obtain ⟨a, c, rfl⟩ := row_shape h.2.2
  obtain ⟨b, d, rfl, _, hd, hcs⟩ := hv
  have Hnews := Lib.hid (cells_all hcs)
  have hnn : b = none → fs.length = 0 ∧ d = 0 := fun e => ⟨none_empty hcs e, hd e⟩
  have Hnn := Lib.hid hnn
  clear h hnn hd hcs
  go_enter Try.func82, Try.ntmps82
  go_wp2_with fail
  with_reducible refine Calls.mono Hf.out ?_
  rintro e w1 ⟨rfl, rfl⟩
  go_wp2_with (at_builtin; go_loud (refine wpList_append_own_src_at _ rfl (.tmp 19) (.tmp 20) 74 rfl base 5 i0 (.int .u8 0) 1 1 Try.underlying74 hi hz0 hz1 hz2 rfl (by decide) (.slice a bs.length c) _ _ rfl H.out.2.2 b fs.length d (fs.map (Value.int .u8)) rfl Hnn.out (by simp) Hnews.out (u8_cells fs) (by unfold maxLen; omega) (by omega) hbase ?_; intro v' w3 hown' hgrow hat; obtain ⟨a9, c9, rfl⟩ := row_shape hown'; have hg3 := (hgrow.block g H.out.lt Hoff.out).trans H.out.1; have hc3 := cell_of_row _ _ 1 _ _ _ hg3; have hf3 := frozen_of_row _ _ 1 _ _ hg3; simp only [List.getElem?_toArray, List.getElem?_cons_zero, List.getElem?_cons_succ] at hc3; have Hg3 := Lib.hid hg3; clear hg3; have Hgrow := Lib.hid hgrow; clear hgrow; have Hown' := Lib.hid hown'; clear hown'; have Hat := Lib.hid hat; clear hat))
  go_end0
  have hne : some g ≠ (Value.slice a9 (bs.length + fs.length) c9).ownBlock := by
    have hg3 := Hg3.out
    exact block_off hg3 (by decide) Hown'.out
  refine ⟨rfl, _, ⟨set_field Hg3.out 1 _ rfl, H.out.2.1, ?_⟩, ?_, ?_⟩
  · have hr := Hown'.out
    rw [← List.map_append] at hr
    rw [List.length_append]
    exact hr.kept (grownBy_setCell w3 ⟨g, 1, none⟩ _) (.inr (fun e => hne e.symm))
  · exact (KeptBut.of_grown (S := WrS g _) Hgrow.out (fun k e => .inr e)).trans (KeptBut.of_grown (S := WrS g _) (grownBy_setCell w3 ⟨g, 1, none⟩ _) (fun k e => .inl (by cases e; rfl))) (fun _ _ e => e)
  · intro k hk
    rcases Hat.out with e | e
    · exact .inl (by rw [← e]; exact hk)
    · rw [e] at hk; cases hk; exact .inr (Nat.le_refl _)

/-- a field is put behind, if there is no error, and room -/
def wPut (E : Int) (bs fs : List Int) : List Int := if E = 0 ∧ bs.length ≤ 16384 then bs ++ fs else bs
theorem wwrite_any (base g : Nat) (o v : Value) (E : Int) (bs fs : List Int) (w : World) (h : Wr w base g o E bs) (hv : Ints .u8 w v fs) (hb : bs.length ≤ 30000) (hf : fs.length ≤ 10000) (hbase : base ≤ w.heap.size) :
    Calls Try.prog 82 #[.pointer (some ⟨g, 0, none⟩), v] w fun e w' => e = .returned (.tuple #[]) ∧ ∃ o', Wr w' base g o' E (wPut E bs fs) ∧ WrStep g o o' w w' := by
  by_cases hE : E = 0
  · subst hE
    by_cases hl : bs.length ≤ 16384
    · rw [show wPut 0 bs fs = bs ++ fs from if_pos ⟨rfl, hl⟩]
      exact wwrite_on base g o v bs fs w h hv hl hf hbase
    · rw [show wPut 0 bs fs = bs from if_neg (fun e => hl e.2)]
      exact (wwrite_full base g o v bs fs w h hv (by omega) hb).mono fun e w' ⟨h1, h2⟩ => ⟨h1, o, by rw [← h2]; exact h, by rw [← h2]; exact WrStep.refl _ _ _⟩
  · rw [show wPut E bs fs = bs from if_neg (fun e => hE e.1)]
    obtain ⟨a, c, e, _⟩ := hv
    exact (wwrite_again _ ⟨_, rfl⟩ v fs ⟨_, _, _, e⟩ E w hE (wfault_any g o E w h.1)).mono fun e w' ⟨h1, h2⟩ => ⟨h1, o, by rw [← h2]; exact h, by rw [← h2]; exact WrStep.refl _ _ _⟩
/-- the first error -/
def wErr (E x : Int) : Int := if E = 0 then x else E
def wCut (E : Int) (bs : List Int) : List Int := if E = 0 then [] else bs
theorem wfail_any (base g : Nat) (o : Value) (E x : Int) (bs : List Int) (w : World) (h : Wr w base g o E bs) :
    Calls Try.prog 81 #[.pointer (some ⟨g, 0, none⟩), .int .i64 x] w fun e w' => e = .returned (.tuple #[]) ∧ ∃ o', Wr w' base g o' (wErr E x) (wCut E bs) ∧ WrStep g o o' w w' := by
  by_cases hE : E = 0
  · subst hE
    rw [show wErr 0 x = x from if_pos rfl, show wCut 0 bs = [] from if_pos rfl]
    exact (wfail_first g o x w h.1).mono fun e w' ⟨h1, h2, h3⟩ => ⟨h1, .slice none 0 0, ⟨h2, h.2.1, World.ownsRow_nil _ _ _ _⟩, KeptBut.of_grown h3 (fun k e => .inl (by cases e; rfl)), fun k e => by simp [Value.ownBlock] at e⟩
  · rw [show wErr E x = E from if_neg hE, show wCut E bs = bs from if_neg hE]
    exact (wfail_again _ ⟨_, rfl⟩ E x w hE (wfault_any g o E w h.1)).mono fun e w' ⟨h1, h2⟩ => ⟨h1, o, by rw [← h2]; exact h, by rw [← h2]; exact WrStep.refl _ _ _⟩

/-- WHAT Num, AND Text, MAKE OF A WRITER -/
def wNumE (E n : Int) : Int := if n < 0 ∨ 1099511627776 < n then wErr E 4 else E
def wNumB (E : Int) (bs : List Int) (n : Int) : List Int := if n < 0 ∨ 1099511627776 < n then wCut E bs else wPut E bs (octAll n 6)
def wTextE (E : Int) (zs : List Int) : Int := if 4096 < zs.length then wErr E 5 else E
def wTextB (E : Int) (bs zs : List Int) : List Int := if 4096 < zs.length then wCut E bs else wPut E bs (octAll zs.length 2 ++ zs)

set_option maxHeartbeats 1000000 in
theorem wnum_any (base g : Nat) (o : Value) (E : Int) (bs : List Int) (n : Int) (w : World) (h : Wr w base g o E bs) (hn : -9223372036854775808 ≤ n ∧ n ≤ 9223372036854775807) (hb : bs.length ≤ 30000) (hbase : base ≤ w.heap.size) :
    Calls Try.prog 68 #[.pointer (some ⟨g, 0, none⟩), .int .i64 n] w fun e w' => e = .returned (.tuple #[]) ∧ ∃ o', Wr w' base g o' (wNumE E n) (wNumB E bs n) ∧ WrStep g o o' w w' := by
  by_cases hr : n < 0 ∨ 1099511627776 < n
  · rw [show wNumE E n = wErr E 4 from if_pos hr, show wNumB E bs n = wCut E bs from if_pos hr]
    have Hf := Lib.hid (wfail_any base g o E 4 bs w h)
    clear h hb hbase
    rcases hr with hr | hr
    · go_enter Try.func68, Try.ntmps68
      go_wp2_with fail
      with_reducible refine Calls.mono Hf.out ?_
      rintro e w1 ⟨rfl, o', h1, h2⟩
      have H1 := Lib.hid h1
      have H2 := Lib.hid h2
      clear h1 h2
      go_wp2
      exact bodyPost_ret (results_none rfl _ _ _) rfl ⟨rfl, o', H1.out, H2.out⟩
    · go_enter Try.func68, Try.ntmps68
      go_wp2_with fail
      with_reducible refine Calls.mono Hf.out ?_
      rintro e w1 ⟨rfl, o', h1, h2⟩
      have H1 := Lib.hid h1
      have H2 := Lib.hid h2
      clear h1 h2
      go_wp2
      exact bodyPost_ret (results_none rfl _ _ _) rfl ⟨rfl, o', H1.out, H2.out⟩
  · rw [show wNumE E n = E from if_neg hr, show wNumB E bs n = wPut E bs (octAll n 6) from if_neg hr]
    have hp := put_any n 6 hn (by omega) 6 (by omega) w
    rw [show IntKind.u64.wrap n = n from by rw [IntKind.wrap_u64]; omega] at hp
    have Hp := Lib.hid hp
    have Hw : Hid (∀ (v : Value) (wx : World), Up w wx → Ints .u8 wx v (octAll n 6) → Calls Try.prog 82 #[.pointer (some ⟨g, 0, none⟩), v] wx fun e w' => e = .returned (.tuple #[]) ∧ ∃ o', Wr w' base g o' E (wPut E bs (octAll n 6)) ∧ WrStep g o o' wx w') := fun v wx hx hi => wwrite_any base g o v E bs _ wx (h.up hx) hi hb (by rw [octAll_length]; omega) (Nat.le_trans hbase hx.size)
    have Hg := Lib.hid h.lt
    have h1 : ¬ n < 0 := by omega
    have h2 : ¬ 1099511627776 < n := by omega
    clear h hb hbase hp hr
    go_enter Try.func68, Try.ntmps68
    go_wp2_with fail
    with_reducible refine Calls.mono Hp.out ?_
    rintro e w1 ⟨v, rfl, hrow, hU⟩
    have HI := Lib.hid (Ints.of_row hrow)
    obtain ⟨a, c, rfl⟩ := row_shape hrow
    have HU : Hid (Up w w1) := Lib.hid hU
    clear hrow hU
    go_wp2_with fail
    with_reducible refine Calls.mono (Hw.out _ _ HU.out HI.out) ?_
    rintro e w2 ⟨rfl, o', h3, h4⟩
    have H3 := Lib.hid h3
    have H4 := Lib.hid h4
    clear h3 h4
    go_wp2
    go_end0
    exact ⟨rfl, o', H3.out, (WrStep.up HU.out).trans Hg.out H4.out⟩

set_option maxHeartbeats 1000000 in
theorem wtext_any (base g : Nat) (o : Value) (E : Int) (bs zs : List Int) (w : World) (h : Wr w base g o E bs) (hu : U8s zs) (hz : zs.length ≤ 9223372036854775807) (hb : bs.length ≤ 30000) (hbase : base ≤ w.heap.size) :
    Calls Try.prog 67 #[.pointer (some ⟨g, 0, none⟩), .string (strOfNums zs)] w fun e w' => e = .returned (.tuple #[]) ∧ ∃ o', Wr w' base g o' (wTextE E zs) (wTextB E bs zs) ∧ WrStep g o o' w w' := by
  by_cases hr : 4096 < zs.length
  · rw [show wTextE E zs = wErr E 5 from if_pos hr, show wTextB E bs zs = wCut E bs from if_pos hr]
    have Hf := Lib.hid (wfail_any base g o E 5 bs w h)
    have hs : (4096 : Int) < ((strOfNums zs).size : Int) := by rw [strOfNums_size]; omega
    have hs2 : 4096 < (strOfNums zs).size := by rw [strOfNums_size]; exact hr
    clear h hb hbase hr
    go_enter Try.func67, Try.ntmps67
    go_wp2_with fail
    with_reducible refine Calls.mono Hf.out ?_
    rintro e w1 ⟨rfl, o', h1, h2⟩
    have H1 := Lib.hid h1
    have H2 := Lib.hid h2
    clear h1 h2
    go_wp2
    exact bodyPost_ret (results_none rfl _ _ _) rfl ⟨rfl, o', H1.out, H2.out⟩
  · rw [show wTextE E zs = E from if_neg hr, show wTextB E bs zs = wPut E bs (octAll zs.length 2 ++ zs) from if_neg hr]
    have hp := put_any zs.length 2 (by omega) (by omega) 2 (by omega) w
    rw [show IntKind.u64.wrap (zs.length : Int) = zs.length from by rw [IntKind.wrap_u64]; omega] at hp
    have hsz : (strOfNums zs).size = zs.length := strOfNums_size zs
    rw [← hsz] at hp ⊢
    have Hp := Lib.hid hp
    have Hconv : Hid (∀ wx : World, ∃ a c w', (convert 9 74 (.string (strOfNums zs))).run Try.prog wx = .ok (.slice a zs.length c) w' ∧ Ints .u8 w' (.slice a zs.length c) zs ∧ Up wx w') := fun wx => conv_str zs hu wx
    have Hj : Hid (∀ (v : Value) (wx : World), Rows8 wx v [octAll (strOfNums zs).size 2, zs] → Calls Try.prog 57 #[v] wx fun e w' => ∃ r, e = .returned r ∧ Ints .u8 w' r (octAll (strOfNums zs).size 2 ++ zs) ∧ Up wx w') := fun v wx hx => (join_any v _ wx hx (by simp) (by simp [octAll_length]; omega)).mono fun e w' ⟨h1, h2, h3⟩ => ⟨_, h1, by simpa using Ints.of_row h2, h3⟩
    have Hw : Hid (∀ (v : Value) (wx : World), Up w wx → Ints .u8 wx v (octAll (strOfNums zs).size 2 ++ zs) → Calls Try.prog 82 #[.pointer (some ⟨g, 0, none⟩), v] wx fun e w' => e = .returned (.tuple #[]) ∧ ∃ o', Wr w' base g o' E (wPut E bs (octAll (strOfNums zs).size 2 ++ zs)) ∧ WrStep g o o' wx w') := fun v wx hx hi => wwrite_any base g o v E bs _ wx (h.up hx) hi hb (by rw [List.length_append, octAll_length]; omega) (Nat.le_trans hbase hx.size)
    have Hg := Lib.hid h.lt
    have h1 : ¬ (4096 : Int) < ((strOfNums zs).size : Int) := by rw [strOfNums_size]; omega
    clear h hb hbase hp hr hsz
    generalize octAll (strOfNums zs).size 2 = oct at *
    generalize strOfNums zs = S at *
    go_enter Try.func67, Try.ntmps67
    go_wp2_with fail
    with_reducible refine Calls.mono Hp.out ?_
    rintro e w1 ⟨v, rfl, hrow, hU⟩
    have HI := Lib.hid (Ints.of_row hrow)
    obtain ⟨a, c, rfl⟩ := row_shape hrow
    have HU : Hid (Up w w1) := Lib.hid hU
    clear hrow hU
    obtain ⟨a2, c2, w2, hrun, hi2, hu2⟩ := Hconv.out w1
    have HI2 := Lib.hid hi2
    have HU2 := Lib.hid hu2
    clear hi2 hu2
    go_wp2_with fail
    with_reducible refine Calls.mono (Hj.out _ _ (Rows8.new2 w2 _ _ _ _ _ _ rfl (HI.out.up HU2.out) HI2.out)) ?_
    rintro e w3 ⟨v3, rfl, hi3, hu3⟩
    have HU3 := Lib.hid ((HU.out.trans HU2.out).trans (Up.trans (Up.alloc (Up.refl w2) _) hu3))
    obtain ⟨a3, c3, e3, hx3⟩ := hi3
    have HI3 := Lib.hid (show Ints .u8 w3 v3 (oct ++ zs) from ⟨a3, c3, e3, hx3⟩)
    rw [e3] at HI3 ⊢
    clear hx3 e3 hu3 hrun
    generalize (oct ++ zs).length = nl at HI3 ⊢
    go_wp2_with fail
    with_reducible refine Calls.mono (Hw.out _ _ HU3.out HI3.out) ?_
    rintro e w4 ⟨rfl, o', h3, h4⟩
    have H3 := Lib.hid h3
    have H4 := Lib.hid h4
    clear h3 h4
    go_wp2
    go_end0
    exact ⟨rfl, o', H3.out, (WrStep.up HU3.out).trans Hg.out H4.out⟩
end
end

/-
  slices.Clone of octets; the writer's Done; the example.
-/
section
set_option maxRecDepth 100000
section
set_option linter.unusedVariables false
open Go.RowKit

/-- what Done answers -/
def doneE (E : Int) (bs : List Int) : Int := if E ≠ 0 then E else if 16384 < bs.length then 5 else 0
def doneB (E : Int) (bs : List Int) : List Int := if E ≠ 0 ∨ 16384 < bs.length then [] else bs

theorem wdone_err (p : Value) (hp : ∃ a, p = .pointer a) (E : Int) (w : World) (hE : E ≠ 0) (h : Calls Try.prog 71 #[p] w fun e w' => e = .returned (.int .i64 E) ∧ w = w') :
    Calls Try.prog 56 #[p] w fun e w' => e = .returned (.tuple #[.slice none 0 0, .int .i64 E]) ∧ w = w' := by
  have Hf := Lib.hid h
  have e1 : (E == 0) = false := by rw [beq_eq_false_iff_ne]; exact hE
  have e2 : (E != 0) = true := by rw [bne, e1]; rfl
  obtain ⟨a, rfl⟩ := hp
  clear h
  go_enter Try.func56, Try.ntmps56
  go_wp2_with fail
  with_reducible refine Calls.mono Hf.out ?_
  rintro e w1 ⟨rfl, rfl⟩
  go_wp2
  go_ret2
  exact ⟨rfl, rfl⟩
set_option maxHeartbeats 1000000 in
theorem wdone_ok (base g : Nat) (o : Value) (bs : List Int) (w : World) (h : Wr w base g o 0 bs) (hb : bs.length ≤ 30000) :
    Calls Try.prog 56 #[.pointer (some ⟨g, 0, none⟩)] w fun e w' => ∃ r, e = .returned (.tuple #[r, .int .i64 (doneE 0 bs)]) ∧ w'.ownsRow w.heap.size 5 1 r (doneB 0 bs).length ((doneB 0 bs).map (Value.int .u8)) ∧ Up w w' := by
  have Hf := Lib.hid (wfault_any g o 0 w h.1)
  have hc1 := cell_of_row _ _ 1 _ _ _ h.1
  simp only [List.getElem?_toArray, List.getElem?_cons_zero, List.getElem?_cons_succ] at hc1
  have Hcl := Lib.hid (clone8_any o bs w (Ints.of_row h.2.2) (by omega))
  obtain ⟨a, c, rfl⟩ := row_shape h.2.2
  clear h
  by_cases hl : 16384 < bs.length
  · rw [show doneE 0 bs = 5 from by simp [doneE, hl], show doneB 0 bs = [] from by simp [doneB, hl]]
    go_enter Try.func56, Try.ntmps56
    go_wp2_with fail
    with_reducible refine Calls.mono Hf.out ?_
    rintro e w1 ⟨rfl, rfl⟩
    go_wp2
    go_ret2
    exact ⟨_, rfl, World.ownsRow_nil _ _ _ _, Up.refl _⟩
  · rw [show doneE 0 bs = 0 from by simp [doneE, hl], show doneB 0 bs = bs from by simp [doneB, hl]]
    go_enter Try.func56, Try.ntmps56
    go_wp2_with fail
    with_reducible refine Calls.mono Hf.out ?_
    rintro e w1 ⟨rfl, rfl⟩
    go_wp2_with fail
    with_reducible refine Calls.mono Hcl.out ?_
    rintro e w2 ⟨r, rfl, h1, h2⟩
    have H1 := Lib.hid h1
    have H2 := Lib.hid h2
    obtain ⟨a1, c1, rfl⟩ := row_shape h1
    clear h1 h2
    go_wp2
    go_ret2
    exact ⟨_, rfl, H1.out, H2.out⟩
theorem wdone_any (base g : Nat) (o : Value) (E : Int) (bs : List Int) (w : World) (h : Wr w base g o E bs) (hb : bs.length ≤ 30000) :
    Calls Try.prog 56 #[.pointer (some ⟨g, 0, none⟩)] w fun e w' => ∃ r, e = .returned (.tuple #[r, .int .i64 (doneE E bs)]) ∧ w'.ownsRow w.heap.size 5 1 r (doneB E bs).length ((doneB E bs).map (Value.int .u8)) ∧ Up w w' := by
  by_cases hE : E = 0
  · subst hE; exact wdone_ok base g o bs w h hb
  · rw [show doneE E bs = E from by simp [doneE, hE], show doneB E bs = [] from by simp [doneB, hE]]
    exact (wdone_err _ ⟨_, rfl⟩ E w hE (wfault_any g o E w h.1)).mono fun e w' ⟨h1, h2⟩ => ⟨_, h1, World.ownsRow_nil _ _ _ _, by rw [← h2]; exact Up.refl w⟩
theorem wr_new (w : World) : Wr (w.alloc (.cells #[.bool true, .slice none 0 0, .int .i64 0] 127)) w.heap.size w.heap.size (.slice none 0 0) 0 [] := ⟨heap_alloc_new w _, Nat.le_refl _, World.ownsRow_nil _ _ _ _⟩
theorem wPut_le (E : Int) (bs fs : List Int) (m : Nat) (h : bs.length ≤ 16384 + m) (hf : fs.length ≤ m) : (wPut E bs fs).length ≤ 16384 + m := by
  unfold wPut
  split
  · rw [List.length_append]; omega
  · exact h
theorem wCut_le (E : Int) (bs : List Int) (m : Nat) (h : bs.length ≤ m) : (wCut E bs).length ≤ m := by
  unfold wCut; split
  · simp
  · exact h
theorem wNumB_le (E : Int) (bs : List Int) (n : Int) (h : bs.length ≤ 20482) : (wNumB E bs n).length ≤ 20482 := by
  unfold wNumB; split
  · exact wCut_le _ _ _ h
  · exact wPut_le _ _ _ 4098 h (by rw [octAll_length]; omega)
theorem wTextB_le (E : Int) (bs zs : List Int) (h : bs.length ≤ 20482) : (wTextB E bs zs).length ≤ 20482 := by
  unfold wTextB; split
  · exact wCut_le _ _ _ h
  · exact wPut_le _ _ _ 4098 h (by rw [List.length_append, octAll_length]; omega)

end
end
end Go.Proofs.Ytnipkhgaceicbaa
