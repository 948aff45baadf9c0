import Derived.Test.YtbdjbmgeelleiaaDoorSgTold
import Derived.Test.YtbdjbmgeelleiaaDoorSlConcat
import Derived.Test.YtbdjbmgeelleiaaDoorOpen
/-
  SignerOwn: the walk.
-/
namespace Go.Proofs.YtbdjbmgeelleiaaDoor
set_option maxRecDepth 100000
section
set_option linter.unusedVariables false
open Go.RowKit

/-- a row of strings that is there -/
def RowStr (W : World) (G n : Nat) : Prop := ∃ cur : Array Value, W.heap[G]? = some (.cells cur 9 (0, 0)) ∧ n ≤ cur.size
theorem RowStr.set {W : World} {G n : Nat} (h : RowStr W G n) (k : Nat) (y : Value) : RowStr (W.setCell ⟨G, k, none⟩ y) G n := by
  obtain ⟨cur, h1, h2⟩ := h
  exact ⟨cur.setIfInBounds k y, heap_setCell_same W G k cur _ _ h1, by simpa using h2⟩
theorem RowStr.of_row {W : World} {base G n c : Nat} {xs : List Value} (h : W.ownsRow base 9 1 (.slice (some ⟨G, 0, none⟩) n c) n xs) : RowStr W G n := by
  rcases h.2 with ⟨e, _⟩ | ⟨g, cap, cur, e, _, hg, hle, _, hsz, _⟩
  · cases e
  · simp only [Value.slice.injEq, Option.some.injEq, Addr.mk.injEq, and_true, true_and] at e
    obtain ⟨rfl, rfl⟩ := e
    exact ⟨cur, hg, by omega⟩
theorem RowStr.kept {W W' : World} {G n : Nat} (h : RowStr W G n) (hG : W'.heap[G]? = W.heap[G]?) : RowStr W' G n := by
  obtain ⟨cur, h1, h2⟩ := h
  exact ⟨cur, hG.trans h1, h2⟩
theorem Strs.grownAt {W W' : World} {v : Value} {ls : List (List Int)} {g : Nat} (h : Strs W v ls) (hg : W.grownBy W' (some g)) (hS : ∀ b, v.ownBlock = some b → b ≠ g) : Strs W' v ls := by
  obtain ⟨a, cap, rfl, h2, h3, h4⟩ := h
  refine ⟨a, cap, rfl, h2, h3, h4.imp id ?_⟩
  rintro ⟨b, off, rfl, hc⟩
  exact ⟨b, off, rfl, fun j hj => by
    have := hc j hj
    exact (World.cell?_of_block (a := ⟨b, off + j, none⟩) (hg.block b (World.block_lt_of_cell? W _ this) (fun e => hS b rfl (by simpa using e)))).trans this⟩

set_option maxHeartbeats 8000000 in
theorem lawSgOwn_in (seed : List Int) (lv : Value) (ls : List (List Int)) (next : Int) (tv : Value) (text : List Int) (w : World) (hk : KeyIn seed ls next) (hs : Strs w lv ls) (ht : Ints .u8 w tv text) (hut : U8s text) (hlt : text.length ≤ 140737488351232) (hT : Tab64 w) :
    Calls Tryd.prog 4 #[keyV seed lv next, tv] w fun e w' => e = .returned (.bool true) ∧ Up w w' := by
  obtain ⟨i0, hi, hz0, hz1, hz2⟩ := info_parts info_strg
  obtain ⟨SG, S2, NX, E, hE, hprog, href⟩ := sig_told seed ls next text hk hut (by omega)
  have hlen := hk.len
  have Hprog : Hid (∀ (v2 : Value) (wx : World), Up w wx → Strs wx v2 ls → Calls Tryd.prog 5 #[keyV seed v2 next, tv] wx (SignTo ls SG S2 NX E wx)) := Lib.hid fun v2 wx hx h => hprog v2 tv wx h (ht.up hx) (hT.up hx)
  have Href : Hid (∀ (wx : World), Up w wx → Calls Tryd.prog 6 #[keyV seed lv next, tv] wx fun e w' => e = .returned (.tuple #[.string SG, .int .i64 E]) ∧ Up wx w') := Lib.hid fun wx hx => href lv tv wx (hs.up hx) (ht.up hx)
  have Hsame : Hid (∀ (v2 : Value) (wx : World), Up w wx → Strs wx v2 ls → Calls Tryd.prog 16 #[keyV seed v2 next, keyV seed lv next] wx fun e w' => e = .returned (.bool true) ∧ Up wx w') := Lib.hid fun v2 wx hx h => sameKey_any seed v2 lv ls next wx h (hs.up hx) (by omega)
  have Hok : Hid (E = 0 → ls.length ≤ 1048576) := Lib.hid fun h => by have := (hE h).2.2.2.2; omega
  have Htx : Hid (E = 0 → ∀ (v2 : Value) (wx : World), Up w wx → Strs wx v2 ls → Calls Tryd.prog 17 #[v2, lv] wx fun e w' => e = .returned (.bool true) ∧ Up wx w') := Lib.hid fun h0 v2 wx hx h => texts_any v2 lv ls wx h (hs.up hx) (Hok.out h0)
  have Hs := Lib.hid hs
  obtain ⟨a, cap, rfl, hcap, hnil, hcs⟩ := hs
  obtain ⟨ta, tc, rfl, _, _, _⟩ := ht
  have Hx := Lib.hid (strVs_one ls)
  clear hprog href hE hut hlt hT hk
  unfold keyV at Hprog Href Hsame ⊢
  generalize strOfNums seed = S at *
  obtain ⟨w2, hw2⟩ : ∃ w2, (w.alloc (.cells #[.string S, .slice a ls.length cap, .int .i64 next] 24)).alloc (.cells #[.string S, .slice a ls.length cap, .int .i64 next] 24) = w2 := ⟨_, rfl⟩
  have hU2 : Up w w2 := by rw [← hw2]; exact Up.alloc (Up.alloc (Up.refl w) _) _
  have hs2 : w2.heap.size = w.heap.size + 2 := by rw [← hw2]; simp
  have hx0 : w2.heap[w.heap.size]? = some (.cells #[.string S, .slice a ls.length cap, .int .i64 next] 24 (0, 0)) := by rw [← hw2]; exact heap_alloc2_old w _ _
  have hx1 : w2.heap[w.heap.size + 1]? = some (.cells #[.string S, .slice a ls.length cap, .int .i64 next] 24 (0, 0)) := by rw [← hw2]; exact heap_alloc2_new w _ _
  have hU3 : Up w2 (w2.alloc (.cells #[] 9)) := Up.alloc (Up.refl w2) _
  have r0 := ownsRow_empty w2 9
  rw [hs2] at r0
  obtain ⟨a9, c9, e9, _, hn9, hcs9⟩ := Hs.out.up (hU2.trans hU3)
  simp only [Value.slice.injEq, true_and] at e9
  obtain ⟨rfl, rfl⟩ := e9
  have Hnews := Lib.hid (strs_cells_all hcs9)
  have Hnn : Hid (a = none → ls.length = 0 ∧ cap = 0) := Lib.hid (fun e => ⟨none_empty hcs9 e, hn9 e⟩)
  have R0 := Lib.hid r0
  have HB : Hid (∀ (w4 : World), (w2.alloc (.cells #[] 9)).grownBy w4 (some (w.heap.size + 2)) → Up w w4 ∧ w4.heap[w.heap.size]? = some (.cells #[.string S, .slice a ls.length cap, .int .i64 next] 24 (0, 0)) ∧ w4.heap[w.heap.size + 1]? = some (.cells #[.string S, .slice a ls.length cap, .int .i64 next] 24 (0, 0))) := Lib.hid (fun w4 hg => by
    refine ⟨up_at (hU2.trans hU3) hg (by omega), ?_, ?_⟩
    · exact (hg.block _ (by simp; omega) (by simp)).trans ((hU3.block _ (by omega)).trans hx0)
    · exact (hg.block _ (by simp; omega) (by simp)).trans ((hU3.block _ (by omega)).trans hx1))
  have Hb2 := Lib.hid (show w.heap.size + 2 ≤ (w2.alloc (.cells #[] 9)).heap.size by simp; omega)
  clear hcs hcs9 hnil hn9 hU2 hs2 hx0 hx1 hU3 r0 hcap
  subst hw2
  go_enter Tryd.func4, Tryd.ntmps4
  go_wp2_with fail
  with_reducible refine Calls.mono (sgAlive_any _) ?_
  rintro e w1 ⟨rfl, rfl⟩
  go_wp2_with (first
    | (at_builtin; refine wpList_append_own_src_at _ rfl (.tmp 16) (.tmp 18) 22 rfl (w.heap.size + 2) 9 i0 (.string ⟨#[]⟩) 1 16 Tryd.underlying22 hi hz0 hz1 hz2 rfl (by decide) (.slice (some ⟨w.heap.size + 2, 0, none⟩) 0 0) 0 _ rfl R0.out a ls.length cap (strVs ls) rfl Hnn.out (by rw [strVs_length]; omega) Hnews.out Hx.out (by unfold maxLen; omega) (by omega) Hb2.out ?_; intro v4 w4 hown4 hgrow4 hat4; rw [Nat.zero_add, List.nil_append] at hown4; obtain ⟨G, c4, rfl, hG1, hG2⟩ := ownsRow_addr hown4 (fun e => by rw [e] at hat4; simp [Value.ownBlock] at hat4); obtain ⟨hu4, hx40, hx41⟩ := HB.out w4 hgrow4; have HU4 := Lib.hid hu4; have HX40 := Lib.hid hx40; have HX41 := Lib.hid hx41; have hc41 := cell_of_row _ _ 1 _ _ _ hx41; have hf41 := frozen_of_row _ _ 1 _ _ hx41; simp only [List.getElem?_toArray, List.getElem?_cons_zero, List.getElem?_cons_succ] at hc41; have Hown4 := Lib.hid hown4; have HG1 := Lib.hid hG1; have HG2 := Lib.hid hG2; clear hown4 hgrow4 hat4 hu4 hx40 hx41 hG1 hG2)
    | (refine wpList_load_row rfl 24 (.tmp 5) rfl (w.heap.size + 1) rfl 24 #[.string S, .slice (some ⟨G, 0, none⟩) ls.length c4, .int .i64 next] (0, 0) _ (set_field HX41.out 1 _ rfl) Tryd.underlying24 rfl info_key ?_))
  have hgs := grownBy_setCell w4 ⟨w.heap.size + 1, 1, none⟩ (.slice (some ⟨G, 0, none⟩) ls.length c4)
  have hown5 := Hown4.out.kept hgs (row_off Hown4.out (fun q e => by cases e; simp))
  have HU5 := Lib.hid (up_at HU4.out hgs (Nat.le_succ _))
  have HX50 := Lib.hid ((hgs.block _ (lt_of_block HX40.out) (by simp)).trans HX40.out)
  have HX51 := Lib.hid (set_field HX41.out 1 (.slice (some ⟨G, 0, none⟩) ls.length c4) rfl)
  have HR5 := Lib.hid (RowStr.of_row hown5)
  have HS5 := Lib.hid (Strs.of_row hown5)
  obtain ⟨w5, hw5⟩ : ∃ w5, w4.setCell ⟨w.heap.size + 1, 1, none⟩ (.slice (some ⟨G, 0, none⟩) ls.length c4) = w5 := ⟨_, rfl⟩
  have HG5 : Hid (G < w5.heap.size) := Lib.hid (by have := hgs.size; rw [hw5] at this; have := HG2.out; omega)
  rw [hw5] at HU5 HX50 HX51 HR5 HS5 ⊢
  clear hgs hown5 hw5 hc41 hf41
  with_reducible refine Calls.mono (Hprog.out _ w5 HU5.out HS5.out) ?_
  rintro e w6 ⟨ra, rn, rc, rfl, h1, h2⟩
  have HU6 := Lib.hid (HU5.out.trans h1)
  have H2 := Lib.hid h2
  have HX60 := Lib.hid ((h1.block _ (lt_of_block HX50.out)).trans HX50.out)
  have HX61 := Lib.hid ((h1.block _ (lt_of_block HX51.out)).trans HX51.out)
  have HR6 := Lib.hid (HR5.out.kept (h1.block _ HG5.out))
  have HS6 := Lib.hid (HS5.out.up h1)
  have HG6 := Lib.hid (Nat.lt_of_lt_of_le HG5.out h1.size)
  have hal : Up w6 (w6.alloc (.cells #[.string S2, .slice ra rn rc, .int .i64 NX] 24)) := Up.alloc (Up.refl w6) _
  have HX70 := Lib.hid ((hal.block _ (lt_of_block HX60.out)).trans HX60.out)
  have HX71 := Lib.hid ((hal.block _ (lt_of_block HX61.out)).trans HX61.out)
  have HX72 := Lib.hid (heap_alloc_new w6 (.cells #[.string S2, .slice ra rn rc, .int .i64 NX] 24))
  have HS7 := Lib.hid (HS6.out.up hal)
  have HR7 := Lib.hid (HR6.out.kept (hal.block _ HG6.out))
  have HU7 := Lib.hid (HU6.out.trans hal)
  have HG7 := Lib.hid (Nat.lt_of_lt_of_le HG6.out hal.size)
  clear h1 h2 hal
  go_wp2_with (first
    | (refine wpList_load_row rfl 24 (.tmp 5) rfl (w.heap.size + 1) rfl 24 #[.string S, .slice (some ⟨G, 0, none⟩) ls.length c4, .int .i64 next] (0, 0) _ HX71.out Tryd.underlying24 rfl info_key ?_)
    | (refine wpList_load_row rfl 24 (.tmp 2) rfl w.heap.size rfl 24 #[.string S, .slice a ls.length cap, .int .i64 next] (0, 0) _ HX70.out Tryd.underlying24 rfl info_key ?_))
  obtain ⟨w7, hw7⟩ : ∃ w7, w6.alloc (.cells #[.string S2, .slice ra rn rc, .int .i64 NX] 24) = w7 := ⟨_, rfl⟩
  have HA7 : Hid (Up w6 w7) := Lib.hid (by rw [← hw7]; exact Up.alloc (Up.refl w6) _)
  rw [hw7] at HX70 HX71 HX72 HS7 HR7 HU7 HG7 ⊢
  clear hw7
  with_reducible refine Calls.mono (Hsame.out _ w7 HU7.out HS7.out) ?_
  rintro e w8 ⟨rfl, h8⟩
  have HA8 : Hid (Up w6 w8) := Lib.hid (HA7.out.trans h8)
  have HU8 := Lib.hid (HU7.out.trans h8)
  have HX80 := Lib.hid ((h8.block _ (lt_of_block HX70.out)).trans HX70.out)
  have HX81 := Lib.hid ((h8.block _ (lt_of_block HX71.out)).trans HX71.out)
  have HX82 := Lib.hid ((h8.block _ (lt_of_block HX72.out)).trans HX72.out)
  have HR8 := Lib.hid (HR7.out.kept (h8.block _ HG7.out))
  obtain ⟨X, hX⟩ : ∃ X, w6.heap.size = X := ⟨_, rfl⟩
  have HGX : Hid (G < X) := Lib.hid (by rw [← hX]; exact HG6.out)
  rw [hX] at HX82 ⊢
  clear h8 hX
  go_wp2
  go_loopw [10] (fun i wr => ∃ k : Nat, k ≤ ls.length ∧ i = .int .i64 k ∧ RowStr wr G ls.length ∧ w8.grownBy wr (some G)) (fun i _ => ls.length - (intOf i).toNat)
  case atStart => exact ⟨0, Nat.zero_le _, rfl, HR8.out, ⟨rfl, rfl, rfl, Nat.le_refl _, fun _ _ _ => rfl⟩⟩
  case round =>
    obtain ⟨k, hk, rfl, hR, hgr⟩ := hrel
    have HR := Lib.hid hR
    have HGr := Lib.hid hgr
    have hx1 := (hgr.block _ (lt_of_block HX81.out) (by have := HG1.out; simp; omega)).trans HX81.out
    have hc1 : wr.cell? ⟨w.heap.size + 1, 1, none⟩ = some (.slice (some ⟨G, 0, none⟩) ls.length c4) := cell_of_row _ _ 1 _ _ _ hx1
    clear hR hgr hx1
    by_cases hlt : k < ls.length
    · obtain ⟨cur, hcur, hsz⟩ := HR.out
      have c0 := (cell_of_row _ _ k _ _ _ hcur).trans (Array.getElem?_eq_getElem (show k < cur.size by omega))
      have f0 := frozen_of_row _ _ k _ _ hcur
      have HR2 := Lib.hid (HR.out.set k (.string ⟨#[115, 112, 111, 105, 108, 116]⟩))
      have HGr2 := Lib.hid (grownBy_trans HGr.out (grownBy_setCell wr ⟨G, k, none⟩ (.string ⟨#[115, 112, 111, 105, 108, 116]⟩)))
      generalize cur[k] = u9 at c0
      clear hcur hsz
      go_wp2
      exact ⟨⟨k + 1, by omega, by go_num, HR2.out, HGr2.out⟩, by simp [intOf]; omega⟩
    · obtain rfl : k = ls.length := by omega
      have HX90 := Lib.hid ((HGr.out.block _ (lt_of_block HX80.out) (by have := HG1.out; simp; omega)).trans HX80.out)
      have HX92 := Lib.hid ((HGr.out.block _ (lt_of_block HX82.out) (by have := HGX.out; simp; omega)).trans HX82.out)
      have HU9 := Lib.hid (up_at HU8.out HGr.out (by have := HG1.out; omega))
      go_wp2_with (refine wpList_load_row rfl 24 (.tmp 2) rfl w.heap.size rfl 24 #[.string S, .slice a ls.length cap, .int .i64 next] (0, 0) _ HX90.out Tryd.underlying24 rfl info_key ?_)
      with_reducible refine Calls.mono (Href.out wr HU9.out) ?_
      rintro e w9 ⟨rfl, h9⟩
      have HU10 := Lib.hid (HU9.out.trans h9)
      have hx90 := (h9.block _ (lt_of_block HX90.out)).trans HX90.out
      have hx92 := (h9.block _ (lt_of_block HX92.out)).trans HX92.out
      have hc0 := cell_of_row _ _ 1 _ _ _ hx90
      have hc2 := cell_of_row _ _ 1 _ _ _ hx92
      simp only [List.getElem?_toArray, List.getElem?_cons_zero, List.getElem?_cons_succ] at hc0 hc2
      have HS9 : Hid (E = 0 → Strs w9 (.slice ra rn rc) ls) := Lib.hid fun h0 => by
        obtain ⟨s1, s2⟩ := H2.out h0
        have s3 := (s1.up HA8.out).grownAt HGr.out (fun b e => by have := s2 b e; have := HG5.out; omega)
        exact s3.up h9
      clear h9 hx90 hx92 hc1
      by_cases hE : E = 0
      · subst hE
        go_wp2_with fail
        with_reducible refine Calls.mono (sgNum_any _ _) ?_
        rintro e w10 ⟨rfl, rfl⟩
        go_wp2_with fail
        with_reducible refine Calls.mono (Htx.out trivial _ w9 HU10.out (HS9.out trivial)) ?_
        rintro e w11 ⟨rfl, h11⟩
        have HU11 := Lib.hid (HU10.out.trans h11)
        clear h11
        go_wp2
        go_ret
        exact ⟨rfl, HU11.out⟩
      · have e1 : (E == 0) = false := by rw [beq_eq_false_iff_ne]; exact hE
        have e2 : (E != 0) = true := by rw [bne, e1]; rfl
        clear hE
        go_wp2_with fail
        with_reducible refine Calls.mono (sgNum_any _ _) ?_
        rintro e w10 ⟨rfl, rfl⟩
        go_wp2
        go_ret
        exact ⟨rfl, HU10.out⟩
theorem lawSgOwn_any (s : ByteArray) (lv : Value) (ls : List (List Int)) (next : Int) (tv : Value) (text : List Int) (w : World) (hs : Strs w lv ls) (hu : ∀ k : Nat, U8s (ls[k]?.getD []))
    (hl : ls.length ≤ 8796093022208) (hll : ∀ k : Nat, (ls[k]?.getD []).length ≤ 140737488351232) (hss : s.size ≤ 140737488351232) (hn : (Lit.int .i64 next).wf = true)
    (ht : Ints .u8 w tv text) (hut : U8s text) (hT : text.length ≤ 140737488351232) (hT64 : Tab64 w) :
    Calls Tryd.prog 4 #[.agg #[.string s, lv, .int .i64 next], tv] w fun e w' => e = .returned (.bool true) ∧ Below w.heap.size w w' := by
  have h := lawSgOwn_in (octsOf s) lv ls next tv text w ⟨octsOf_u8s s, fun k => ⟨hu k, hll k⟩, hl, by rw [octsOf_length]; exact hss, (i64_of_wf hn).1, (i64_of_wf hn).2⟩ hs ht hut hT hT64
  unfold keyV at h
  rwa [strOf_octs] at h
end
end Go.Proofs.YtbdjbmgeelleiaaDoor
