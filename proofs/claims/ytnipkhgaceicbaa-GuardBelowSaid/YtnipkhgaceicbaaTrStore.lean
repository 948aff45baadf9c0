import Derived.Test.YtnipkhgaceicbaaTrCopied
/-
  tree.Put.
-/
namespace Go.Proofs.Ytnipkhgaceicbaa
set_option maxRecDepth 100000
section
set_option linter.unusedVariables false
open Go.RowKit Go.Sort Go.Lib

/-- may it be? -/
def mayT (x : Tb) : Prop := BkMay x.V x.H x.P x.JV x.JH x.JB x.tx x.S
/-- its name; none if it may not be -/
noncomputable def nameT (x : Tb) : ByteArray := @ite _ (mayT x) (Classical.propDecidable _) (strOfNums (sumB (bkL x.V x.H x.P x.JV x.tx).flatten)) ⟨#[]⟩
theorem nameT_ok {x : Tb} (h : mayT x) : nameT x = strOfNums (sumB (bkL x.V x.H x.P x.JV x.tx).flatten) := by unfold nameT; rw [if_pos h]
theorem nameT_no {x : Tb} (h : ¬ mayT x) : nameT x = ⟨#[]⟩ := by unfold nameT; rw [if_neg h]
theorem name_any (x : Tb) (w : World) (hx : TArg w (.slice x.ta x.tx.length x.tc) x.tx) (hn : x.tx.length ≤ 9223372036854775807) :
    Calls Try.prog 26 #[.agg (tbA x)] w fun e w' => e = .returned (.string (nameT x)) ∧ Up w w' := by
  by_cases hm : mayT x
  · rw [nameT_ok hm]
    exact bkName_ok _ _ _ _ _ _ _ _ _ _ _ _ _ _ w hm hx
  · rw [nameT_no hm]
    exact bkName_no _ _ _ _ _ _ _ _ _ _ _ _ _ _ w hm hn hx
/-- with one more -/
def putT (T : ByteArray → Option Tb) (s : ByteArray) (x : Tb) : ByteArray → Option Tb := fun s' => if s' = s then some x else T s'
theorem TbIn.map {W W' : World} {x : Tb} (h : TbIn W x) {mb : Nat} (hg : W.grownBy W' (some mb)) (hc : ∀ o, W.cell? ⟨mb, o, none⟩ = none) : TbIn W' x := by
  constructor
  · obtain ⟨a', cap', e, h1, h2, h3⟩ := h.1
    cases e
    refine ⟨_, _, rfl, h1, h2, h3.imp id ?_⟩
    rintro ⟨b, off, h5, h6⟩
    refine ⟨b, off, h5, fun j hj => ?_⟩
    have hc2 := h6 j hj
    rw [← hc2]
    rw [List.getElem?_eq_getElem (by rw [vsF_length]; exact hj)] at hc2
    exact World.cell?_of_block (a := ⟨b, off + j, none⟩) (hg.block b (World.block_lt_of_cell? W _ hc2) (fun e => by
      obtain rfl : b = mb := by simpa using e
      rw [hc] at hc2; cases hc2))
  · obtain ⟨a', cap', e, h1, h2, h3⟩ := h.2
    cases e
    refine ⟨_, _, rfl, h1, h2, h3.imp id ?_⟩
    rintro ⟨b, off, h5, h6⟩
    refine ⟨b, off, h5, fun i x hx j hj => ?_⟩
    have hc2 := h6 i x hx j hj
    rw [← hc2]
    exact World.cell?_of_block (a := ⟨b, off + (i * 5 + j), none⟩) (hg.block b (World.block_lt_of_cell? W _ hc2) (fun e => by
      obtain rfl : b = mb := by simpa using e
      rw [hc] at hc2; cases hc2))
theorem TreeAt.put {W W' : World} {g mb n : Nat} {T : ByteArray → Option Tb} (h : TreeAt W g mb n T) {s : ByteArray} {x : Tb} (hx : TbIn W x) (hp : x.P.size ≤ maxLen) (hm : TextMap Try.prog 9 W' mb (n + 1) (fun s' => if s' = s then some (.agg (tbA x)) else (T s').map fun x => .agg (tbA x))) (hg : W.grownBy W' (some mb)) : TreeAt W' g mb (n + 1) (putT T s x) := by
  have hne : g ≠ mb := fun e => by
    have h1 := h.map.nocell 0
    rw [← e, cell_of_row _ _ 0 _ _ _ h.root] at h1
    simp at h1
  refine ⟨(hg.block g (lt_of_block h.root) (fun e => hne (by simpa using e))).trans h.root, ?_, fun s' y hy => ?_, fun s' y hy => ?_⟩
  · have : (fun s' => (putT T s x s').map fun x => Value.agg (tbA x)) = (fun s' => if s' = s then some (.agg (tbA x)) else (T s').map fun x => .agg (tbA x)) := by
      funext s'
      unfold putT
      split <;> rfl
    rw [this]; exact hm
  · unfold putT at hy
    split at hy
    · cases hy; exact hx.map hg h.map.nocell
    · exact (h.lists s' y hy).map hg h.map.nocell
  · unfold putT at hy
    split at hy
    · cases hy; exact hp
    · exact h.names s' y hy
theorem ex_mapUpdate {P : Program} {o : Oper} {m x v : Operand} {ρ : Operand → Value} {t : TypeId} {b : Nat} {key u : Value} {W W' : World} (hop : o.op = .mapUpdate t m x v) (hm : ρ m = .map (some b)) (hx : ρ x = key) (hv : ρ v = u) (hr : (Instr.mapUpdate t (.map (some b)) key u).run P W = .ok () W') : (execOp ρ o).run P W = .ok .skip W' := by
  unfold execOp; rw [hop]; simp only [hm, hx, hv]
  simp [hr, Result.andThen]
theorem ex_nil {P : Program} {o : Oper} {x : Operand} {ρ : Operand → Value} {ad : Addr} (hop : o.op = .nilCheck x) (hx : ρ x = .pointer (some ad)) (W : World) : (execOp ρ o).run P W = .ok (.value (.pointer (some ad))) W := by
  unfold execOp; rw [hop]; simp only [hx]
  simp [go_sem]
theorem nameT_size {x : Tb} (h : mayT x) : (nameT x).size = 32 := by
  rw [nameT_ok h, strOfNums_size, sumB_length]

set_option maxHeartbeats 2000000 in
theorem treePut_any {w : World} {g mb n : Nat} {T : ByteArray → Option Tb} (h : TreeAt w g mb n T) (x : Tb) (hx : TbIn w x) (h1 : x.vs.length * 72 ≤ 140737488355328) (h2 : x.tx.length * 48 ≤ 140737488355328) (hp : x.P.size ≤ maxLen) (hn : n < maxLen) :
    Calls Try.prog 17 #[.pointer (some ⟨g, 0, none⟩), .agg (tbA x)] w fun e w' =>
      ((¬ mayT x ∨ thereT T (nameT x) = true) ∧ e = .returned (.bool false) ∧ Up w w') ∨
      ((mayT x ∧ thereT T (nameT x) = false) ∧ e = .returned (.bool true) ∧ ∃ ra rc rb rbc, TreeAt w' g mb (n + 1) (putT T (nameT x) (x.at ra rc rb rbc)) ∧ KeptBut (fun k => k = mb) w w' ∧ ∀ b o, ra = some ⟨b, o, none⟩ ∨ rb = some ⟨b, o, none⟩ → w.heap.size ≤ b) := by
  have hu1 := Up.alloc (Up.refl w) (.cells (tbA x) 41)
  have hb1 := heap_alloc_new w (.cells (tbA x) 41)
  have HNm := Lib.hid (name_any x (w.alloc (.cells (tbA x) 41)) (hx.2.up hu1) (by omega))
  have HT1 := Lib.hid (h.up hu1)
  have HX1 := Lib.hid (hx.up hu1)
  have HU1 := Lib.hid hu1
  have HB1 := Lib.hid hb1
  have HCp := Lib.hid (fun wx h => copied_any x wx h h1 h2)
  have HMd := Lib.hid (fun wx h => isMade_any g mb wx h)
  have hsz : (Try.prog.info? 41).map (·.size) = some (tbA x).size := info_bk
  have HRT : Hid (∀ wx, Up (w.alloc (.cells (tbA x) 41)) wx → wx.heap[g]? = some (.cells #[.map (some mb)] 62 (0, 0)) ∧ wx.heap[w.heap.size]? = some (.cells (tbA x) 41 (0, 0))) := Lib.hid fun wx hu => ⟨(hu.block g (lt_of_block HT1.out.root)).trans HT1.out.root, (hu.block _ (lt_of_block hb1)).trans hb1⟩
  by_cases hm : mayT x
  · have hsize := nameT_size hm
    have HMay := Lib.hid hm
    obtain ⟨N, hNm⟩ : ∃ N, nameT x = N := ⟨_, rfl⟩
    rw [hNm] at HNm hsize ⊢
    have hne : ¬ (N = (⟨#[]⟩ : ByteArray)) := fun e => by rw [e] at hsize; cases hsize
    have hd2 : (N.toList == (⟨#[]⟩ : ByteArray).toList) = false := by rw [toList_dec]; exact decide_eq_false hne
    have hl0 : N.toList ≠ [] := fun e => by
      rw [e] at hd2
      have : ((⟨#[]⟩ : ByteArray).toList) = [] := by kernel_rfl
      rw [this] at hd2; simp at hd2
    have hl : N.toList.isEmpty = false := by
      cases hq : N.toList with
      | nil => exact absurd hq hl0
      | cons a b => rfl
    clear hd2 hne hl0
    have hN9 : N.size ≤ maxLen := by rw [hsize]; decide
    have HTh := Lib.hid (fun wx hu => isThere_any (HT1.out.up (W' := wx) hu) N hN9)
    obtain ⟨TH, hTH⟩ : ∃ b, thereT T N = b := ⟨_, rfl⟩
    rw [hTH] at HTh
    have HTN := Lib.hid hTH
    clear h hu1 hb1 hx hm hNm hsize
    generalize tbA x = cs at HNm HB1 HU1 HT1 HX1 HRT HTh hsz HCp ⊢
    go_enter Try.func17, Try.ntmps17
    go_wp2_with (refine wpList_ex rfl (.agg cs) _ (ex_loadrow (x := .tmp 3) rfl rfl _ 41 HB1.out Try.underlying41 rfl hsz) ?_)
    with_reducible refine Calls.mono HNm.out ?_
    rintro e w2 ⟨rfl, hU2⟩
    have HU2 := Lib.hid hU2
    clear hU2 HNm
    go_wp2_with fail
    with_reducible refine Calls.mono (HMd.out _ (HRT.out _ HU2.out).1) ?_
    rintro e w3 ⟨rfl, rfl⟩
    go_wp2_with fail
    with_reducible refine Calls.mono (HTh.out _ HU2.out) ?_
    rintro e w4 ⟨rfl, hU4⟩
    have HU4 := Lib.hid (Up.trans HU2.out hU4)
    clear hU4 HTh
    cases TH with
    | true =>
      go_wp2
      go_ret
      exact .inl ⟨.inr HTN.out, rfl, HU1.out.trans HU4.out⟩
    | false =>
      have hUD := Up.trans HU4.out (Up.drew1 _)
      go_wp2
      refine region_alongK (fun wx => wx.heap[g]? = some (.cells #[.map (some mb)] 62 (0, 0)) ∧ wx.heap[w.heap.size]? = some (.cells cs 41 (0, 0))) (.read 0 (.read 1 (.read 2 (.read 3 (.read 4 (.read 5 (.step 6 (.step 7 (.nil))))))))) (by kernel_rfl) rfl (by kernel_rfl) (by kernel_rfl) (fun c a d v w h => by cases d <;> exact h) (HRT.out _ hUD) ?_
      refine alongK_read (.pointer (some ⟨g, 0, none⟩)) rfl rfl (fun wx hS => ex_move (by rfl) (by rfl) wx) ?_
      change AlongK _ _ _ _ _ { tmps := #[.pointer (some ⟨g, 0, none⟩), .agg cs, _, .pointer (some ⟨w.heap.size, 0, none⟩), .bool false, .string N, _, _, _, _, _, _, _, _, _, _, _, _, _, _, .pointer (some ⟨g, 0, none⟩), _, _, _, _, _, _], defers := [] } _
      refine alongK_read (.pointer (some ⟨g, 0, none⟩)) rfl rfl (fun wx hS => ex_nil rfl rfl wx) ?_
      change AlongK _ _ _ _ _ { tmps := #[.pointer (some ⟨g, 0, none⟩), .agg cs, _, .pointer (some ⟨w.heap.size, 0, none⟩), .bool false, .string N, _, _, _, _, _, _, _, _, _, _, _, _, _, _, .pointer (some ⟨g, 0, none⟩), .pointer (some ⟨g, 0, none⟩), _, _, _, _, _], defers := [] } _
      refine alongK_read (.pointer (some ⟨g, 0, none⟩)) rfl rfl (fun wx hS => ex_field rfl rfl wx (by simp [go_sem])) ?_
      change AlongK _ _ _ _ _ { tmps := #[.pointer (some ⟨g, 0, none⟩), .agg cs, _, .pointer (some ⟨w.heap.size, 0, none⟩), .bool false, .string N, _, _, _, _, _, _, _, _, _, _, _, _, _, _, .pointer (some ⟨g, 0, none⟩), .pointer (some ⟨g, 0, none⟩), .pointer (some ⟨g, 0, none⟩), _, _, _, _], defers := [] } _
      refine alongK_read (.map (some mb)) rfl rfl (fun wx hS => ex_load Try.isAgg60 rfl rfl wx (tx_cell hS.1 0 rfl)) ?_
      refine alongK_read (.string N) rfl rfl (fun wx hS => ex_move (by rfl) (by rfl) wx) ?_
      refine alongK_read (.agg cs) rfl rfl (fun wx hS => ex_loadrow rfl rfl wx 41 hS.2 Try.underlying41 rfl hsz) ?_
      change AlongK _ _ _ _ _ { tmps := #[.pointer (some ⟨g, 0, none⟩), .agg cs, _, .pointer (some ⟨w.heap.size, 0, none⟩), .bool false, .string N, _, _, _, _, _, _, _, _, _, _, _, _, _, _, .pointer (some ⟨g, 0, none⟩), .pointer (some ⟨g, 0, none⟩), .pointer (some ⟨g, 0, none⟩), .map (some mb), .string N, .agg cs, _], defers := [] } _
      refine alongK_step ?_
      refine opK_call (vs := [.agg cs]) rfl rfl rfl (enters_of Try.func29 (by kernel_rfl) rfl) rfl ?_
      with_reducible refine Calls.mono (HCp.out _ (HX1.out.up hUD)) ?_
      rintro e w5 ⟨ra, rc, rb, rbc, rfl, hI, hU, hNew⟩
      have HNew : Hid (∀ b o, ra = some ⟨b, o, none⟩ ∨ rb = some ⟨b, o, none⟩ → w.heap.size ≤ b) := Lib.hid fun b o h => Nat.le_trans (HU1.out.trans hUD).size (hNew b o h)
      clear hNew
      have hU5 := Up.trans hUD hU
      refine ⟨_, rfl, _, (fun _ h => h), HRT.out _ hU5, ?_⟩
      change AlongK _ _ _ _ _ { tmps := #[.pointer (some ⟨g, 0, none⟩), .agg cs, _, .pointer (some ⟨w.heap.size, 0, none⟩), .bool false, .string N, _, _, _, _, _, _, _, _, _, _, _, _, _, _, .pointer (some ⟨g, 0, none⟩), .pointer (some ⟨g, 0, none⟩), .pointer (some ⟨g, 0, none⟩), .map (some mb), .string N, .agg cs, .agg (tbA (x.at ra rc rb rbc))], defers := [] } _
      refine alongK_step ?_
      have hT5 := HT1.out.up hU5
      obtain ⟨w6, hr, hm6, hg6⟩ := hT5.map.store Try.underlying9 Try.underlying60 hn hN9 (by
        have := HTN.out
        unfold thereT at this
        cases hq : T N with
        | none => rfl
        | some y => rw [hq] at this; simp at this) (.agg (tbA (x.at ra rc rb rbc)))
      have hT6 := hT5.put hI hp hm6 hg6
      have hK6 : KeptBut (fun k => k = mb) w w6 := (KeptBut.of_up (S := fun k => k = mb) (HU1.out.trans hU5)).trans (KeptBut.of_grown (S := fun k => k = mb) hg6 (fun k e => by cases e; rfl)) (fun _ _ e => e)
      have hB6 : w6.heap[w.heap.size]? = some (.cells cs 41 (0, 0)) := (hg6.block _ (lt_of_block (HRT.out _ hU5).2) (fun e => by
        have h9 := hT5.map.nocell 0
        obtain rfl : w.heap.size = mb := by simpa using e
        have h8 := (HRT.out _ hU5).2
        have h7 := cell_of_row _ _ 0 _ _ _ h8
        rw [h9] at h7
        have hs9 : cs.size = 9 := by
          have := hsz
          rw [info_bk] at this
          simpa using this.symm
        rw [Array.getElem?_eq_getElem (by omega)] at h7
        cases h7)).trans (HRT.out _ hU5).2
      refine opK_store w6 rfl rfl (ex_mapUpdate rfl rfl rfl rfl hr) _ (fun _ h => h) ⟨hT6.root, hB6⟩ ?_
      refine alongK_done ?_
      have HR : Hid (TreeAt w6 g mb (n + 1) (putT T N (x.at ra rc rb rbc)) ∧ KeptBut (fun k => k = mb) w w6) := Lib.hid ⟨hT6, hK6⟩
      have HMT := Lib.hid (And.intro HMay.out HTN.out)
      clear hT6 hK6 hB6 hm6 hg6 hr hT5 hU5 hU hI
      go_wp2
      go_ret
      exact .inr ⟨HMT.out, rfl, ra, rc, rb, rbc, HR.out.1, HR.out.2, HNew.out⟩
  · have hno := nameT_no hm
    rw [hno] at HNm
    have HM := Lib.hid hm
    clear h hu1 hb1 hx hm hno
    generalize tbA x = cs at HNm HB1 HU1 HT1 HX1 HRT hsz HCp ⊢
    go_enter Try.func17, Try.ntmps17
    go_wp2_with (refine wpList_ex rfl (.agg cs) _ (ex_loadrow (x := .tmp 3) rfl rfl _ 41 HB1.out Try.underlying41 rfl hsz) ?_)
    with_reducible refine Calls.mono HNm.out ?_
    rintro e w2 ⟨rfl, hU2⟩
    have HU2 := Lib.hid hU2
    clear hU2 HNm
    go_wp2_with fail
    with_reducible refine Calls.mono (HMd.out _ (HRT.out _ HU2.out).1) ?_
    rintro e w3 ⟨rfl, rfl⟩
    go_wp2
    go_ret
    exact .inl ⟨.inl HM.out, rfl, HU1.out.trans HU2.out⟩
end
end Go.Proofs.Ytnipkhgaceicbaa
