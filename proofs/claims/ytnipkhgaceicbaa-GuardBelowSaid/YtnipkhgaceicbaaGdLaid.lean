import Derived.Maps.AppendAt
import Derived.Test.YtnipkhgaceicbaaTrExt
import Derived.Test.YtnipkhgaceicbaaTrArg
/-
  mootlaw17.laid: a tree of blocks that came in.
-/
namespace Go.Proofs.Ytnipkhgaceicbaa
set_option maxRecDepth 100000
section
set_option linter.unusedVariables false
open Go.RowKit Go.Sort Go.Lib

theorem info_tbd : (Try.prog.info? 41).map (fun i => (i.zero, i.size, i.bytes)) = some (some (.agg (tbA tb0)), 9, 128) := by kernel_rfl
theorem build_tb1 (x : Tb) (w : World) : (Instr.buildSlice 35 1 #[(0, .agg (tbA x))]).run Try.prog w = .ok (.slice (some ⟨w.heap.size, 0, none⟩) 1 1) (w.alloc (.cells (tbA x) 41)) := by
  obtain ⟨V, H, P, JV, JH, JB, ja, jc, vs, ta, tc, tx, S⟩ := x
  show (Instr.buildSlice 35 1 #[(0, .agg #[.int .i64 V, .int .i64 H, .string P, .int .i64 JV, .int .i64 JH, .string JB, .slice ja vs.length jc, .slice ta tx.length tc, .string S])]).run Try.prog w = .ok (.slice (some ⟨w.heap.size, 0, none⟩) 1 1) (w.alloc (.cells #[.int .i64 V, .int .i64 H, .string P, .int .i64 JV, .int .i64 JH, .string JB, .slice ja vs.length jc, .slice ta tx.length tc, .string S] 41))
  simp [go_sem]
/-- lists that can be copied, a parent's name that is a name -/
def TbFit (x : Tb) : Prop := x.vs.length * 72 ≤ 140737488355328 ∧ x.tx.length * 48 ≤ 140737488355328 ∧ x.P.size ≤ maxLen
theorem cells_newT (w : World) (cs : Array Value) (t : TypeId) : ∀ j y, cs.toList[j]? = some y → (w.alloc (.cells cs t)).cell? ((⟨w.heap.size, 0, none⟩ : Addr).add j) = some y := by
  intro j y hy
  have hadd : (⟨w.heap.size, 0, none⟩ : Addr).add j = ⟨w.heap.size, j, none⟩ := by unfold Addr.add; split <;> simp_all
  rw [hadd]
  exact tx_cell (heap_alloc_new w (.cells cs t)) j (by rw [← Array.getElem?_toList]; exact hy)
/-- its lists lie in new blocks -/
def NewL (base : Nat) (x : Tb) : Prop := ∀ b o, x.ja = some ⟨b, o, none⟩ ∨ x.ta = some ⟨b, o, none⟩ → base ≤ b
/-- its lists lie in no such block -/
def Far (own : Option Nat) (x : Tb) : Prop := (∀ b o, x.ja = some ⟨b, o, none⟩ → x.vs ≠ [] → own ≠ some b) ∧ (∀ b o, x.ta = some ⟨b, o, none⟩ → x.tx ≠ [] → own ≠ some b)
theorem varg_far {W W' : World} {own : Option Nat} {a : Option Addr} {c : Nat} {xs : List Vs} (h : VArg W (.slice a xs.length c) xs) (hg : W.grownBy W' own) (hf : ∀ b o, a = some ⟨b, o, none⟩ → xs ≠ [] → own ≠ some b) : VArg W' (.slice a xs.length c) xs := by
  by_cases hx : xs = []
  · obtain ⟨a', c', e, h1, h2, _⟩ := h
    exact ⟨a', c', e, h1, h2, .inl hx⟩
  · exact varg_but h (KeptBut.of_grown (S := fun k => own = some k) hg (fun k e => e)) (fun b o e => hf b o e hx)
theorem targ_far {W W' : World} {own : Option Nat} {a : Option Addr} {c : Nat} {xs : List Ts} (h : TArg W (.slice a xs.length c) xs) (hg : W.grownBy W' own) (hf : ∀ b o, a = some ⟨b, o, none⟩ → xs ≠ [] → own ≠ some b) : TArg W' (.slice a xs.length c) xs := by
  by_cases hx : xs = []
  · obtain ⟨a', c', e, h1, h2, _⟩ := h
    exact ⟨a', c', e, h1, h2, .inl hx⟩
  · exact targ_but h (KeptBut.of_grown (S := fun k => own = some k) hg (fun k e => e)) (fun b o e => hf b o e hx)
/-- a block beyond all that there is -/
theorem far_new {W : World} {x : Tb} (h : TbIn W x) : Far (some W.heap.size) x := by
  refine ⟨fun b o e hx he => ?_, fun b o e hx he => ?_⟩
  · obtain ⟨a', c', e', h1, h2, h3⟩ := h.1
    cases e'
    rcases h3 with h3 | ⟨b', off, h5, h6⟩
    · exact hx h3
    · rw [e] at h5
      cases h5
      cases he
      have hp : 0 < x.vs.length := List.length_pos_iff.2 hx
      have h7 := h6 0 (by omega)
      rw [List.getElem?_eq_getElem (by rw [vsF_length]; omega)] at h7
      exact absurd (World.block_lt_of_cell? W _ h7) (Nat.lt_irrefl _)
  · obtain ⟨a', c', e', h1, h2, h3⟩ := h.2
    cases e'
    rcases h3 with h3 | ⟨b', off, h5, h6⟩
    · exact hx h3
    · rw [e] at h5
      cases h5
      cases he
      obtain ⟨y, ys, hy⟩ := List.exists_cons_of_ne_nil hx
      have h7 := h6 0 y (by rw [hy]; rfl) 0 (by omega)
      exact absurd (World.block_lt_of_cell? W _ h7) (Nat.lt_irrefl _)
theorem TreeAt.far {W W' : World} {g mb n : Nat} {T : ByteArray → Option Tb} {own : Option Nat} (h : TreeAt W g mb n T) (hg : W.grownBy W' own) (hf : ∀ s x, T s = some x → Far own x) (h1 : own ≠ some g) (h2 : own ≠ some mb) : TreeAt W' g mb n T :=
  ⟨(hg.block g (lt_of_block h.root) (fun e => h1 e.symm)).trans h.root, h.map.kept hg (fun e => h2 e.symm), fun s x hs => ⟨varg_far (h.lists s x hs).1 hg (hf s x hs).1, targ_far (h.lists s x hs).2 hg (hf s x hs).2⟩, h.names⟩
set_option maxHeartbeats 2000000 in
theorem laid_any (v : Value) (xs : List Tb) (w : World) (hx : TbArg w v xs) (hfit : ∀ (j : Nat) (x : Tb), xs[j]? = some x → TbFit x) (hl : xs.length < 4611686018427387904) :
    Calls Try.prog 10 #[v] w fun e w' => ∃ g mb n T r, e = .returned (.tuple #[.pointer (some ⟨g, 0, none⟩), r]) ∧ TreeAt w' g mb n T ∧ n ≤ 10 ∧ (∀ s x, T s = some x → TbFit x ∧ NewL w.heap.size x) ∧ w.heap.size ≤ g ∧ w.heap.size ≤ mb ∧ Up w w' := by
  obtain ⟨a, cap, rfl, _⟩ := id hx
  obtain ⟨i0, hi0, hz0, hz1, hz2⟩ := info_partsT info_tbd
  have hcz : (Value.agg (tbA tb0)).cells.size = 9 := rfl
  generalize Value.agg (tbA tb0) = ZV at hz0 hcz
  obtain ⟨nx, hnx⟩ : ∃ n, xs.length = n := ⟨_, rfl⟩
  rw [hnx] at hx hl ⊢
  have HX := Lib.hid hx
  have HF := Lib.hid hfit
  have HNX := Lib.hid hnx
  have HN := Lib.hid (treeNew_any w)
  clear hx hfit hnx
  go_enter Try.func10, Try.ntmps10
  go_wp2_with fail
  with_reducible refine Calls.mono HN.out ?_
  rintro e w1 ⟨g, mb, rfl, hT, hg, hmb, hU⟩
  have HG : Hid (w.heap.size ≤ g ∧ w.heap.size ≤ mb) := Lib.hid ⟨hg, hmb⟩
  obtain ⟨base, hbe⟩ : ∃ b, b = w1.heap.size := ⟨_, rfl⟩
  have HMB : Hid (mb < base) := Lib.hid (by rw [hbe]; exact hT.map.lt)
  have HS0 : Hid (TreeAt w1 g mb 0 noT ∧ (∀ s x, noT s = some x → TbFit x ∧ NewL w.heap.size x) ∧ w1.ownsRow base 41 9 (.slice none 0 0) 0 [] ∧ Up w w1 ∧ base ≤ w1.heap.size ∧ ∀ s x, noT s = some x → Far (Value.slice none 0 0).ownBlock x) := Lib.hid ⟨hT, (fun s x h => by cases h), World.ownsRow_nil _ _ _ _, hU, Nat.le_of_eq hbe, (fun s x h => by cases h)⟩
  have HBASE : Hid (w.heap.size ≤ base ∧ g < base) := Lib.hid ⟨by rw [hbe]; exact hU.size, by rw [hbe]; exact lt_of_block hT.root⟩
  clear hbe hT hg hmb hU HN
  go_wp2
  go_loopw [5, 6] (fun vo vi wr => ∃ (i : Nat), vi = .int .i64 (i : Nat) ∧ i ≤ nx ∧ i ≤ 10 ∧ ∃ (k m : Nat), k ≤ i ∧ m ≤ i ∧ Hid (∃ T cs, TreeAt wr g mb k T ∧ (∀ s x, T s = some x → TbFit x ∧ NewL w.heap.size x) ∧ wr.ownsRow base 41 9 vo m cs ∧ Up w wr ∧ base ≤ wr.heap.size ∧ ∀ s x, T s = some x → Far vo.ownBlock x)) (fun _ vi _ => nx - (intOf vi).toNat)
  case atStart => exact ⟨0, rfl, Nat.zero_le _, Nat.zero_le _, 0, 0, Nat.le_refl _, Nat.le_refl _, Lib.hid ⟨noT, [], HS0.out⟩⟩
  case round =>
    obtain ⟨i, rfl, hi, hi10, k, m, hk, hm, HS⟩ := hrel
    obtain ⟨T, cs, hTr, hTf, hrow, hU, hb, hfar⟩ := HS.out
    obtain ⟨oa, oc, rfl⟩ := row_shape hrow
    have HTr := Lib.hid hTr
    have HTf := Lib.hid hTf
    have HRow := Lib.hid hrow
    have HU := Lib.hid hU
    have HB := Lib.hid hb
    have HFar := Lib.hid hfar
    clear hTr hTf hrow hU hb hfar HS
    by_cases hlt : i < nx
    · have hz : (i : Int) < (nx : Int) := by omega
      by_cases hl10 : i < 10
      · have hz10 : (i : Int) < 10 := by omega
        obtain ⟨x, hxi⟩ : ∃ x, xs[i]? = some x := ⟨xs[i]'(by have := HNX.out; omega), List.getElem?_eq_getElem _⟩
        obtain ⟨b, off, rfl⟩ := HX.out.ptr (by have := HNX.out; omega)
        have Hld := Lib.hid (fun wx hu => (HX.out.up (W' := wx) hu).load hxi)
        have Hfx := Lib.hid (HF.out i x hxi)
        have HPut := Lib.hid (treePut_any HTr.out x ((HX.out.lists hxi).up HU.out) Hfx.out.1 Hfx.out.2.1 Hfx.out.2.2 (by unfold maxLen; omega))
        have hbs := Lib.hid (fun wx => build_tb1 x wx)
        have hone : ∀ v ∈ (tbA x).toList, v.oneCell' = true := fun v hv => by
          have h1 := tbA_one x
          rw [Array.all_eq_true] at h1
          obtain ⟨j, hj, e⟩ := List.mem_iff_getElem.1 hv
          rw [← e]; exact h1 j (by simpa using hj)
        have HONE := Lib.hid hone
        have hs9 : (tbA x).toList.length = 9 := rfl
        obtain ⟨cx, hcx⟩ : ∃ c, tbA x = c := ⟨_, rfl⟩
        have HCX := Lib.hid hcx
        rw [hcx] at Hld HPut hbs HONE hs9
        clear hxi hone hcx
        go_wp2_with (refine wpList_ex rfl (.agg cx) wr (ex_ldG (ty := 41) (x := .tmp 21) rfl rfl (Hld.out wr HU.out)) ?_)
        with_reducible refine Calls.mono HPut.out ?_
        rintro e w2 hor
        rcases hor with ⟨_, rfl, hU2⟩ | ⟨_, rfl, ra, rc, rb, rbc, hT2, hK2, hNew⟩
        · have HS2 : Hid (∃ T cs, TreeAt w2 g mb k T ∧ (∀ s x, T s = some x → TbFit x ∧ NewL w.heap.size x) ∧ w2.ownsRow base 41 9 (.slice oa m oc) m cs ∧ Up w w2 ∧ base ≤ w2.heap.size ∧ ∀ s x, T s = some x → Far (Value.slice oa m oc).ownBlock x) := Lib.hid ⟨T, cs, HTr.out.up hU2, HTf.out, ownsRow_up HRow.out hU2, HU.out.trans hU2, Nat.le_trans HB.out hU2.size, HFar.out⟩
          clear hU2 HPut Hld HTr HTf HRow HU HB HFar
          go_wp2
          go_roundw
          case rel => exact ⟨i + 1, by go_num, hlt, hl10, k, m, by omega, by omega, HS2⟩
          case measure => simp [intOf]; omega
        · have hKb : ∀ q, (Value.slice oa m oc).ownBlock = some q → ¬ q = mb := fun q hq e => by have h1 := (HRow.out.lt q hq).1; have h2 := HMB.out; omega
          have hrow2 := own_but HRow.out hK2 hKb
          have HTr2 := Lib.hid hT2
          have HU2 := Lib.hid (up_kept HU.out hK2 HG.out.2)
          have HB2 : Hid (base ≤ w2.heap.size) := Lib.hid (Nat.le_trans HB.out hK2.size)
          have HTf2 : Hid (∀ s y, putT T (nameT x) (x.at ra rc rb rbc) s = some y → TbFit y ∧ NewL w.heap.size y) := Lib.hid fun s y hy => by
            unfold putT at hy
            split at hy
            · cases hy; exact ⟨Hfx.out, fun b o e => Nat.le_trans HU.out.size (hNew b o e.symm)⟩
            · exact HTf.out s y hy
          have hb2 : base ≤ w2.heap.size := HB2.out
          have HFar2 : Hid (∀ s y, putT T (nameT x) (x.at ra rc rb rbc) s = some y → Far (Value.slice oa m oc).ownBlock y) := Lib.hid fun s y hy => by
            unfold putT at hy
            split at hy
            · cases hy
              refine ⟨fun b o e _ he => ?_, fun b o e _ he => ?_⟩
              · have h1 := hNew b o (.inr e)
                have h2 := (HRow.out.lt b he).2
                omega
              · have h1 := hNew b o (.inl e)
                have h2 := (HRow.out.lt b he).2
                omega
            · exact HFar.out s y hy
          have HKG : Hid ((Value.slice oa m oc).ownBlock ≠ some g ∧ (Value.slice oa m oc).ownBlock ≠ some mb) := Lib.hid ⟨fun e => by have h1 := (hrow2.lt _ e).1; have h2 := HBASE.out.2; omega, fun e => by have h1 := (hrow2.lt _ e).1; have h2 := HMB.out; omega⟩
          clear hT2 hK2 HPut HTr HTf HRow HU HB hKb HFar hNew
          go_wp2_with (refine wpList_ex rfl (.agg cx) w2 (ex_ldG (ty := 41) (x := .tmp 27) rfl rfl (Hld.out w2 HU2.out)) ?_; refine Stp.h ?_)
          refine Stp.mk ?_
          refine wpList_ex rfl (.slice (some ⟨w2.heap.size, 0, none⟩) 1 1) _ (ex_slice1 _ _ (hbs.out w2) rfl rfl) ?_
          refine wpList_append_own_at _ rfl (.tmp 24) (.tmp 29) 35 rfl base 41 i0 ZV 9 128 Try.underlying35 hi0 hz0 hz1 hz2 hcz (by decide) (.slice oa m oc) m _ rfl (hrow2.alloc _) ⟨w2.heap.size, 0, none⟩ 1 1 cx.toList rfl (by rw [hs9]) (fun j y hy => cells_newT w2 _ _ j y hy) HONE.out (by unfold maxLen; omega) (by omega) (by simp; omega) ?_
          intro v3 w3 hr3 hg3 _ hown3
          obtain ⟨g3, c3, rfl⟩ := ownsRow_succ hr3
          have hU3 := up_row (Up.alloc HU2.out (.cells cx 41)) (hrow2.alloc _) hg3 HBASE.out.1
          have hTa := HTr2.out.up (Up.alloc (Up.refl w2) (.cells cx 41))
          have hT3 : TreeAt w3 g mb (k + 1) (putT T (nameT x) (x.at ra rc rb rbc)) := hTa.far hg3 HFar2.out HKG.out.1 HKG.out.2
          have hF3 : ∀ s y, putT T (nameT x) (x.at ra rc rb rbc) s = some y → Far (Value.slice (some ⟨g3, 0, none⟩) (m + 1) c3).ownBlock y := fun s y hy => by
            rcases hown3 with e | e
            · rw [e]; exact HFar2.out s y hy
            · rw [e]; exact far_new (hTa.lists s y hy)
          have HS2 : Hid (∃ T cs, TreeAt w3 g mb (k + 1) T ∧ (∀ s x, T s = some x → TbFit x ∧ NewL w.heap.size x) ∧ w3.ownsRow base 41 9 (.slice (some ⟨g3, 0, none⟩) (m + 1) c3) (m + 1) cs ∧ Up w w3 ∧ base ≤ w3.heap.size ∧ ∀ s x, T s = some x → Far (Value.slice (some ⟨g3, 0, none⟩) (m + 1) c3).ownBlock x) := Lib.hid ⟨_, _, hT3, HTf2.out, hr3, hU3, Nat.le_trans (Nat.le_trans HB2.out (Up.alloc (Up.refl w2) (.cells cx 41)).size) hg3.size, hF3⟩
          clear hTa hF3 hown3
          clear hU3 hT3 hr3 hg3
          go_wp2
          go_roundw
          case rel => exact ⟨i + 1, by go_num, hlt, hl10, k + 1, m + 1, by omega, by omega, HS2⟩
          case measure => simp [intOf]; omega
      · obtain rfl : i = 10 := by omega
        go_wp2
        refine bodyPost_ret (results_tmp2 (t := 2) (u := 3) rfl _ _ _) rfl ⟨g, mb, k, T, _, rfl, HTr.out, by omega, HTf.out, HG.out.1, HG.out.2, HU.out⟩
    · obtain rfl : i = nx := by omega
      go_wp2
      refine bodyPost_ret (results_tmp2 (t := 2) (u := 3) rfl _ _ _) rfl ⟨g, mb, k, T, _, rfl, HTr.out, by omega, HTf.out, HG.out.1, HG.out.2, HU.out⟩
end
end Go.Proofs.Ytnipkhgaceicbaa
