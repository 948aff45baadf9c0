import Derived.Test.YtnnjoeppcbbblaaCtCompact
/-
  cert.bySigner: of each signer the first that counts, by signers.
-/
namespace Go.Proofs.Ytnnjoeppcbbblaa
set_option maxRecDepth 100000
section
set_option linter.unusedVariables false
open Go.RowKit Go.Sort Go.Lib

theorem info_vts : (Try.prog.info? 38).map (fun i => (i.zero, i.size, i.bytes)) = some (some (.agg (vsA default)), 7, 72) := by kernel_rfl
theorem info_parts_any {P : Program} {t : TypeId} {z : Value} {s b : Nat} (h : (P.info? t).map (fun i => (i.zero, i.size, i.bytes)) = some (some z, s, b)) : ∃ i, P.info? t = some i ∧ i.zero = some z ∧ i.size = s ∧ i.bytes = b := by
  cases hq : P.info? t with
  | none => rw [hq] at h; cases h
  | some i =>
    rw [hq] at h
    simp only [Option.map_some, Option.some.injEq, Prod.mk.injEq] at h
    exact ⟨i, rfl, h.1, h.2.1, h.2.2⟩
theorem vsF_none (w : World) : (w.alloc (.cells #[] 38)).ownsRow w.heap.size 38 7 (.slice (some ⟨w.heap.size, 0, none⟩) 0 0) 0 [] :=
  World.ownsRow_made w #[] 0 (Nat.le_refl _) (by decide) rfl

set_option maxHeartbeats 1000000 in
theorem clone_some (ad : Addr) (n c : Nat) (xs : List Vs) (w : World) (hn : xs.length = n) (hnc : n ≤ c) (hx : ∀ j u, (vsF xs)[j]? = some u → w.cell? (ad.add j) = some u) (hb : n * 72 ≤ 140737488355328) :
    Calls Try.prog 18 #[.slice (some ad) n c] w fun e w' => ∃ g cap, e = .returned (.slice (some ⟨g, 0, none⟩) n cap) ∧ w.heap.size ≤ g ∧ n ≤ cap ∧ cap ≤ maxLen ∧ RowK vsC 7 w' g 0 xs.toArray ∧ Up w w' := by
  obtain ⟨i0, hi, hz0, hz1, hz2⟩ := info_parts_any info_vts
  have hnn := Lib.run_eql_slice_nil (P := Try.prog) w 22 38 (some ad) n c 0 0 Try.underlying22
  have Hnews : Hid (∀ a', some ad = some a' → ∀ j u, (vsF xs)[j]? = some u → (w.alloc (.cells #[] 38)).cell? (a'.add j) = some u) := by
    intro a' had j u hj
    cases had
    exact later_cellF (hx j u hj) (Up.alloc (Up.refl w) _)
  have Hone := Lib.hid (vsF_one xs)
  have Hlen : Hid ((vsF xs).length = n * 7) := Lib.hid (by rw [vsF_length, hn])
  have r0 := vsF_none w
  have HN := Lib.hid hn
  have hmax : 0 + n ≤ maxLen := by unfold maxLen; omega
  clear hx hn
  generalize hF : vsF xs = F at Hnews Hone Hlen
  have HF := Lib.hid hF
  clear hF
  go_enter Try.func18, Try.ntmps18
  go_wp2_with (at_builtin; refine wpList_append_own_src_at _ rfl (.tmp 5) (.tmp 6) 22 rfl w.heap.size 38 i0 (.agg (vsA default)) 7 72 Try.underlying22 hi hz0 hz1 hz2 rfl (by decide) _ 0 _ rfl r0 (some ad) n c F rfl (fun e => by cases e) Hlen.out Hnews.out Hone.out hmax (by omega) (by simp) ?_; intro v' w' hown' hgrow hwhere)
  rw [Nat.zero_add, List.nil_append] at hown'
  go_ret
  rw [← HF.out, ← HN.out] at hown'
  have hv' : v' ≠ .slice none 0 0 := fun e => by
    rcases hwhere with h | h <;> (rw [e] at h; cases h)
  obtain ⟨g, cap, rfl, e2, e3, e4, e5, e6⟩ := row_of_owns hown' hv'
  rw [HN.out] at e4 ⊢
  exact ⟨g, cap, rfl, e2, e4, e5, e6, Below.grown (Up.alloc (Up.refl w) _) hgrow (by simp) (fun q e => (r0.lt q e).1)⟩

/-- the value that votesFor answers -/
def forV (M : Nat) : Value := .func (.func 24) #[] #[.pointer (some ⟨M, 0, none⟩)]
/-- where it and the mark lie -/
def Told (W : World) (CB M : Nat) (mV mH : Int) (mB : ByteArray) : Prop := W.heap[CB]? = some (.cells #[forV M] 35 (0, 0)) ∧ W.heap[M]? = some (.cells #[.int .i64 mV, .int .i64 mH, .string mB] 24 (0, 0))

set_option maxHeartbeats 400000 in
theorem not_gr (mV mH : Int) (mB : ByteArray) (CB M : Nat) (x : Vs) (w : World) (hT : Told w CB M mV mH mB) :
    Calls Try.prog 19 (#[.agg (vsA x)] ++ #[.pointer (some ⟨CB, 0, none⟩)]) w fun e w' => e = .returned (.bool (!vsOf mV mH mB x)) ∧ Gr w w' := by
  have hb0 := heap_alloc_new w (.cells (vsA x) 38)
  have g1 := Gr.alloc w (.cells (vsA x) 38)
  have hc := cell_of_row _ _ 0 _ _ _ (g1.block hT.1)
  have hC : (w.alloc (.cells (vsA x) 38)).cell? ⟨CB, 0, none⟩ = some (.func (.func 24) #[] #[.pointer (some ⟨M, 0, none⟩)]) := hc
  have Hcall := Lib.hid (counts_gr mV mH mB M x _ (g1.block hT.2))
  have HB := Lib.hid hb0
  have HG := Lib.hid g1
  clear hb0 g1 hc hT
  show Calls Try.prog 19 #[.agg (vsA x), .pointer (some ⟨CB, 0, none⟩)] w fun e w' => e = .returned (.bool (!vsOf mV mH mB x)) ∧ Gr w w'
  generalize vsOf mV mH mB x = D at Hcall ⊢
  go_enter Try.func19, Try.ntmps19
  go_wp2_with (refine wpList_ex rfl (.agg (vsA x)) _ (ex_loadrow (x := .tmp 2) rfl rfl _ 38 HB.out Try.underlying38 rfl info_vt) ?_)
  with_reducible refine Calls.mono Hcall.out ?_
  rintro e w2 ⟨rfl, hG2⟩
  have HG2 := Lib.hid (HG.out.trans hG2)
  clear hG2
  go_wp2
  go_ret
  exact ⟨rfl, HG2.out⟩

theorem vsF_eq_flat (d : Array Vs) (k : Nat) (hk : k ≤ d.size) (t : Nat) (ht : t < k * 7) : (vsF (d.toList.take k))[t]? = some ((flatK vsC 7 d)[t]!) := by
  have hl : (d.toList.take k).length = k := by rw [List.length_take, Array.length_toList]; omega
  rw [vsF_get _ t (by rw [hl]; exact ht), get_flatK _ _ _ _ (by simp [hl]; exact ht), get_flatK _ _ _ _ (by omega)]
  have e : (d.toList.take k).toArray[t / 7]! = d[t / 7]! := by
    have h7 : t / 7 < k := by omega
    have : (d.toList.take k)[t / 7]? = d.toList[t / 7]? := List.getElem?_take_of_lt h7
    rw [Array.getElem?_toList] at this
    simp [Array.getElem!_eq_getD, Array.getD_eq_getD_getElem?, this]
  rw [e]
/-- so many of a row -/
theorem varg_of_sw {w0 W : World} {blk : Nat} {d d0 : Array Vs} (h : SW w0 blk 0 d W) (R : RowK vsC 7 w0 blk 0 d0) (hs : d.size = d0.size) (k cap : Nat) (hk : k ≤ d.size) (hc : k ≤ cap) : VArg W (.slice (some ⟨blk, 0, none⟩) k cap) (d.toList.take k) := by
  have hl : (d.toList.take k).length = k := by rw [List.length_take, Array.length_toList]; omega
  refine ⟨some ⟨blk, 0, none⟩, cap, by rw [hl], by rw [hl]; exact hc, (fun e => by cases e), .inr ⟨blk, 0, rfl, fun j hj => ?_⟩⟩
  rw [hl] at hj
  have := (h.holds R.hblk R.hH hs) j (by rw [size_flatK]; omega)
  rw [this.1, vsF_eq_flat d k hk j hj]
  rfl

/-- what bySigner answers -/
structure ByS (w : World) (xs R : List Vs) (e : Ending) (w' : World) : Prop where
  ex : ∃ (a : Option Addr) (cap : Nat), e = .returned (.slice a R.length cap) ∧ VArg w' (.slice a R.length cap) R ∧ (∀ ad, a = some ad → w.heap.size ≤ ad.block)
  first : Firsts vsK xs R
  up : Up w w'

set_option maxHeartbeats 1000000 in
theorem bySigner_some (ad : Addr) (n c M : Nat) (mV mH : Int) (mB : ByteArray) (xs : List Vs) (w : World) (hn : xs.length = n) (hnc : n ≤ c) (hx : ∀ j u, (vsF xs)[j]? = some u → w.cell? (ad.add j) = some u) (hb : n * 72 ≤ 140737488355328)
    (hM : w.heap[M]? = some (.cells #[.int .i64 mV, .int .i64 mH, .string mB] 24 (0, 0))) :
    Calls Try.prog 10 #[.slice (some ad) n c, forV M] w fun e w' => ∃ R, ByS w (xs.filter (vsOf mV mH mB)) R e w' := by
  unfold forV
  have g1 := Gr.alloc w (.cells #[forV M] 35)
  have HT : Hid (Told (w.alloc (.cells #[.func (.func 24) #[] #[.pointer (some ⟨M, 0, none⟩)]] 35)) w.heap.size M mV mH mB) := ⟨heap_alloc_new w _, g1.block hM⟩
  have Hcl := Lib.hid (clone_some ad n c xs (w.alloc (.cells #[.func (.func 24) #[] #[.pointer (some ⟨M, 0, none⟩)]] 35)) hn hnc (fun j u hj => later_cellF (hx j u hj) g1.up) hb)
  have HG1 : Hid (Up w (w.alloc (.cells #[.func (.func 24) #[] #[.pointer (some ⟨M, 0, none⟩)]] 35))) := Lib.hid (g1.up)
  have HN := Lib.hid hn
  have hn2 : n < 4611686018427387904 / 2 := by omega
  have hs1 : (w.alloc (.cells #[.func (.func 24) #[] #[.pointer (some ⟨M, 0, none⟩)]] 35)).heap.size = w.heap.size + 1 := by simp
  have HS1 := Lib.hid hs1
  clear hx hn hM g1 hs1
  go_enter Try.func10, Try.ntmps10
  go_wp2_with fail
  generalize w.alloc (.cells #[.func (.func 24) #[] #[.pointer (some ⟨M, 0, none⟩)]] 35) = wz at HT Hcl HG1 HS1 ⊢
  with_reducible refine Calls.mono Hcl.out ?_
  rintro e w1 ⟨g, cap, rfl, hg, hcap, hcm, hR, hU1⟩
  have HR1 := Lib.hid hR
  have HU1 := Lib.hid (Up.trans HG1.out hU1)
  have hgw : w.heap.size < g := by rw [HS1.out] at hg; exact hg
  have HT1 : Hid (∀ (dk : Array Vs) (W : World), SW w1 g 0 dk W → Told W w.heap.size M mV mH mB) := fun dk W hS => by
    have l1 := lt_of_block HT.out.1
    have l2 := lt_of_block HT.out.2
    have := hU1.size
    exact ⟨(sw_other hS (by omega) (by omega)).trans ((hU1.block _ l1).trans HT.out.1), (sw_other hS (by omega) (by omega)).trans ((hU1.block _ l2).trans HT.out.2)⟩
  have Hdel := Lib.hid (delFunc_any hR 19 #[.pointer (some ⟨w.heap.size, 0, none⟩)] (enters_of Try.func19 (by kernel_rfl) rfl) (fun x => !vsOf mV mH mB x) n cap (by simpa using HN.out) hcap (by unfold maxLen at hcm; omega) (by omega) (fun dk W x _ hS => not_gr mV mH mB w.heap.size M x W (HT1.out dk W hS)) w1 (SWK.start hR.hH))
  clear hR hU1 hg Hcl
  go_wp2_with fail
  with_reducible refine Calls.mono Hdel.out ?_
  rintro e w2 ⟨k, d2, rfl, hk, hS2, hd2, hl2⟩
  have HU2 := Lib.hid (sw_up HU1.out hS2 (by omega))
  have hk2 : k ≤ d2.size := by omega
  have hR2 : RowK vsC 7 w2 g 0 (d2.extract 0 k) := ⟨fun x => vsC_len x, vsC_one, holds_pre (hS2.holds HR1.out.hblk HR1.out.hH (by rw [hd2]; simpa using HN.out.symm)) hk2, hS2.lt HR1.out.hblk⟩
  have e2 : (d2.extract 0 k).toList = xs.filter (vsOf mV mH mB) := by
    rw [Array.toList_extract]
    simp only [List.extract_eq_take_drop, List.drop_zero, Nat.sub_zero]
    rw [hl2]
    simp
  have hsz : (d2.extract 0 k).size = k := by simp; omega
  generalize d2.extract 0 k = d3 at hR2 e2 hsz
  have Hso := Lib.hid (sortStable_any hR2 cap (by rw [hsz]; omega))
  rw [hsz] at Hso
  have HE2 := Lib.hid e2
  have HZ := Lib.hid hsz
  have HR2 := Lib.hid hR2
  clear hS2 hd2 hl2 hR2 e2 hsz Hdel
  go_wp2_with fail
  with_reducible refine Calls.mono Hso.out ?_
  rintro e w3 ⟨rfl, d4, hS4, hs4, ha4⟩
  have hz4 : d4.size = k := by have := ha4.1; simp at this; rw [this, HZ.out]
  have HU3 := Lib.hid (sw_up HU2.out hS4 (by omega))
  have hR4 : RowK vsC 7 w3 g 0 d4 := ⟨fun x => vsC_len x, vsC_one, hS4.holds HR2.out.hblk HR2.out.hH (by rw [hz4, HZ.out]), hS4.lt HR2.out.hblk⟩
  have Hco := Lib.hid (compact_any hR4 k cap hz4 (by omega) (by unfold maxLen at hcm; omega) (by omega) w3 (SWK.start hR4.hH))
  have HR4 := Lib.hid hR4
  have HF : Hid (Firsts vsK (xs.filter (vsOf mV mH mB)) (cpt vsK d4.toList)) := by
    have h1 := cpt_firsts vsK hs4
    exact ⟨h1.up, fun z => (h1.fst z).trans (by rw [fk_alike vsK ha4 z, HE2.out])⟩
  have HZ4 := Lib.hid hz4
  clear hS4 hs4 ha4 hz4 hR4 Hso
  go_wp2_with fail
  with_reducible refine Calls.mono Hco.out ?_
  rintro e w4 ⟨k5, d5, rfl, hk5, hS5, hd5, hl5⟩
  have HV := Lib.hid (varg_of_sw hS5 HR4.out (by rw [hd5, HZ4.out]) k5 cap (by omega) (by omega))
  have HU4 := Lib.hid (sw_up HU3.out hS5 (by omega))
  have HL5 : Hid (d5.toList.take k5 = cpt vsK d4.toList ∧ (cpt vsK d4.toList).length = k5) := ⟨hl5, by rw [← hl5, List.length_take, Array.length_toList]; omega⟩
  clear hS5 hd5 hl5
  go_wp2
  go_ret
  refine ⟨cpt vsK d4.toList, ⟨some ⟨g, 0, none⟩, cap, by rw [HL5.out.2]; rfl, by have := HV.out; rw [HL5.out.1] at this; rw [HL5.out.2]; exact this, fun ad e => by cases e; exact Nat.le_of_lt hgw⟩, HF.out, HU4.out⟩
end
end Go.Proofs.Ytnnjoeppcbbblaa
