import Derived.Shelf.SlLaysF0
import Derived.Shelf.SlSortCmp.WholeK
import Derived.Shelf.Small.Strs
import Derived.Shelf.SlSortCmp.NoneTotal
import Derived.Test.YtmcajckpgbamnaaRlSeen
import Derived.Test.YtmcajckpgbamnaaRlRule
/-
  rule.compare; slices.SortFunc, slices.SortedFunc of marks.
-/
namespace Go.Proofs.Ytmcajckpgbamnaa
set_option maxRecDepth 100000
section
set_option linter.unusedVariables false
open Go.RowKit Go.Sort Go.Lib

def lay_sort_ren : Go.Shelf.Ren := ⟨fun | 6 => 20 | 14 => 29 | 15 => 30 | 20 => 33 | 21 => 34 | 22 => 35 | 23 => 36 | 24 => 37 | 25 => 38 | 26 => 39 | 27 => 40 | 28 => 41 | 29 => 42 | 46 => 44 | 47 => 45 | 48 => 46 | 49 => 47 | 50 => 48 | 57 => 49 | n => n, fun | 0 => 0 | 3 => 3 | 4 => 4 | 5 => 5 | 9 => 9 | 22 => 23 | 25 => 45 | 39 => 65 | 45 => 69 | 46 => 70 | 50 => 74 | 53 => 77 | 55 => 79 | 66 => 80 | 70 => 84 | 76 => 86 | 77 => 87 | 24 => 26 | n => n, fun | n => n⟩
theorem lay_sort : Go.Proofs.SlLaysF0.n6 Try.prog lay_sort_ren := {
  mixed := by kernel_rfl
  f6 := ⟨Try.f20.name, by kernel_rfl, Try.func20.trans (congrArg some (by kernel_rfl))⟩
  f14 := ⟨Try.f29.name, by kernel_rfl, Try.func29.trans (congrArg some (by kernel_rfl))⟩
  f15 := Try.func30.trans (congrArg some (by kernel_rfl))
  f20 := ⟨Try.f33.name, by kernel_rfl, Try.func33.trans (congrArg some (by kernel_rfl))⟩
  f21 := ⟨Try.f34.name, by kernel_rfl, Try.func34.trans (congrArg some (by kernel_rfl))⟩
  f22 := ⟨Try.f35.name, by kernel_rfl, Try.func35.trans (congrArg some (by kernel_rfl))⟩
  f23 := ⟨Try.f36.name, by kernel_rfl, Try.func36.trans (congrArg some (by kernel_rfl))⟩
  f24 := ⟨Try.f37.name, by kernel_rfl, Try.func37.trans (congrArg some (by kernel_rfl))⟩
  f25 := ⟨Try.f38.name, by kernel_rfl, Try.func38.trans (congrArg some (by kernel_rfl))⟩
  f26 := ⟨Try.f39.name, by kernel_rfl, Try.func39.trans (congrArg some (by kernel_rfl))⟩
  f27 := ⟨Try.f40.name, by kernel_rfl, Try.func40.trans (congrArg some (by kernel_rfl))⟩
  f28 := Try.func41.trans (congrArg some (by kernel_rfl))
  f29 := Try.func42.trans (congrArg some (by kernel_rfl))
  f46 := ⟨Try.f44.name, by kernel_rfl, Try.func44.trans (congrArg some (by kernel_rfl))⟩
  f47 := Try.func45.trans (congrArg some (by kernel_rfl))
  f48 := Try.func46.trans (congrArg some (by kernel_rfl))
  f49 := ⟨Try.f47.name, by kernel_rfl, Try.func47.trans (congrArg some (by kernel_rfl))⟩
  f50 := ⟨Try.f48.name, by kernel_rfl, Try.func48.trans (congrArg some (by kernel_rfl))⟩
  f57 := ⟨Try.f49.name, by kernel_rfl, Try.func49.trans (congrArg some (by kernel_rfl))⟩
  t0 := Try.underlying0
  a0 := Try.isAgg0
  z0 := Try.sizeOf0
  v0 := Try.zeroValue0
  t3 := Try.underlying3
  a3 := Try.isAgg3
  z3 := Try.sizeOf3
  v3 := Try.zeroValue3
  t4 := Try.underlying4
  a4 := Try.isAgg4
  z4 := Try.sizeOf4
  v4 := Try.zeroValue4
  t5 := Try.underlying5
  a5 := Try.isAgg5
  z5 := Try.sizeOf5
  v5 := Try.zeroValue5
  t9 := Try.underlying9
  a9 := Try.isAgg9
  z9 := Try.sizeOf9
  v9 := Try.zeroValue9
  t22 := Try.underlying23
  a22 := Try.isAgg23
  z22 := Try.sizeOf23
  v22 := Try.zeroValue23
  t25 := Try.underlying45
  a25 := Try.isAgg45
  z25 := Try.sizeOf45
  v25 := Try.zeroValue45
  t39 := Try.underlying65
  a39 := Try.isAgg65
  z39 := Try.sizeOf65
  v39 := Try.zeroValue65
  t45 := Try.underlying69
  a45 := Try.isAgg69
  z45 := Try.sizeOf69
  v45 := Try.zeroValue69
  t46 := Try.underlying70
  a46 := Try.isAgg70
  z46 := Try.sizeOf70
  v46 := Try.zeroValue70
  t50 := Try.underlying74
  a50 := Try.isAgg74
  z50 := Try.sizeOf74
  v50 := Try.zeroValue74
  t53 := Try.underlying77
  a53 := Try.isAgg77
  z53 := Try.sizeOf77
  v53 := Try.zeroValue77
  t55 := Try.underlying79
  a55 := Try.isAgg79
  z55 := Try.sizeOf79
  v55 := Try.zeroValue79
  t66 := Try.underlying80
  a66 := Try.isAgg80
  z66 := Try.sizeOf80
  v66 := Try.zeroValue80
  t70 := Try.underlying84
  a70 := Try.isAgg84
  z70 := Try.sizeOf84
  v70 := Try.zeroValue84
  t76 := Try.underlying86
  a76 := Try.isAgg86
  z76 := Try.sizeOf86
  v76 := Try.zeroValue86
  t77 := Try.underlying87
  a77 := Try.isAgg87
  z77 := Try.sizeOf87
  v77 := Try.zeroValue87 }
instance mrInh : Inhabited Mr := ⟨⟨0, 0, ⟨#[]⟩⟩⟩
theorem bytes_neg : ∀ a b : List UInt8, decide (compareBytes a b < 0) = decide (a < b)
  | [], [] => by simp [compareBytes]
  | [], _ :: _ => by simp [compareBytes]
  | _ :: _, [] => by simp [compareBytes]
  | a :: x, b :: y => by
    have ih := bytes_neg x y
    unfold compareBytes
    by_cases h1 : a < b
    · have : a :: x < b :: y := List.cons_lt_cons_iff.2 (.inl h1)
      simp [h1, this]
    · by_cases h2 : b < a
      · have hne : a ≠ b := fun e => by subst e; exact h1 h2
        have : ¬ a :: x < b :: y := fun h => (List.cons_lt_cons_iff.1 h).elim h1 (fun h => hne h.1)
        simp [h1, h2, this]
      · have he : a = b := UInt8.le_antisymm (UInt8.not_lt.1 h2) (UInt8.not_lt.1 h1)
        subst he
        rw [if_neg h1, if_neg h2, ih]
        have e : a :: x < a :: y ↔ x < y := ⟨fun h => (List.cons_lt_cons_iff.1 h).elim (fun h => absurd h h1) (fun h => h.2), fun h => List.cons_lt_cons_iff.2 (.inr ⟨rfl, h⟩)⟩
        simp [e]
theorem ltOf_cmpM (x y : Mr) : ltOf cmpM x y = true ↔ LtM x y := by
  have hb := bytes_neg x.B.data.toList y.B.data.toList
  have hb' : compareBytes x.B.data.toList y.B.data.toList < 0 ↔ x.B.data.toList < y.B.data.toList := by
    constructor
    · intro h; rw [decide_eq_true h] at hb; simpa using hb.symm
    · intro h; rw [decide_eq_true h] at hb; simpa using hb
  unfold ltOf cmpM LtM
  simp only [decide_eq_true_eq]
  by_cases h1 : x.V < y.V
  · simp [cmpI, h1]
  · by_cases h2 : y.V < x.V
    · have : ¬ x.V = y.V := by omega
      simp [cmpI, h1, h2, this]
    · have e : x.V = y.V := by omega
      simp only [cmpI, e, Int.lt_irrefl, if_false, if_true, false_or, true_and]
      by_cases h3 : x.H < y.H
      · simp [h3]
      · by_cases h4 : y.H < x.H
        · have : ¬ x.H = y.H := by omega
          simp [h3, h4, this]
        · have e : x.H = y.H := by omega
          simp [e, hb']
theorem LtM.irrefl (x : Mr) : ¬ LtM x x := by
  rintro (h | ⟨_, h | ⟨_, h⟩⟩)
  · omega
  · omega
  · exact List.lt_irrefl _ h
theorem LtM.trans {x y z : Mr} (h : LtM x y) (k : LtM y z) : LtM x z := by
  rcases h with h | ⟨h1, h | ⟨h2, h⟩⟩ <;> rcases k with k | ⟨k1, k | ⟨k2, k⟩⟩
  · exact .inl (by omega)
  · exact .inl (by omega)
  · exact .inl (by omega)
  · exact .inl (by omega)
  · exact .inr ⟨by omega, .inl (by omega)⟩
  · exact .inr ⟨by omega, .inl (by omega)⟩
  · exact .inl (by omega)
  · exact .inr ⟨by omega, .inl (by omega)⟩
  · exact .inr ⟨by omega, .inr ⟨by omega, List.lt_trans h k⟩⟩
theorem LtM.tri (x y : Mr) : LtM x y ∨ x = y ∨ LtM y x := by
  by_cases h1 : x.V < y.V
  · exact .inl (.inl h1)
  · by_cases h2 : y.V < x.V
    · exact .inr (.inr (.inl h2))
    · by_cases h3 : x.H < y.H
      · exact .inl (.inr ⟨by omega, .inl h3⟩)
      · by_cases h4 : y.H < x.H
        · exact .inr (.inr (.inr ⟨by omega, .inl h4⟩))
        · by_cases h5 : x.B.data.toList < y.B.data.toList
          · exact .inl (.inr ⟨by omega, .inr ⟨by omega, h5⟩⟩)
          · by_cases h6 : y.B.data.toList < x.B.data.toList
            · exact .inr (.inr (.inr ⟨by omega, .inr ⟨by omega, h6⟩⟩))
            · refine .inr (.inl ?_)
              have e := List.le_antisymm (List.not_lt.1 h6) (List.not_lt.1 h5)
              obtain ⟨V, H, ⟨⟨B⟩⟩⟩ := x
              obtain ⟨V', H', ⟨⟨B'⟩⟩⟩ := y
              simp only at h1 h2 h3 h4 e
              obtain rfl : V = V' := by omega
              obtain rfl : H = H' := by omega
              subst e; rfl
theorem swoM : SWO (ltOf cmpM) where
  irrefl x := by
    cases h : ltOf cmpM x x with
    | false => rfl
    | true => exact absurd ((ltOf_cmpM x x).1 h) (LtM.irrefl x)
  trans x y z h1 h2 := (ltOf_cmpM x z).2 (((ltOf_cmpM x y).1 h1).trans ((ltOf_cmpM y z).1 h2))
  ntrans x y z h1 h2 := by
    cases h : ltOf cmpM x z with
    | false => rfl
    | true =>
      have h3 := (ltOf_cmpM x z).1 h
      have n1 : ¬ LtM x y := fun k => by rw [(ltOf_cmpM x y).2 k] at h1; cases h1
      have n2 : ¬ LtM y z := fun k => by rw [(ltOf_cmpM y z).2 k] at h2; cases h2
      exfalso
      rcases LtM.tri x y with k | rfl | k
      · exact n1 k
      · exact n2 h3
      · exact n2 (k.trans h3)

/-- a slice that holds these marks -/
def MsAt (W : World) (v : Value) (ms : List Mr) : Prop := ∃ a cap, v = .slice a ms.length cap ∧ ms.length ≤ cap ∧ (a = none → cap = 0) ∧ (ms = [] ∨ ∃ b, a = some ⟨b, 0, none⟩ ∧ ∀ i x, ms[i]? = some x → ∀ j u, (mrC x)[j]? = some u → W.cell? ⟨b, i * 3 + j, none⟩ = some u)
theorem MsAt.up {W W' : World} {v : Value} {ms : List Mr} (h : MsAt W v ms) (hu : Up W W') : MsAt W' v ms := by
  obtain ⟨a, cap, h1, h2, h2', h3⟩ := h
  refine ⟨a, cap, h1, h2, h2', h3.imp id ?_⟩
  rintro ⟨b, e, h4⟩
  exact ⟨b, e, fun i x hx j u hj => later_cellF (h4 i x hx j u hj) hu⟩
section
variable {w0 W : World} {blk off : Nat} {dk : Array Mr}
theorem swM_up {w : World} (hU : Up w w0) (h : SWK mrC 3 w0 blk off dk W) (hb : w.heap.size ≤ blk) : Up w W := by
  have hsz := hU.size
  have hle := SWK.le h
  obtain ⟨n, os, rfl⟩ := h
  refine Below.trans hU ⟨rfl, rfl, rfl, hle, fun k hk => ?_⟩
  unfold sortWorldK grow putRowK putRow mapBlock Sort.ahead
  simp only
  rw [Array.getElem?_append_left (by simp; omega), Array.getElem?_modify, if_neg (fun e => by omega)]
end
theorem mrC_len (x : Mr) : (mrC x).length = 3 := rfl
theorem mrC_one (x : Mr) : ∀ v ∈ mrC x, v.oneCell' = true := by intro v hv; simp [mrC] at hv; rcases hv with rfl | rfl | rfl <;> rfl
theorem mrF_get : ∀ (xs : List Mr) (t : Nat), t < xs.length * 3 → (mrF xs)[t]? = some ((flatK mrC 3 xs.toArray)[t]!) := by
  intro xs t ht
  rw [get_flatK _ _ _ _ (by simpa using ht)]
  have hd : t / 3 < xs.length := by omega
  have key : ∀ (xs : List Mr) (q r : Nat), q < xs.length → r < 3 → (mrF xs)[q * 3 + r]? = (mrC (xs[q]?.getD default))[r]? := by
    intro xs
    induction xs with
    | nil => intro q r hq; simp at hq
    | cons x t ih =>
      intro q r hq hr
      have e : mrF (x :: t) = mrC x ++ mrF t := by unfold mrF; rw [List.flatMap_cons]
      rw [e]
      cases q with
      | zero => rw [List.getElem?_append_left (by rw [mrC_len]; omega)]; simp
      | succ q =>
        rw [List.getElem?_append_right (by rw [mrC_len]; omega), mrC_len, show (q + 1) * 3 + r - 3 = q * 3 + r by omega, ih q r (by simpa using hq) hr]
        simp
  have := key xs (t / 3) (t % 3) hd (Nat.mod_lt _ (by omega))
  rw [show t / 3 * 3 + t % 3 = t by omega] at this
  rw [this]
  have hl : t % 3 < (mrC (xs[t / 3]?.getD default)).length := by rw [mrC_len]; exact Nat.mod_lt _ (by omega)
  rw [List.getElem?_eq_getElem hl]
  congr 1
  have : xs.toArray[t / 3]! = xs[t / 3]?.getD default := by
    simp [Array.getElem!_eq_getD, Array.getD_eq_getD_getElem?]
  rw [this, getElem!_pos (mrC (xs[t / 3]?.getD default)) (t % 3) hl]
theorem rowM_of_owns {W : World} {base : Nat} {v : Value} {xs : List Mr} (h : W.ownsRow base 26 3 v xs.length (mrF xs)) (hv : v ≠ .slice none 0 0) :
    ∃ g cap, v = .slice (some ⟨g, 0, none⟩) xs.length cap ∧ base ≤ g ∧ g < W.heap.size ∧ xs.length ≤ cap ∧ cap ≤ maxLen ∧ RowK mrC 3 W g 0 xs.toArray := by
  obtain ⟨h1, h2 | ⟨g, cap, cur, e1, e2, e3, e4, e5, e6, e7⟩⟩ := h
  · exact absurd h2.1 hv
  · refine ⟨g, cap, e1, e2, lt_of_block e3, e4, e5, fun x => mrC_len x, mrC_one, ?_, lt_of_block e3⟩
    intro t ht
    have ht7 : t < xs.length * 3 := by rw [size_flatK] at ht; simpa using ht
    have hc : cur[t]? = some ((flatK mrC 3 xs.toArray)[t]!) := by
      rw [← mrF_get xs t ht7, ← e7, List.getElem?_take_of_lt ht7, Array.getElem?_toList]
    refine ⟨?_, ?_⟩
    · rw [Nat.zero_add, cell_of_row W g t cur _ _ e3, hc]; rfl
    · rw [Nat.zero_add]; exact frozen_of_row W g t cur _ e3

set_option maxHeartbeats 1000000 in
theorem rlSorted_any (Bm b nn : Nat) (L : List Mr) (w : World) (hBm : Bm < w.heap.size) (hm : w.cell? ⟨Bm, 0, none⟩ = some (.map (some b))) (hs : MarkSet w b nn L) (hL : L.length * 32 ≤ 140737488355328) (hLL : ∀ x ∈ L, MrOk x) (hLn : ∀ ss, AllM L ss → ss.length ≤ 4000000000000) :
    Calls Try.prog 12 #[.func (.func 21) #[] #[.pointer (some ⟨Bm, 0, none⟩)], .func (.func 14) #[] #[]] w fun e w' =>
      ∃ v ms, e = .returned v ∧ (∀ y, y ∈ ms ↔ y ∈ L) ∧ ms.Pairwise LtM ∧ ms.length ≤ 4000000000000 ∧ MsAt w' v ms ∧ Up w w' := by
  have Hc := Lib.hid (rlCollect_any Bm b nn L w hBm hm hs hL)
  have HLn := Lib.hid hLn
  have HLL := Lib.hid hLL
  clear hm hs hLn hLL
  go_enter Try.func12, Try.ntmps12
  go_wp2_with fail
  with_reducible refine Calls.mono Hc.out ?_
  rintro e w1 ⟨v, ss, rfl, hall, hrow, hU⟩
  have HU := Lib.hid hU
  have Hall := Lib.hid hall
  have hlen := HLn.out ss hall
  by_cases hv : v = .slice none 0 0
  · have h0 : ss = [] := by
      subst hv
      rcases hrow.2 with ⟨_, hz⟩ | ⟨g, cap, cur, e1, _⟩
      · exact List.eq_nil_of_length_eq_zero hz
      · cases e1
    subst hv
    have hL0 : ∀ y, y ∈ ([] : List Mr) ↔ y ∈ L := fun y => ⟨(fun h => by cases h), fun h => by
      have := (hall.2.2 y (HLL.out y h)).2 h
      rw [h0] at this; cases this⟩
    have HL0 := Lib.hid hL0
    have Hs := Lib.hid (AnyF.slices_SortFunc_none lay_sort none 0 (.func (.func 14) #[] #[]) w1)
    clear hrow hall hU hL0 h0 hlen Hall
    go_wp2_with (refine Calls.mono Hs.out ?_; rintro e w2 ⟨rfl, rfl⟩)
    go_ret
    exact ⟨_, [], rfl, HL0.out, List.Pairwise.nil, by simp, ⟨none, 0, rfl, by simp, fun _ => rfl, .inl rfl⟩, HU.out⟩
  · obtain ⟨g, cap, rfl, hbase, hg, hcap, _, hR⟩ := rowM_of_owns hrow hv
    have Hs := Lib.hid (AnyQ.slices_SortFunc lay_sort 3 Try.isAgg26 Try.sizeOf26 mrC mrC_len mrC_one cmpM swoM 14 #[] g 0 cap ss.toArray w1 (enters_of Try.func14 (by kernel_rfl) rfl) (fun m os dk hs x y => (rlCompare_any x y _).mono (fun e w' ⟨h, q, os', h2⟩ => ⟨h, q, os', h2⟩)) hR.hH hg (by simp; omega))
    have HR := Lib.hid (And.intro hR (And.intro hbase (And.intro hcap hlen)))
    clear hrow hall hU hv hR hbase hcap hlen hg
    simp only [List.size_toArray] at Hs
    go_wp2_with (refine Calls.mono Hs.out ?_; rintro e w2 ⟨rfl, d', n2, os2, hp, hso, hw2⟩; have HP := Lib.hid (And.intro hp (And.intro hso hw2)); clear hp hso hw2)
    go_ret
    obtain ⟨hp, hso, hw2⟩ := HP.out
    obtain ⟨hR, hbase, hcap, hlen⟩ := HR.out
    have hsw : SWK mrC 3 w1 g 0 d' w2 := ⟨n2, os2, hw2⟩
    have hsz : d'.size = ss.length := by have := hp.1; simpa using this
    have hperm : d'.toList.Perm ss := by
      have := hp.2.2
      rw [Array.extract_eq_self_of_le (by omega), Array.extract_eq_self_of_le (by simp)] at this
      simpa using this
    have hnd : d'.toList.Nodup := hperm.nodup_iff.2 Hall.out.1
    refine ⟨_, d'.toList, rfl, fun y => ?_, ?_, by simpa [hsz] using hlen, ⟨some ⟨g, 0, none⟩, cap, by simp [hsz], by simp [hsz]; exact hcap, (fun e => by cases e), ?_⟩, swM_up HU.out hsw hbase⟩
    · rw [hperm.mem_iff]
      constructor
      · intro h; exact (Hall.out.2.2 y (Hall.out.2.1 y h)).1 h
      · intro h; exact (Hall.out.2.2 y (HLL.out y h)).2 h
    · rw [List.pairwise_iff_getElem]
      intro i j hi hj hij
      have hi' : i < d'.size := by simpa using hi
      have hj' : j < d'.size := by simpa using hj
      have h1 := hso i j (Nat.zero_le _) hij (by omega)
      rw [getElem!_pos d' j hj', getElem!_pos d' i hi'] at h1
      simp only [Array.getElem_toList]
      rcases LtM.tri d'[i] d'[j] with h | h | h
      · exact h
      · exfalso
        exact (List.pairwise_iff_getElem.1 hnd) i j hi hj hij (by simpa using h)
      · rw [(ltOf_cmpM _ _).2 h] at h1; cases h1
    · by_cases h0 : d'.toList = []
      · exact .inl h0
      · refine .inr ⟨g, rfl, fun i x hx j u hj => ?_⟩
        have hi : i < d'.size := by have := (List.getElem?_eq_some_iff.1 hx).1; simpa using this
        have hc := HoldsK.cells (hsw.holds hR.hblk hR.hH (by simpa using hsz)) hR.hk hi
        have hx' : d'[i]! = x := by rw [getElem!_pos d' i hi]; simpa [hi] using hx
        rw [hx'] at hc
        have := hc j u hj
        have ha : ((⟨g, 0 + i * 3, none⟩ : Addr).add j) = ⟨g, i * 3 + j, none⟩ := by unfold Addr.add; split <;> simp_all
        rwa [ha] at this
end
end Go.Proofs.Ytmcajckpgbamnaa
