import Derived.Sort.LotA
import Derived.Test.YtmcajckpgbamnaaBase
namespace Go.Proofs.Ytmcajckpgbamnaa
section
/-
  Plain mathematics of sorting that keeps the order of what has one key: no program is spoken of here.
-/
section
open Go.Sort
variable {α : Type} (key : α → Int)

def Srt (l : List α) : Prop := l.Pairwise fun x y => key x ≤ key y
/-- of each key the same ones, in the same order -/
def Alike (l m : List α) : Prop := l.length = m.length ∧ ∀ z, l.filter (fun x => key x == z) = m.filter (fun x => key x == z)

theorem Alike.refl (l : List α) : Alike key l l := ⟨rfl, fun _ => rfl⟩
theorem Alike.symm {l m : List α} (h : Alike key l m) : Alike key m l := ⟨h.1.symm, fun z => (h.2 z).symm⟩
theorem Alike.trans {l m o : List α} (h : Alike key l m) (g : Alike key m o) : Alike key l o := ⟨h.1.trans g.1, fun z => (h.2 z).trans (g.2 z)⟩
theorem Alike.append {a b c d : List α} (h : Alike key a b) (g : Alike key c d) : Alike key (a ++ c) (b ++ d) :=
  ⟨by simp [h.1, g.1], fun z => by rw [List.filter_append, List.filter_append, h.2, g.2]⟩
theorem Alike.mem {a b : List α} (h : Alike key a b) {x : α} : x ∈ a ↔ x ∈ b := by
  have e := h.2 (key x)
  have f : ∀ l : List α, x ∈ l ↔ x ∈ l.filter (fun y => key y == key x) := fun l => by simp
  rw [f a, f b, e]
theorem alike_swap (U V : List α) (h : ∀ x ∈ U, ∀ y ∈ V, key x ≠ key y) : Alike key (U ++ V) (V ++ U) := by
  refine ⟨by simp [Nat.add_comm], fun z => ?_⟩
  rw [List.filter_append, List.filter_append]
  by_cases hU : U.filter (fun x => key x == z) = []
  · rw [hU]; simp
  · have hV : V.filter (fun x => key x == z) = [] := by
      rw [List.filter_eq_nil_iff]
      intro y hy he
      obtain ⟨x, hx⟩ := List.exists_mem_of_ne_nil _ hU
      rw [List.mem_filter] at hx
      exact h x hx.1 y hy (by rw [eq_of_beq hx.2, eq_of_beq he])
    rw [hV]; simp

/-- what comes of merging U and V -/
structure Mgd (U V M : List α) : Prop where
  srt : Srt key M
  alk : Alike key M (U ++ V)
theorem Mgd.len {U V M : List α} (h : Mgd key U V M) : M.length = U.length + V.length := by rw [h.alk.1, List.length_append]

theorem mgd_left {U : List α} (h : Srt key U) : Mgd key U [] U := ⟨h, by simpa using Alike.refl key U⟩
theorem mgd_right {V : List α} (h : Srt key V) : Mgd key [] V V := ⟨h, Alike.refl key V⟩

theorem mgd_join {U1 U2 V1 V2 M1 M2 : List α} (h1 : Mgd key U1 V1 M1) (h2 : Mgd key U2 V2 M2)
    (le : ∀ x ∈ U1 ++ V1, ∀ y ∈ U2 ++ V2, key x ≤ key y) (lt : ∀ x ∈ U2, ∀ y ∈ V1, key y < key x) : Mgd key (U1 ++ U2) (V1 ++ V2) (M1 ++ M2) := by
  refine ⟨List.pairwise_append.2 ⟨h1.srt, h2.srt, fun x hx y hy => le x ((h1.alk.mem key).1 hx) y ((h2.alk.mem key).1 hy)⟩, ?_⟩
  refine (h1.alk.append key h2.alk).trans key ?_
  have e1 : (U1 ++ V1) ++ (U2 ++ V2) = U1 ++ ((V1 ++ U2) ++ V2) := by simp
  have e2 : (U1 ++ U2) ++ (V1 ++ V2) = U1 ++ ((U2 ++ V1) ++ V2) := by simp
  rw [e1, e2]
  exact (Alike.refl key U1).append key ((alike_swap key V1 U2 (fun y hy x hx e => by have := lt x hx y hy; omega)).append key (Alike.refl key V2))

theorem srt_head {l : List α} {x0 : α} (h : Srt key l) (e : l.head? = some x0) {x : α} (hx : x ∈ l) : key x0 ≤ key x := by
  cases l with
  | nil => cases hx
  | cons a t =>
    cases e
    rcases List.mem_cons.1 hx with rfl | hx
    · exact Int.le_refl _
    · exact (List.pairwise_cons.1 h).1 x hx
theorem srt_last {l : List α} {y0 : α} (h : Srt key l) (e : l.getLast? = some y0) {y : α} (hy : y ∈ l) : key y ≤ key y0 := by
  obtain ⟨t, rfl⟩ := List.getLast?_eq_some_iff.1 e
  rcases List.mem_append.1 hy with hy | hy
  · exact (List.pairwise_append.1 h).2.2 y hy y0 (by simp)
  · rw [List.mem_singleton.1 hy]; exact Int.le_refl _

/-- two rows, each sorted, each cut in two: what the cuts must say of what lies beside them -/
theorem mgd_cut {U1 U2 V1 V2 M1 M2 : List α} (hU : Srt key (U1 ++ U2)) (hV : Srt key (V1 ++ V2)) (h1 : Mgd key U1 V1 M1) (h2 : Mgd key U2 V2 M2)
    (hA : ∀ x y, U2.head? = some x → V1.getLast? = some y → key y < key x) (hB : ∀ x y, U1.getLast? = some x → V2.head? = some y → key x ≤ key y) : Mgd key (U1 ++ U2) (V1 ++ V2) (M1 ++ M2) := by
  have pU := List.pairwise_append.1 hU
  have pV := List.pairwise_append.1 hV
  have lt : ∀ x ∈ U2, ∀ y ∈ V1, key y < key x := fun x hx y hy => by
    obtain ⟨x0, e0⟩ : ∃ x0, U2.head? = some x0 := by
      cases U2 with
      | nil => cases hx
      | cons a t => exact ⟨a, rfl⟩
    obtain ⟨y0, f0⟩ : ∃ y0, V1.getLast? = some y0 := by
      cases h : V1.getLast? with
      | none => rw [List.getLast?_eq_none_iff] at h; subst h; cases hy
      | some y0 => exact ⟨y0, rfl⟩
    have a1 := srt_head key pU.2.1 e0 hx
    have a2 := srt_last key pV.1 f0 hy
    have a3 := hA x0 y0 e0 f0
    omega
  refine mgd_join key h1 h2 (fun x hx y hy => ?_) lt
  rcases List.mem_append.1 hx with hx | hx
  · rcases List.mem_append.1 hy with hy | hy
    · exact pU.2.2 x hx y hy
    · obtain ⟨y0, e0⟩ : ∃ y0, V2.head? = some y0 := by
        cases V2 with
        | nil => cases hy
        | cons a t => exact ⟨a, rfl⟩
      obtain ⟨x0, f0⟩ : ∃ x0, U1.getLast? = some x0 := by
        cases h : U1.getLast? with
        | none => rw [List.getLast?_eq_none_iff] at h; subst h; cases hx
        | some x0 => exact ⟨x0, rfl⟩
      have a1 := srt_head key pV.2.1 e0 hy
      have a2 := srt_last key pU.1 f0 hx
      have a3 := hB x0 y0 f0 e0
      omega
  · rcases List.mem_append.1 hy with hy | hy
    · exact Int.le_of_lt (lt y hy x hx)
    · exact pV.2.2 x hx y hy

/-- one ahead of a sorted row, laid where it belongs -/
theorem mgd_one {x : α} {V1 V2 : List α} (hV : Srt key (V1 ++ V2)) (hA : ∀ y, V1.getLast? = some y → key y < key x) (hB : ∀ y, V2.head? = some y → key x ≤ key y) : Mgd key [x] (V1 ++ V2) (V1 ++ x :: V2) := by
  have pV := List.pairwise_append.1 hV
  have h1 : Mgd key [] V1 V1 := mgd_right key pV.1
  have h2 : Mgd key [x] V2 (x :: V2) := ⟨List.pairwise_cons.2 ⟨fun y hy => by
    obtain ⟨y0, e0⟩ : ∃ y0, V2.head? = some y0 := by
      cases V2 with
      | nil => cases hy
      | cons a t => exact ⟨a, rfl⟩
    exact Int.le_trans (hB y0 e0) (srt_head key pV.2.1 e0 hy), pV.2.1⟩, Alike.refl key _⟩
  exact mgd_cut key (U1 := []) (U2 := [x]) (by simp [Srt]) hV h1 h2 (fun a b ha hb => by cases ha; exact hA b hb) (fun a b ha hb => by cases ha)
/-- one behind a sorted row, laid where it belongs -/
theorem mgd_end {y : α} {U1 U2 : List α} (hU : Srt key (U1 ++ U2)) (hA : ∀ x, U1.getLast? = some x → key x ≤ key y) (hB : ∀ x, U2.head? = some x → key y < key x) : Mgd key (U1 ++ U2) [y] (U1 ++ y :: U2) := by
  have pU := List.pairwise_append.1 hU
  have h1 : Mgd key U1 [y] (U1 ++ [y]) := ⟨List.pairwise_append.2 ⟨pU.1, by simp, fun a ha b hb => by
    rw [List.mem_singleton.1 hb]
    obtain ⟨x0, e0⟩ : ∃ x0, U1.getLast? = some x0 := by
      cases h : U1.getLast? with
      | none => rw [List.getLast?_eq_none_iff] at h; subst h; cases ha
      | some x0 => exact ⟨x0, rfl⟩
    exact Int.le_trans (srt_last key pU.1 e0 ha) (hA x0 e0)⟩, Alike.refl key _⟩
  have h2 : Mgd key U2 [] U2 := mgd_left key pU.2.1
  have h := mgd_cut key (V1 := [y]) (V2 := []) hU (by simp [Srt]) h1 h2 (fun a b ha hb => by cases hb; exact hB a ha) (fun a b ha hb => by cases hb)
  simpa using h

/-! ### arrays, as lists cut up -/
variable [Inhabited α]
theorem bang_of {d : Array α} {i : Nat} {x : α} (h : d.toList[i]? = some x) : d[i]! = x := by
  rw [Array.getElem?_toList] at h
  simp [Array.getElem!_eq_getD, Array.getD_eq_getD_getElem?, h]
theorem bang_at {d : Array α} {L R : List α} {x : α} (h : d.toList = L ++ x :: R) : d[L.length]! = x := bang_of (by rw [h]; simp)
theorem bang_at' {d : Array α} {L R : List α} {x : α} (h : d.toList = L ++ x :: R) {i : Nat} (hi : i = L.length) : d[i]! = x := by subst hi; exact bang_at h
theorem bang_mid {d : Array α} {P U S : List α} (h : d.toList = P ++ (U ++ S)) {i : Nat} (hi : i < U.length) : U[i]? = some d[P.length + i]! := by
  have e : d.toList[P.length + i]? = some U[i] := by
    rw [h, List.getElem?_append_right (by omega), Nat.add_sub_cancel_left, List.getElem?_append_left hi, List.getElem?_eq_getElem hi]
  rw [bang_of e, List.getElem?_eq_getElem hi]
omit [Inhabited α] in
theorem set_at {L R : List α} (x y : α) : (L ++ x :: R).set L.length y = L ++ y :: R := by
  rw [List.set_append_right _ _ (Nat.le_refl _)]; simp
theorem swp_far {d : Array α} {L Q R : List α} {x z : α} (h : d.toList = L ++ x :: (Q ++ z :: R)) {i j : Nat} (hi : i = L.length) (hj : j = L.length + 1 + Q.length) :
    (swp d i j).toList = L ++ z :: (Q ++ x :: R) ∧ (swp d j i).toList = L ++ z :: (Q ++ x :: R) := by
  have h' : d.toList = (L ++ x :: Q) ++ z :: R := by rw [h]; simp
  have ei : d[i]! = x := bang_at' h hi
  have ej : d[j]! = z := bang_at' h' (by rw [hj]; simp; omega)
  have lj : j = (L ++ z :: Q).length := by rw [hj]; simp; omega
  have lj' : j = (L ++ x :: Q).length := by rw [hj]; simp; omega
  constructor
  · unfold swp
    rw [Array.toList_setIfInBounds, Array.toList_setIfInBounds, ei, ej, h, hi, set_at,
      show L ++ z :: (Q ++ z :: R) = (L ++ z :: Q) ++ z :: R by simp, lj, set_at]
    simp
  · unfold swp
    rw [Array.toList_setIfInBounds, Array.toList_setIfInBounds, ei, ej, h', lj', set_at,
      show (L ++ x :: Q) ++ x :: R = L ++ x :: (Q ++ x :: R) by simp, hi, set_at]
theorem swp_near {d : Array α} {L R : List α} {x z : α} (h : d.toList = L ++ x :: z :: R) {i j : Nat} (hi : i = L.length) (hj : j = L.length + 1) :
    (swp d i j).toList = L ++ z :: x :: R ∧ (swp d j i).toList = L ++ z :: x :: R := by
  have := swp_far (Q := []) (by simpa using h) hi (by simpa using hj)
  simpa using this
theorem cut_two {d : Array α} {j : Nat} (h : j + 1 < d.size) : ∃ L R, L.length = j ∧ d.toList = L ++ d[j]! :: d[j + 1]! :: R := by
  have hl : j < d.toList.length := by simp; omega
  have hl1 : j + 1 < d.toList.length := by simp; omega
  refine ⟨d.toList.take j, d.toList.drop (j + 2), by simp; omega, ?_⟩
  have a : d[j]! = d.toList[j] := bang_of (List.getElem?_eq_getElem hl)
  have b : d[j + 1]! = d.toList[j + 1] := bang_of (List.getElem?_eq_getElem hl1)
  rw [a, b, ← List.drop_eq_getElem_cons hl1, ← List.drop_eq_getElem_cons hl, List.take_append_drop]

/-! ### the insertion sort keeps the order of what has one key -/
def keyLt (x y : α) : Bool := decide (key x < key y)
omit [Inhabited α] in
theorem keyLt_swo : SWO (keyLt key) :=
  ⟨fun x => by simp [keyLt], fun x y z h g => by simp only [keyLt, decide_eq_true_eq] at *; omega, fun x y z h g => by simp only [keyLt, decide_eq_false_iff_not] at *; omega⟩

theorem insInner_alike (a : Nat) : ∀ (j : Nat) (d : Array α), j < d.size → Alike key (insInner (keyLt key) a j d).toList d.toList
  | 0, d, _ => by unfold insInner; exact Alike.refl key _
  | j + 1, d, h => by
    unfold insInner
    split
    · rename_i hc
      simp only [Bool.and_eq_true, decide_eq_true_eq, keyLt] at hc
      have ih := insInner_alike a j (swp d (j + 1) j) (by rw [size_swp]; omega)
      refine ih.trans key ?_
      obtain ⟨L, R, hL, hd⟩ := cut_two h
      have e := (swp_near hd hL.symm (by rw [hL])).2
      rw [e]
      conv => rhs; rw [hd]
      have sw := alike_swap key [d[j + 1]!] [d[j]!] (fun x hx y hy => by rw [List.mem_singleton.1 hx, List.mem_singleton.1 hy]; omega)
      exact (Alike.refl key L).append key (sw.append key (Alike.refl key R))
    · exact Alike.refl key _
theorem insInner_sz (a : Nat) (j : Nat) (d : Array α) (h : j < d.size) : (insInner (keyLt key) a j d).size = d.size := by
  have := (insInner_alike key a j d h).1
  simpa using this
theorem insOuter_alike (a b : Nat) : ∀ (n i : Nat) (d : Array α), b - i = n → b ≤ d.size → Alike key (insOuter (keyLt key) a b i d).toList d.toList
  | 0, i, d, hn, _ => by rw [insOuter, if_neg (by omega)]; exact Alike.refl key _
  | n + 1, i, d, hn, hb => by
    rw [insOuter, if_pos (by omega)]
    have hi : i < d.size := by omega
    exact (insOuter_alike a b n (i + 1) _ (by omega) (by rw [insInner_sz key a i d hi]; exact hb)).trans key (insInner_alike key a i d hi)
theorem insertionSort_alike (a b : Nat) (d : Array α) (hb : b ≤ d.size) : Alike key (insertionSort (keyLt key) d a b).toList d.toList :=
  insOuter_alike key a b _ (a + 1) d rfl hb

/-! ### what is sorted between two places -/
theorem srt_of_in {d : Array α} {P M S : List α} (h : d.toList = P ++ (M ++ S)) (hs : SortedIn (keyLt key) P.length (P.length + M.length) d) : Srt key M := by
  unfold Srt
  rw [List.pairwise_iff_getElem]
  intro i j hi hj hij
  have a := bang_mid h hi
  have b := bang_mid h hj
  rw [List.getElem?_eq_getElem hi] at a
  rw [List.getElem?_eq_getElem hj] at b
  have c := hs (P.length + i) (P.length + j) (by omega) (by omega) (by omega)
  rw [← Option.some.inj a, ← Option.some.inj b] at c
  simp only [keyLt, decide_eq_false_iff_not] at c
  omega
theorem in_of_srt {d : Array α} {P M S : List α} (h : d.toList = P ++ (M ++ S)) (hs : Srt key M) : SortedIn (keyLt key) P.length (P.length + M.length) d := by
  unfold Srt at hs
  rw [List.pairwise_iff_getElem] at hs
  intro i j hi hij hj
  obtain ⟨i', rfl⟩ : ∃ i', i = P.length + i' := ⟨i - P.length, by omega⟩
  obtain ⟨j', rfl⟩ : ∃ j', j = P.length + j' := ⟨j - P.length, by omega⟩
  have a := bang_mid h (show i' < M.length by omega)
  have b := bang_mid h (show j' < M.length by omega)
  rw [List.getElem?_eq_getElem (by omega)] at a b
  have c := hs i' j' (by omega) (by omega) (by omega)
  rw [Option.some.inj a, Option.some.inj b] at c
  simp only [keyLt, decide_eq_false_iff_not]
  omega
theorem in_kept {d d' : Array α} {a b x y : Nat} (he : ∀ i, i < a ∨ b ≤ i → d'[i]! = d[i]!) (hs : SortedIn (keyLt key) x y d) (h : y ≤ a ∨ b ≤ x) : SortedIn (keyLt key) x y d' := fun i j hi hij hj => by
  rw [he i (by omega), he j (by omega)]; exact hs i j hi hij hj

/-- what a merge of the places from a to m and from m to b does, told of the whole row -/
structure MgIn (a b : Nat) (d d' : Array α) : Prop where
  out : ∀ i, i < a ∨ b ≤ i → d'[i]! = d[i]!
  srt : SortedIn (keyLt key) a b d'
  alk : Alike key d'.toList d.toList
theorem MgIn.size {a b : Nat} {d d' : Array α} (h : MgIn key a b d d') : d'.size = d.size := by simpa using h.alk.1
omit [Inhabited α] in
theorem cut_three {d : Array α} {a m b : Nat} (ham : a ≤ m) (hmb : m ≤ b) (hb : b ≤ d.size) : ∃ P U V S, d.toList = P ++ (U ++ (V ++ S)) ∧ P.length = a ∧ U.length = m - a ∧ V.length = b - m := by
  have hl : b ≤ d.toList.length := by simpa using hb
  refine ⟨d.toList.take a, (d.toList.drop a).take (m - a), (d.toList.drop m).take (b - m), d.toList.drop b, ?_, by simp at hl ⊢; omega, by simp at hl ⊢; omega, by simp at hl ⊢; omega⟩
  have e1 : (d.toList.drop m).take (b - m) ++ d.toList.drop b = d.toList.drop m := by
    have := List.take_append_drop (b - m) (d.toList.drop m)
    rw [List.drop_drop, show m + (b - m) = b by omega] at this
    exact this
  have e2 : (d.toList.drop a).take (m - a) ++ d.toList.drop m = d.toList.drop a := by
    have := List.take_append_drop (m - a) (d.toList.drop a)
    rw [List.drop_drop, show a + (m - a) = m by omega] at this
    exact this
  rw [e1, e2, List.take_append_drop]
theorem mgIn_of {d d' : Array α} {P U V S M : List α} (h : d.toList = P ++ (U ++ (V ++ S))) (h' : d'.toList = P ++ (M ++ S)) (hm : Mgd key U V M) : MgIn key P.length (P.length + (U.length + V.length)) d d' := by
  have hl := hm.len
  refine ⟨fun i hi => ?_, by rw [← hl]; exact in_of_srt key h' hm.srt, ?_⟩
  · have e : d'.toList[i]? = d.toList[i]? := by
      rw [h, h']
      rcases hi with hi | hi
      · rw [List.getElem?_append_left hi, List.getElem?_append_left hi]
      · rw [List.getElem?_append_right (by omega), List.getElem?_append_right (by omega), ← List.append_assoc U, List.getElem?_append_right (by omega), List.getElem?_append_right (by simp; omega), List.length_append, hl]
    rw [Array.getElem?_toList, Array.getElem?_toList] at e
    simp [Array.getElem!_eq_getD, Array.getD_eq_getD_getElem?, e]
  · rw [h, h', ← List.append_assoc U]
    exact (Alike.refl key P).append key (hm.alk.append key (Alike.refl key S))
end
end

section
/-
  Plain mathematics: of each key the first, by key. No program is spoken of here.
-/
section
variable {α : Type} (key : α → Int)

/-- the first one with that key -/
def fk (z : Int) (l : List α) : Option α := l.find? (fun x => key x == z)
/-- no key twice -/
def Ndk (l : List α) : Prop := l.Pairwise fun x y => key x ≠ key y
/-- of each key the first, by key -/
structure Firsts (l R : List α) : Prop where
  up : R.Pairwise fun x y => key x < key y
  fst : ∀ z, fk key z R = fk key z l

theorem fk_cons (z : Int) (x : α) (t : List α) : fk key z (x :: t) = if key x = z then some x else fk key z t := by
  unfold fk
  rw [List.find?_cons]
  by_cases h : key x = z
  · rw [if_pos h]; simp [h]
  · rw [if_neg h, beq_false_of_ne h]
theorem fk_append (z : Int) (a b : List α) : fk key z (a ++ b) = (fk key z a).or (fk key z b) := List.find?_append
theorem fk_some {z : Int} {l : List α} {x : α} (h : fk key z l = some x) : x ∈ l ∧ key x = z :=
  ⟨List.mem_of_find?_eq_some h, by have := List.find?_some h; exact eq_of_beq this⟩
theorem fk_none {z : Int} {l : List α} : fk key z l = none ↔ ∀ x ∈ l, key x ≠ z := by
  unfold fk
  rw [List.find?_eq_none]
  exact ⟨fun h x hx e => h x hx (by simp [e]), fun h x hx e => h x hx (eq_of_beq e)⟩
theorem fk_mem {l : List α} (h : Ndk key l) {x : α} (hx : x ∈ l) : fk key (key x) l = some x := by
  induction l with
  | nil => cases hx
  | cons a t ih =>
    rw [fk_cons]
    rcases List.mem_cons.1 hx with rfl | hx
    · rw [if_pos rfl]
    · rw [if_neg ((List.pairwise_cons.1 h).1 x hx)]
      exact ih (List.pairwise_cons.1 h).2 hx
theorem ndk_up {R : List α} (h : R.Pairwise fun x y => key x < key y) : Ndk key R := h.imp (fun h e => by omega)
theorem fk_alike {a b : List α} (h : Alike key a b) (z : Int) : fk key z a = fk key z b := by
  have e := h.2 z
  unfold fk
  rw [← List.head?_filter, ← List.head?_filter, e]

/-- one taken out of the midst -/
theorem fk_out {A B : List α} {r : α} (h : Ndk key (A ++ r :: B)) (z : Int) : fk key z (A ++ B) = if z = key r then none else fk key z (A ++ r :: B) := by
  by_cases e : z = key r
  · subst e
    rw [if_pos rfl, fk_none]
    intro x hx e
    have p := List.pairwise_append.1 h
    rcases List.mem_append.1 hx with hx | hx
    · exact p.2.2 x hx r (by simp) e
    · exact (List.pairwise_cons.1 p.2.1).1 x hx e.symm
  · rw [if_neg e, fk_append, fk_append, fk_cons, if_neg (fun h => e h.symm)]
theorem ndk_out {A B : List α} {r : α} (h : Ndk key (A ++ r :: B)) : Ndk key (A ++ B) := by
  have p := List.pairwise_append.1 h
  exact List.pairwise_append.2 ⟨p.1, (List.pairwise_cons.1 p.2.1).2, fun x hx y hy => p.2.2 x hx y (List.mem_cons_of_mem _ hy)⟩

theorem same_len : ∀ {R D : List α}, Ndk key R → Ndk key D → (∀ z, fk key z D = fk key z R) → D.length = R.length
  | [], D, _, _, h => by
    cases D with
    | nil => rfl
    | cons a t =>
      have e := h (key a)
      rw [fk_cons, if_pos rfl] at e
      cases e
  | r :: R, D, hR, hD, h => by
    have e := h (key r)
    rw [fk_cons, if_pos rfl] at e
    obtain ⟨A, B, rfl⟩ := List.append_of_mem (fk_some key e).1
    have ih := same_len (R := R) (D := A ++ B) (List.pairwise_cons.1 hR).2 (ndk_out key hD) (fun z => by
      have o := fk_out key (A := []) (B := R) (r := r) hR z
      rw [List.nil_append, List.nil_append] at o
      rw [fk_out key hD z, h z, o])
    simp at ih ⊢; omega

theorem firsts_unique : ∀ {R R' : List α}, (R.Pairwise fun x y => key x < key y) → (R'.Pairwise fun x y => key x < key y) → (∀ z, fk key z R = fk key z R') → R = R'
  | [], [], _, _, _ => rfl
  | [], y :: t, _, _, h => by have e := h (key y); rw [fk_cons, if_pos rfl] at e; cases e
  | x :: t, [], _, _, h => by have e := h (key x); rw [fk_cons, if_pos rfl] at e; cases e
  | x :: t, y :: t', hx, hy, h => by
    have px := List.pairwise_cons.1 hx
    have py := List.pairwise_cons.1 hy
    have e1 := h (key x)
    have e2 := h (key y)
    rw [fk_cons, if_pos rfl] at e1
    rw [fk_cons key (key y) y, if_pos rfl] at e2
    have k1 : key y ≤ key x := by
      rcases List.mem_cons.1 (fk_some key e1.symm).1 with hh | hh
      · rw [hh]; exact Int.le_refl _
      · exact Int.le_of_lt (py.1 x hh)
    have k2 : key x ≤ key y := by
      rcases List.mem_cons.1 (fk_some key e2).1 with hh | hh
      · rw [hh]; exact Int.le_refl _
      · exact Int.le_of_lt (px.1 y hh)
    have ke : key y = key x := by omega
    rw [fk_cons, if_pos ke] at e1
    cases e1
    rw [firsts_unique (R := t) (R' := t') px.2 py.2 (fun z => by
      have o := fk_out key (A := []) (B := t) (r := x) (ndk_up key hx) z
      have o' := fk_out key (A := []) (B := t') (r := x) (ndk_up key hy) z
      rw [List.nil_append, List.nil_append] at o o'
      rw [o, o', h z])]

/-- the least of what is left is the next by key -/
theorem least_next {D R : List α} {r b : α} (hD : Ndk key D) (hR : (r :: R).Pairwise fun x y => key x < key y) (h : ∀ z, fk key z D = fk key z (r :: R)) (hb : b ∈ D) (hm : ∀ x ∈ D, key b ≤ key x) : b = r := by
  have e := h (key r)
  rw [fk_cons, if_pos rfl] at e
  have k1 := hm r (fk_some key e).1
  have e2 := fk_mem key hD hb
  have e3 := h (key b)
  rw [e2] at e3
  have k2 : key r ≤ key b := by
    rcases List.mem_cons.1 (fk_some key e3.symm).1 with hh | hh
    · rw [hh]; exact Int.le_refl _
    · exact Int.le_of_lt ((List.pairwise_cons.1 hR).1 b hh)
  rw [show key b = key r by omega, e] at e2
  exact (Option.some.inj e2).symm
theorem least_rest {A B R : List α} {r : α} (hD : Ndk key (A ++ r :: B)) (hR : (r :: R).Pairwise fun x y => key x < key y) (h : ∀ z, fk key z (A ++ r :: B) = fk key z (r :: R)) (z : Int) : fk key z (A ++ B) = fk key z R := by
  have o := fk_out key (A := []) (B := R) (r := r) (ndk_up key hR) z
  rw [List.nil_append, List.nil_append] at o
  rw [fk_out key hD z, h z, o]

/-- what one scan gathers: of each key the first -/
theorem gather_new {D l : List α} {v : α} (hD : Ndk key D) (h : ∀ z, fk key z D = fk key z l) (hv : ∀ x ∈ D, key x ≠ key v) : Ndk key (D ++ [v]) ∧ ∀ z, fk key z (D ++ [v]) = fk key z (l ++ [v]) :=
  ⟨List.pairwise_append.2 ⟨hD, by simp, fun x hx y hy => by rw [List.mem_singleton.1 hy]; exact hv x hx⟩, fun z => by rw [fk_append, fk_append, h]⟩
theorem gather_old {D l : List α} {v x : α} (h : ∀ z, fk key z D = fk key z l) (hx : x ∈ D) (hv : key x = key v) (z : Int) : fk key z D = fk key z (l ++ [v]) := by
  rw [fk_append, h z]
  cases hl : fk key z l with
  | some y => rfl
  | none =>
    rw [← h z] at hl
    have := (fk_none key).1 hl
    rw [fk_cons, if_neg (by rw [← hv]; exact this x hx)]
    rfl

/-! ### neighbours with one key -/
def cptF : Int → List α → List α
  | _, [] => []
  | p, y :: t => if key y = p then cptF (key y) t else y :: cptF (key y) t
def cpt : List α → List α
  | [] => []
  | x :: t => x :: cptF key (key x) t
theorem cptF_spec : ∀ (t : List α) (p : Int), Srt key t → (∀ x ∈ t, p ≤ key x) → (cptF key p t).Pairwise (fun x y => key x < key y) ∧ (∀ x ∈ cptF key p t, p < key x) ∧ ∀ z, p < z → fk key z (cptF key p t) = fk key z t
  | [], p, _, _ => ⟨List.Pairwise.nil, (fun x hx => by cases hx), fun _ _ => rfl⟩
  | y :: t, p, h, hp => by
    have ph := List.pairwise_cons.1 h
    have ih := cptF_spec t (key y) ph.2 ph.1
    have hy := hp y (by simp)
    unfold cptF
    by_cases e : key y = p
    · rw [if_pos e]
      refine ⟨ih.1, fun x hx => by have := ih.2.1 x hx; omega, fun z hz => ?_⟩
      rw [ih.2.2 z (by omega), fk_cons, if_neg (by omega)]
    · rw [if_neg e]
      refine ⟨List.pairwise_cons.2 ⟨fun x hx => ih.2.1 x hx, ih.1⟩, fun x hx => ?_, fun z hz => ?_⟩
      · rcases List.mem_cons.1 hx with rfl | hx
        · omega
        · have := ih.2.1 x hx; omega
      · rw [fk_cons, fk_cons]
        by_cases ez : key y = z
        · rw [if_pos ez, if_pos ez]
        · rw [if_neg ez, if_neg ez]
          by_cases lz : key y < z
          · exact ih.2.2 z lz
          · rw [(fk_none key).2 (fun x hx => by have := ih.2.1 x hx; omega), (fk_none key).2 (fun x hx => by have := ph.1 x hx; omega)]
theorem cpt_firsts {M : List α} (h : Srt key M) : Firsts key M (cpt key M) := by
  cases M with
  | nil => exact ⟨List.Pairwise.nil, fun _ => rfl⟩
  | cons x t =>
    have ph := List.pairwise_cons.1 h
    have s := cptF_spec key t (key x) ph.2 ph.1
    refine ⟨List.pairwise_cons.2 ⟨s.2.1, s.1⟩, fun z => ?_⟩
    show fk key z (x :: cptF key (key x) t) = _
    rw [fk_cons, fk_cons]
    by_cases ez : key x = z
    · rw [if_pos ez, if_pos ez]
    · rw [if_neg ez, if_neg ez]
      by_cases lz : key x < z
      · exact s.2.2 z lz
      · rw [(fk_none key).2 (fun y hy => by have := s.2.1 y hy; omega), (fk_none key).2 (fun y hy => by have := ph.1 y hy; omega)]
end
end

section
/-
  Of each key the first, by key: there is such a list.
-/
section
open Go.Sort
variable {α : Type} [Inhabited α] (key : α → Int)
theorem firsts_exist (l : List α) : ∃ R, Firsts key l R := by
  have h := insertionSort_holds (keyLt_swo (α := α) key) l.toArray 0 l.length (Nat.zero_le _) (by simp)
  have ha := insertionSort_alike key 0 l.length l.toArray (by simp)
  generalize insertionSort (keyLt key) l.toArray 0 l.length = M at h ha
  have hsz : M.toList.length = l.length := by have := ha.1; simpa using this
  have hs : Srt key M.toList := srt_of_in key (d := M) (P := []) (M := M.toList) (S := []) (by simp) (by rw [hsz]; simpa using h.2)
  have hf := cpt_firsts key hs
  exact ⟨_, hf.up, fun z => (hf.fst z).trans (by have := fk_alike key ha z; simpa using this)⟩
end
end
end Go.Proofs.Ytmcajckpgbamnaa
