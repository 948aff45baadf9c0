import Derived.Test.YtnnjoeppcbbblaaStab
namespace Go.Proofs.Ytnnjoeppcbbblaa
/-
  Plain mathematics: of each key the first, by key. No program is spoken of here.
-/
section
variable {α : Type} (key : α → Int)

/-- the first one with that key -/
def fk (z : Int) (l : List α) : Option α := l.find? (fun x => key x == z)
/-- no key twice -/
def Ndk (l : List α) : Prop := l.Pairwise fun x y => key x ≠ key y
/-- of each key the first, by key -/
structure Firsts (l R : List α) : Prop where
  up : R.Pairwise fun x y => key x < key y
  fst : ∀ z, fk key z R = fk key z l

theorem fk_cons (z : Int) (x : α) (t : List α) : fk key z (x :: t) = if key x = z then some x else fk key z t := by
  unfold fk
  rw [List.find?_cons]
  by_cases h : key x = z
  · rw [if_pos h]; simp [h]
  · rw [if_neg h, beq_false_of_ne h]
theorem fk_append (z : Int) (a b : List α) : fk key z (a ++ b) = (fk key z a).or (fk key z b) := List.find?_append
theorem fk_some {z : Int} {l : List α} {x : α} (h : fk key z l = some x) : x ∈ l ∧ key x = z :=
  ⟨List.mem_of_find?_eq_some h, by have := List.find?_some h; exact eq_of_beq this⟩
theorem fk_none {z : Int} {l : List α} : fk key z l = none ↔ ∀ x ∈ l, key x ≠ z := by
  unfold fk
  rw [List.find?_eq_none]
  exact ⟨fun h x hx e => h x hx (by simp [e]), fun h x hx e => h x hx (eq_of_beq e)⟩
theorem fk_mem {l : List α} (h : Ndk key l) {x : α} (hx : x ∈ l) : fk key (key x) l = some x := by
  induction l with
  | nil => cases hx
  | cons a t ih =>
    rw [fk_cons]
    rcases List.mem_cons.1 hx with rfl | hx
    · rw [if_pos rfl]
    · rw [if_neg ((List.pairwise_cons.1 h).1 x hx)]
      exact ih (List.pairwise_cons.1 h).2 hx
theorem ndk_up {R : List α} (h : R.Pairwise fun x y => key x < key y) : Ndk key R := h.imp (fun h e => by omega)
theorem fk_alike {a b : List α} (h : Alike key a b) (z : Int) : fk key z a = fk key z b := by
  have e := h.2 z
  unfold fk
  rw [← List.head?_filter, ← List.head?_filter, e]

/-- one taken out of the midst -/
theorem fk_out {A B : List α} {r : α} (h : Ndk key (A ++ r :: B)) (z : Int) : fk key z (A ++ B) = if z = key r then none else fk key z (A ++ r :: B) := by
  by_cases e : z = key r
  · subst e
    rw [if_pos rfl, fk_none]
    intro x hx e
    have p := List.pairwise_append.1 h
    rcases List.mem_append.1 hx with hx | hx
    · exact p.2.2 x hx r (by simp) e
    · exact (List.pairwise_cons.1 p.2.1).1 x hx e.symm
  · rw [if_neg e, fk_append, fk_append, fk_cons, if_neg (fun h => e h.symm)]
theorem ndk_out {A B : List α} {r : α} (h : Ndk key (A ++ r :: B)) : Ndk key (A ++ B) := by
  have p := List.pairwise_append.1 h
  exact List.pairwise_append.2 ⟨p.1, (List.pairwise_cons.1 p.2.1).2, fun x hx y hy => p.2.2 x hx y (List.mem_cons_of_mem _ hy)⟩

theorem same_len : ∀ {R D : List α}, Ndk key R → Ndk key D → (∀ z, fk key z D = fk key z R) → D.length = R.length
  | [], D, _, _, h => by
    cases D with
    | nil => rfl
    | cons a t =>
      have e := h (key a)
      rw [fk_cons, if_pos rfl] at e
      cases e
  | r :: R, D, hR, hD, h => by
    have e := h (key r)
    rw [fk_cons, if_pos rfl] at e
    obtain ⟨A, B, rfl⟩ := List.append_of_mem (fk_some key e).1
    have ih := same_len (R := R) (D := A ++ B) (List.pairwise_cons.1 hR).2 (ndk_out key hD) (fun z => by
      have o := fk_out key (A := []) (B := R) (r := r) hR z
      rw [List.nil_append, List.nil_append] at o
      rw [fk_out key hD z, h z, o])
    simp at ih ⊢; omega

theorem firsts_unique : ∀ {R R' : List α}, (R.Pairwise fun x y => key x < key y) → (R'.Pairwise fun x y => key x < key y) → (∀ z, fk key z R = fk key z R') → R = R'
  | [], [], _, _, _ => rfl
  | [], y :: t, _, _, h => by have e := h (key y); rw [fk_cons, if_pos rfl] at e; cases e
  | x :: t, [], _, _, h => by have e := h (key x); rw [fk_cons, if_pos rfl] at e; cases e
  | x :: t, y :: t', hx, hy, h => by
    have px := List.pairwise_cons.1 hx
    have py := List.pairwise_cons.1 hy
    have e1 := h (key x)
    have e2 := h (key y)
    rw [fk_cons, if_pos rfl] at e1
    rw [fk_cons key (key y) y, if_pos rfl] at e2
    have k1 : key y ≤ key x := by
      rcases List.mem_cons.1 (fk_some key e1.symm).1 with hh | hh
      · rw [hh]; exact Int.le_refl _
      · exact Int.le_of_lt (py.1 x hh)
    have k2 : key x ≤ key y := by
      rcases List.mem_cons.1 (fk_some key e2).1 with hh | hh
      · rw [hh]; exact Int.le_refl _
      · exact Int.le_of_lt (px.1 y hh)
    have ke : key y = key x := by omega
    rw [fk_cons, if_pos ke] at e1
    cases e1
    rw [firsts_unique (R := t) (R' := t') px.2 py.2 (fun z => by
      have o := fk_out key (A := []) (B := t) (r := x) (ndk_up key hx) z
      have o' := fk_out key (A := []) (B := t') (r := x) (ndk_up key hy) z
      rw [List.nil_append, List.nil_append] at o o'
      rw [o, o', h z])]

/-- the least of what is left is the next by key -/
theorem least_next {D R : List α} {r b : α} (hD : Ndk key D) (hR : (r :: R).Pairwise fun x y => key x < key y) (h : ∀ z, fk key z D = fk key z (r :: R)) (hb : b ∈ D) (hm : ∀ x ∈ D, key b ≤ key x) : b = r := by
  have e := h (key r)
  rw [fk_cons, if_pos rfl] at e
  have k1 := hm r (fk_some key e).1
  have e2 := fk_mem key hD hb
  have e3 := h (key b)
  rw [e2] at e3
  have k2 : key r ≤ key b := by
    rcases List.mem_cons.1 (fk_some key e3.symm).1 with hh | hh
    · rw [hh]; exact Int.le_refl _
    · exact Int.le_of_lt ((List.pairwise_cons.1 hR).1 b hh)
  rw [show key b = key r by omega, e] at e2
  exact (Option.some.inj e2).symm
theorem least_rest {A B R : List α} {r : α} (hD : Ndk key (A ++ r :: B)) (hR : (r :: R).Pairwise fun x y => key x < key y) (h : ∀ z, fk key z (A ++ r :: B) = fk key z (r :: R)) (z : Int) : fk key z (A ++ B) = fk key z R := by
  have o := fk_out key (A := []) (B := R) (r := r) (ndk_up key hR) z
  rw [List.nil_append, List.nil_append] at o
  rw [fk_out key hD z, h z, o]

/-- what one scan gathers: of each key the first -/
theorem gather_new {D l : List α} {v : α} (hD : Ndk key D) (h : ∀ z, fk key z D = fk key z l) (hv : ∀ x ∈ D, key x ≠ key v) : Ndk key (D ++ [v]) ∧ ∀ z, fk key z (D ++ [v]) = fk key z (l ++ [v]) :=
  ⟨List.pairwise_append.2 ⟨hD, by simp, fun x hx y hy => by rw [List.mem_singleton.1 hy]; exact hv x hx⟩, fun z => by rw [fk_append, fk_append, h]⟩
theorem gather_old {D l : List α} {v x : α} (h : ∀ z, fk key z D = fk key z l) (hx : x ∈ D) (hv : key x = key v) (z : Int) : fk key z D = fk key z (l ++ [v]) := by
  rw [fk_append, h z]
  cases hl : fk key z l with
  | some y => rfl
  | none =>
    rw [← h z] at hl
    have := (fk_none key).1 hl
    rw [fk_cons, if_neg (by rw [← hv]; exact this x hx)]
    rfl

/-! ### neighbours with one key -/
def cptF : Int → List α → List α
  | _, [] => []
  | p, y :: t => if key y = p then cptF (key y) t else y :: cptF (key y) t
def cpt : List α → List α
  | [] => []
  | x :: t => x :: cptF key (key x) t
theorem cptF_spec : ∀ (t : List α) (p : Int), Srt key t → (∀ x ∈ t, p ≤ key x) → (cptF key p t).Pairwise (fun x y => key x < key y) ∧ (∀ x ∈ cptF key p t, p < key x) ∧ ∀ z, p < z → fk key z (cptF key p t) = fk key z t
  | [], p, _, _ => ⟨List.Pairwise.nil, (fun x hx => by cases hx), fun _ _ => rfl⟩
  | y :: t, p, h, hp => by
    have ph := List.pairwise_cons.1 h
    have ih := cptF_spec t (key y) ph.2 ph.1
    have hy := hp y (by simp)
    unfold cptF
    by_cases e : key y = p
    · rw [if_pos e]
      refine ⟨ih.1, fun x hx => by have := ih.2.1 x hx; omega, fun z hz => ?_⟩
      rw [ih.2.2 z (by omega), fk_cons, if_neg (by omega)]
    · rw [if_neg e]
      refine ⟨List.pairwise_cons.2 ⟨fun x hx => ih.2.1 x hx, ih.1⟩, fun x hx => ?_, fun z hz => ?_⟩
      · rcases List.mem_cons.1 hx with rfl | hx
        · omega
        · have := ih.2.1 x hx; omega
      · rw [fk_cons, fk_cons]
        by_cases ez : key y = z
        · rw [if_pos ez, if_pos ez]
        · rw [if_neg ez, if_neg ez]
          by_cases lz : key y < z
          · exact ih.2.2 z lz
          · rw [(fk_none key).2 (fun x hx => by have := ih.2.1 x hx; omega), (fk_none key).2 (fun x hx => by have := ph.1 x hx; omega)]
theorem cpt_firsts {M : List α} (h : Srt key M) : Firsts key M (cpt key M) := by
  cases M with
  | nil => exact ⟨List.Pairwise.nil, fun _ => rfl⟩
  | cons x t =>
    have ph := List.pairwise_cons.1 h
    have s := cptF_spec key t (key x) ph.2 ph.1
    refine ⟨List.pairwise_cons.2 ⟨s.2.1, s.1⟩, fun z => ?_⟩
    show fk key z (x :: cptF key (key x) t) = _
    rw [fk_cons, fk_cons]
    by_cases ez : key x = z
    · rw [if_pos ez, if_pos ez]
    · rw [if_neg ez, if_neg ez]
      by_cases lz : key x < z
      · exact s.2.2 z lz
      · rw [(fk_none key).2 (fun y hy => by have := s.2.1 y hy; omega), (fk_none key).2 (fun y hy => by have := ph.1 y hy; omega)]
end
end Go.Proofs.Ytnnjoeppcbbblaa
