import Derived.Test.YtkelbilcjgndmaaBnRef
/-
  No balance below 0, all together 1000: mathematics. The page's example.
-/
namespace Go.Proofs.Ytkelbilcjgndmaa
set_option maxRecDepth 100000
section
set_option linter.unusedVariables false
open Go.RowKit Go.Sort Go.Lib

/-- all balances together -/
def tot : List Ac → Int
  | [] => 0
  | x :: t => x.1 + tot t
theorem tot_set : ∀ (ac : List Ac) (i : Nat) (x y : Ac), ac[i]? = some x → tot (ac.set i y) = tot ac - x.1 + y.1
  | [], i, x, y, h => by simp at h
  | z :: t, 0, x, y, h => by
    obtain rfl : z = x := by simpa using h
    show y.1 + tot t = z.1 + tot t - z.1 + y.1
    omega
  | z :: t, i + 1, x, y, h => by
    have := tot_set t i x y (by simpa using h)
    show z.1 + tot (t.set i y) = z.1 + tot t - x.1 + y.1
    omega
theorem tot_nonneg : ∀ (ac : List Ac), (∀ x ∈ ac, 0 ≤ x.1) → 0 ≤ tot ac
  | [], _ => Int.le_refl _
  | z :: t, h => by
    have h1 := tot_nonneg t fun x hx => h x (List.mem_cons_of_mem _ hx)
    have h2 := h z (List.mem_cons_self ..)
    show 0 ≤ z.1 + tot t
    omega
theorem tot_mem : ∀ (ac : List Ac), (∀ x ∈ ac, 0 ≤ x.1) → ∀ x ∈ ac, x.1 ≤ tot ac
  | [], _, x, hx => by simp at hx
  | z :: t, h, x, hx => by
    have h1 := tot_nonneg t fun x hx => h x (List.mem_cons_of_mem _ hx)
    have h2 := h z (List.mem_cons_self ..)
    rcases List.mem_cons.1 hx with rfl | hx
    · show x.1 ≤ x.1 + tot t
      omega
    · have := tot_mem t (fun x hx => h x (List.mem_cons_of_mem _ hx)) x hx
      show x.1 ≤ z.1 + tot t
      omega
theorem wrap_in {n : Int} (h1 : -9223372036854775808 ≤ n) (h2 : n ≤ 9223372036854775807) : wrap64 n = n := by unfold wrap64; omega
theorem acSum_tot : ∀ (ac : List Ac) (s : Int), (∀ x ∈ ac, 0 ≤ x.1) → 0 ≤ s → s + tot ac ≤ 1000 → ac.foldl (fun s x => wrap64 (s + x.1)) s = s + tot ac
  | [], s, _, _, _ => by simp [tot]
  | z :: t, s, h, h0, h1 => by
    have h2 := tot_nonneg t fun x hx => h x (List.mem_cons_of_mem _ hx)
    have h3 := h z (List.mem_cons_self ..)
    have h4 : s + (z.1 + tot t) ≤ 1000 := h1
    have hw : wrap64 (s + z.1) = s + z.1 := wrap_in (by omega) (by omega)
    have := acSum_tot t (s + z.1) (fun x hx => h x (List.mem_cons_of_mem _ hx)) (by omega) (by omega)
    show t.foldl _ (wrap64 (s + z.1)) = s + (z.1 + tot t)
    rw [hw, this]
    omega
structure Good (ac : List Ac) : Prop where
  each : ∀ x ∈ ac, 0 ≤ x.1 ∧ 0 ≤ x.2 ∧ x.2 ≤ 1099511627777
  all : tot ac = 1000
  four : ac.length = 4
theorem Good.genesis : Good acG := ⟨by decide, by decide, rfl⟩
theorem Good.pos {ac : List Ac} (h : Good ac) : ∀ x ∈ ac, 0 ≤ x.1 := fun x hx => (h.each x hx).1
theorem Good.le {ac : List Ac} (h : Good ac) : ∀ x ∈ ac, x.1 ≤ 1000 := fun x hx => by
  have := tot_mem ac h.pos x hx
  rw [h.all] at this
  exact this
theorem Good.sum {ac : List Ac} (h : Good ac) : acSum ac = 1000 := by
  unfold acSum
  rw [acSum_tot ac 0 h.pos (Int.le_refl _) (by rw [h.all]; omega), h.all]; rfl
theorem mem_set {ac : List Ac} {i : Nat} {y x : Ac} (h : x ∈ ac.set i y) : x ∈ ac ∨ x = y := List.mem_or_eq_of_mem_set h
theorem Good.next {ac : List Ac} (h : Good ac) (x : Ts) : Good (acApply ac x).1 := by
  unfold acApply
  by_cases h1 : tsE x ≠ 0 ∨ (ac.length : Int) ≤ x.1.F ∨ (ac.length : Int) ≤ x.1.T
  · rw [if_pos h1]; exact h
  rw [if_neg h1]
  by_cases h2 : x.1.N ≠ (acAt ac x.1.F).2
  · rw [if_pos h2]; exact h
  rw [if_neg h2]
  have hE : tsE x = 0 := by
    by_cases e : tsE x = 0
    · exact e
    · exact absurd (.inl e) h1
  have hF : ¬ (ac.length : Int) ≤ x.1.F := fun e => h1 (.inr (.inl e))
  have hT : ¬ (ac.length : Int) ≤ x.1.T := fun e => h1 (.inr (.inr e))
  obtain ⟨⟨f0, f3⟩, ⟨t0, t3⟩, hne, ⟨a1, a2⟩, n0, n1⟩ := tsE_zero hE
  have hN : x.1.N = (acAt ac x.1.F).2 := by
    by_cases e : x.1.N = (acAt ac x.1.F).2
    · exact e
    · exact absurd e h2
  clear h1 h2 hE
  obtain ⟨f, hf⟩ : ∃ f : Nat, x.1.F = (f : Int) := ⟨x.1.F.toNat, by omega⟩
  obtain ⟨s, hs⟩ : ∃ s : Nat, x.1.T = (s : Int) := ⟨x.1.T.toNat, by omega⟩
  rw [hf] at hF hN hne ⊢
  rw [hs] at hT hne ⊢
  have hfl : f < ac.length := by omega
  have hsl : s < ac.length := by omega
  have hfs : f ≠ s := by omega
  have haf := acAt_of hfl
  have has := acAt_of hsl
  obtain ⟨⟨B, M⟩, hbm⟩ : ∃ p, acAt ac (f : Int) = p := ⟨_, rfl⟩
  obtain ⟨⟨B2, M2⟩, hbm2⟩ : ∃ p, acAt ac (s : Int) = p := ⟨_, rfl⟩
  rw [hbm] at haf hN ⊢
  rw [hbm2] at has
  have e1 := h.each _ (List.mem_of_getElem? haf)
  have e2 := h.each _ (List.mem_of_getElem? has)
  have l1 := h.le _ (List.mem_of_getElem? haf)
  have l2 := h.le _ (List.mem_of_getElem? has)
  simp only at e1 e2 l1 l2 hN
  have hw : wrap64 (M + 1) = M + 1 := wrap_in (by omega) (by omega)
  simp only [show ((f : Int)).toNat = f by omega, show ((s : Int)).toNat = s by omega, hw]
  have ho1 : Good (ac.set f (B, M + 1)) := by
    refine ⟨fun y hy => ?_, ?_, by rw [List.length_set]; exact h.four⟩
    · rcases mem_set hy with hy | rfl
      · exact h.each y hy
      · exact ⟨e1.1, by simp only; omega, by simp only; omega⟩
    · rw [tot_set ac f (B, M) _ haf, h.all]; simp only; omega
  have hf1 : (ac.set f (B, M + 1))[f]? = some (B, M + 1) := List.getElem?_set_self hfl
  have hs1 : (ac.set f (B, M + 1))[s]? = some (B2, M2) := by rw [List.getElem?_set_ne hfs]; exact has
  have hc1 : (ac.set f (B, M + 1)).length = ac.length := List.length_set
  generalize ac.set f (B, M + 1) = o1 at *
  split
  · exact ho1
  · rename_i hBA
    have ha1 : acAt o1 (f : Int) = (B, M + 1) := by
      have := acAt_of (ac := o1) (j := f) (by omega)
      rw [hf1] at this
      exact (Option.some.inj this).symm
    have hw2 : wrap64 (B - x.1.A) = B - x.1.A := wrap_in (by omega) (by omega)
    simp only [ha1, hw2]
    have hs2 : (o1.set f (B - x.1.A, M + 1))[s]? = some (B2, M2) := by rw [List.getElem?_set_ne hfs]; exact hs1
    have hc2 : (o1.set f (B - x.1.A, M + 1)).length = ac.length := by rw [List.length_set, hc1]
    have ht2 : tot (o1.set f (B - x.1.A, M + 1)) = 1000 - x.1.A := by rw [tot_set o1 f _ _ hf1, ho1.all]; simp only; omega
    have hm2 : ∀ y ∈ o1.set f (B - x.1.A, M + 1), 0 ≤ y.1 ∧ 0 ≤ y.2 ∧ y.2 ≤ 1099511627777 := fun y hy => by
      rcases mem_set hy with hy | rfl
      · exact ho1.each y hy
      · exact ⟨by simp only; omega, by simp only; omega, by simp only; omega⟩
    generalize o1.set f (B - x.1.A, M + 1) = o2 at *
    have ha2 : acAt o2 (s : Int) = (B2, M2) := by
      have := acAt_of (ac := o2) (j := s) (by omega)
      rw [hs2] at this
      exact (Option.some.inj this).symm
    have hw3 : wrap64 (B2 + x.1.A) = B2 + x.1.A := wrap_in (by omega) (by omega)
    simp only [ha2, hw3]
    refine ⟨fun y hy => ?_, ?_, by rw [List.length_set, hc2]; exact h.four⟩
    · rcases mem_set hy with hy | rfl
      · exact hm2 y hy
      · exact ⟨by simp only; omega, e2.2.1, e2.2.2⟩
    · rw [tot_set o2 s _ _ hs2, ht2]; simp only; omega
theorem Good.fold {ac : List Ac} (h : Good ac) : ∀ (xs : List Ts), Good (foldA ac xs) := by
  intro xs
  induction xs generalizing ac with
  | nil => exact h
  | cons x t ih => exact ih (h.next x)
theorem bnAlive_any (w : World) : Calls Try.prog 14 #[] w fun e w' => e = .returned (.bool true) ∧ Up w w' := by
  have Hg := Lib.hid (bnGen_any w)
  go_enter Try.func14, Try.ntmps14
  go_wp2_with fail
  with_reducible refine Calls.mono Hg.out ?_
  rintro e w1 ⟨rfl, hR, hU⟩
  have Ht := Lib.hid (bnTotal_any _ acG w1 (hR.arg (cap := 4) (Nat.le_refl _)) (by decide))
  rw [Good.genesis.sum] at Ht
  have HU := Lib.hid hU
  change Hid (Calls _ _ #[.slice (some ⟨w.heap.size, 0, none⟩) 4 4] _ _) at Ht
  clear hR hU Hg
  go_wp2_with fail
  with_reducible refine Calls.mono Ht.out ?_
  rintro e2 w2 ⟨rfl, hU2⟩
  have HU2 := Lib.hid (Up.trans HU.out hU2)
  clear hU2
  go_wp2
  go_ret
  exact ⟨rfl, HU2.out⟩
end
end Go.Proofs.Ytkelbilcjgndmaa
