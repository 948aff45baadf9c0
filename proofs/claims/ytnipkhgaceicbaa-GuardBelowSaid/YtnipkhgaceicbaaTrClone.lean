import Derived.WalkSpells
import Derived.Test.YtnipkhgaceicbaaTrPut
/-
  slices.Clone of transactions, of statements.
-/
namespace Go.Proofs.Ytnipkhgaceicbaa
set_option maxRecDepth 100000
section
set_option linter.unusedVariables false
open Go.RowKit Go.Sort Go.Lib

theorem ownsRow_emptyE (w : World) (e : TypeId) (sz : Nat) : (w.alloc (.cells #[] e)).ownsRow w.heap.size e sz (.slice (some ⟨w.heap.size, 0, none⟩) 0 0) 0 [] :=
  World.ownsRow_made w #[] 0 (Nat.le_refl _) (by decide) (by simp)
set_option maxHeartbeats 1000000 in
theorem cloneTx_any (a : Option Addr) (c : Nat) (xs : List Ts) (w : World) (hs : TArg w (.slice a xs.length c) xs) (hl : xs.length * 48 ≤ 140737488355328) :
    Calls Try.prog 44 #[.slice a xs.length c] w fun e w' => ∃ ra rc, e = .returned (.slice ra xs.length rc) ∧ TArg w' (.slice ra xs.length rc) xs ∧ Up w w' ∧ ∀ b o, ra = some ⟨b, o, none⟩ → w.heap.size ≤ b := by
  cases a with
  | none =>
    obtain ⟨a', c', e, h1, h2, h3⟩ := id hs
    cases e
    obtain rfl := h2 rfl
    obtain rfl : xs = [] := List.eq_nil_of_length_eq_zero (by omega)
    have hnn := Lib.run_eql_slice_nil (P := Try.prog) w 39 90 none 0 0 0 0 Try.underlying39
    have HS := Lib.hid hs
    clear hs h3
    go_enter Try.func44, Try.ntmps44
    go_wp2
    go_ret
    exact ⟨_, _, rfl, HS.out, Up.refl w, fun b o e => by cases e⟩
  | some ad =>
    obtain ⟨i0, hi, hz0, hz1, hz2⟩ := info_partsT info_tsd
    have hcz : (Value.agg (tsA default)).cells.size = 5 := rfl
    generalize Value.agg (tsA default) = ZV at hz0 hcz
    have hnn := Lib.run_eql_slice_nil (P := Try.prog) w 39 90 (some ad) xs.length c 0 0 Try.underlying39
    have Hnews := Lib.hid (targ_cells (hs.up (Up.alloc (Up.refl w) (.cells #[] 90))))
    have r0 := ownsRow_emptyE w 90 5
    clear hs
    go_enter Try.func44, Try.ntmps44
    go_wp2_with (at_builtin; refine wpList_append_own_src _ rfl (.tmp 5) (.tmp 6) 39 rfl w.heap.size 90 i0 ZV 5 48 Try.underlying39 hi hz0 hz1 hz2 hcz (by decide) _ 0 _ rfl r0 (some ad) xs.length c (tsF xs) rfl (fun e => by cases e) (by rw [tsF_length]) Hnews.out (tsF_one xs) (by unfold maxLen; omega) (by omega) (by simp) ?_; intro v' w3 hown' hgrow _)
    rw [Nat.zero_add, List.nil_append] at hown'
    obtain ⟨ra, rc, rfl⟩ := row_shape hown'
    go_ret
    exact ⟨ra, rc, rfl, targ_of_own hown' rfl, Below.grown (Up.alloc (Up.refl w) _) hgrow (by simp) (fun q e => (r0.lt q e).1), fun b o e => by subst e; exact (hown'.lt b rfl).1⟩
theorem info_vsd : (Try.prog.info? 93).map (fun i => (i.zero, i.size, i.bytes)) = some (some (.agg #[.int .i64 0, .int .i64 0, .int .i64 0, .string ⟨#[]⟩, .int .i64 0, .int .i64 0, .string ⟨#[]⟩]), 7, 72) := by kernel_rfl
theorem varg_cells {W : World} {a : Option Addr} {n cap : Nat} {xs : List Vs} (h : VArg W (.slice a n cap) xs) : ∀ ad, a = some ad → ∀ j u, (vsF xs)[j]? = some u → W.cell? (ad.add j) = some u := by
  intro ad had j u hj
  have hjl : j < xs.length * 7 := by have := (List.getElem?_eq_some_iff.1 hj).1; rwa [vsF_length] at this
  obtain ⟨a', cap', e, h1, h2, h3⟩ := h
  cases e
  rcases h3 with rfl | ⟨b, off, e, hc⟩
  · simp at hjl
  · rw [had] at e
    obtain rfl := Option.some.inj e
    have ha : ((⟨b, off, none⟩ : Addr).add j) = ⟨b, off + j, none⟩ := by unfold Addr.add; split <;> simp_all
    rw [ha, hc j hjl, hj]
theorem varg_of_own {W : World} {base n c : Nat} {a : Option Addr} {D : List Vs} (h : W.ownsRow base 93 7 (.slice a n c) n (vsF D)) (hn : D.length = n) : VArg W (.slice a n c) D := by
  subst hn
  rcases h.2 with ⟨he, h0⟩ | ⟨g, cap, cur, he, _, hg, hc, _, hs, ht⟩
  · simp only [Value.slice.injEq] at he
    obtain ⟨rfl, _, rfl⟩ := he
    exact ⟨none, 0, rfl, Nat.le_of_eq h0, fun _ => rfl, .inl (List.eq_nil_of_length_eq_zero h0)⟩
  · cases he
    refine ⟨_, c, rfl, hc, (fun e => by cases e), .inr ⟨g, 0, rfl, fun j hj => ?_⟩⟩
    rw [Nat.zero_add, cell_of_row _ _ j _ _ _ hg, ← ht, List.getElem?_take_of_lt (by omega), Array.getElem?_toList]
set_option maxHeartbeats 1000000 in
theorem cloneVs_any (a : Option Addr) (c : Nat) (xs : List Vs) (w : World) (hs : VArg w (.slice a xs.length c) xs) (hl : xs.length * 72 ≤ 140737488355328) :
    Calls Try.prog 45 #[.slice a xs.length c] w fun e w' => ∃ ra rc, e = .returned (.slice ra xs.length rc) ∧ VArg w' (.slice ra xs.length rc) xs ∧ Up w w' ∧ ∀ b o, ra = some ⟨b, o, none⟩ → w.heap.size ≤ b := by
  cases a with
  | none =>
    obtain ⟨a', c', e, h1, h2, h3⟩ := id hs
    cases e
    obtain rfl := h2 rfl
    obtain rfl : xs = [] := List.eq_nil_of_length_eq_zero (by omega)
    have hnn := Lib.run_eql_slice_nil (P := Try.prog) w 36 93 none 0 0 0 0 Try.underlying36
    have HS := Lib.hid hs
    clear hs h3
    go_enter Try.func45, Try.ntmps45
    go_wp2
    go_ret
    exact ⟨_, _, rfl, HS.out, Up.refl w, fun b o e => by cases e⟩
  | some ad =>
    obtain ⟨i0, hi, hz0, hz1, hz2⟩ := info_partsT info_vsd
    have hcz : (Value.agg #[.int .i64 0, .int .i64 0, .int .i64 0, .string ⟨#[]⟩, .int .i64 0, .int .i64 0, .string ⟨#[]⟩]).cells.size = 7 := rfl
    generalize Value.agg #[.int .i64 0, .int .i64 0, .int .i64 0, .string ⟨#[]⟩, .int .i64 0, .int .i64 0, .string ⟨#[]⟩] = ZV at hz0 hcz
    have hnn := Lib.run_eql_slice_nil (P := Try.prog) w 36 93 (some ad) xs.length c 0 0 Try.underlying36
    have Hnews := Lib.hid (varg_cells (hs.up (Up.alloc (Up.refl w) (.cells #[] 93))))
    have r0 := ownsRow_emptyE w 93 7
    clear hs
    go_enter Try.func45, Try.ntmps45
    go_wp2_with (at_builtin; refine wpList_append_own_src _ rfl (.tmp 5) (.tmp 6) 36 rfl w.heap.size 93 i0 ZV 7 72 Try.underlying36 hi hz0 hz1 hz2 hcz (by decide) _ 0 _ rfl r0 (some ad) xs.length c (vsF xs) rfl (fun e => by cases e) (by rw [vsF_length]) Hnews.out (vsF_one xs) (by unfold maxLen; omega) (by omega) (by simp) ?_; intro v' w3 hown' hgrow _)
    rw [Nat.zero_add, List.nil_append] at hown'
    obtain ⟨ra, rc, rfl⟩ := row_shape hown'
    go_ret
    exact ⟨ra, rc, rfl, varg_of_own hown' rfl, Below.grown (Up.alloc (Up.refl w) _) hgrow (by simp) (fun q e => (r0.lt q e).1), fun b o e => by subst e; exact (hown'.lt b rfl).1⟩
/-- a list stays where other blocks are written -/
theorem targ_but {S : Nat → Prop} {W W' : World} {a : Option Addr} {n cap : Nat} {xs : List Ts} (h : TArg W (.slice a n cap) xs) (k : KeptBut S W W') (hb : ∀ b o, a = some ⟨b, o, none⟩ → ¬ S b) : TArg W' (.slice a n cap) xs := by
  obtain ⟨a', cap', e, h1, h2, h3⟩ := h
  cases e
  refine ⟨a, cap, rfl, h1, h2, h3.imp id ?_⟩
  rintro ⟨b, off, h5, h6⟩
  refine ⟨b, off, h5, fun i x hx j hj => ?_⟩
  have hc := h6 i x hx j hj
  rw [← hc]
  exact World.cell?_of_block (a := ⟨b, off + (i * 5 + j), none⟩) (k.block b (World.block_lt_of_cell? W _ hc) (hb b off h5))
theorem varg_but {S : Nat → Prop} {W W' : World} {a : Option Addr} {n cap : Nat} {xs : List Vs} (h : VArg W (.slice a n cap) xs) (k : KeptBut S W W') (hb : ∀ b o, a = some ⟨b, o, none⟩ → ¬ S b) : VArg W' (.slice a n cap) xs := by
  obtain ⟨a', cap', e, h1, h2, h3⟩ := h
  cases e
  refine ⟨a, cap, rfl, h1, h2, h3.imp id ?_⟩
  rintro ⟨b, off, h5, h6⟩
  refine ⟨b, off, h5, fun j hj => ?_⟩
  have hc := h6 j hj
  rw [← hc]
  rw [List.getElem?_eq_getElem (by rw [vsF_length]; exact hj)] at hc
  exact World.cell?_of_block (a := ⟨b, off + j, none⟩) (k.block b (World.block_lt_of_cell? W _ hc) (hb b off h5))
end
end Go.Proofs.Ytnipkhgaceicbaa
