import Derived.Test.YtgmicppfiapilaaDoorPkDone
import Derived.Test.YtgmicppfiapilaaDoorOctGet
/-
  pack: the reader.
-/
namespace Go.Proofs.YtgmicppfiapilaaDoor
set_option maxRecDepth 100000
section
set_option linter.unusedVariables false
open Go.RowKit

/-- THE READER in block g: its error, and what is left. -/
def Rd (W : World) (g : Nat) (l : Value) (E : Int) (zs : List Int) : Prop :=
  W.heap[g]? = some (.cells #[.bool true, l, .int .i64 E] 63 (0, 0)) ∧ Ints .u8 W l zs ∧ (∀ k, l.ownBlock = some k → k ≠ g)
theorem Rd.up {W W' : World} {g : Nat} {l : Value} {E : Int} {zs : List Int} (h : Rd W g l E zs) (hu : Up W W') : Rd W' g l E zs := ⟨(hu.block g (lt_of_block h.1)).trans h.1, h.2.1.up hu, h.2.2⟩
theorem Ints.keptBut {S : Nat → Prop} {k : IntKind} {W W' : World} {v : Value} {zs : List Int} (h : Ints k W v zs) (hk : KeptBut S W W') (hS : ∀ b, v.ownBlock = some b → ¬ S b) : Ints k W' v zs := by
  obtain ⟨a, cap, rfl, h2, h3, h4⟩ := h
  refine ⟨a, cap, rfl, h2, h3, h4.imp id ?_⟩
  rintro ⟨b, off, rfl, hc⟩
  exact ⟨b, off, rfl, fun j hj => by
    have := hc j hj
    exact (World.cell?_of_block (a := ⟨b, off + j, none⟩) (hk.block b (World.block_lt_of_cell? W _ this) (hS b rfl))).trans this⟩
theorem Ints.grownAt {k : IntKind} {W W' : World} {v : Value} {zs : List Int} {g : Nat} (h : Ints k W v zs) (hg : W.grownBy W' (some g)) (hS : ∀ b, v.ownBlock = some b → b ≠ g) : Ints k W' v zs :=
  h.keptBut (S := fun x => x = g) (KeptBut.of_grown hg (fun k e => by cases e; rfl)) hS

/-- s[:k:k] -/
theorem cut_pre3 (a : Option Addr) (n c k : Nat) (hk : k ≤ c) (w : World) : (Instr.sliceAt 38 (.slice a n c) none (some (.int .i64 k)) (some (.int .i64 k))).run Tryd.prog w = .ok (.slice a k k) w := by
  have h1 : (Instr.slice 38 (.slice a n c) none (some (.int .i64 k)) (some (.int .i64 k))).run Tryd.prog w = .ok (.slice a k k) w := by
    have hs : (sizeOf 5).run Tryd.prog w = .ok 1 w := by simp [go_sem]
    simp [Instr.slice, run_underlying (P := Tryd.prog) (w := w) Tryd.underlying38, Instr.sliceBounds, run_sliceBound, go_sem, hk]
  simpa [Instr.sliceAt, run_underlying (P := Tryd.prog) (w := w) Tryd.underlying38] using h1
/-- s[k:] -/
theorem cut_suf (a : Option Addr) (n c k : Nat) (hk : k ≤ n) (hn : n ≤ c) : ∃ a' c', (∀ w : World, (Instr.sliceAt 38 (.slice a n c) (some (.int .i64 k)) none none).run Tryd.prog w = .ok (.slice a' (n - k) c') w) ∧
    (∀ (W : World) (zs : List Int), Ints .u8 W (.slice a n c) zs → Ints .u8 W (.slice a' (n - k) c') (zs.drop k)) ∧ (a'.map (·.block) = a.map (·.block)) := by
  have hrun : ∀ w : World, (Instr.sliceAt 38 (.slice a n c) (some (.int .i64 k)) none none).run Tryd.prog w = .ok (.slice (if c = k then a else a.map (·.add k)) (n - k) (c - k)) w := by
    intro w
    have h1 : (Instr.slice 38 (.slice a n c) (some (.int .i64 k)) none none).run Tryd.prog w = .ok (.slice (if c = k then a else a.map (·.add k)) (n - k) (c - k)) w := by
      have hs : (sizeOf 5).run Tryd.prog w = .ok 1 w := by simp [go_sem]
      have h0 : (k : Int) ≤ (n : Int) := by omega
      simp [Instr.slice, run_underlying (P := Tryd.prog) (w := w) Tryd.underlying38, Instr.sliceBounds, run_sliceBound, go_sem, hk]
    simpa [Instr.sliceAt, run_underlying (P := Tryd.prog) (w := w) Tryd.underlying38] using h1
  refine ⟨_, _, hrun, ?_, ?_⟩
  · intro W zs h
    obtain ⟨a2, c2, e, h2, h3, h4⟩ := h
    simp only [Value.slice.injEq] at e
    obtain ⟨rfl, rfl, rfl⟩ := e
    rcases h4 with rfl | ⟨b, off, rfl, hc⟩
    · simp only [List.length_nil, List.drop_nil, Nat.zero_sub]
      refine Ints.empty fun e => ?_
      split at e
      · have := h3 e; omega
      · have := h3 (by simpa using e); omega
    · by_cases hck : c = k
      · rw [if_pos hck, show zs.length - k = 0 from by omega, List.drop_eq_nil_of_le (by omega)]
        exact Ints.empty (fun e => by cases e)
      · rw [if_neg hck]
        have h0 : Ints .u8 W (.slice (some ⟨b, off, none⟩) zs.length c) zs := ⟨_, _, rfl, h2, h3, .inr ⟨b, off, rfl, hc⟩⟩
        have h5 := h0.suf k hk
        have ea : (⟨b, off, none⟩ : Addr).add k = ⟨b, off + k, none⟩ := by unfold Addr.add; split <;> simp_all
        rw [← ea] at h5
        exact h5
  · split
    · rfl
    · cases a with
      | none => rfl
      | some ad =>
        simp only [Option.map_some]
        unfold Addr.add
        split <;> rfl

/-- s[p:q] -/
theorem cut_mid (a : Option Addr) (n c p x : Nat) (hk : p + x ≤ n) (hn : n ≤ c) : ∃ a' c', (∀ w : World, (Instr.sliceAt 38 (.slice a n c) (some (.int .i64 p)) (some (.int .i64 ((p : Int) + (x : Int)))) none).run Tryd.prog w = .ok (.slice a' x c') w) ∧
    (∀ (W : World) (zs : List Int), Ints .u8 W (.slice a n c) zs → Ints .u8 W (.slice a' x c') ((zs.drop p).take x)) := by
  have hrun : ∀ w : World, (Instr.sliceAt 38 (.slice a n c) (some (.int .i64 p)) (some (.int .i64 ((p : Int) + (x : Int)))) none).run Tryd.prog w = .ok (.slice (if c = p then a else a.map (·.add p)) x (c - p)) w := by
    intro w
    have h1 : (Instr.slice 38 (.slice a n c) (some (.int .i64 p)) (some (.int .i64 ((p : Int) + (x : Int)))) none).run Tryd.prog w = .ok (.slice (if c = p then a else a.map (·.add p)) x (c - p)) w := by
      have hs : (sizeOf 5).run Tryd.prog w = .ok 1 w := by simp [go_sem]
      have h0 : (0 : Int) ≤ (p : Int) + (x : Int) := by omega
      have h2 : (p : Int) + (x : Int) ≤ (c : Int) := by omega
      have h3 : ((p : Int) + (x : Int)).toNat = p + x := by omega
      have e1 := run_sliceBound (P := Tryd.prog) (w := w) .i64 ((p : Int) + (x : Int)) c .sliceAcap h0 h2
      simp [Instr.slice, run_underlying (P := Tryd.prog) (w := w) Tryd.underlying38, Instr.sliceBounds, e1, h3, go_sem]
    simpa [Instr.sliceAt, run_underlying (P := Tryd.prog) (w := w) Tryd.underlying38] using h1
  refine ⟨_, _, hrun, fun W zs h => ?_⟩
  obtain ⟨a2, c2, e, h2, h3, h4⟩ := h
  simp only [Value.slice.injEq] at e
  obtain ⟨rfl, rfl, rfl⟩ := e
  have hcut : ∀ (a9 : Option Addr) (c9 : Nat), x ≤ c9 → (a9 = none → c9 = 0) → Ints .u8 W (.slice a9 (zs.length - p) c9) (zs.drop p) → Ints .u8 W (.slice a9 x c9) ((zs.drop p).take x) := fun a9 c9 _ _ hi => hi.pre x (by rw [List.length_drop]; omega)
  rcases h4 with rfl | ⟨b, off, rfl, hc⟩
  · obtain rfl : x = 0 := by simp at hk; omega
    simp only [List.drop_nil, List.take_nil]
    refine Ints.empty fun e => ?_
    split at e
    · have := h3 e; omega
    · have := h3 (by simpa using e); omega
  · by_cases hck : c = p
    · obtain rfl : x = 0 := by omega
      rw [if_pos hck, List.take_zero]
      exact Ints.empty (fun e => by cases e)
    · rw [if_neg hck]
      have h0 : Ints .u8 W (.slice (some ⟨b, off, none⟩) zs.length c) zs := ⟨_, _, rfl, h2, h3, .inr ⟨b, off, rfl, hc⟩⟩
      have h5 := h0.suf p (by omega)
      have ea : (⟨b, off, none⟩ : Addr).add p = ⟨b, off + p, none⟩ := by unfold Addr.add; split <;> simp_all
      rw [← ea] at h5
      exact hcut _ _ (by omega) (fun e => by cases e) h5

theorem cut_off {a a' : Option Addr} (hB : a'.map (·.block) = a.map (·.block)) (n c n' c' : Nat) : ∀ k, (Value.slice a' n' c').ownBlock = some k → (Value.slice a n c).ownBlock = some k := by
  intro k hk
  cases a' with
  | none => simp [Value.ownBlock] at hk
  | some ad' =>
    cases a with
    | none => simp at hB
    | some ad => simp [Value.ownBlock] at hk hB ⊢; omega

theorem open_reader (v : Value) (zs : List Int) (w : World) (hv : Ints .u8 w v zs) (hl : zs.length ≤ 140737488355328) :
    Calls Tryd.prog 13 #[v] w fun e w' => ∃ g l, e = .returned (.pointer (some ⟨g, 0, none⟩)) ∧ Rd w' g l 0 zs ∧ Up w w' ∧ w.heap.size ≤ g ∧ (∀ k, l.ownBlock = some k → w.heap.size ≤ k ∧ k < w'.heap.size) := by
  have Hc := Lib.hid (clone8_any v zs w hv hl)
  obtain ⟨a, c, rfl, _, _, _⟩ := hv
  go_enter Tryd.func13, Tryd.ntmps13
  go_wp2_with fail
  with_reducible refine Calls.mono Hc.out ?_
  rintro e w1 ⟨r, rfl, h1, h2⟩
  have H1 := Lib.hid h1
  have H2 := Lib.hid h2
  obtain ⟨a1, c1, rfl⟩ := row_shape h1
  clear h1 h2
  go_wp2
  go_ret
  exact ⟨_, _, rfl, ⟨heap_alloc_new _ _, (Ints.of_row H1.out).up (Up.alloc (Up.refl w1) _), fun k e => by have := (H1.out.lt k e).2; omega⟩, Up.alloc H2.out _, H2.out.size, fun k e => ⟨(H1.out.lt k e).1, by have := (H1.out.lt k e).2; simp; omega⟩⟩

theorem rerr_any (g : Nat) (l : Value) (E : Int) (w : World) (h : w.heap[g]? = some (.cells #[.bool true, l, .int .i64 E] 63 (0, 0))) :
    Calls Tryd.prog 27 #[.pointer (some ⟨g, 0, none⟩)] w fun e w' => e = .returned (.int .i64 E) ∧ w = w' := by
  have hc0 := cell_of_row _ _ 0 _ _ _ h
  have hc2 := cell_of_row _ _ 2 _ _ _ h
  simp only [List.getElem?_toArray, List.getElem?_cons_zero, List.getElem?_cons_succ] at hc0 hc2
  clear h
  go_enter Tryd.func27, Tryd.ntmps27
  go_wp2
  go_ret
  exact ⟨rfl, rfl⟩
theorem rerr_nil (w : World) :
    Calls Tryd.prog 27 #[.pointer none] w fun e w' => e = .returned (.int .i64 9) ∧ w = w' := by
  go_enter Tryd.func27, Tryd.ntmps27
  go_wp2
  go_ret
  exact ⟨rfl, rfl⟩
theorem rerr_un (g : Nat) (o : Value) (E : Value) (w : World) (h : w.heap[g]? = some (.cells #[.bool false, o, E] 63 (0, 0))) :
    Calls Tryd.prog 27 #[.pointer (some ⟨g, 0, none⟩)] w fun e w' => e = .returned (.int .i64 9) ∧ w = w' := by
  have hc0 := cell_of_row _ _ 0 _ _ _ h
  simp only [List.getElem?_toArray, List.getElem?_cons_zero] at hc0
  clear h
  go_enter Tryd.func27, Tryd.ntmps27
  go_wp2
  go_ret
  exact ⟨rfl, rfl⟩

theorem rfail_bad (p : Value) (hp : ∃ a, p = .pointer a) (E x : Int) (w : World) (hE : E ≠ 0) (h : Calls Tryd.prog 27 #[p] w fun e w' => e = .returned (.int .i64 E) ∧ w = w') :
    Calls Tryd.prog 51 #[p, .int .i64 x] w fun e w' => e = .returned (.tuple #[]) ∧ w = w' := by
  have Hf := Lib.hid h
  have e1 : (E == 0) = false := by rw [beq_eq_false_iff_ne]; exact hE
  obtain ⟨a, rfl⟩ := hp
  clear h
  go_enter Tryd.func51, Tryd.ntmps51
  go_wp2_with fail
  with_reducible refine Calls.mono Hf.out ?_
  rintro e w1 ⟨rfl, rfl⟩
  go_wp2
  go_end0
  exact ⟨rfl, rfl⟩
theorem rtake_bad (p : Value) (hp : ∃ a, p = .pointer a) (E x : Int) (w : World) (hE : E ≠ 0) (h : Calls Tryd.prog 27 #[p] w fun e w' => e = .returned (.int .i64 E) ∧ w = w') :
    Calls Tryd.prog 49 #[p, .int .i64 x] w fun e w' => e = .returned (.tuple #[.slice none 0 0, .bool false]) ∧ w = w' := by
  have Hf := Lib.hid h
  have e1 : (E == 0) = false := by rw [beq_eq_false_iff_ne]; exact hE
  have e2 : (E != 0) = true := by rw [bne, e1]; rfl
  obtain ⟨a, rfl⟩ := hp
  clear h
  go_enter Tryd.func49, Tryd.ntmps49
  go_wp2_with fail
  with_reducible refine Calls.mono Hf.out ?_
  rintro e w1 ⟨rfl, rfl⟩
  go_wp2
  go_ret2
  exact ⟨rfl, rfl⟩
theorem rnum_bad (p : Value) (hp : ∃ a, p = .pointer a) (E x : Int) (w : World) (hE : E ≠ 0) (h : Calls Tryd.prog 27 #[p] w fun e w' => e = .returned (.int .i64 E) ∧ w = w') :
    Calls Tryd.prog 26 #[p, .int .i64 x] w fun e w' => e = .returned (.int .i64 0) ∧ w = w' := by
  have Ht := Lib.hid (rtake_bad p hp E 6 w hE h)
  obtain ⟨a, rfl⟩ := hp
  clear h hE
  go_enter Tryd.func26, Tryd.ntmps26
  go_wp2_with fail
  with_reducible refine Calls.mono Ht.out ?_
  rintro e w1 ⟨rfl, rfl⟩
  go_wp2
  go_ret
  exact ⟨rfl, rfl⟩
theorem rtext_bad (p : Value) (hp : ∃ a, p = .pointer a) (E x : Int) (w : World) (hE : E ≠ 0) (h : Calls Tryd.prog 27 #[p] w fun e w' => e = .returned (.int .i64 E) ∧ w = w') :
    Calls Tryd.prog 25 #[p, .int .i64 x] w fun e w' => e = .returned (.string ⟨#[]⟩) ∧ w = w' := by
  have Ht := Lib.hid (rtake_bad p hp E 2 w hE h)
  obtain ⟨a, rfl⟩ := hp
  clear h hE
  go_enter Tryd.func25, Tryd.ntmps25
  go_wp2_with fail
  with_reducible refine Calls.mono Ht.out ?_
  rintro e w1 ⟨rfl, rfl⟩
  go_wp2
  go_ret
  exact ⟨rfl, rfl⟩

set_option maxHeartbeats 1000000 in
theorem rfail_first (g : Nat) (l : Value) (x : Int) (zs : List Int) (w : World) (h : Rd w g l 0 zs) :
    Calls Tryd.prog 51 #[.pointer (some ⟨g, 0, none⟩), .int .i64 x] w fun e w' => e = .returned (.tuple #[]) ∧ Rd w' g (.slice none 0 0) x [] ∧ w.grownBy w' (some g) := by
  have Hf := Lib.hid (rerr_any g l 0 w h.1)
  have hf1 := frozen_of_row _ _ 1 _ _ h.1
  have hf2 := frozen_of_row _ _ 2 _ _ h.1
  have hc1 := cell_of_row _ _ 1 _ _ _ h.1
  have hc2 := cell_of_row _ _ 2 _ _ _ h.1
  simp only [List.getElem?_toArray, List.getElem?_cons_zero, List.getElem?_cons_succ] at hc1 hc2
  have H := Lib.hid h
  obtain ⟨a, c, rfl, _, _, _⟩ := h.2.1
  clear h
  go_enter Tryd.func51, Tryd.ntmps51
  go_wp2_with fail
  with_reducible refine Calls.mono Hf.out ?_
  rintro e w1 ⟨rfl, rfl⟩
  go_wp2
  go_end0
  exact ⟨rfl, ⟨set_field (set_field H.out.1 2 (.int .i64 x) rfl) 1 (.slice none 0 0) rfl, Ints.empty (fun _ => rfl), fun k e => by simp [Value.ownBlock] at e⟩, grownBy_trans (grownBy_setCell _ ⟨g, 2, none⟩ _) (grownBy_setCell _ ⟨g, 1, none⟩ _)⟩
set_option maxHeartbeats 1000000 in
theorem rtake_short (g : Nat) (l : Value) (x : Int) (zs : List Int) (w : World) (h : Rd w g l 0 zs) (hx : (zs.length : Int) < x) :
    Calls Tryd.prog 49 #[.pointer (some ⟨g, 0, none⟩), .int .i64 x] w fun e w' => e = .returned (.tuple #[.slice none 0 0, .bool false]) ∧ Rd w' g (.slice none 0 0) 8 [] ∧ w.grownBy w' (some g) := by
  have He := Lib.hid (rerr_any g l 0 w h.1)
  have Hf := Lib.hid (rfail_first g l 8 zs w h)
  have hc1 := cell_of_row _ _ 1 _ _ _ h.1
  simp only [List.getElem?_toArray, List.getElem?_cons_zero, List.getElem?_cons_succ] at hc1
  obtain ⟨a, c, rfl, _, _, _⟩ := h.2.1
  clear h
  go_enter Tryd.func49, Tryd.ntmps49
  go_wp2_with fail
  with_reducible refine Calls.mono He.out ?_
  rintro e w1 ⟨rfl, rfl⟩
  go_wp2_with fail
  with_reducible refine Calls.mono Hf.out ?_
  rintro e w1 ⟨rfl, h1, h2⟩
  have H1 := Lib.hid h1
  have H2 := Lib.hid h2
  clear h1 h2
  go_wp2
  go_ret2
  exact ⟨rfl, H1.out, H2.out⟩
set_option maxHeartbeats 1000000 in
theorem rtake_ok (g : Nat) (l : Value) (x : Nat) (zs : List Int) (w : World) (h : Rd w g l 0 zs) (hx : x ≤ zs.length) :
    Calls Tryd.prog 49 #[.pointer (some ⟨g, 0, none⟩), .int .i64 x] w fun e w' => ∃ t l', e = .returned (.tuple #[t, .bool true]) ∧ Ints .u8 w' t (zs.take x) ∧ Rd w' g l' 0 (zs.drop x) ∧ w.grownBy w' (some g) ∧ (∀ k, l'.ownBlock = some k → l.ownBlock = some k) := by
  have He := Lib.hid (rerr_any g l 0 w h.1)
  have hc1 := cell_of_row _ _ 1 _ _ _ h.1
  simp only [List.getElem?_toArray, List.getElem?_cons_zero, List.getElem?_cons_succ] at hc1
  have hf1 := frozen_of_row _ _ 1 _ _ h.1
  have H := Lib.hid h
  obtain ⟨a, c, rfl, hc, _, _⟩ := h.2.1
  clear h
  have hp3 := fun wx => cut_pre3 a zs.length c x (by omega) wx
  obtain ⟨a', c', hsf, hI, hB⟩ := cut_suf a zs.length c x hx hc
  have HI := Lib.hid (hI w zs H.out.2.1)
  have HB := Lib.hid hB
  clear hI hB
  go_enter Tryd.func49, Tryd.ntmps49
  go_wp2_with fail
  with_reducible refine Calls.mono He.out ?_
  rintro e w1 ⟨rfl, rfl⟩
  go_wp2
  go_ret2
  have hob : ∀ k, (Value.slice a' (zs.length - x) c').ownBlock = some k → (Value.slice a zs.length c).ownBlock = some k := by
    intro k hk
    have hB := HB.out
    cases a' with
    | none => simp [Value.ownBlock] at hk
    | some ad' =>
      cases a with
      | none => simp at hB
      | some ad => simp [Value.ownBlock] at hk hB ⊢; omega
  have hg := grownBy_setCell w ⟨g, 1, none⟩ (.slice a' (zs.length - x) c')
  have hpre : Ints .u8 w (.slice a x x) (zs.take x) := by
    have h1 := H.out.2.1.pre x hx
    obtain ⟨a2, c2, e, h2, h3, h4⟩ := h1
    simp only [Value.slice.injEq] at e
    obtain ⟨rfl, e2, rfl⟩ := e
    refine ⟨a, x, by rw [← e2], by omega, fun e => by have := h3 e; omega, h4⟩
  exact ⟨_, _, rfl, hpre.grownAt hg (fun b e => H.out.2.2 b (by cases a with | none => simp [Value.ownBlock] at e | some ad => simpa [Value.ownBlock] using e)), ⟨set_field H.out.1 1 _ rfl, HI.out.grownAt hg (fun b e => H.out.2.2 b (hob b e)), fun k e => H.out.2.2 k (hob k e)⟩, hg, hob⟩
end
end Go.Proofs.YtgmicppfiapilaaDoor
