import Derived.Test.YtacamknljicjmaaPkWriter
import Derived.Test.YtacamknljicjmaaOct
namespace Go.Proofs.Ytacamknljicjmaa
/-
  pack: the reader.
-/
section
set_option maxRecDepth 100000
section
set_option linter.unusedVariables false
open Go.RowKit

/-- THE READER in block g: its error, and what is left. -/
def Rd (W : World) (g : Nat) (l : Value) (E : Int) (zs : List Int) : Prop :=
  W.heap[g]? = some (.cells #[.bool true, l, .int .i64 E] 79 (0, 0)) ∧ Ints .u8 W l zs ∧ (∀ k, l.ownBlock = some k → k ≠ g)
theorem Rd.up {W W' : World} {g : Nat} {l : Value} {E : Int} {zs : List Int} (h : Rd W g l E zs) (hu : Up W W') : Rd W' g l E zs := ⟨(hu.block g (lt_of_block h.1)).trans h.1, h.2.1.up hu, h.2.2⟩
theorem Ints.keptBut {S : Nat → Prop} {k : IntKind} {W W' : World} {v : Value} {zs : List Int} (h : Ints k W v zs) (hk : KeptBut S W W') (hS : ∀ b, v.ownBlock = some b → ¬ S b) : Ints k W' v zs := by
  obtain ⟨a, cap, rfl, h2, h3, h4⟩ := h
  refine ⟨a, cap, rfl, h2, h3, h4.imp id ?_⟩
  rintro ⟨b, off, rfl, hc⟩
  exact ⟨b, off, rfl, fun j hj => by
    have := hc j hj
    exact (World.cell?_of_block (a := ⟨b, off + j, none⟩) (hk.block b (World.block_lt_of_cell? W _ this) (hS b rfl))).trans this⟩
theorem Ints.grownAt {k : IntKind} {W W' : World} {v : Value} {zs : List Int} {g : Nat} (h : Ints k W v zs) (hg : W.grownBy W' (some g)) (hS : ∀ b, v.ownBlock = some b → b ≠ g) : Ints k W' v zs :=
  h.keptBut (S := fun x => x = g) (KeptBut.of_grown hg (fun k e => by cases e; rfl)) hS

/-- s[:k:k] -/
theorem cut_pre3 (a : Option Addr) (n c k : Nat) (hk : k ≤ c) (w : World) : (Instr.sliceAt 34 (.slice a n c) none (some (.int .i64 k)) (some (.int .i64 k))).run Try.prog w = .ok (.slice a k k) w := by
  have h1 : (Instr.slice 34 (.slice a n c) none (some (.int .i64 k)) (some (.int .i64 k))).run Try.prog w = .ok (.slice a k k) w := by
    have hs : (sizeOf 5).run Try.prog w = .ok 1 w := by simp [go_sem]
    simp [Instr.slice, run_underlying (P := Try.prog) (w := w) Try.underlying34, Instr.sliceBounds, run_sliceBound, go_sem, hk]
  simpa [Instr.sliceAt, run_underlying (P := Try.prog) (w := w) Try.underlying34] using h1
/-- s[k:] -/
theorem cut_suf (a : Option Addr) (n c k : Nat) (hk : k ≤ n) (hn : n ≤ c) : ∃ a' c', (∀ w : World, (Instr.sliceAt 34 (.slice a n c) (some (.int .i64 k)) none none).run Try.prog w = .ok (.slice a' (n - k) c') w) ∧
    (∀ (W : World) (zs : List Int), Ints .u8 W (.slice a n c) zs → Ints .u8 W (.slice a' (n - k) c') (zs.drop k)) ∧ (a'.map (·.block) = a.map (·.block)) := by
  have hrun : ∀ w : World, (Instr.sliceAt 34 (.slice a n c) (some (.int .i64 k)) none none).run Try.prog w = .ok (.slice (if c = k then a else a.map (·.add k)) (n - k) (c - k)) w := by
    intro w
    have h1 : (Instr.slice 34 (.slice a n c) (some (.int .i64 k)) none none).run Try.prog w = .ok (.slice (if c = k then a else a.map (·.add k)) (n - k) (c - k)) w := by
      have hs : (sizeOf 5).run Try.prog w = .ok 1 w := by simp [go_sem]
      have h0 : (k : Int) ≤ (n : Int) := by omega
      simp [Instr.slice, run_underlying (P := Try.prog) (w := w) Try.underlying34, Instr.sliceBounds, run_sliceBound, go_sem, hk]
    simpa [Instr.sliceAt, run_underlying (P := Try.prog) (w := w) Try.underlying34] using h1
  refine ⟨_, _, hrun, ?_, ?_⟩
  · intro W zs h
    obtain ⟨a2, c2, e, h2, h3, h4⟩ := h
    simp only [Value.slice.injEq] at e
    obtain ⟨rfl, rfl, rfl⟩ := e
    rcases h4 with rfl | ⟨b, off, rfl, hc⟩
    · simp only [List.length_nil, List.drop_nil, Nat.zero_sub]
      refine Ints.empty fun e => ?_
      split at e
      · have := h3 e; omega
      · have := h3 (by simpa using e); omega
    · by_cases hck : c = k
      · rw [if_pos hck, show zs.length - k = 0 from by omega, List.drop_eq_nil_of_le (by omega)]
        exact Ints.empty (fun e => by cases e)
      · rw [if_neg hck]
        have h0 : Ints .u8 W (.slice (some ⟨b, off, none⟩) zs.length c) zs := ⟨_, _, rfl, h2, h3, .inr ⟨b, off, rfl, hc⟩⟩
        have h5 := h0.suf k hk
        have ea : (⟨b, off, none⟩ : Addr).add k = ⟨b, off + k, none⟩ := by unfold Addr.add; split <;> simp_all
        rw [← ea] at h5
        exact h5
  · split
    · rfl
    · cases a with
      | none => rfl
      | some ad =>
        simp only [Option.map_some]
        unfold Addr.add
        split <;> rfl

/-- s[p:q] -/
theorem cut_mid (a : Option Addr) (n c p x : Nat) (hk : p + x ≤ n) (hn : n ≤ c) : ∃ a' c', (∀ w : World, (Instr.sliceAt 34 (.slice a n c) (some (.int .i64 p)) (some (.int .i64 ((p : Int) + (x : Int)))) none).run Try.prog w = .ok (.slice a' x c') w) ∧
    (∀ (W : World) (zs : List Int), Ints .u8 W (.slice a n c) zs → Ints .u8 W (.slice a' x c') ((zs.drop p).take x)) := by
  have hrun : ∀ w : World, (Instr.sliceAt 34 (.slice a n c) (some (.int .i64 p)) (some (.int .i64 ((p : Int) + (x : Int)))) none).run Try.prog w = .ok (.slice (if c = p then a else a.map (·.add p)) x (c - p)) w := by
    intro w
    have h1 : (Instr.slice 34 (.slice a n c) (some (.int .i64 p)) (some (.int .i64 ((p : Int) + (x : Int)))) none).run Try.prog w = .ok (.slice (if c = p then a else a.map (·.add p)) x (c - p)) w := by
      have hs : (sizeOf 5).run Try.prog w = .ok 1 w := by simp [go_sem]
      have h0 : (0 : Int) ≤ (p : Int) + (x : Int) := by omega
      have h2 : (p : Int) + (x : Int) ≤ (c : Int) := by omega
      have h3 : ((p : Int) + (x : Int)).toNat = p + x := by omega
      have e1 := run_sliceBound (P := Try.prog) (w := w) .i64 ((p : Int) + (x : Int)) c .sliceAcap h0 h2
      simp [Instr.slice, run_underlying (P := Try.prog) (w := w) Try.underlying34, Instr.sliceBounds, e1, h3, go_sem]
    simpa [Instr.sliceAt, run_underlying (P := Try.prog) (w := w) Try.underlying34] using h1
  refine ⟨_, _, hrun, fun W zs h => ?_⟩
  obtain ⟨a2, c2, e, h2, h3, h4⟩ := h
  simp only [Value.slice.injEq] at e
  obtain ⟨rfl, rfl, rfl⟩ := e
  have hcut : ∀ (a9 : Option Addr) (c9 : Nat), x ≤ c9 → (a9 = none → c9 = 0) → Ints .u8 W (.slice a9 (zs.length - p) c9) (zs.drop p) → Ints .u8 W (.slice a9 x c9) ((zs.drop p).take x) := fun a9 c9 _ _ hi => hi.pre x (by rw [List.length_drop]; omega)
  rcases h4 with rfl | ⟨b, off, rfl, hc⟩
  · obtain rfl : x = 0 := by simp at hk; omega
    simp only [List.drop_nil, List.take_nil]
    refine Ints.empty fun e => ?_
    split at e
    · have := h3 e; omega
    · have := h3 (by simpa using e); omega
  · by_cases hck : c = p
    · obtain rfl : x = 0 := by omega
      rw [if_pos hck, List.take_zero]
      exact Ints.empty (fun e => by cases e)
    · rw [if_neg hck]
      have h0 : Ints .u8 W (.slice (some ⟨b, off, none⟩) zs.length c) zs := ⟨_, _, rfl, h2, h3, .inr ⟨b, off, rfl, hc⟩⟩
      have h5 := h0.suf p (by omega)
      have ea : (⟨b, off, none⟩ : Addr).add p = ⟨b, off + p, none⟩ := by unfold Addr.add; split <;> simp_all
      rw [← ea] at h5
      exact hcut _ _ (by omega) (fun e => by cases e) h5

theorem cut_off {a a' : Option Addr} (hB : a'.map (·.block) = a.map (·.block)) (n c n' c' : Nat) : ∀ k, (Value.slice a' n' c').ownBlock = some k → (Value.slice a n c).ownBlock = some k := by
  intro k hk
  cases a' with
  | none => simp [Value.ownBlock] at hk
  | some ad' =>
    cases a with
    | none => simp at hB
    | some ad => simp [Value.ownBlock] at hk hB ⊢; omega

theorem open_reader (v : Value) (zs : List Int) (w : World) (hv : Ints .u8 w v zs) (hl : zs.length ≤ 140737488355328) :
    Calls Try.prog 16 #[v] w fun e w' => ∃ g l, e = .returned (.pointer (some ⟨g, 0, none⟩)) ∧ Rd w' g l 0 zs ∧ Up w w' ∧ w.heap.size ≤ g ∧ (∀ k, l.ownBlock = some k → w.heap.size ≤ k ∧ k < w'.heap.size) := by
  have Hc := Lib.hid (clone8_any v zs w hv hl)
  obtain ⟨a, c, rfl, _, _, _⟩ := hv
  go_enter Try.func16, Try.ntmps16
  go_wp2_with fail
  with_reducible refine Calls.mono Hc.out ?_
  rintro e w1 ⟨r, rfl, h1, h2⟩
  have H1 := Lib.hid h1
  have H2 := Lib.hid h2
  obtain ⟨a1, c1, rfl⟩ := row_shape h1
  clear h1 h2
  go_wp2
  go_ret
  exact ⟨_, _, rfl, ⟨heap_alloc_new _ _, (Ints.of_row H1.out).up (Up.alloc (Up.refl w1) _), fun k e => by have := (H1.out.lt k e).2; omega⟩, Up.alloc H2.out _, H2.out.size, fun k e => ⟨(H1.out.lt k e).1, by have := (H1.out.lt k e).2; simp; omega⟩⟩

theorem rerr_any (g : Nat) (l : Value) (E : Int) (w : World) (h : w.heap[g]? = some (.cells #[.bool true, l, .int .i64 E] 79 (0, 0))) :
    Calls Try.prog 58 #[.pointer (some ⟨g, 0, none⟩)] w fun e w' => e = .returned (.int .i64 E) ∧ w = w' := by
  have hc0 := cell_of_row _ _ 0 _ _ _ h
  have hc2 := cell_of_row _ _ 2 _ _ _ h
  simp only [List.getElem?_toArray, List.getElem?_cons_zero, List.getElem?_cons_succ] at hc0 hc2
  clear h
  go_enter Try.func58, Try.ntmps58
  go_wp2
  go_ret
  exact ⟨rfl, rfl⟩
theorem rerr_nil (w : World) :
    Calls Try.prog 58 #[.pointer none] w fun e w' => e = .returned (.int .i64 9) ∧ w = w' := by
  go_enter Try.func58, Try.ntmps58
  go_wp2
  go_ret
  exact ⟨rfl, rfl⟩
theorem rerr_un (g : Nat) (o : Value) (E : Value) (w : World) (h : w.heap[g]? = some (.cells #[.bool false, o, E] 79 (0, 0))) :
    Calls Try.prog 58 #[.pointer (some ⟨g, 0, none⟩)] w fun e w' => e = .returned (.int .i64 9) ∧ w = w' := by
  have hc0 := cell_of_row _ _ 0 _ _ _ h
  simp only [List.getElem?_toArray, List.getElem?_cons_zero] at hc0
  clear h
  go_enter Try.func58, Try.ntmps58
  go_wp2
  go_ret
  exact ⟨rfl, rfl⟩

theorem rfail_bad (p : Value) (hp : ∃ a, p = .pointer a) (E x : Int) (w : World) (hE : E ≠ 0) (h : Calls Try.prog 58 #[p] w fun e w' => e = .returned (.int .i64 E) ∧ w = w') :
    Calls Try.prog 56 #[p, .int .i64 x] w fun e w' => e = .returned (.tuple #[]) ∧ w = w' := by
  have Hf := Lib.hid h
  have e1 : (E == 0) = false := by rw [beq_eq_false_iff_ne]; exact hE
  obtain ⟨a, rfl⟩ := hp
  clear h
  go_enter Try.func56, Try.ntmps56
  go_wp2_with fail
  with_reducible refine Calls.mono Hf.out ?_
  rintro e w1 ⟨rfl, rfl⟩
  go_wp2
  go_end0
  exact ⟨rfl, rfl⟩
theorem rtake_bad (p : Value) (hp : ∃ a, p = .pointer a) (E x : Int) (w : World) (hE : E ≠ 0) (h : Calls Try.prog 58 #[p] w fun e w' => e = .returned (.int .i64 E) ∧ w = w') :
    Calls Try.prog 54 #[p, .int .i64 x] w fun e w' => e = .returned (.tuple #[.slice none 0 0, .bool false]) ∧ w = w' := by
  have Hf := Lib.hid h
  have e1 : (E == 0) = false := by rw [beq_eq_false_iff_ne]; exact hE
  have e2 : (E != 0) = true := by rw [bne, e1]; rfl
  obtain ⟨a, rfl⟩ := hp
  clear h
  go_enter Try.func54, Try.ntmps54
  go_wp2_with fail
  with_reducible refine Calls.mono Hf.out ?_
  rintro e w1 ⟨rfl, rfl⟩
  go_wp2
  go_ret2
  exact ⟨rfl, rfl⟩
theorem rnum_bad (p : Value) (hp : ∃ a, p = .pointer a) (E x : Int) (w : World) (hE : E ≠ 0) (h : Calls Try.prog 58 #[p] w fun e w' => e = .returned (.int .i64 E) ∧ w = w') :
    Calls Try.prog 34 #[p, .int .i64 x] w fun e w' => e = .returned (.int .i64 0) ∧ w = w' := by
  have Ht := Lib.hid (rtake_bad p hp E 6 w hE h)
  obtain ⟨a, rfl⟩ := hp
  clear h hE
  go_enter Try.func34, Try.ntmps34
  go_wp2_with fail
  with_reducible refine Calls.mono Ht.out ?_
  rintro e w1 ⟨rfl, rfl⟩
  go_wp2
  go_ret
  exact ⟨rfl, rfl⟩
theorem rtext_bad (p : Value) (hp : ∃ a, p = .pointer a) (E x : Int) (w : World) (hE : E ≠ 0) (h : Calls Try.prog 58 #[p] w fun e w' => e = .returned (.int .i64 E) ∧ w = w') :
    Calls Try.prog 38 #[p, .int .i64 x] w fun e w' => e = .returned (.string ⟨#[]⟩) ∧ w = w' := by
  have Ht := Lib.hid (rtake_bad p hp E 2 w hE h)
  obtain ⟨a, rfl⟩ := hp
  clear h hE
  go_enter Try.func38, Try.ntmps38
  go_wp2_with fail
  with_reducible refine Calls.mono Ht.out ?_
  rintro e w1 ⟨rfl, rfl⟩
  go_wp2
  go_ret
  exact ⟨rfl, rfl⟩

set_option maxHeartbeats 1000000 in
theorem rfail_first (g : Nat) (l : Value) (x : Int) (zs : List Int) (w : World) (h : Rd w g l 0 zs) :
    Calls Try.prog 56 #[.pointer (some ⟨g, 0, none⟩), .int .i64 x] w fun e w' => e = .returned (.tuple #[]) ∧ Rd w' g (.slice none 0 0) x [] ∧ w.grownBy w' (some g) := by
  have Hf := Lib.hid (rerr_any g l 0 w h.1)
  have hf1 := frozen_of_row _ _ 1 _ _ h.1
  have hf2 := frozen_of_row _ _ 2 _ _ h.1
  have hc1 := cell_of_row _ _ 1 _ _ _ h.1
  have hc2 := cell_of_row _ _ 2 _ _ _ h.1
  simp only [List.getElem?_toArray, List.getElem?_cons_zero, List.getElem?_cons_succ] at hc1 hc2
  have H := Lib.hid h
  obtain ⟨a, c, rfl, _, _, _⟩ := h.2.1
  clear h
  go_enter Try.func56, Try.ntmps56
  go_wp2_with fail
  with_reducible refine Calls.mono Hf.out ?_
  rintro e w1 ⟨rfl, rfl⟩
  go_wp2
  go_end0
  exact ⟨rfl, ⟨set_field (set_field H.out.1 2 (.int .i64 x) rfl) 1 (.slice none 0 0) rfl, Ints.empty (fun _ => rfl), fun k e => by simp [Value.ownBlock] at e⟩, grownBy_trans (grownBy_setCell _ ⟨g, 2, none⟩ _) (grownBy_setCell _ ⟨g, 1, none⟩ _)⟩
set_option maxHeartbeats 1000000 in
theorem rtake_short (g : Nat) (l : Value) (x : Int) (zs : List Int) (w : World) (h : Rd w g l 0 zs) (hx : (zs.length : Int) < x) :
    Calls Try.prog 54 #[.pointer (some ⟨g, 0, none⟩), .int .i64 x] w fun e w' => e = .returned (.tuple #[.slice none 0 0, .bool false]) ∧ Rd w' g (.slice none 0 0) 8 [] ∧ w.grownBy w' (some g) := by
  have He := Lib.hid (rerr_any g l 0 w h.1)
  have Hf := Lib.hid (rfail_first g l 8 zs w h)
  have hc1 := cell_of_row _ _ 1 _ _ _ h.1
  simp only [List.getElem?_toArray, List.getElem?_cons_zero, List.getElem?_cons_succ] at hc1
  obtain ⟨a, c, rfl, _, _, _⟩ := h.2.1
  clear h
  go_enter Try.func54, Try.ntmps54
  go_wp2_with fail
  with_reducible refine Calls.mono He.out ?_
  rintro e w1 ⟨rfl, rfl⟩
  go_wp2_with fail
  with_reducible refine Calls.mono Hf.out ?_
  rintro e w1 ⟨rfl, h1, h2⟩
  have H1 := Lib.hid h1
  have H2 := Lib.hid h2
  clear h1 h2
  go_wp2
  go_ret2
  exact ⟨rfl, H1.out, H2.out⟩
set_option maxHeartbeats 1000000 in
theorem rtake_ok (g : Nat) (l : Value) (x : Nat) (zs : List Int) (w : World) (h : Rd w g l 0 zs) (hx : x ≤ zs.length) :
    Calls Try.prog 54 #[.pointer (some ⟨g, 0, none⟩), .int .i64 x] w fun e w' => ∃ t l', e = .returned (.tuple #[t, .bool true]) ∧ Ints .u8 w' t (zs.take x) ∧ Rd w' g l' 0 (zs.drop x) ∧ w.grownBy w' (some g) ∧ (∀ k, l'.ownBlock = some k → l.ownBlock = some k) := by
  have He := Lib.hid (rerr_any g l 0 w h.1)
  have hc1 := cell_of_row _ _ 1 _ _ _ h.1
  simp only [List.getElem?_toArray, List.getElem?_cons_zero, List.getElem?_cons_succ] at hc1
  have hf1 := frozen_of_row _ _ 1 _ _ h.1
  have H := Lib.hid h
  obtain ⟨a, c, rfl, hc, _, _⟩ := h.2.1
  clear h
  have hp3 := fun wx => cut_pre3 a zs.length c x (by omega) wx
  obtain ⟨a', c', hsf, hI, hB⟩ := cut_suf a zs.length c x hx hc
  have HI := Lib.hid (hI w zs H.out.2.1)
  have HB := Lib.hid hB
  clear hI hB
  go_enter Try.func54, Try.ntmps54
  go_wp2_with fail
  with_reducible refine Calls.mono He.out ?_
  rintro e w1 ⟨rfl, rfl⟩
  go_wp2
  go_ret2
  have hob : ∀ k, (Value.slice a' (zs.length - x) c').ownBlock = some k → (Value.slice a zs.length c).ownBlock = some k := by
    intro k hk
    have hB := HB.out
    cases a' with
    | none => simp [Value.ownBlock] at hk
    | some ad' =>
      cases a with
      | none => simp at hB
      | some ad => simp [Value.ownBlock] at hk hB ⊢; omega
  have hg := grownBy_setCell w ⟨g, 1, none⟩ (.slice a' (zs.length - x) c')
  have hpre : Ints .u8 w (.slice a x x) (zs.take x) := by
    have h1 := H.out.2.1.pre x hx
    obtain ⟨a2, c2, e, h2, h3, h4⟩ := h1
    simp only [Value.slice.injEq] at e
    obtain ⟨rfl, e2, rfl⟩ := e
    refine ⟨a, x, by rw [← e2], by omega, fun e => by have := h3 e; omega, h4⟩
  exact ⟨_, _, rfl, hpre.grownAt hg (fun b e => H.out.2.2 b (by cases a with | none => simp [Value.ownBlock] at e | some ad => simpa [Value.ownBlock] using e)), ⟨set_field H.out.1 1 _ rfl, HI.out.grownAt hg (fun b e => H.out.2.2 b (hob b e)), fun k e => H.out.2.2 k (hob k e)⟩, hg, hob⟩
end
end

/-
  pack: the reader's Num and Text.
-/
section
set_option maxRecDepth 100000
section
set_option linter.unusedVariables false
open Go.RowKit

/-- what is read of octets without error: the value, the error, what is left -/
def gNum (zs : List Int) (most : Int) : Int × Int × List Int :=
  if zs.length < 6 then (0, 8, []) else if most < getB (zs.take 6) ∨ 1099511627776 < getB (zs.take 6) then (0, 4, []) else (getB (zs.take 6), 0, zs.drop 6)
def gText (zs : List Int) (most : Int) : List Int × Int × List Int :=
  if zs.length < 2 then ([], 8, []) else if most < getB (zs.take 2) ∨ 4096 < getB (zs.take 2) then ([], 5, []) else
    if (zs.length : Int) < 2 + getB (zs.take 2) then ([], 8, []) else ((zs.drop 2).take (getB (zs.take 2)).toNat, 0, (zs.drop 2).drop (getB (zs.take 2)).toNat)
/-- what a read makes of the reader -/
def Reads (g : Nat) (l : Value) (w : World) (E : Int) (zs : List Int) (w' : World) : Prop := ∃ l', Rd w' g l' E zs ∧ w.grownBy w' (some g) ∧ ∀ k, l'.ownBlock = some k → l.ownBlock = some k
theorem nil_off (l : Value) : ∀ k, (Value.slice none 0 0).ownBlock = some k → l.ownBlock = some k := fun k e => by simp [Value.ownBlock] at e

set_option maxHeartbeats 2000000 in
theorem rnum_ok (g : Nat) (l : Value) (zs : List Int) (most : Int) (w : World) (h : Rd w g l 0 zs) (hu : U8s zs) (hm : -9223372036854775808 ≤ most ∧ most ≤ 9223372036854775807) :
    Calls Try.prog 34 #[.pointer (some ⟨g, 0, none⟩), .int .i64 most] w fun e w' => e = .returned (.int .i64 (gNum zs most).1) ∧ Reads g l w (gNum zs most).2.1 (gNum zs most).2.2 w' := by
  by_cases h6 : zs.length < 6
  · rw [show gNum zs most = (0, 8, []) from if_pos h6]
    have Ht := Lib.hid (rtake_short g l 6 zs w h (by omega))
    clear h h6
    go_enter Try.func34, Try.ntmps34
    go_wp2_with fail
    with_reducible refine Calls.mono Ht.out ?_
    rintro e w1 ⟨rfl, h1, h2⟩
    have H1 := Lib.hid (show Reads g l w 8 [] w1 from ⟨_, h1, h2, nil_off l⟩)
    clear h1 h2
    go_wp2
    go_ret
    exact ⟨rfl, H1.out⟩
  · have Ht := Lib.hid (rtake_ok g l 6 zs w h (by omega))
    have Hget : Hid (∀ (t : Value) (wx : World), Ints .u8 wx t (zs.take 6) → Calls Try.prog 55 #[t] wx fun e w' => e = .returned (.int .i64 (getB (zs.take 6))) ∧ wx = w') := Lib.hid fun t wx hi => get_any t _ wx hi (hu.take 6) (by rw [List.length_take]; omega)
    have hr := getB_range (zs.take 6)
    unfold gNum
    rw [if_neg h6]
    generalize getB (zs.take 6) = n at *
    generalize zs.take 6 = fl at *
    clear h h6 hu
    by_cases hn : most < n ∨ 1099511627776 < n
    · rw [if_pos hn]
      by_cases hmm : most ≤ 1099511627776
      · have h1 : most < n := by omega
        clear hn
        go_enter Try.func34, Try.ntmps34
        go_wp2_with fail
        with_reducible refine Calls.mono Ht.out ?_
        rintro e w1 ⟨t, l', rfl, h1, h2, h3, h4⟩
        have HI := Lib.hid h1
        obtain ⟨ta, tc, rfl, _, _, _⟩ := h1
        have Hf := Lib.hid (rfail_first g l' 4 _ w1 h2)
        have H3 := Lib.hid h3
        clear h2 h3 h4
        go_wp2_with fail
        with_reducible refine Calls.mono (Hget.out _ _ HI.out) ?_
        rintro e w2 ⟨rfl, rfl⟩
        go_wp2_with fail
        with_reducible refine Calls.mono Hf.out ?_
        rintro e w3 ⟨rfl, h5, h6⟩
        have H5 := Lib.hid (show Reads g l w 4 [] w3 from ⟨_, h5, grownBy_trans H3.out h6, nil_off l⟩)
        clear h5 h6
        go_wp2
        go_ret
        exact ⟨rfl, H5.out⟩
      · have h1 : 1099511627776 < n := by omega
        clear hn
        go_enter Try.func34, Try.ntmps34
        go_wp2_with fail
        with_reducible refine Calls.mono Ht.out ?_
        rintro e w1 ⟨t, l', rfl, h1, h2, h3, h4⟩
        have HI := Lib.hid h1
        obtain ⟨ta, tc, rfl, _, _, _⟩ := h1
        have Hf := Lib.hid (rfail_first g l' 4 _ w1 h2)
        have H3 := Lib.hid h3
        clear h2 h3 h4
        go_wp2_with fail
        with_reducible refine Calls.mono (Hget.out _ _ HI.out) ?_
        rintro e w2 ⟨rfl, rfl⟩
        go_wp2_with fail
        with_reducible refine Calls.mono Hf.out ?_
        rintro e w3 ⟨rfl, h5, h6⟩
        have H5 := Lib.hid (show Reads g l w 4 [] w3 from ⟨_, h5, grownBy_trans H3.out h6, nil_off l⟩)
        clear h5 h6
        go_wp2
        go_ret
        exact ⟨rfl, H5.out⟩
    · rw [if_neg hn]
      have hn1 : n ≤ most := by omega
      have hn2 : n ≤ 1099511627776 := by omega
      clear hn
      by_cases hmm : most ≤ 1099511627776
      · go_enter Try.func34, Try.ntmps34
        go_wp2_with fail
        with_reducible refine Calls.mono Ht.out ?_
        rintro e w1 ⟨t, l', rfl, h1, h2, h3, h4⟩
        have HI := Lib.hid h1
        obtain ⟨ta, tc, rfl, _, _, _⟩ := h1
        have H5 := Lib.hid (show Reads g l w 0 (zs.drop 6) w1 from ⟨_, h2, h3, h4⟩)
        clear h2 h3 h4
        go_wp2_with fail
        with_reducible refine Calls.mono (Hget.out _ _ HI.out) ?_
        rintro e w2 ⟨rfl, rfl⟩
        go_wp2
        go_ret
        exact ⟨rfl, H5.out⟩
      · go_enter Try.func34, Try.ntmps34
        go_wp2_with fail
        with_reducible refine Calls.mono Ht.out ?_
        rintro e w1 ⟨t, l', rfl, h1, h2, h3, h4⟩
        have HI := Lib.hid h1
        obtain ⟨ta, tc, rfl, _, _, _⟩ := h1
        have H5 := Lib.hid (show Reads g l w 0 (zs.drop 6) w1 from ⟨_, h2, h3, h4⟩)
        clear h2 h3 h4
        go_wp2_with fail
        with_reducible refine Calls.mono (Hget.out _ _ HI.out) ?_
        rintro e w2 ⟨rfl, rfl⟩
        go_wp2
        go_ret
        exact ⟨rfl, H5.out⟩

set_option maxHeartbeats 2000000 in
theorem rtext_ok (g : Nat) (l : Value) (zs : List Int) (most : Int) (w : World) (h : Rd w g l 0 zs) (hu : U8s zs) (hm : -9223372036854775808 ≤ most ∧ most ≤ 9223372036854775807) :
    Calls Try.prog 38 #[.pointer (some ⟨g, 0, none⟩), .int .i64 most] w fun e w' => e = .returned (.string (strOfNums (gText zs most).1)) ∧ Reads g l w (gText zs most).2.1 (gText zs most).2.2 w' := by
  by_cases h6 : zs.length < 2
  · rw [show gText zs most = ([], 8, []) from if_pos h6]
    have Ht := Lib.hid (rtake_short g l 2 zs w h (by omega))
    clear h h6
    rw [show strOfNums [] = ⟨#[]⟩ from rfl]
    go_enter Try.func38, Try.ntmps38
    go_wp2_with fail
    with_reducible refine Calls.mono Ht.out ?_
    rintro e w1 ⟨rfl, h1, h2⟩
    have H1 := Lib.hid (show Reads g l w 8 [] w1 from ⟨_, h1, h2, nil_off l⟩)
    clear h1 h2
    go_wp2
    go_ret
    exact ⟨rfl, H1.out⟩
  · have Ht := Lib.hid (rtake_ok g l 2 zs w h (by omega))
    have Hget : Hid (∀ (t : Value) (wx : World), Ints .u8 wx t (zs.take 2) → Calls Try.prog 55 #[t] wx fun e w' => e = .returned (.int .i64 (getB (zs.take 2))) ∧ wx = w') := Lib.hid fun t wx hi => get_any t _ wx hi (hu.take 2) (by rw [List.length_take]; omega)
    have hr := getB_range (zs.take 2)
    have hzd : (zs.drop 2).length = zs.length - 2 := by rw [List.length_drop]
    unfold gText
    rw [if_neg h6]
    generalize getB (zs.take 2) = n at *
    generalize zs.take 2 = fl at *
    generalize zs.drop 2 = rest at *
    clear h hu
    by_cases hn : most < n ∨ 4096 < n
    · rw [if_pos hn, show strOfNums ([], (5 : Int), ([] : List Int)).1 = ⟨#[]⟩ from rfl]
      by_cases hmm : most ≤ 4096
      · have h1 : most < n := by omega
        clear hn hzd h6
        go_enter Try.func38, Try.ntmps38
        go_wp2_with fail
        with_reducible refine Calls.mono Ht.out ?_
        rintro e w1 ⟨t, l', rfl, h1, h2, h3, h4⟩
        have HI := Lib.hid h1
        obtain ⟨ta, tc, rfl, _, _, _⟩ := h1
        have Hf := Lib.hid (rfail_first g l' 5 _ w1 h2)
        have H3 := Lib.hid h3
        clear h2 h3 h4
        go_wp2_with fail
        with_reducible refine Calls.mono (Hget.out _ _ HI.out) ?_
        rintro e w2 ⟨rfl, rfl⟩
        go_wp2_with fail
        with_reducible refine Calls.mono Hf.out ?_
        rintro e w3 ⟨rfl, h5, h6⟩
        have H5 := Lib.hid (show Reads g l w 5 [] w3 from ⟨_, h5, grownBy_trans H3.out h6, nil_off l⟩)
        clear h5 h6
        go_wp2
        go_ret
        exact ⟨rfl, H5.out⟩
      · have h1 : 4096 < n := by omega
        clear hn hzd h6
        go_enter Try.func38, Try.ntmps38
        go_wp2_with fail
        with_reducible refine Calls.mono Ht.out ?_
        rintro e w1 ⟨t, l', rfl, h1, h2, h3, h4⟩
        have HI := Lib.hid h1
        obtain ⟨ta, tc, rfl, _, _, _⟩ := h1
        have Hf := Lib.hid (rfail_first g l' 5 _ w1 h2)
        have H3 := Lib.hid h3
        clear h2 h3 h4
        go_wp2_with fail
        with_reducible refine Calls.mono (Hget.out _ _ HI.out) ?_
        rintro e w2 ⟨rfl, rfl⟩
        go_wp2_with fail
        with_reducible refine Calls.mono Hf.out ?_
        rintro e w3 ⟨rfl, h5, h6⟩
        have H5 := Lib.hid (show Reads g l w 5 [] w3 from ⟨_, h5, grownBy_trans H3.out h6, nil_off l⟩)
        clear h5 h6
        go_wp2
        go_ret
        exact ⟨rfl, H5.out⟩
    · rw [if_neg hn]
      have hn1 : n ≤ most := by omega
      have hn2 : n ≤ 4096 := by omega
      clear hn
      obtain ⟨x, rfl⟩ : ∃ x : Nat, n = x := ⟨n.toNat, by omega⟩
      by_cases hs : (zs.length : Int) < 2 + (x : Int)
      · rw [if_pos hs, show strOfNums ([], (8 : Int), ([] : List Int)).1 = ⟨#[]⟩ from rfl]
        have hlt : (rest.length : Int) < (x : Int) := by omega
        clear hs hzd h6
        by_cases hmm : most ≤ 4096
        · go_enter Try.func38, Try.ntmps38
          go_wp2_with fail
          with_reducible refine Calls.mono Ht.out ?_
          rintro e w1 ⟨t, l', rfl, h1, h2, h3, h4⟩
          have HI := Lib.hid h1
          obtain ⟨ta, tc, rfl, _, _, _⟩ := h1
          have Ht2 := Lib.hid (rtake_short g l' (x : Int) rest w1 h2 hlt)
          have H3 := Lib.hid h3
          have H4 := Lib.hid h4
          clear h2 h3 h4
          go_wp2_with fail
          with_reducible refine Calls.mono (Hget.out _ _ HI.out) ?_
          rintro e w2 ⟨rfl, rfl⟩
          go_wp2_with fail
          with_reducible refine Calls.mono Ht2.out ?_
          rintro e w3 ⟨rfl, h5, h6⟩
          have H5 := Lib.hid (show Reads g l w 8 [] w3 from ⟨_, h5, grownBy_trans H3.out h6, nil_off l⟩)
          have hstr := (Ints.empty (k := .u8) (W := w3) (a := none) (cap := 0) (fun _ => rfl)).str
          rw [show strOfNums [] = ⟨#[]⟩ from rfl] at hstr
          clear h5 h6
          go_wp2
          go_ret
          exact ⟨rfl, H5.out⟩
        · go_enter Try.func38, Try.ntmps38
          go_wp2_with fail
          with_reducible refine Calls.mono Ht.out ?_
          rintro e w1 ⟨t, l', rfl, h1, h2, h3, h4⟩
          have HI := Lib.hid h1
          obtain ⟨ta, tc, rfl, _, _, _⟩ := h1
          have Ht2 := Lib.hid (rtake_short g l' (x : Int) rest w1 h2 hlt)
          have H3 := Lib.hid h3
          have H4 := Lib.hid h4
          clear h2 h3 h4
          go_wp2_with fail
          with_reducible refine Calls.mono (Hget.out _ _ HI.out) ?_
          rintro e w2 ⟨rfl, rfl⟩
          go_wp2_with fail
          with_reducible refine Calls.mono Ht2.out ?_
          rintro e w3 ⟨rfl, h5, h6⟩
          have H5 := Lib.hid (show Reads g l w 8 [] w3 from ⟨_, h5, grownBy_trans H3.out h6, nil_off l⟩)
          have hstr := (Ints.empty (k := .u8) (W := w3) (a := none) (cap := 0) (fun _ => rfl)).str
          rw [show strOfNums [] = ⟨#[]⟩ from rfl] at hstr
          clear h5 h6
          go_wp2
          go_ret
          exact ⟨rfl, H5.out⟩
      · rw [if_neg hs]
        have hlt : x ≤ rest.length := by omega
        simp only [Int.toNat_natCast]
        clear hs hzd h6
        by_cases hmm : most ≤ 4096
        · go_enter Try.func38, Try.ntmps38
          go_wp2_with fail
          with_reducible refine Calls.mono Ht.out ?_
          rintro e w1 ⟨t, l', rfl, h1, h2, h3, h4⟩
          have HI := Lib.hid h1
          obtain ⟨ta, tc, rfl, _, _, _⟩ := h1
          have Ht2 := Lib.hid (rtake_ok g l' x rest w1 h2 hlt)
          have H3 := Lib.hid h3
          have H4 := Lib.hid h4
          clear h2 h3 h4
          go_wp2_with fail
          with_reducible refine Calls.mono (Hget.out _ _ HI.out) ?_
          rintro e w2 ⟨rfl, rfl⟩
          go_wp2_with fail
          with_reducible refine Calls.mono Ht2.out ?_
          rintro e w3 ⟨t3, l3, rfl, h5, h6, h7, h8⟩
          have H5 := Lib.hid (show Reads g l w 0 (rest.drop x) w3 from ⟨_, h6, grownBy_trans H3.out h7, fun k e => H4.out k (h8 k e)⟩)
          have hstr := h5.str
          obtain ⟨t3a, t3c, rfl, _, _, _⟩ := h5
          generalize (rest.take x).length = tn at *
          clear h6 h7 h8
          go_wp2
          go_ret
          exact ⟨rfl, H5.out⟩
        · go_enter Try.func38, Try.ntmps38
          go_wp2_with fail
          with_reducible refine Calls.mono Ht.out ?_
          rintro e w1 ⟨t, l', rfl, h1, h2, h3, h4⟩
          have HI := Lib.hid h1
          obtain ⟨ta, tc, rfl, _, _, _⟩ := h1
          have Ht2 := Lib.hid (rtake_ok g l' x rest w1 h2 hlt)
          have H3 := Lib.hid h3
          have H4 := Lib.hid h4
          clear h2 h3 h4
          go_wp2_with fail
          with_reducible refine Calls.mono (Hget.out _ _ HI.out) ?_
          rintro e w2 ⟨rfl, rfl⟩
          go_wp2_with fail
          with_reducible refine Calls.mono Ht2.out ?_
          rintro e w3 ⟨t3, l3, rfl, h5, h6, h7, h8⟩
          have H5 := Lib.hid (show Reads g l w 0 (rest.drop x) w3 from ⟨_, h6, grownBy_trans H3.out h7, fun k e => H4.out k (h8 k e)⟩)
          have hstr := h5.str
          obtain ⟨t3a, t3c, rfl, _, _, _⟩ := h5
          generalize (rest.take x).length = tn at *
          clear h6 h7 h8
          go_wp2
          go_ret
          exact ⟨rfl, H5.out⟩
/-- a read of whatever reader -/
def rdNum (E : Int) (zs : List Int) (most : Int) : Int × Int × List Int := if E = 0 then gNum zs most else (0, E, zs)
def rdText (E : Int) (zs : List Int) (most : Int) : List Int × Int × List Int := if E = 0 then gText zs most else ([], E, zs)
theorem grown_self (w : World) (g : Nat) : w.grownBy w (some g) := ⟨rfl, rfl, rfl, Nat.le_refl _, fun _ _ _ => rfl⟩
theorem rnum_any (g : Nat) (l : Value) (E : Int) (zs : List Int) (most : Int) (w : World) (h : Rd w g l E zs) (hu : U8s zs) (hm : -9223372036854775808 ≤ most ∧ most ≤ 9223372036854775807) :
    Calls Try.prog 34 #[.pointer (some ⟨g, 0, none⟩), .int .i64 most] w fun e w' => e = .returned (.int .i64 (rdNum E zs most).1) ∧ Reads g l w (rdNum E zs most).2.1 (rdNum E zs most).2.2 w' := by
  by_cases hE : E = 0
  · subst hE; exact rnum_ok g l zs most w h hu hm
  · rw [show rdNum E zs most = (0, E, zs) from if_neg hE]
    exact (rnum_bad _ ⟨_, rfl⟩ E most w hE (rerr_any g l E w h.1)).mono fun e w' ⟨h1, h2⟩ => ⟨h1, l, by rw [← h2]; exact h, by rw [← h2]; exact grown_self w g, fun _ e => e⟩
theorem rtext_any (g : Nat) (l : Value) (E : Int) (zs : List Int) (most : Int) (w : World) (h : Rd w g l E zs) (hu : U8s zs) (hm : -9223372036854775808 ≤ most ∧ most ≤ 9223372036854775807) :
    Calls Try.prog 38 #[.pointer (some ⟨g, 0, none⟩), .int .i64 most] w fun e w' => e = .returned (.string (strOfNums (rdText E zs most).1)) ∧ Reads g l w (rdText E zs most).2.1 (rdText E zs most).2.2 w' := by
  by_cases hE : E = 0
  · subst hE; exact rtext_ok g l zs most w h hu hm
  · rw [show rdText E zs most = ([], E, zs) from if_neg hE]
    exact (rtext_bad _ ⟨_, rfl⟩ E most w hE (rerr_any g l E w h.1)).mono fun e w' ⟨h1, h2⟩ => ⟨h1, l, by rw [← h2]; exact h, by rw [← h2]; exact grown_self w g, fun _ e => e⟩
theorem rdNum_inv (E : Int) (zs : List Int) (most : Int) (h0 : E ≠ 0 → zs = []) (hu : U8s zs) : ((rdNum E zs most).2.1 ≠ 0 → (rdNum E zs most).2.2 = []) ∧ U8s (rdNum E zs most).2.2 ∧ (rdNum E zs most).2.2.length ≤ zs.length := by
  have hn : U8s ([] : List Int) := fun j hj => by simp at hj
  unfold rdNum gNum
  split
  · split
    · exact ⟨fun _ => rfl, hn, Nat.zero_le _⟩
    · split
      · exact ⟨fun _ => rfl, hn, Nat.zero_le _⟩
      · exact ⟨fun h => absurd rfl h, hu.drop 6, by simp⟩
  · exact ⟨h0, hu, Nat.le_refl _⟩
theorem rdText_inv (E : Int) (zs : List Int) (most : Int) (h0 : E ≠ 0 → zs = []) (hu : U8s zs) : ((rdText E zs most).2.1 ≠ 0 → (rdText E zs most).2.2 = []) ∧ U8s (rdText E zs most).2.2 ∧ (rdText E zs most).2.2.length ≤ zs.length := by
  have hn : U8s ([] : List Int) := fun j hj => by simp at hj
  unfold rdText gText
  split
  · split
    · exact ⟨fun _ => rfl, hn, Nat.zero_le _⟩
    · split
      · exact ⟨fun _ => rfl, hn, Nat.zero_le _⟩
      · split
        · exact ⟨fun _ => rfl, hn, Nat.zero_le _⟩
        · exact ⟨fun h => absurd rfl h, (hu.drop 2).drop _, by simp only [List.length_drop]; omega⟩
  · exact ⟨h0, hu, Nat.le_refl _⟩
end
end

/-
  pack: reading on and on of one reader.
-/
section
set_option maxRecDepth 100000
section
set_option linter.unusedVariables false
open Go.RowKit

theorem Reads.start {g : Nat} {l : Value} {w : World} {E : Int} {zs : List Int} (h : Rd w g l E zs) : Reads g l w E zs w := ⟨l, h, grown_self w g, fun _ e => e⟩
theorem Reads.up {g : Nat} {l : Value} {w W W' : World} {E : Int} {zs : List Int} (h : Reads g l w E zs W) (hu : Up W W') : Reads g l w E zs W' := by
  obtain ⟨l', h1, h2, h3⟩ := h
  exact ⟨l', h1.up hu, grown_trans h2 (grown_up hu _), h3⟩
theorem Reads.size {g : Nat} {l : Value} {w W : World} {E : Int} {zs : List Int} (h : Reads g l w E zs W) : w.heap.size ≤ W.heap.size := by
  obtain ⟨_, _, h2, _⟩ := h
  exact h2.size
theorem Reads.block {g : Nat} {l : Value} {w W : World} {E : Int} {zs : List Int} (h : Reads g l w E zs W) {B : Nat} {x : Obj} (hB : w.heap[B]? = some x) (hg : B ≠ g) : W.heap[B]? = some x := by
  obtain ⟨_, _, h2, _⟩ := h
  exact (h2.block B (lt_of_block hB) (fun e => hg (by simpa using e))).trans hB
/-- what is written into a block of the call's own -/
theorem Reads.put {g n : Nat} {l : Value} {w W W' : World} {E : Int} {zs : List Int} (h : Reads g l w E zs W) (hg : W.grownBy W' (some n)) (hn : n ≠ g) (hl : ∀ k, l.ownBlock = some k → k ≠ n) (hw : w.heap.size ≤ n) : Reads g l w E zs W' := by
  obtain ⟨l', h1, h2, h3⟩ := h
  exact ⟨l', ⟨(hg.block g (lt_of_block h1.1) (fun e => hn (by simpa using e.symm))).trans h1.1, h1.2.1.grownAt hg (fun b hb => hl b (h3 b hb)), h1.2.2⟩, grown_new h2 hg (fun q e => by cases e; exact hw), h3⟩
theorem Reads.trans {g : Nat} {l : Value} {w W W' : World} {E' : Int} {zs' : List Int} {l' : Value} (h2 : w.grownBy W (some g)) (h3 : ∀ k, l'.ownBlock = some k → l.ownBlock = some k) (k : Reads g l' W E' zs' W') : Reads g l w E' zs' W' := by
  obtain ⟨l'', k1, k2, k3⟩ := k
  exact ⟨l'', k1, grown_trans h2 k2, fun b hb => h3 b (k3 b hb)⟩
theorem rnum_on (g : Nat) (l : Value) (E : Int) (zs : List Int) (most : Int) (w W : World) (h : Reads g l w E zs W) (hu : U8s zs) (hm : -9223372036854775808 ≤ most ∧ most ≤ 9223372036854775807) :
    Calls Try.prog 34 #[.pointer (some ⟨g, 0, none⟩), .int .i64 most] W fun e w' => e = .returned (.int .i64 (rdNum E zs most).1) ∧ Reads g l w (rdNum E zs most).2.1 (rdNum E zs most).2.2 w' ∧ W.grownBy w' (some g) := by
  obtain ⟨l', h1, h2, h3⟩ := h
  refine (rnum_any g l' E zs most W h1 hu hm).mono fun e w' ⟨k1, k2⟩ => ⟨k1, Reads.trans h2 h3 k2, ?_⟩
  obtain ⟨_, _, k3, _⟩ := k2
  exact k3
theorem rtext_on (g : Nat) (l : Value) (E : Int) (zs : List Int) (most : Int) (w W : World) (h : Reads g l w E zs W) (hu : U8s zs) (hm : -9223372036854775808 ≤ most ∧ most ≤ 9223372036854775807) :
    Calls Try.prog 38 #[.pointer (some ⟨g, 0, none⟩), .int .i64 most] W fun e w' => e = .returned (.string (strOfNums (rdText E zs most).1)) ∧ Reads g l w (rdText E zs most).2.1 (rdText E zs most).2.2 w' ∧ W.grownBy w' (some g) := by
  obtain ⟨l', h1, h2, h3⟩ := h
  refine (rtext_any g l' E zs most W h1 hu hm).mono fun e w' ⟨k1, k2⟩ => ⟨k1, Reads.trans h2 h3 k2, ?_⟩
  obtain ⟨_, _, k3, _⟩ := k2
  exact k3
theorem rerr_on (g : Nat) (l : Value) (E : Int) (zs : List Int) (w W : World) (h : Reads g l w E zs W) :
    Calls Try.prog 58 #[.pointer (some ⟨g, 0, none⟩)] W fun e w' => e = .returned (.int .i64 E) ∧ W = w' := by
  obtain ⟨l', h1, _, _⟩ := h
  exact rerr_any g l' E W h1.1
/-- what was written is read -/
theorem gNum_enc (n : Int) (rest : List Int) (h0 : 0 ≤ n) (h1 : n ≤ 1099511627776) : gNum (octAll n 6 ++ rest) 1099511627776 = (n, 0, rest) := by
  have hl := octAll_length n 6
  have ht : (octAll n 6 ++ rest).take 6 = octAll n 6 := by rw [List.take_append_of_le_length (by omega), List.take_of_length_le (by omega)]
  have hd : (octAll n 6 ++ rest).drop 6 = rest := by rw [List.drop_append_of_le_length (by omega), List.drop_eq_nil_of_le (by omega), List.nil_append]
  have hg : getB (octAll n 6) = n := by rw [getB_back n 6 (by omega)]; omega
  unfold gNum
  rw [ht, hd, hg, if_neg (by rw [List.length_append]; omega), if_neg (by omega)]
theorem gText_enc (zs rest : List Int) (h : zs.length ≤ 4096) : gText ((octAll zs.length 2 ++ zs) ++ rest) 4096 = (zs, 0, rest) := by
  have hl := octAll_length (zs.length : Int) 2
  rw [List.append_assoc]
  have ht : (octAll zs.length 2 ++ (zs ++ rest)).take 2 = octAll zs.length 2 := by rw [List.take_append_of_le_length (by omega), List.take_of_length_le (by omega)]
  have hd : (octAll zs.length 2 ++ (zs ++ rest)).drop 2 = zs ++ rest := by rw [List.drop_append_of_le_length (by omega), List.drop_eq_nil_of_le (by omega), List.nil_append]
  have hg : getB (octAll zs.length 2) = zs.length := by rw [getB_back _ 2 (by omega)]; omega
  unfold gText
  rw [ht, hd, hg, if_neg (by rw [List.length_append]; omega), if_neg (by omega), if_neg (by rw [List.length_append, List.length_append]; omega)]
  simp
theorem rdNum_enc (n : Int) (rest : List Int) (h0 : 0 ≤ n) (h1 : n ≤ 1099511627776) : rdNum 0 (octAll n 6 ++ rest) 1099511627776 = (n, 0, rest) := by
  unfold rdNum; rw [if_pos rfl, gNum_enc n _ h0 h1]
theorem rdText_enc (zs rest : List Int) (h : zs.length ≤ 4096) : rdText 0 ((octAll zs.length 2 ++ zs) ++ rest) 4096 = (zs, 0, rest) := by
  unfold rdText; rw [if_pos rfl, gText_enc zs _ h]
end
end
end Go.Proofs.Ytacamknljicjmaa
