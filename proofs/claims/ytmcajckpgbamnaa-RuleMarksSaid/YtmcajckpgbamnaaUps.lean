import Derived.Laws.Rows
import Derived.Laws.Tables
import Derived.Test.YtmcajckpgbamnaaGrowth
import Derived.Test.YtmcajckpgbamnaaBase
namespace Go.Proofs.Ytmcajckpgbamnaa
/-
  Worlds beyond worlds, step by step; what reads on in them.
-/
section
set_option linter.unusedVariables false
open Go.RowKit

theorem Up.drew {w w' : World} (h : Up w w') : Up w w'.drew := Below.drew h
theorem Up.drew1 (w : World) : Up w w.drew := (Below.refl _ _).drew
theorem Up.drewN {w w' : World} (h : Up w w') (q : Nat) : Up w (w'.drewN q) := Below.trans h ⟨rfl, rfl, rfl, Nat.le_refl _, fun _ _ => rfl⟩
theorem Up.alloc {w w' : World} (h : Up w w') (o : Obj) : Up w (w'.alloc o) := Below.alloc h h.size o
theorem Ints.up {k : IntKind} {W W' : World} {v : Value} {zs : List Int} (h : Ints k W v zs) (hu : Up W W') : Ints k W' v zs := h.kept hu
theorem Ints.alloc {k : IntKind} {W : World} {v : Value} {zs : List Int} (h : Ints k W v zs) (o : Obj) : Ints k (W.alloc o) v zs := h.kept ((Below.refl _ _).alloc (Nat.le_refl _) o)
/-- a slice that was just laid -/
theorem Ints.new' (W : World) (k : IntKind) (t : TypeId) (zs : List Int) (b n : Nat) (hb : b = W.heap.size) (hn : n = zs.length) : Ints k (W.alloc (.cells (zs.map (Value.int k)).toArray t)) (.slice (some ⟨b, 0, none⟩) n n) zs := by
  subst hn; subst hb
  exact ⟨_, _, rfl, Nat.le_refl _, by simp, .inr ⟨W.heap.size, 0, rfl, fun j hj => by rw [Nat.zero_add, World.cell?_alloc_new]; simp [hj]⟩⟩
theorem Ints.newc (W : World) (k : IntKind) (t : TypeId) (c : Array Value) (zs : List Int) (b n : Nat) (hb : b = W.heap.size) (hn : n = zs.length) (hc : c.toList = zs.map (Value.int k)) : Ints k (W.alloc (.cells c t)) (.slice (some ⟨b, 0, none⟩) n n) zs := by
  have h := Ints.new' W k t zs b n hb hn
  rw [← hc] at h
  exact h
/-- .. of a constant text -/
theorem Ints.newf (W : World) (k : IntKind) (t : TypeId) (c : Array Value) (fr : Nat × Nat) (zs : List Int) (b n : Nat) (hb : b = W.heap.size) (hn : n = zs.length) (hc : c.toList = zs.map (Value.int k)) : Ints k (W.alloc (.cells c t fr)) (.slice (some ⟨b, 0, none⟩) n n) zs := by
  subst hn; subst hb
  refine ⟨_, _, rfl, Nat.le_refl _, by simp, .inr ⟨W.heap.size, 0, rfl, fun j hj => ?_⟩⟩
  rw [Nat.zero_add, cell_of_row _ _ j c t fr (heap_alloc_new W _), ← Array.getElem?_toList, hc]
  simp [hj]
theorem Rows8.up {W W' : World} {v : Value} {ls : List (List Int)} (h : Rows8 W v ls) (hu : Up W W') : Rows8 W' v ls := h.kept hu
/-- what lies from a block on lies from an earlier one on -/
theorem ownsRow_base {w : World} {base base' : Nat} {e : TypeId} {size : Nat} {v : Value} {n : Nat} {xs : List Value} (h : w.ownsRow base e size v n xs) (hb : base' ≤ base) : w.ownsRow base' e size v n xs :=
  ⟨h.1, h.2.imp id fun ⟨g, cap, cur, h1, h2, h3⟩ => ⟨g, cap, cur, h1, Nat.le_trans hb h2, h3⟩⟩
theorem Rows8.new1 (w : World) (t : TypeId) (u0 : Value) (l0 : List Int) (b : Nat) (hb : b = w.heap.size) (h0 : Ints .u8 w u0 l0) : Rows8 (w.alloc (.cells #[u0] t)) (.slice (some ⟨b, 0, none⟩) 1 1) [l0] := by
  subst hb
  exact Rows8.new w t [u0] [l0] rfl fun j hj => by
    match j, hj with
    | 0, _ => exact h0
theorem Rows8.new2 (w : World) (t : TypeId) (u0 u1 : Value) (l0 l1 : List Int) (b : Nat) (hb : b = w.heap.size) (h0 : Ints .u8 w u0 l0) (h1 : Ints .u8 w u1 l1) : Rows8 (w.alloc (.cells #[u0, u1] t)) (.slice (some ⟨b, 0, none⟩) 2 2) [l0, l1] := by
  subst hb
  exact Rows8.new w t [u0, u1] [l0, l1] rfl fun j hj => by
    match j, hj with
    | 0, _ => exact h0
    | 1, _ => exact h1
theorem Rows8.new3 (w : World) (t : TypeId) (u0 u1 u2 : Value) (l0 l1 l2 : List Int) (b : Nat) (hb : b = w.heap.size) (h0 : Ints .u8 w u0 l0) (h1 : Ints .u8 w u1 l1) (h2 : Ints .u8 w u2 l2) : Rows8 (w.alloc (.cells #[u0, u1, u2] t)) (.slice (some ⟨b, 0, none⟩) 3 3) [l0, l1, l2] := by
  subst hb
  exact Rows8.new w t [u0, u1, u2] [l0, l1, l2] rfl fun j hj => by
    match j, hj with
    | 0, _ => exact h0
    | 1, _ => exact h1
    | 2, _ => exact h2
/-- a beginning -/
theorem Ints.pre {k : IntKind} {W : World} {a : Option Addr} {n cap : Nat} {zs : List Int} (h : Ints k W (.slice a n cap) zs) (M : Nat) (hM : M ≤ zs.length) : Ints k W (.slice a M cap) (zs.take M) := by
  obtain ⟨a', cap', he, h2, h3, h4⟩ := h
  simp only [Value.slice.injEq] at he
  obtain ⟨rfl, rfl, rfl⟩ := he
  have hl : (zs.take M).length = M := by rw [List.length_take]; omega
  refine ⟨a, cap, by rw [hl], by rw [hl]; omega, h3, h4.imp (fun e => by rw [e]; simp) ?_⟩
  rintro ⟨b, off, rfl, hc⟩
  refine ⟨b, off, rfl, fun j hj => ?_⟩
  rw [hl] at hj
  rw [hc j (by omega), List.getElem?_take, if_pos hj]
/-- an end -/
theorem Ints.suf {k : IntKind} {W : World} {b off n cap : Nat} {zs : List Int} (h : Ints k W (.slice (some ⟨b, off, none⟩) n cap) zs) (M : Nat) (hM : M ≤ zs.length) : Ints k W (.slice (some ⟨b, off + M, none⟩) (n - M) (cap - M)) (zs.drop M) := by
  obtain ⟨a', cap', he, h2, h3, h4⟩ := h
  simp only [Value.slice.injEq] at he
  obtain ⟨rfl, rfl, rfl⟩ := he
  have hl : (zs.drop M).length = zs.length - M := by rw [List.length_drop]
  refine ⟨_, cap - M, by rw [hl], by rw [hl]; omega, by simp, h4.imp (fun e => by rw [e]; simp) ?_⟩
  rintro ⟨b', off', he, hc⟩
  simp only [Option.some.injEq, Addr.mk.injEq, and_true] at he
  obtain ⟨rfl, rfl⟩ := he
  refine ⟨b, off + M, rfl, fun j hj => ?_⟩
  rw [hl] at hj
  rw [Nat.add_assoc, hc (M + j) (by omega), List.getElem?_drop]
/-- of nothing there is nothing behind -/
theorem Ints.empty {k : IntKind} {W : World} {a : Option Addr} {cap : Nat} (h : a = none → cap = 0) : Ints k W (.slice a 0 cap) [] := ⟨a, cap, rfl, Nat.zero_le _, h, .inl rfl⟩
theorem U8s.take {zs : List Int} (h : U8s zs) (M : Nat) : U8s (zs.take M) := by
  intro j hj
  have : j < M := by rw [List.length_take] at hj; omega
  rw [List.getElem?_take, if_pos this]; exact h.at zs j
theorem U8s.drop {zs : List Int} (h : U8s zs) (M : Nat) : U8s (zs.drop M) := by
  intro j hj
  rw [List.getElem?_drop]; exact h.at zs _
theorem U8s.append {a b : List Int} (ha : U8s a) (hb : U8s b) : U8s (a ++ b) := by
  intro j hj
  by_cases h : j < a.length
  · rw [List.getElem?_append_left h]; exact ha.at a j
  · rw [List.getElem?_append_right (by omega)]; exact hb.at b _
theorem U8s.replicate (n : Nat) : U8s (List.replicate n 0) := by
  intro j hj
  rw [List.length_replicate] at hj
  simp [hj]
theorem U8s.cons {x : Int} {a : List Int} (hx : 0 ≤ x ∧ x < 256) (ha : U8s a) : U8s (x :: a) := by
  intro j hj
  cases j with
  | zero => simpa using hx
  | succ j => simpa using ha.at a j
/-- a row of one's own, in a world beyond -/
theorem ownsRow_up {w w' : World} {base : Nat} {e : TypeId} {size : Nat} {v : Value} {n : Nat} {xs : List Value} (h : w.ownsRow base e size v n xs) (hu : Up w w') : w'.ownsRow base e size v n xs :=
  h.kept (row := none) ⟨hu.os, hu.tape, hu.output, hu.size, fun k hk _ => hu.block k hk⟩ (Classical.em _)
theorem Ints.grownBy {k : IntKind} {W W' : World} {g b n c : Nat} {zs : List Int} (h : Ints k W (.slice (some ⟨g, 0, none⟩) n c) zs) (hg : W.grownBy W' (some b)) (hne : g ≠ b) : Ints k W' (.slice (some ⟨g, 0, none⟩) n c) zs := by
  obtain ⟨a, cap, he, h2, h3, h4⟩ := h
  refine ⟨a, cap, he, h2, h3, h4.imp id ?_⟩
  rintro ⟨b', off, rfl, hc⟩
  simp only [Value.slice.injEq, Option.some.injEq, Addr.mk.injEq, and_true] at he
  obtain ⟨⟨rfl, rfl⟩, _, _⟩ := he
  refine ⟨g, 0, rfl, fun j hj => ?_⟩
  rw [← hc j hj]
  exact World.cell?_of_block (a := ⟨g, 0 + j, none⟩) (hg.block g (World.block_lt_of_cell? W _ (hc j hj)) (fun e => hne (by simpa using e)))
/-- an element -/
theorem Ints.at0 {k : IntKind} {W : World} {g n c : Nat} {zs : List Int} (h : Ints k W (.slice (some ⟨g, 0, none⟩) n c) zs) (j : Nat) (hj : j < zs.length) : W.cell? ⟨g, j, none⟩ = some (.int k (zs[j]?.getD 0)) := by
  obtain ⟨_, _, he, _, _, hc⟩ := h
  simp only [Value.slice.injEq] at he
  obtain ⟨rfl, _, _⟩ := he
  rcases hc with rfl | ⟨b, off, he, hc⟩
  · simp at hj
  · simp only [Option.some.injEq, Addr.mk.injEq, and_true] at he
    obtain ⟨rfl, rfl⟩ := he
    have := hc j hj
    rwa [Nat.zero_add] at this

theorem Rows8.new5 (w : World) (t : TypeId) (u0 u1 u2 u3 u4 : Value) (l0 l1 l2 l3 l4 : List Int) (b : Nat) (hb : b = w.heap.size) (h0 : Ints .u8 w u0 l0) (h1 : Ints .u8 w u1 l1) (h2 : Ints .u8 w u2 l2) (h3 : Ints .u8 w u3 l3) (h4 : Ints .u8 w u4 l4) :
    Rows8 (w.alloc (.cells #[u0, u1, u2, u3, u4] t)) (.slice (some ⟨b, 0, none⟩) 5 5) [l0, l1, l2, l3, l4] := by
  subst hb
  exact Rows8.new w t [u0, u1, u2, u3, u4] [l0, l1, l2, l3, l4] rfl fun j hj => by
    match j, hj with
    | 0, _ => exact h0
    | 1, _ => exact h1
    | 2, _ => exact h2
    | 3, _ => exact h3
    | 4, _ => exact h4
end

/-
  Structs in their blocks; what a call keeps; append of whatever slice, and where the row lies.
-/
section
set_option maxRecDepth 100000
section
set_option linter.unusedVariables false
open Go.RowKit

theorem grown_trans {a b c : World} {r : Option Nat} (h : a.grownBy b r) (k : b.grownBy c r) : a.grownBy c r := grownBy_trans h k
theorem grown_refl (a : World) (r : Option Nat) : a.grownBy a r := ⟨rfl, rfl, rfl, Nat.le_refl _, fun _ _ _ => rfl⟩
theorem grown_up {a b : World} (h : Up a b) (r : Option Nat) : a.grownBy b r := grown_of_below r h
theorem up_grown {a b : World} (h : a.grownBy b none) : Up a b := ⟨h.os, h.tape, h.output, h.size, fun k hk => h.block k hk (by simp)⟩
/-- what a call writes into a block that was not there when the call began -/
theorem grown_new {a b c : World} {r row : Option Nat} (h : a.grownBy b r) (k : b.grownBy c row) (hn : ∀ q, row = some q → a.heap.size ≤ q) : a.grownBy c r :=
  ⟨k.os.trans h.os, k.tape.trans h.tape, k.output.trans h.output, Nat.le_trans h.size k.size, fun i hi hr => (k.block i (Nat.lt_of_lt_of_le hi h.size) (fun e => by have := hn i e.symm; omega)).trans (h.block i hi hr)⟩

theorem row_off {W : World} {base : Nat} {e : TypeId} {sz : Nat} {v : Value} {n : Nat} {xs : List Value} {r : Option Nat} (h : W.ownsRow base e sz v n xs) (hr : ∀ q, r = some q → q < base) : v.ownBlock = none ∨ v.ownBlock ≠ r := by
  cases hv : v.ownBlock with
  | none => exact .inl rfl
  | some b => exact .inr fun e => by have := (h.lt b hv).1; have := hr b e.symm; omega

/-- a struct into its block: the world behind it by what is known of it alone -/
theorem wpList_store_agg {P : Program} {w : World} {ops : Array Oper} {rest : List Oper} {o : Oper} {a : Act} {Q : Exit → Act → World → Prop} (hgd : o.guard = none) (ty : TypeId) (x y : Operand) (ho : o.op = .store ty x y)
    (g : Nat) (c0 c1 : Array Value) (hx : a.eval x = .pointer (some ⟨g, 0, none⟩)) (hy : a.eval y = .agg c1) (t : TypeId) (hg : w.heap[g]? = some (.cells c0 t (0, 0)))
    (hi : (P.info? ty).map (·.size) = some c1.size) (hl : c0.size = c1.size) (hone : c1.all (·.oneCell') = true)
    (h : ∀ w2, w2.heap[g]? = some (.cells c1 t (0, 0)) → w.grownBy w2 (some g) → wpList P ops Q rest (a.put o.dst undef) w2) : wpList P ops Q (o :: rest) a w :=
  wpList_store_row hgd ty x y ho g _ hx hy t _ hg hi hl hone (h _ (setRow_heap w g _ _ t (0, 0) hg) (grownBy_setRow w g c1))
theorem lt_alloc2 (w : World) (A B : Obj) : w.heap.size < ((w.alloc A).alloc B).heap.size := by simp; omega
theorem lt_alloc2' (w : World) (A B : Obj) : w.heap.size + 1 < ((w.alloc A).alloc B).heap.size := by simp
theorem row_one {W : World} {base : Nat} {e : TypeId} {sz : Nat} {v : Value} {n : Nat} {xs : List Value} (h : W.ownsRow base e sz v n xs) : v.oneCell' = true := by
  rcases h.2 with ⟨rfl, _⟩ | ⟨_, _, _, rfl, _⟩ <;> simp [Value.oneCell']
theorem up_at {w W W' : World} {D : Nat} (h : Up w W) (hg : W.grownBy W' (some D)) (hD : w.heap.size ≤ D) : Up w W' := up_grown (grown_new (grown_up h none) hg (fun q e => by cases e; exact hD))
/-- what lies outside S is as it was -/
structure KeptBut (S : Nat → Prop) (w w' : World) : Prop where
  os : w'.os = w.os
  tape : w'.tape = w.tape
  output : w'.output = w.output
  size : w.heap.size ≤ w'.heap.size
  block : ∀ k, k < w.heap.size → ¬ S k → w'.heap[k]? = w.heap[k]?
theorem KeptBut.refl (S : Nat → Prop) (w : World) : KeptBut S w w := ⟨rfl, rfl, rfl, Nat.le_refl _, fun _ _ _ => rfl⟩
theorem KeptBut.of_up {S : Nat → Prop} {w w' : World} (h : Up w w') : KeptBut S w w' := ⟨h.os, h.tape, h.output, h.size, fun k hk _ => h.block k hk⟩
theorem KeptBut.of_grown {S : Nat → Prop} {w w' : World} {r : Option Nat} (h : w.grownBy w' r) (hr : ∀ k, r = some k → S k) : KeptBut S w w' := ⟨h.os, h.tape, h.output, h.size, fun k hk hS => h.block k hk (fun e => hS (hr k e.symm))⟩
theorem KeptBut.trans {S T : Nat → Prop} {a b c : World} (h : KeptBut S a b) (k : KeptBut T b c) (hT : ∀ x, x < a.heap.size → T x → S x) : KeptBut S a c :=
  ⟨k.os.trans h.os, k.tape.trans h.tape, k.output.trans h.output, Nat.le_trans h.size k.size, fun i hi hS => (k.block i (Nat.lt_of_lt_of_le hi h.size) (fun e => hS (hT i hi e))).trans (h.block i hi hS)⟩
theorem KeptBut.below {S : Nat → Prop} {base : Nat} {w w' : World} (h : KeptBut S w w') (hb : base ≤ w.heap.size) (hS : ∀ k, S k → base ≤ k) : Below base w w' :=
  ⟨h.os, h.tape, h.output, h.size, fun k hk => h.block k (Nat.lt_of_lt_of_le hk hb) (fun e => by have := hS k e; omega)⟩

/-- a field is set -/
theorem set_field {w : World} {g : Nat} {cs cs' : Array Value} {t : TypeId} (h : w.heap[g]? = some (.cells cs t (0, 0))) (i : Nat) (v : Value) (he : cs.setIfInBounds i v = cs') : (w.setCell ⟨g, i, none⟩ v).heap[g]? = some (.cells cs' t (0, 0)) := by
  rw [heap_setCell_same w g i cs t v h, he]

theorem row_shape {W : World} {base : Nat} {e : TypeId} {sz : Nat} {v : Value} {n : Nat} {xs : List Value} (h : W.ownsRow base e sz v n xs) : ∃ a c, v = .slice a n c := by
  rcases h.2 with ⟨rfl, rfl⟩ | ⟨g, cap, cur, rfl, _⟩
  · exact ⟨_, _, rfl⟩
  · exact ⟨_, _, rfl⟩
theorem block_off {W : World} {B : Nat} {cs : Array Value} {t e : TypeId} (h : W.heap[B]? = some (.cells cs t (0, 0))) (hte : t ≠ e) {base size k : Nat} {v : Value} {xs : List Value} (hr : W.ownsRow base e size v k xs) : some B ≠ v.ownBlock := by
  rcases hr.2 with ⟨rfl, _⟩ | ⟨g, cap, cur, rfl, _, hgb, _⟩
  · simp [Value.ownBlock]
  · intro e'
    obtain rfl : B = g := by simpa [Value.ownBlock] using e'
    have := h.symm.trans hgb
    simp at this
    exact hte this.2
/-- append onto a slice of the call's own, of whatever slice: where the row lies -/
theorem wpList_append_own_src_at {P : Program} (w : World) {ops : Array Oper} {rest : List Oper} {o : Oper} {a : Act} {Q : Exit → Act → World → Prop} (hgd : o.guard = none) (s x : Operand) (t : TypeId)
    (ho : o.op = .call { callee := .builtin .append, args := #[s, x], argTypes := #[t, t] })
    (base : Nat) (e : TypeId) (i : TypeInfo) (z : Value) (size bytes : Nat) (ht : P.underlying t = some (.slice e)) (hi : P.info? e = some i) (hz : i.zero = some z)
    (hsize : i.size = size) (hby : i.bytes = bytes) (hzs : z.cells.size = size) (hsz : 0 < size)
    (v : Value) (n : Nat) (xs : List Value) (hs : a.eval s = v) (hown : w.ownsRow base e size v n xs)
    (ao : Option Addr) (m c : Nat) (news : List Value) (hx : a.eval x = .slice ao m c) (hnone : ao = none → m = 0 ∧ c = 0) (hl : news.length = m * size) (hnews : ∀ ad, ao = some ad → ∀ j u, news[j]? = some u → w.cell? (ad.add j) = some u) (h1 : ∀ u ∈ news, u.oneCell' = true)
    (h63 : n + m ≤ maxLen) (hbytes : (n + m) * bytes ≤ 140737488355328) (hbase : base ≤ w.heap.size)
    (h : ∀ v' w', w'.ownsRow base e size v' (n + m) (xs ++ news) → w.grownBy w' v.ownBlock → (v'.ownBlock = v.ownBlock ∨ v'.ownBlock = some w.heap.size) → wpList P ops Q rest (a.put o.dst v') w') : wpList P ops Q (o :: rest) a w := by
  cases ao with
  | some ad => exact wpList_append_own_at w hgd s x t ho base e i z size bytes ht hi hz hsize hby hzs hsz v n xs hs hown ad m c news hx hl (hnews ad rfl) h1 h63 hbytes hbase fun v' w' h2 h3 _ h4 => h v' w' h2 h3 h4
  | none =>
    obtain ⟨rfl, rfl⟩ := hnone rfl
    obtain rfl : news = [] := List.eq_nil_of_length_eq_zero (by simpa using hl)
    exact wpList_append_own_none hgd s x t ho base e i size ht hi v n xs hs hown hx (h v w (by simpa using hown) (World.grownBy.refl _ _) (.inl rfl))
theorem none_empty {α : Type} {b : Option Addr} {fs : List α} {p : Nat → Nat → Prop} (h : fs = [] ∨ ∃ c off, b = some ⟨c, off, none⟩ ∧ p c off) (e : b = none) : fs.length = 0 := by
  rcases h with rfl | ⟨_, _, e2, _⟩
  · rfl
  · rw [e] at e2; cases e2
theorem u8_cells (zs : List Int) : ∀ u ∈ zs.map (Value.int .u8), u.oneCell' = true := by
  intro u hu
  obtain ⟨x, _, rfl⟩ := List.mem_map.1 hu
  simp [Value.oneCell']

/-- a row of one's own has grown, from a world on -/
theorem later_cellF {w w' : World} {ad : Addr} {v : Value} (h : w.cell? ad = some v) (hu : Up w w') : w'.cell? ad = some v := (hu.cell (p := ad) (World.block_lt_of_cell? w _ h)).trans h
theorem up_row {w W W' : World} (h : Up w W) {base : Nat} {e : TypeId} {sz : Nat} {v : Value} {n : Nat} {xs : List Value} (hr : W.ownsRow base e sz v n xs) (hg : W.grownBy W' v.ownBlock) (hb : w.heap.size ≤ base) : Up w W' :=
  up_grown (grown_new (grown_up h none) hg (fun q e => Nat.le_trans hb (hr.lt q e).1))
theorem row_up {W W' : World} {b : Nat} {cs : Array Value} {t : TypeId} (h : W.heap[b]? = some (.cells cs t (0, 0))) (u : Up W W') : W'.heap[b]? = some (.cells cs t (0, 0)) := (u.block b (lt_of_block h)).trans h
theorem lt_alloc1 (w : World) (o : Obj) : w.heap.size < (w.drew.alloc o).heap.size := by show w.heap.size < (w.drew.heap.push o).size; simp
theorem tx_cells {W : World} {B : Nat} {c0 c1 c2 c3 c4 : Value} {ty : TypeId} {fr : Nat × Nat} (h : W.heap[B]? = some (.cells #[c0, c1, c2, c3, c4] ty fr)) :
    W.cell? ⟨B, 0, none⟩ = some c0 ∧ W.cell? ⟨B, 1, none⟩ = some c1 ∧ W.cell? ⟨B, 2, none⟩ = some c2 ∧ W.cell? ⟨B, 3, none⟩ = some c3 ∧ W.cell? ⟨B, 4, none⟩ = some c4 :=
  ⟨cell_of_row _ _ 0 _ _ _ h, cell_of_row _ _ 1 _ _ _ h, cell_of_row _ _ 2 _ _ _ h, cell_of_row _ _ 3 _ _ _ h, cell_of_row _ _ 4 _ _ _ h⟩
theorem key_cells {W : World} {B : Nat} {c0 c1 c2 : Value} {ty : TypeId} {fr : Nat × Nat} (h : W.heap[B]? = some (.cells #[c0, c1, c2] ty fr)) :
    W.cell? ⟨B, 0, none⟩ = some c0 ∧ W.cell? ⟨B, 1, none⟩ = some c1 ∧ W.cell? ⟨B, 2, none⟩ = some c2 :=
  ⟨cell_of_row _ _ 0 _ _ _ h, cell_of_row _ _ 1 _ _ _ h, cell_of_row _ _ 2 _ _ _ h⟩
end
end
end Go.Proofs.Ytmcajckpgbamnaa
