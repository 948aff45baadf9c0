import Derived.Test.YtjjaefacfcjgiaaShaFns
import Derived.Test.YtjjaefacfcjgiaaShaMix
import Derived.Test.YtjjaefacfcjgiaaOctWalk
/-
  Eight words; turns in a statement that leaves its order open (the reference's).
-/
namespace Go.Proofs.Ytjjaefacfcjgiaa
set_option linter.unusedVariables false
open Go.RowKit

theorem turn_quiet {W : World} (x : Int) (n : Nat) (hx : 0 ≤ x ∧ x < 4294967296) (hn : 0 < n ∧ n < 32) (q : Nat) :
    Calls Try.prog 42 #[.int .u32 x, .int .u64 n] (W.drewN q) fun e w'' => e = .returned (.int .u32 (rotr x n)) ∧ ∃ m, w'' = W.drewN m :=
  (turn_any x n hx hn (W.drewN q)).mono fun _ _ ⟨he, hm⟩ => ⟨he, q, hm.symm⟩

/-- eight words behind one another -/
def Eight (W : World) (g : Nat) (r : St) : Prop := ∀ j, j < 8 → W.cell? ⟨g, j, none⟩ = some (.int .u32 (r.list[j]?.getD 0))
theorem Eight.new (W : World) (t : TypeId) (r : St) : Eight (W.alloc (.cells #[.int .u32 r.a, .int .u32 r.b, .int .u32 r.c, .int .u32 r.d, .int .u32 r.e, .int .u32 r.f, .int .u32 r.g, .int .u32 r.h] t)) W.heap.size r := by
  intro j hj
  rw [World.cell?_alloc_new]
  match j, hj with
  | 0, _ => rfl
  | 1, _ => rfl
  | 2, _ => rfl
  | 3, _ => rfl
  | 4, _ => rfl
  | 5, _ => rfl
  | 6, _ => rfl
  | 7, _ => rfl
theorem Eight.of (W : World) (t : TypeId) (r : St) (A E : Int) (hA : A = r.a) (hE : E = r.e) : Eight (W.alloc (.cells #[.int .u32 A, .int .u32 r.b, .int .u32 r.c, .int .u32 r.d, .int .u32 E, .int .u32 r.f, .int .u32 r.g, .int .u32 r.h] t)) W.heap.size r := by
  subst hA; subst hE; exact Eight.new W t r
theorem rnd_flat_a (s : St) (k w : Int) : (s.h + big s.e 6 11 25 + chs s.e s.f s.g + k + w + (big s.a 2 13 22 + maj s.a s.b s.c)) % 4294967296 = (rnd s k w).a := by
  show _ = (t1 s k w + t2 s) % 4294967296
  unfold t1 t2; omega
theorem rnd_flat_e (s : St) (k w : Int) : (s.d + (s.h + big s.e 6 11 25 + chs s.e s.f s.g + k + w)) % 4294967296 = (rnd s k w).e := by
  show _ = (s.d + t1 s k w) % 4294967296
  unfold t1; omega
theorem Eight.all {W : World} {g : Nat} {r : St} (h : Eight W g r) :
    W.cell? ⟨g, 0, none⟩ = some (.int .u32 r.a) ∧ W.cell? ⟨g, 1, none⟩ = some (.int .u32 r.b) ∧ W.cell? ⟨g, 2, none⟩ = some (.int .u32 r.c) ∧ W.cell? ⟨g, 3, none⟩ = some (.int .u32 r.d) ∧
    W.cell? ⟨g, 4, none⟩ = some (.int .u32 r.e) ∧ W.cell? ⟨g, 5, none⟩ = some (.int .u32 r.f) ∧ W.cell? ⟨g, 6, none⟩ = some (.int .u32 r.g) ∧ W.cell? ⟨g, 7, none⟩ = some (.int .u32 r.h) :=
  ⟨h 0 (by omega), h 1 (by omega), h 2 (by omega), h 3 (by omega), h 4 (by omega), h 5 (by omega), h 6 (by omega), h 7 (by omega)⟩
theorem Eight.drewN {W : World} {g : Nat} {r : St} (h : Eight W g r) (q : Nat) : Eight (W.drewN q) g r := h
theorem Eight.other {W : World} {g S j : Nat} {r : St} (h : Eight W g r) (hne : g ≠ S) (u : Value) : Eight (W.setCell ⟨S, j, none⟩ u) g r := fun i hi =>
  (World.cell?_of_block (a := ⟨g, i, none⟩) (Below.heap_setCell W ⟨S, j, none⟩ u g hne)).trans (h i hi)
theorem row_at {W : World} {base : Nat} {e : TypeId} {k : IntKind} {g n c : Nat} {zs : List Int} (h : W.ownsRow base e 1 (.slice (some ⟨g, 0, none⟩) n c) n (zs.map (Value.int k))) (j : Nat) (hj : j < n) : W.cell? ⟨g, j, none⟩ = some (.int k (zs[j]?.getD 0)) := by
  have hl : zs.length = n := by have := h.1; simpa using this
  rw [h.cellAt j (by omega)]
  simp [hl, hj]
theorem take_at (l : List Int) (t j : Nat) (h : j < t) : (l.take t)[j]?.getD 0 = l[j]?.getD 0 := by rw [List.getElem?_take, if_pos h]

end Go.Proofs.Ytjjaefacfcjgiaa
