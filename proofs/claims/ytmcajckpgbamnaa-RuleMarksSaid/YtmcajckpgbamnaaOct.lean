import Derived.RangeFuncBox
import Derived.RangeFuncLeaves
import Derived.RangeFuncNested
import Derived.Shelf.Abstract
import Derived.WalkKit
import Derived.OwnWalkIn
import Derived.TacticsInMore
import Derived.LoopNIn
import Derived.LoopIn
import Derived.Maps.AppendAt
import Derived.Outline
import Derived.OwnWalk
import Derived.Deep.RegionLaw
import Derived.Laws.CopyOwn
import Derived.Test.YtmcajckpgbamnaaRows
import Derived.Test.YtmcajckpgbamnaaBase
namespace Go.Proofs.Ytmcajckpgbamnaa
section
section
set_option linter.unusedVariables false
open Go.RowKit Go.Shelf
attribute [local go_sem] Oper.semAt_some

/-- two blocks are as they were -/
def Keep2 (B C : Nat) (W W' : World) : Prop := W'.heap[B]? = W.heap[B]? ∧ W'.heap[C]? = W.heap[C]?
theorem Keep2.trans {B C : Nat} {X Y Z : World} (h : Keep2 B C X Y) (k : Keep2 B C Y Z) : Keep2 B C X Z := ⟨k.1.trans h.1, k.2.trans h.2⟩
theorem Keep2.refl (B C : Nat) (X : World) : Keep2 B C X X := ⟨rfl, rfl⟩
theorem Keep2.put {B C : Nat} {W : World} {l : Nat} {o o' : Obj} (hB : B ≠ l) (hC : C ≠ l) (_h : W.heap[l]? = some o) : Keep2 B C W (W.putObj l o') :=
  ⟨World.putObj_heap_other (by omega), World.putObj_heap_other (by omega)⟩

theorem info_u8 : (Try.prog.info? 5).map (fun i => (i.zero, i.size, i.bytes)) = some (some (.int .u8 0), 1, 1) := by kernel_rfl

theorem wrap_u64_range (n : Int) : 0 ≤ IntKind.u64.wrap n ∧ IntKind.u64.wrap n < 18446744073709551616 := by
  rw [IntKind.wrap_u64]; omega

end

section
set_option linter.unusedVariables false
open Go.RowKit

end

section
set_option linter.unusedVariables false
open Go.RowKit

theorem size_u8 : (Try.prog.info? 5).map (·.size) = some 1 := by kernel_rfl

/-- the array behind the copy -/
theorem splice_at (bs : List Int) (p i : Nat) (hi : i < 4) :
    (splice [Value.int .u8 0, .int .u8 0, .int .u8 0, .int .u8 0] 0 (((bs.drop p).take 4).map (Value.int .u8)))[i]? = some (.int .u8 (bs[p + i]?.getD 0)) := by
  simp only [splice, List.take_zero, List.nil_append, Nat.zero_add]
  by_cases h : i < (((bs.drop p).take 4).map (Value.int .u8)).length
  · rw [List.getElem?_append_left h]
    simp only [List.getElem?_map, List.getElem?_take, List.getElem?_drop]
    simp at h
    rw [if_pos hi, List.getElem?_eq_getElem (by omega)]
    simp
  · rw [List.getElem?_append_right (by omega)]
    simp only [List.length_map, List.length_take, List.length_drop] at h ⊢
    rw [List.getElem?_drop, List.getElem?_eq_none (l := bs) (by omega)]
    have e : min 4 (bs.length - p) + (i - min 4 (bs.length - p)) = i := by omega
    rw [e]
    have h2 : i = 0 ∨ i = 1 ∨ i = 2 ∨ i = 3 := by omega
    rcases h2 with rfl | rfl | rfl | rfl <;> rfl

end

section
set_option linter.unusedVariables false
open Go.RowKit

/-- the cells of a row -/
theorem row_cells {W : World} {base : Nat} {e : TypeId} {g n cap : Nat} {xs : List Value} (h : W.ownsRow base e 1 (.slice (some ⟨g, 0, none⟩) n cap) n xs) : ∀ j u, xs[j]? = some u → W.cell? ((⟨g, 0, none⟩ : Addr).add j) = some u := by
  intro j u hj
  have hl : xs.length = n := by have := h.1; omega
  have hj' : j < n := by have := (List.getElem?_eq_some_iff.1 hj).1; omega
  have h2 : ((⟨g, 0, none⟩ : Addr).add j) = ⟨g, j, none⟩ := by unfold Addr.add; split <;> simp_all
  rw [h2, h.cellAt j (by omega)]
  exact hj
end

section
set_option linter.unusedVariables false
open Go.RowKit Go.Shelf
attribute [local go_sem] Oper.semAt_some

/-- THE MARKS OF LOOPS OVER FUNCTIONS THAT A FUNCTION HAS LEFT BEHIND. -/
def marks (Ds : List Nat) : List Deferred := Ds.map fun D => { target := .collected D, args := #[] }
/-- each names a block that no call was put into -/
def Open (n₀ : Nat) (Ds : List Nat) (W : World) : Prop := Ds.Nodup ∧ ∀ D, D ∈ Ds → n₀ ≤ D ∧ W.heap[D]? = some (.deferred (some []))

/-- A FUNCTION LEAVES WITH SUCH MARKS: what its return says must abide that each block is shut. -/
theorem leaves_marks {F : Fence} {n : Nat} {P : Program} {fn : Func} {tmps : Array Value} {R : Ending → World → Prop} {n₀ : Nat} (G : World → Prop)
    (hG : ∀ W D, n₀ ≤ D → W.heap[D]? = some (.deferred (some [])) → G W → G (W.putObj D (.deferred none)))
    (hR : ∀ W, G W → LeavesInM F n P fn tmps R [] .returning W) : ∀ (Ds : List Nat) (W : World), Open n₀ Ds W → G W → LeavesInM F n P fn tmps R (marks Ds) .returning W
  | [], W, _, hg => hR W hg
  | D :: Ds, W, ⟨hn, ho⟩, hg => by
    have hD := ho D (by simp)
    refine ⟨by simp, .inl ⟨D, _, rfl, run_takeDeferred hD.2, ?_⟩⟩
    refine leaves_marks G hG hR Ds _ ⟨(List.nodup_cons.1 hn).2, fun E hE => ?_⟩ (hG W D hD.1 hD.2 hg)
    have hE' := ho E (List.mem_cons_of_mem _ hE)
    refine ⟨hE'.1, (World.putObj_heap_other ?_).trans hE'.2⟩
    rintro rfl
    exact (List.nodup_cons.1 hn).1 hE

theorem open_own {β : Type} {n₀ : Nat} {Ds : List Nat} {B : Nat} (hD : ∀ D, D ∈ Ds → D < B) : OwnFrom B (fun (_ : β) W => Open n₀ Ds W) := by
  rintro s W W' row ⟨hn, ho⟩ hg hr
  refine ⟨hn, fun D h => ⟨(ho D h).1, ?_⟩⟩
  have h1 := (ho D h).2
  refine (hg.block D (Array.getElem?_eq_some_iff.1 h1).1 ?_).trans h1
  intro e
  have := (hr D e.symm).1
  have := hD D h
  omega
theorem Open.keeps {n₀ : Nat} {Ds : List Nat} {W W' : World} (h : Open n₀ Ds W) (hk : KeepsOthers W W') : Open n₀ Ds W' :=
  ⟨h.1, fun D hD => ⟨(h.2 D hD).1, hk.same D _ (h.2 D hD).2 rfl⟩⟩
theorem Open.lt {n₀ : Nat} {Ds : List Nat} {W : World} (h : Open n₀ Ds W) : ∀ D, D ∈ Ds → D < W.heap.size := fun D hD => (Array.getElem?_eq_some_iff.1 (h.2 D hD).2).1
theorem Open.cons {n₀ D B : Nat} {Ds : List Nat} {W : World} (h : Open n₀ Ds W) (hB : ∀ E, E ∈ Ds → E < B) (hD : B ≤ D) (hn : n₀ ≤ D) (hk : W.heap[D]? = some (.deferred (some []))) : Open n₀ (D :: Ds) W := by
  refine ⟨List.nodup_cons.2 ⟨fun hm => ?_, h.1⟩, fun E hE => ?_⟩
  · have := hB D hm; omega
  · rcases List.mem_cons.1 hE with rfl | hE
    · exact ⟨hn, hk⟩
    · exact h.2 E hE

end
end

section
open Go.RowKit
set_option linter.unusedVariables false

end

/-
  What the pages say of octets, as the reference's functions reckon it.
-/
section
set_option linter.unusedVariables false
open Go.RowKit

theorem wrapped_range (n : Int) : 0 ≤ IntKind.u64.wrap n ∧ IntKind.u64.wrap n < 18446744073709551616 := wrap_u64_range n

end
end Go.Proofs.Ytmcajckpgbamnaa
