import Derived.RangeFuncBox
import Derived.RangeFuncLeaves
import Derived.RangeFuncNested
import Derived.RangeFuncCalls
import Derived.Test.YtpofehagmpdgeaaDoorGrowth
import Derived.Test.YtpofehagmpdgeaaDoorBase
/-
  A LOOP OVER A FUNCTION WHOSE ROUNDS ARE TOLD WHAT THE ELEMENT IS: where it lies and what it reads as, in the world in which it is handed over.
-/
namespace Go.Proofs.YtpofehagmpdgeaaDoor
section
set_option linter.unusedVariables false
open Go.RowKit
variable {α : Type} {P : Program}

/-- WHAT AN ITERATOR PROMISES. Between two rounds it makes memory, and writes nothing that was there. Of an element that it hands over it says Ok (with the size of the heap when the round before had ended); of a round that goes on it wants Af. When all have come, it says S. -/
def Gives (P : Program) (g : Nat) (lb : Array Value) (enc : α → Value) (Ok : List α → α → Nat → World → Prop) (Af : α → World → Prop) (S : List α → Prop) (w : World) : Prop :=
  ∀ (l : Nat) (J Jx : List α → World → Prop) (W : World), Below w.heap.size w W →
    (∀ pre x W0 W1, J pre W0 → Up W0 W1 → Ok pre x W0.heap.size W1 → YieldAt Fence.wide 1 P l #[enc x] W1 fun e W' =>
      (e = .returned (.bool true) ∧ J (pre ++ [x]) W' ∧ Af x W') ∨ (e = .returned (.bool false) ∧ Jx (pre ++ [x]) W')) →
    J [] W →
    CallsIn Fence.wide 2 P g (#[.func (.yield l) #[] #[]] ++ lb) W fun e W' => (∃ v, e = .returned v) ∧ ((∃ xs W0, S xs ∧ J xs W0 ∧ Up W0 W') ∨ (∃ pre W0, Jx pre W0 ∧ Up W0 W'))

/-- HOW A ROUND MAY END. -/
def RoundEnds (Af : World → Prop) (I : World → Prop) (Ix : Code → World → Prop) (W : World) : Exit → Act → World → Prop
  | .normal, _, W' => KeepsOthers W W' ∧ Af W' ∧ I W'
  | .ret, _, W' => KeepsOthers W W' ∧ Ix .ret W'
  | .exit id, _, W' => KeepsOthers W W' ∧ Ix (.exit id) W'
  | .goto t, _, W' => KeepsOthers W W' ∧ Ix (.goto t) W'
  | .panic _, _, _ => False
  | .outgrown, _, _ => False

theorem Up.grownBy {A B : World} (h : Up A B) (row : Option Nat) : A.grownBy B row := grown_of_below row h
theorem Up.others {A B : World} (h : Up A B) : KeepsOthers A B := ⟨h.size, fun k o hk _ => (h.block k (Array.getElem?_eq_some_iff.1 hk).1).trans hk⟩
theorem OwnFrom.up {β : Type} {B : Nat} {I : β → World → Prop} (h : OwnFrom B I) {s : β} {X Y : World} (hs : I s X) (hu : Up X Y) : I s Y := h s X Y none hs (hu.grownBy none) (fun r e => by cases e)

/-- the mark of this loop among the deferred calls -/
def withMark (a : Act) (D : Nat) : Act := { a with defers := { target := .collected D, args := #[] } :: a.defers }

theorem wpIn_over {g : Operand} {ps : Array Tmp} {assign body : Code} {Q : Exit → Act → World → Prop} {a : Act} {w : World}
    {gf : Nat} {lb : Array Value} (hg : a.eval g = .func (.func gf) #[] lb) (eg : ∀ args w, (callFunc gf args).run P w = .ok (.enter gf args) w)
    {enc : α → Value} {Ok : List α → α → Nat → World → Prop} {Af : α → World → Prop} {S : List α → Prop} (hseq : Gives P gf lb enc Ok Af S w) (hps : ps.size = 1)
    (hOk : ∀ pre x n, OwnFrom w.heap.size (fun (_ : Unit) W => Ok pre x n W)) (hAf : ∀ x, OwnFrom w.heap.size (fun (_ : Unit) W => Af x W))
    (I : List α → World → Prop) (Ix : Code → List α → World → Prop) (hI : OwnFrom w.heap.size I) (hIx : ∀ c, OwnFrom w.heap.size (Ix c)) (h0 : I [] w) (a₁ : α → Act)
    (hassign : ∀ (l : Nat) (x : α) (W : World) (K : Act → World → Prop), K (a₁ x) W →
      assign.wpIn (Fence.wide.inRound l) 1 P (Exit.then K (fun _ _ _ => False)) { tmps := (ps.zip #[enc x]).foldl (fun t (p, v) => t.setIfInBounds p v) a.tmps, defers := [] } W)
    (hbody : ∀ (l : Nat) (pre : List α) (x : α) (W0 W1 : World), w.heap.size ≤ l → (∃ o, W0.heap[l]? = some o ∧ o.isCells = false) → I pre W0 → W0.grownBy W1 (some l) → I pre W1 → Ok pre x W0.heap.size W1 →
      body.wpIn (Fence.wide.inRound l) 1 P (RoundEnds (Af x) (I (pre ++ [x])) (fun c => Ix c (pre ++ [x])) W1) (a₁ x) W1)
    (hdone : ∀ (D : Nat) (xs : List α) (W : World), w.heap.size ≤ D → S xs → I xs W → W.heap[D]? = some (.deferred (some [])) → Q .normal (withMark a D) W)
    (hstop : ∀ (D : Nat) (c : Code) (pre : List α) (W : World), w.heap.size ≤ D → Ix c pre W → W.heap[D]? = some (.deferred (some [])) → c.wpIn Fence.wide 3 P Q (withMark a D) W) :
    (Code.rangeFunc g ps assign body).wpIn Fence.wide 3 P Q a w := by
  refine wpIn_rangeFunc fun fn _ => ?_
  -- the record of this loop, in each of its states
  let R : LoopState → Option Code → Obj := fun st pe => .loop { state := st, pending := pe, fn, tmps := a.tmps, params := ps, assign, body, defers := w.heap.size }
  have RC : ∀ st pe, (R st pe).isCells = false := fun _ _ => rfl
  generalize hX : (w.alloc (.deferred (some []))).alloc (R .ready none) = X
  have xl : X.heap[w.heap.size + 1]? = some (R .ready none) := by
    have := World.alloc_heap_new (w.alloc (.deferred (some []))) (R .ready none)
    rw [← hX]; rwa [World.size_alloc] at this
  have xd : X.heap[w.heap.size]? = some (.deferred (some [])) := by
    rw [← hX, Below.heap_alloc _ _ _ (by simp)]; exact World.alloc_heap_new w _
  have ux : Up w X := by rw [← hX]; exact Below.alloc ((Below.refl _ w).alloc (Nat.le_refl _) _) (by simp) _
  have ix : I [] X := OwnFrom.up hI h0 ux
  refine ⟨w.heap.size + 1, [{ target := .collected w.heap.size, args := #[] }], X, { target := .fn (.func gf) lb, args := #[.func (.yield (w.heap.size + 1)) #[] #[]] }, X, gf,
    #[.func (.yield (w.heap.size + 1)) #[] #[]] ++ lb, X, ?_, ?_, fun _ _ => trivial, ?_, fun _ => by decide, ?_⟩
  · rw [← hX]; exact run_enterLoop_outer _ _ _ _ _
  · simp only [resolve, hg]; simp [go_sem]
  · simp [invoke, go_sem, eg]
  -- what is said between two rounds, with the two blocks of book-keeping
  refine CallsIn.mono (hseq (w.heap.size + 1) (fun pre W => I pre W ∧ W.heap[w.heap.size + 1]? = some (R .ready none) ∧ W.heap[w.heap.size]? = some (.deferred (some [])))
    (fun pre W => ∃ c, Ix c pre W ∧ W.heap[w.heap.size + 1]? = some (R .done (some c)) ∧ W.heap[w.heap.size]? = some (.deferred (some []))) X ux ?_ ⟨ix, xl, xd⟩) ?_
  · rintro pre x W0 W1 ⟨hi, hl, hd⟩ hu hok
    have kl := (hu.block _ (Array.getElem?_eq_some_iff.1 hl).1).trans hl
    have kd := (hu.block _ (Array.getElem?_eq_some_iff.1 hd).1).trans hd
    have hlt := (Array.getElem?_eq_some_iff.1 kl).1
    refine ⟨fn, _, assign, body, run_yield (P := P) (args := #[enc x]) kl hps.symm, roundIn_of_wpIn trivial (hassign _ x W1 _ ⟨_, run_beginRound kl rfl, ?_⟩)⟩
    have bl : (W1.putObj (w.heap.size + 1) (R .busy none)).heap[w.heap.size + 1]? = some (R .busy none) := World.putObj_heap_same hlt
    have bd : (W1.putObj (w.heap.size + 1) (R .busy none)).heap[w.heap.size]? = some (.deferred (some [])) := (World.putObj_heap_other (by omega)).trans kd
    refine wpIn_mono (hbody (w.heap.size + 1) pre x W0 _ (by omega) ⟨_, hl, rfl⟩ hi (grownBy_trans (hu.grownBy _) (grownBy_putObj' _ _ _)) (OwnFrom.putObj hI _ (OwnFrom.up hI hi hu) (by omega) kl rfl) (OwnFrom.putObj (hOk pre x _) (s := ()) _ hok (by omega) kl rfl)) ?_
    -- a round's end: the record is turned once more
    have fin : ∀ (jump : Option Code) (Y : World), KeepsOthers (W1.putObj (w.heap.size + 1) (R .busy none)) Y →
        (Instr.endRound (w.heap.size + 1) jump).run P Y = .ok (.bool jump.isNone) (Y.putObj (w.heap.size + 1) (R (if jump.isNone then .ready else .done) jump)) ∧
        Y.heap[w.heap.size + 1]? = some (R .busy none) ∧
        (Y.putObj (w.heap.size + 1) (R (if jump.isNone then .ready else .done) jump)).heap[w.heap.size + 1]? = some (R (if jump.isNone then .ready else .done) jump) ∧
        (Y.putObj (w.heap.size + 1) (R (if jump.isNone then .ready else .done) jump)).heap[w.heap.size]? = some (.deferred (some [])) := fun jump Y hk => by
      have yl := hk.same _ _ bl rfl
      exact ⟨run_endRound (P := P) jump yl, yl, World.putObj_heap_same (Array.getElem?_eq_some_iff.1 yl).1, (World.putObj_heap_other (by omega)).trans (hk.same _ _ bd rfl)⟩
    intro e a' Y hp
    cases e with
    | normal =>
      obtain ⟨hk, haf, hi'⟩ := hp
      obtain ⟨hr, yl, zl, zd⟩ := fin none Y hk
      exact ⟨_, _, hr, .inl ⟨rfl, ⟨OwnFrom.putObj hI _ hi' (by omega) yl rfl, zl, zd⟩, OwnFrom.putObj (hAf x) (s := ()) _ haf (by omega) yl rfl⟩⟩
    | ret =>
      obtain ⟨hr, yl, zl, zd⟩ := fin (some .ret) Y hp.1
      exact ⟨_, _, hr, .inr ⟨rfl, _, OwnFrom.putObj (hIx _) _ hp.2 (by omega) yl rfl, zl, zd⟩⟩
    | exit id =>
      obtain ⟨hr, yl, zl, zd⟩ := fin (some (.exit id)) Y hp.1
      exact ⟨_, _, hr, .inr ⟨rfl, _, OwnFrom.putObj (hIx _) _ hp.2 (by omega) yl rfl, zl, zd⟩⟩
    | goto t =>
      obtain ⟨hr, yl, zl, zd⟩ := fin (some (.goto t)) Y hp.1
      exact ⟨_, _, hr, .inr ⟨rfl, _, OwnFrom.putObj (hIx _) _ hp.2 (by omega) yl rfl, zl, zd⟩⟩
    | panic ch => exact hp.elim
    | outgrown => exact hp.elim
  · rintro e Y ⟨⟨v, rfl⟩, ⟨xs, W0, hS, ⟨hi, hl, hd⟩, hu⟩ | ⟨pre, W0, ⟨c, hi, hl, hd⟩, hu⟩⟩
    · have kl := (hu.block _ (Array.getElem?_eq_some_iff.1 hl).1).trans hl
      have kd := (hu.block _ (Array.getElem?_eq_some_iff.1 hd).1).trans hd
      exact ⟨none, _, run_endLoop (P := P) kl (by simp), hdone _ xs _ (Nat.le_refl _) hS (OwnFrom.putObj hI _ (OwnFrom.up hI hi hu) (by omega) kl rfl) ((World.putObj_heap_other (by omega)).trans kd)⟩
    · have kl := (hu.block _ (Array.getElem?_eq_some_iff.1 hl).1).trans hl
      have kd := (hu.block _ (Array.getElem?_eq_some_iff.1 hd).1).trans hd
      exact ⟨some c, _, run_endLoop (P := P) kl (by simp), hstop _ c pre _ (Nat.le_refl _) (OwnFrom.putObj (hIx c) _ (OwnFrom.up (hIx c) hi hu) (by omega) kl rfl) ((World.putObj_heap_other (by omega)).trans kd)⟩
end
end Go.Proofs.YtpofehagmpdgeaaDoor
