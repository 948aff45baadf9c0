import Derived.Shelf.Abstract
import Derived.WalkKit
import Derived.OwnWalkIn
import Derived.TacticsInMore
import Derived.LoopNIn
import Derived.LoopIn
import Derived.Outline
import Derived.Shelf.RegionOpen
import Derived.Test.YtfenmhddlojahaaGreatSha
import Derived.Test.YtfenmhddlojahaaGreatStrs
import Derived.Test.YtfenmhddlojahaaGreatAlong
import Derived.Test.YtfenmhddlojahaaGreatUps
import Derived.Test.YtfenmhddlojahaaGreatPow2
import Derived.Test.YtfenmhddlojahaaGreatMkPlain
namespace Go.Proofs.YtfenmhddlojahaaGreat
section
section
set_option linter.unusedVariables false
open Go.RowKit
end

section
set_option linter.unusedVariables false
open Go.RowKit Go.Shelf
attribute [local go_sem] Oper.semAt_some

/-- a round's two ways, by what yield hands back -/
def TwoWays (T F : World → Prop) (e : Ending) (W : World) : Prop := ∃ b : Bool, e = .returned (.bool b) ∧ (b = true → T W) ∧ (b = false → F W)
theorem TwoWays.of {T F : World → Prop} {e : Ending} {W : World} (h : (e = .returned (.bool true) ∧ T W) ∨ (e = .returned (.bool false) ∧ F W)) : TwoWays T F e W := by
  rcases h with ⟨rfl, h⟩ | ⟨rfl, h⟩
  · exact ⟨true, rfl, fun _ => h, fun h => (by cases h)⟩
  · exact ⟨false, rfl, fun h => (by cases h), fun _ => h⟩
theorem YieldAt.mono {F : Fence} {m : Nat} {P : Program} {l : Nat} {args : Array Value} {W : World} {R R' : Ending → World → Prop} (h : YieldAt F m P l args W R) (hR : ∀ e W', R e W' → R' e W') : YieldAt F m P l args W R' := by
  obtain ⟨fn, tmps, assign, body, h1, h2⟩ := h
  exact ⟨fn, tmps, assign, body, h1, h2.mono hR⟩

def boxAnd (Bl : Nat) (v : Value) (ls : List (List Int)) (W : World) : Prop := Boxed W Bl 25 v ∧ Strs W v ls
theorem boxAnd.up {Bl : Nat} {v : Value} {ls : List (List Int)} {W W' : World} (h : boxAnd Bl v ls W) (hu : Up W W') : boxAnd Bl v ls W' := ⟨(hu.block _ h.1.lt).trans h.1, h.2.up hu⟩

end
end

/-
  Up.
-/
section
section
set_option linter.unusedVariables false
open Go.RowKit Go.Shelf
attribute [local go_sem] Oper.semAt_some

theorem strs_own {β : Type} (v : Value) (ls : List (List Int)) : Own (fun (_ : β) W => Strs W v ls) := by
  rintro _ W W' row ⟨a, cap, rfl, h1, h2, h3⟩ hg hr
  refine ⟨a, cap, rfl, h1, h2, h3.imp id ?_⟩
  rintro ⟨b, off, rfl, hc⟩
  exact ⟨b, off, rfl, fun j hj => cell_kept (hc j hj) hg hr⟩
theorem boxAnd_own {β : Type} (Bl : Nat) (v : Value) (ls : List (List Int)) : Own (fun (_ : β) W => boxAnd Bl v ls W) := fun s W W' row h hg hr =>
  ⟨boxed_own Bl 25 (fun (_ : β) => v) s W W' row h.1 hg hr, strs_own v ls s W W' row h.2 hg hr⟩
theorem make_strsB (K : Int) (k : Nat) (hK : K = k) (hk : k ≤ 8796093022208) (u : World) : (Instr.makeSlice 25 (.int .i64 0) (.int .i64 K)).run Tryz.prog u =
      .ok (.slice (some ⟨u.heap.size, 0, none⟩) 0 k) (u.alloc (.cells (madeCells #[.string ⟨#[]⟩] k) 9)) := by
  subst hK
  obtain ⟨i0, hi, hz0, hz1, hz2⟩ := info_parts info_strg
  have h := run_make (P := Tryz.prog) u 25 9 i0 (.string ⟨#[]⟩) Tryz.underlying25 hi hz0 .i64 .i64 0 (k : Int) (by omega) (by omega) (by rw [hz2]; omega) (by omega)
  simpa [hz1, Value.cells] using h

/-- BETWEEN TWO ROUNDS OF A LOOP THAT COLLECTS TEXTS. -/
def CollT (n₀ B Bl : Nat) (lv : Value) (ls : List (List Int)) (w : World) (pre : List (List Int)) (W : World) : Prop :=
  (∃ v, Boxed W B 25 v ∧ W.ownsRow n₀ 9 1 v pre.length (strVs pre) ∧ True) ∧ Below n₀ w W ∧ boxAnd Bl lv ls W
theorem CollT.own {n₀ B Bl : Nat} {lv : Value} {ls : List (List Int)} {w : World} {D : Nat} (h1 : n₀ ≤ w.heap.size) (h2 : n₀ ≤ D) : OwnFrom D (CollT n₀ B Bl lv ls w) :=
  OwnFrom.and (Own.from (holdsRow_own n₀ B 25 9 1 (fun pre => pre.length) (fun pre => strVs pre) (fun _ _ => True)) _)
    (OwnFrom.and (ownFrom_below h1 h2) (Own.from (boxAnd_own Bl lv ls) _))
/-- one round's append: what the walk owes -/
theorem CollT.step {B Bl : Nat} {lv : Value} {ls : List (List Int)} {w : World} {pre : List (List Int)} {W w1 : World} {v v' : Value} {tmp : Obj} {x : List Int}
    (hv : Boxed W B 25 v) (hrow : W.ownsRow w.heap.size 9 1 v pre.length (strVs pre)) (hB : Below w.heap.size w W) (hle : w.heap.size ≤ B)
    (hl : boxAnd Bl lv ls W) (hs : Strs w lv ls) (hne : Bl ≠ B)
    (hown : w1.ownsRow w.heap.size 9 1 v' (pre.length + 1) (strVs pre ++ [.string (strOfNums x)])) (hgrow : (W.alloc tmp).grownBy w1 v.ownBlock) :
    Boxed w1 B 25 v ∧ KeepsOthers W (w1.setCell ⟨B, 0, none⟩ v') ∧ boxAnd Bl lv ls (w1.setCell ⟨B, 0, none⟩ v') ∧ CollT w.heap.size B Bl lv ls w (pre ++ [x]) (w1.setCell ⟨B, 0, none⟩ v') := by
  obtain ⟨hv1, hv2, hr2, hk2, hb2⟩ := hv.appended (by decide) hrow hB.size hle hown hgrow
  have hl1 : Boxed (w1.setCell ⟨B, 0, none⟩ v') Bl 25 lv := ((hl.1.alloc tmp).kept hgrow (hl.1.not_row (by decide) hrow)).other hne v'
  have hbA : boxAnd Bl lv ls (w1.setCell ⟨B, 0, none⟩ v') := ⟨hl1, hs.kept (hB.trans hb2)⟩
  refine ⟨hv1, hk2, hbA, ⟨v', hv2, ?_, trivial⟩, hB.trans hb2, hbA⟩
  rw [List.length_append, strVs_snoc]; exact hr2

end
end

/-
  rows and its iterator.
-/
section
section
set_option linter.unusedVariables false
open Go.RowKit Go.Shelf
attribute [local go_sem] Oper.semAt_some

/-- what a slice reads from lies below n₀, or at n or beyond it -/
def Lies (n₀ n : Nat) (v : Value) : Prop := ∀ b, v.ownBlock = some b → b < n₀ ∨ n ≤ b
def rowLen : Value → Nat
  | .slice _ n _ => n
  | _ => 0
theorem strs_below {W : World} {v : Value} {ls : List (List Int)} (h : Strs W v ls) (h0 : 0 < ls.length) : ∀ b, v.ownBlock = some b → b < W.heap.size := by
  obtain ⟨a, cap, rfl, _, _, h3⟩ := h
  rcases h3 with rfl | ⟨b, off, rfl, hc⟩
  · simp at h0
  · intro b' hb
    obtain rfl : b = b' := by simpa [Value.ownBlock] using hb
    exact World.block_lt_of_cell? W _ (hc 0 h0)
theorem row_lies {W : World} {base n₀ : Nat} {e : TypeId} {v : Value} {n : Nat} {xs : List Value} (h : W.ownsRow base e 1 v n xs) : Lies n₀ base v := fun b hb => .inr (h.lt b hb).1

/-- what the rows' iterator says of a row that it hands over -/
def RowOk (ls : List (List Int)) (n₀ : Nat) (pre : List (Value × List (List Int))) (x : Value × List (List Int)) (n : Nat) (W : World) : Prop :=
  x.2 = upN ls pre.length ∧ 0 < x.2.length ∧ (∀ j, j < pre.length → 1 < (upN ls j).length) ∧ Lies n₀ n x.1 ∧ Strs W x.1 x.2
/-- what it says when all have come -/
def RowsAll (ls : List (List Int)) (xs : List (Value × List (List Int))) : Prop := (ls = [] ∧ xs = []) ∨ ∃ K, xs.length = K + 1 ∧ (upN ls K).length = 1
theorem RowOk.own {ls : List (List Int)} {n₀ B : Nat} (pre : List (Value × List (List Int))) (x : Value × List (List Int)) (n : Nat) : OwnFrom B (fun (_ : Unit) W => RowOk ls n₀ pre x n W) := by
  rintro s W W' row ⟨h1, h2, h3, h4, h5⟩ hg hr
  exact ⟨h1, h2, h3, h4, strs_own x.1 x.2 () W W' row h5 hg (fun r e => (hr r e).2)⟩

end
end

/-
  Root.
-/
section
section
set_option linter.unusedVariables false
open Go.RowKit Go.Shelf
attribute [local go_sem] Oper.semAt_some

/-- a result that lies in a cell of its own: a string -/
theorem results_cell_str {fn : Func} {p : Tmp} (h : fn.results = #[.cell p 9]) (tmps : Array Value) (w : World) (B : Nat) (v : Value) (hp : tmps.getD p undef = .pointer (some ⟨B, 0, none⟩)) (hc : w.cell? ⟨B, 0, none⟩ = some v) :
    (results fn tmps).run Tryz.prog w = .ok v w := by
  have hp' : tmps[p]?.getD undef = .pointer (some ⟨B, 0, none⟩) := by simpa using hp
  simp [results, h, hp', asAddr, loadVar, hc, go_sem]

/-- between two rounds of Root's loop -/
def RootI (n₀ B : Nat) (ls : List (List Int)) (w : World) (pre : List (Value × List (List Int))) (W : World) : Prop :=
  Boxed W B 9 (.string ⟨#[]⟩) ∧ Below n₀ w W ∧ ∀ j, j < pre.length → ¬ (upN ls j).length = 1
def RootX (n₀ B : Nat) (ls : List (List Int)) (w : World) (c : Code) (pre : List (Value × List (List Int))) (W : World) : Prop :=
  c = .ret ∧ Boxed W B 9 (.string (strOfNums (rootB ls))) ∧ Below n₀ w W

end
end

/-
  Path.
-/
section
section
set_option linter.unusedVariables false
open Go.RowKit Go.Shelf
attribute [local go_sem] Oper.semAt_some

/-- how often a power of two can be halved -/
def isPow (n : Nat) : Prop := ∃ K, n = 2 ^ K
theorem isPow_log {n : Nat} : isPow n ↔ n = 2 ^ Nat.log2 n := by
  constructor
  · rintro ⟨K, rfl⟩; rw [Nat.log2_two_pow]
  · exact fun h => ⟨_, h⟩
instance (n : Nat) : Decidable (isPow n) := decidable_of_iff _ isPow_log.symm
/-- Path's two answers -/
def pathE (ls : List (List Int)) (at_ : Int) : Int := if at_ < 0 ∨ (ls.length : Int) ≤ at_ then 4 else if isPow ls.length then 0 else 3
def pathR (ls : List (List Int)) (at_ : Int) : List (List Int) := if at_ < 0 ∨ (ls.length : Int) ≤ at_ then [] else if isPow ls.length then pathB ls at_.toNat (Nat.log2 ls.length) else []

/-- between two rounds of Path's loop -/
def PathI (n₀ Bp Ba : Nat) (ls : List (List Int)) (at_ : Nat) (w : World) (pre : List (Value × List (List Int))) (W : World) : Prop :=
  (∃ v, Boxed W Bp 25 v ∧ W.ownsRow n₀ 9 1 v pre.length (strVs (upTo (pathAt ls at_) pre.length)) ∧ True) ∧ Boxed W Ba 3 (.int .i64 ((at_ / 2 ^ pre.length : Nat) : Int)) ∧ Below n₀ w W ∧ ∀ j, j < pre.length → 1 < (upN ls j).length
/-- where the loop was left -/
def PathX (n₀ Bp : Nat) (ls : List (List Int)) (at_ K : Nat) (w : World) (c : Code) (pre : List (Value × List (List Int))) (W : World) : Prop :=
  c = .exit 0 ∧ (∃ v, Boxed W Bp 25 v ∧ W.ownsRow n₀ 9 1 v K (strVs (pathB ls at_ K)) ∧ True) ∧ Below n₀ w W
theorem PathI.own {n₀ Bp Ba D : Nat} {ls : List (List Int)} {at_ : Nat} {w : World} (h1 : n₀ ≤ w.heap.size) (h2 : n₀ ≤ D) : OwnFrom D (PathI n₀ Bp Ba ls at_ w) :=
  OwnFrom.and (Own.from (holdsRow_own n₀ Bp 25 9 1 (fun pre : List (Value × List (List Int)) => pre.length) (fun pre => strVs (upTo (pathAt ls at_) pre.length)) (fun _ _ => True)) _)
    (OwnFrom.and (Own.from (boxed_own _ _ (fun pre : List (Value × List (List Int)) => .int .i64 ((at_ / 2 ^ pre.length : Nat) : Int))) _) (OwnFrom.and (ownFrom_below h1 h2) (ownFrom_pure _ (fun pre : List (Value × List (List Int)) => ∀ j, j < pre.length → 1 < (upN ls j).length))))
theorem PathX.own {n₀ Bp D : Nat} {ls : List (List Int)} {at_ K : Nat} {w : World} (h1 : n₀ ≤ w.heap.size) (h2 : n₀ ≤ D) (c : Code) : OwnFrom D (PathX n₀ Bp ls at_ K w c) :=
  OwnFrom.and (ownFrom_pure _ (fun _ : List (Value × List (List Int)) => c = .exit 0))
    (OwnFrom.and (Own.from (holdsRow_own n₀ Bp 25 9 1 (fun _ : List (Value × List (List Int)) => K) (fun _ => strVs (pathB ls at_ K)) (fun _ _ => True)) _) (ownFrom_below h1 h2))

/-- a slice of strings reads on where its block is as it was -/
theorem strs_block {W X : World} {b off n c : Nat} {ls : List (List Int)} (h : Strs W (.slice (some ⟨b, off, none⟩) n c) ls) (hb : X.heap[b]? = W.heap[b]?) : Strs X (.slice (some ⟨b, off, none⟩) n c) ls := by
  obtain ⟨a, cap, he, h1, h2, h3⟩ := h
  refine ⟨a, cap, he, h1, h2, h3.imp id ?_⟩
  rintro ⟨b', off', rfl, hc⟩
  simp only [Value.slice.injEq, Option.some.injEq, Addr.mk.injEq, and_true] at he
  obtain ⟨⟨rfl, rfl⟩, _, _⟩ := he
  exact ⟨b, off, rfl, fun j hj => (World.cell?_of_block (a := ⟨b, off + j, none⟩) hb).trans (hc j hj)⟩
/-- what Path's append and store leave -/
theorem path_step {W X : World} {Bp Ba b n₀ k : Nat} {v v' : Value} {tmp : Obj} {xs ys : List Value} {u : Value} (hv : Boxed W Bp 25 v) (hrow : W.ownsRow n₀ 9 1 v k xs) (hn : n₀ ≤ W.heap.size) (hp : n₀ ≤ Bp)
    (hA : Boxed W Ba 3 u) (hne : Ba ≠ Bp) (hb1 : b ≠ Bp) (hb2 : some b ≠ v.ownBlock) (hbl : b < W.heap.size)
    (hown : X.ownsRow n₀ 9 1 v' (k + 1) ys) (hgrow : (W.drew.alloc tmp).grownBy X v.ownBlock) :
    Boxed X Bp 25 v ∧ Boxed (X.setCell ⟨Bp, 0, none⟩ v') Bp 25 v' ∧ (X.setCell ⟨Bp, 0, none⟩ v').ownsRow n₀ 9 1 v' (k + 1) ys ∧ KeepsOthers W (X.setCell ⟨Bp, 0, none⟩ v') ∧ Below n₀ W (X.setCell ⟨Bp, 0, none⟩ v') ∧
      Boxed X Ba 3 u ∧ Boxed (X.setCell ⟨Bp, 0, none⟩ v') Ba 3 u ∧ X.heap[b]? = W.heap[b]? ∧ (X.setCell ⟨Bp, 0, none⟩ v').heap[b]? = W.heap[b]? := by
  have hvd : Boxed W.drew Bp 25 v := hv
  have hrd : W.drew.ownsRow n₀ 9 1 v k xs := hrow
  have hAd : Boxed W.drew Ba 3 u := hA
  obtain ⟨h1, h2, h3, h4, h5⟩ := hvd.appended (by decide) hrd hn hp hown hgrow
  have hA1 : Boxed X Ba 3 u := (hAd.alloc tmp).kept hgrow (hAd.not_row (by decide) hrd)
  have e1 : X.heap[b]? = W.heap[b]? := (hgrow.block b (by simp; omega) hb2).trans (Below.heap_alloc W.drew tmp b hbl)
  exact ⟨h1, h2, h3, (KeepsOthers.drew W).trans h4, (Below.drew (Below.refl _ _)).trans h5, hA1, hA1.other hne v', e1, (Below.heap_setCell X ⟨Bp, 0, none⟩ v' b hb1).trans e1⟩

end
end

/-
  Path, all ways; Climb.
-/
section
section
set_option linter.unusedVariables false
open Go.RowKit

end
end
end Go.Proofs.YtfenmhddlojahaaGreat
