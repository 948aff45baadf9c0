import Derived.Laws.EntriesVeiled
import Derived.Test.YtenhjjbbmmomaaaSgNew
import Derived.Test.YtenhjjbbmmomaaaOctGet
import Derived.Test.YtenhjjbbmmomaaaMkPlain
namespace Go.Proofs.Ytenhjjbbmmomaaa
/-
  signer: what Verify takes off a signature, piece by piece.
-/
section
set_option maxRecDepth 100000
section
set_option linter.unusedVariables false
open Go.RowKit

theorem strOfNums_drop (zs : List Int) (k : Nat) : (strOfNums zs).extract k (strOfNums zs).size = strOfNums (zs.drop k) := by
  apply ByteArray.ext
  rw [strOfNums_size]
  simp [strOfNums, ByteArray.data_extract, List.map_drop]
  rw [List.take_of_length_le (by simp)]

/-- the text that is left, in its box -/
def Left (B : Nat) (zs : List Int) (W : World) : Prop := W.heap[B]? = some (.cells #[.string (strOfNums zs)] 9 (0, 0))
/-- a piece of eight octets -/
def pieceB (sig : List Int) (p : Nat) : List Int := (sig.drop p).take 8

end
end

/-
  signer: Verify.
-/
section
set_option maxRecDepth 100000
section
set_option linter.unusedVariables false
open Go.RowKit

def sigLeaf (sig : List Int) : Int := getB (sig.take 2)
def sigParts (sig : List Int) : List (List Int) := upTo (fun i => pieceB sig (2 + 8 * i)) 11
def sigPath (sig : List Int) (h : Nat) : List (List Int) := upTo (fun i => pieceB sig (90 + 8 * i)) h
/-- IT IS A SIGNATURE of that text, by that root and height. -/
def GoodSig (root : ByteArray) (h : Int) (text sig : List Int) : Prop :=
  0 ≤ h ∧ h ≤ 4 ∧ (sig.length : Int) = 90 + 8 * h ∧ sigLeaf sig < ((2 ^ h.toNat : Nat) : Int) ∧ strOfNums (climbB (openB text (sigParts sig)) (sigLeaf sig).toNat (sigPath sig h.toNat)) = root
/-- what Verify answers -/
def SigTold (root : ByteArray) (h : Int) (text sig : List Int) (w : World) (e : Ending) (w' : World) : Prop :=
  (∃ (a : Int) (ok : Bool), e = .returned (.tuple #[.int .i64 a, .bool ok]) ∧ (GoodSig root h text sig → a = sigLeaf sig ∧ ok = true) ∧ (¬ GoodSig root h text sig → a = 0 ∧ ok = false)) ∧ Up w w'
theorem SigTold.no {root : ByteArray} {h : Int} {text sig : List Int} {w : World} {w' : World} (hn : ¬ GoodSig root h text sig) (hu : Up w w') : SigTold root h text sig w (.returned (.tuple #[.int .i64 0, .bool false])) w' :=
  ⟨⟨0, false, rfl, fun h => absurd h hn, fun _ => ⟨rfl, rfl⟩⟩, hu⟩
theorem SigTold.yes {root : ByteArray} {h : Int} {text sig : List Int} {w : World} {w' : World} (hn : GoodSig root h text sig) (hu : Up w w') : SigTold root h text sig w (.returned (.tuple #[.int .i64 (sigLeaf sig), .bool true])) w' :=
  ⟨⟨_, true, rfl, fun _ => ⟨rfl, rfl⟩, fun h => absurd hn h⟩, hu⟩

theorem upTo_all (f : Nat → List Int) (n : Nat) (P : List Int → Prop) (h0 : P []) (h : ∀ i, i < n → P (f i)) : ∀ k : Nat, P ((upTo f n)[k]?.getD []) := by
  intro k
  by_cases hk : k < n
  · rw [show (upTo f n)[k]?.getD [] = f k from by simp [upTo, hk]]; exact h k hk
  · rw [List.getElem?_eq_none (by rw [upTo_length]; omega)]; exact h0
theorem pieceB_u8s (sig : List Int) (h : U8s sig) (p : Nat) : U8s (pieceB sig p) := (h.drop p).take 8
theorem pieceB_le (sig : List Int) (p : Nat) : (pieceB sig p).length ≤ 8 := by unfold pieceB; rw [List.length_take]; omega
theorem parts_u8s (sig : List Int) (h : U8s sig) : ∀ k : Nat, U8s ((sigParts sig)[k]?.getD []) := upTo_all _ _ U8s (fun j hj => by simp at hj) fun i _ => pieceB_u8s sig h _
theorem path_fits (sig : List Int) (h : U8s sig) (n : Nat) : Fits (sigPath sig n) := upTo_all _ _ (fun l => U8s l ∧ l.length ≤ 140737488351232) ⟨fun j hj => by simp at hj, by simp⟩ fun i _ => ⟨pieceB_u8s sig h _, by have := pieceB_le sig (90 + 8 * i); omega⟩
theorem openB_small (text : List Int) (ls : List (List Int)) : U8s (openB text ls) ∧ (openB text ls).length ≤ 8 := by
  unfold openB
  split
  · exact ⟨shortB_u8s _, by rw [shortB_length]; omega⟩
  · exact ⟨fun j hj => by simp at hj, by simp⟩

theorem left_new (w : World) (sig : List Int) (o : Obj) : Left w.heap.size sig ((w.alloc (.cells #[.string (strOfNums sig)] 9)).alloc o) := heap_alloc2_old w _ _
theorem Left.up {B : Nat} {zs : List Int} {W W' : World} (h : Left B zs W) (hu : Up W W') : Left B zs W' := (hu.block B (lt_of_block h)).trans h
end
end
end Go.Proofs.Ytenhjjbbmmomaaa
