import Derived.Test.YtnnjoeppcbbblaaFirsts
namespace Go.Proofs.Ytnnjoeppcbbblaa
/-
  Of each key the first, by key: there is such a list.
-/
section
open Go.Sort
variable {α : Type} [Inhabited α] (key : α → Int)
theorem firsts_exist (l : List α) : ∃ R, Firsts key l R := by
  have h := insertionSort_holds (keyLt_swo (α := α) key) l.toArray 0 l.length (Nat.zero_le _) (by simp)
  have ha := insertionSort_alike key 0 l.length l.toArray (by simp)
  generalize insertionSort (keyLt key) l.toArray 0 l.length = M at h ha
  have hsz : M.toList.length = l.length := by have := ha.1; simpa using this
  have hs : Srt key M.toList := srt_of_in key (d := M) (P := []) (M := M.toList) (S := []) (by simp) (by rw [hsz]; simpa using h.2)
  have hf := cpt_firsts key hs
  exact ⟨_, hf.up, fun z => (hf.fst z).trans (by have := fk_alike key ha z; simpa using this)⟩
end
end Go.Proofs.Ytnnjoeppcbbblaa
