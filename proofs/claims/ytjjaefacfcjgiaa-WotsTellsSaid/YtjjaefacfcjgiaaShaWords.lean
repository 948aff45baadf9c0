import Derived.Test.YtjjaefacfcjgiaaShaPlain
/-
  A block's words, one by one.
-/
namespace Go.Proofs.Ytjjaefacfcjgiaa
set_option linter.unusedVariables false

theorem sched_take (b : List Int) : ∀ k j, j ≤ k → (sched b k).take (b.length + j) = sched b j
  | 0, j, h => by
    obtain rfl : j = 0 := by omega
    exact List.take_of_length_le (by show b.length ≤ _; omega)
  | k + 1, j, h => by
    by_cases e : j = k + 1
    · rw [e]; exact List.take_of_length_le (by rw [sched_length]; omega)
    · show (sched b k ++ [schedNext (sched b k)]).take (b.length + j) = _
      rw [List.take_append_of_le_length (by rw [sched_length]; omega)]
      exact sched_take b k j (by omega)
theorem aw_lo (p : List Int) (q t : Nat) (h : t < 16) : (allWords p q)[t]?.getD 0 = wordUp p (q + 4 * t) 4 := by
  have e := sched_take (blkWords p q 16) 48 0 (by omega)
  rw [blkWords_length] at e
  have h1 : (allWords p q)[t]?.getD 0 = (blkWords p q 16)[t]?.getD 0 := by
    have h2 : ((allWords p q).take 16)[t]? = (allWords p q)[t]? := by rw [List.getElem?_take, if_pos h]
    rw [← h2]
    show ((sched (blkWords p q 16) 48).take 16)[t]?.getD 0 = _
    rw [e]; rfl
  rw [h1]
  simp [blkWords, h]
theorem aw_take (p : List Int) (q j : Nat) (h : j ≤ 48) : (allWords p q).take (16 + j) = sched (blkWords p q 16) j := by
  have e := sched_take (blkWords p q 16) 48 j h
  rw [blkWords_length] at e
  exact e
theorem aw_hi (p : List Int) (q t : Nat) (h0 : 16 ≤ t) (h : t < 64) :
    (allWords p q)[t]?.getD 0 = (sml ((allWords p q)[t - 2]?.getD 0) 17 19 10 + (allWords p q)[t - 7]?.getD 0 + sml ((allWords p q)[t - 15]?.getD 0) 7 18 3 + (allWords p q)[t - 16]?.getD 0) % 4294967296 := by
  obtain ⟨j, rfl⟩ : ∃ j, t = 16 + j := ⟨t - 16, by omega⟩
  have h1 := aw_take p q j (by omega)
  have h2 := aw_take p q (j + 1) (by omega)
  have hl : (allWords p q).length = 64 := allWords_length p q
  have h3 : (allWords p q).take (16 + j + 1) = (allWords p q).take (16 + j) ++ [(allWords p q)[16 + j]?.getD 0] := take_snoc _ _ (by omega)
  rw [Nat.add_assoc, h2, h1] at h3
  have h4 : [schedNext (sched (blkWords p q 16) j)] = [(allWords p q)[16 + j]?.getD 0] := List.append_cancel_left h3
  have h5 : (allWords p q)[16 + j]?.getD 0 = schedNext (sched (blkWords p q 16) j) := (List.cons.inj h4).1.symm
  have h6 : ∀ i, i < 16 + j → (sched (blkWords p q 16) j)[i]?.getD 0 = (allWords p q)[i]?.getD 0 := by
    intro i hi
    rw [← h1, List.getElem?_take, if_pos hi]
  rw [h5]
  unfold schedNext
  rw [sched_length, blkWords_length, h6 _ (by omega), h6 _ (by omega), h6 _ (by omega), h6 _ (by omega)]
theorem aw_u32 (p : List Int) (h : U8s p) (q : Nat) : U32s (allWords p q) := sched_u32 _ (blkWords_u32 p h q 16) _
theorem aw_snoc (p : List Int) (q t : Nat) (h : t < 64) : (allWords p q).take (t + 1) = (allWords p q).take t ++ [(allWords p q)[t]?.getD 0] := take_snoc _ _ (by rw [allWords_length]; omega)
theorem padB_u8s (bs : List Int) (h : U8s bs) : U8s (padB bs) := by
  intro j hj
  unfold padB
  by_cases hl : j < bs.length
  · rw [List.getElem?_append_left hl]; exact h.at bs j
  · rw [List.getElem?_append_right (by omega)]
    have ht : U8s (padTail bs.length) := by
      intro i hi
      unfold padTail
      cases i with
      | zero => simp
      | succ i =>
        rw [List.getElem?_cons_succ]
        by_cases hz : i < zerosOf bs.length
        · rw [List.getElem?_append_left (by simpa using hz)]; simp [hz]
        · rw [List.getElem?_append_right (by simpa using hz)]
          exact (octAll_u8s _ _).at _ _
    exact ht.at _ _
end Go.Proofs.Ytjjaefacfcjgiaa
