import Derived.Test.YtaepdmmlejdifaaUps
/-
  Frames and what is scanned: mathematics of octets.
-/
namespace Go.Proofs.Ytaepdmmlejdifaa
section
set_option linter.unusedVariables false

/-- a record's frame; frames one behind the other -/
def frame (r : List Int) : List Int := octAll r.length 3 ++ r
def frames (l : List (List Int)) : List Int := (l.map frame).flatten
/-- what the first three octets say -/
def len3 (bs : List Int) : Int := getB (bs.take 3)
/-- begin octets with a whole frame? -/
def Whole3 (bs : List Int) : Prop := 3 ≤ bs.length ∧ len3 bs ≤ 16384 ∧ len3 bs ≤ (bs.length : Int) - 3
instance (bs : List Int) : Decidable (Whole3 bs) := by unfold Whole3; exact inferInstance
/-- the records of the frames with which octets begin, and how many octets these have -/
def scan (bs : List Int) : List (List Int) × Nat :=
  if Whole3 bs then ((bs.drop 3).take (len3 bs).toNat :: (scan (bs.drop (3 + (len3 bs).toNat))).1, 3 + (len3 bs).toNat + (scan (bs.drop (3 + (len3 bs).toNat))).2) else ([], 0)
termination_by bs.length
decreasing_by
  all_goals
    rename_i h
    have := h.1
    rw [List.length_drop]
    omega
theorem scan_on {bs : List Int} (h : Whole3 bs) : scan bs = ((bs.drop 3).take (len3 bs).toNat :: (scan (bs.drop (3 + (len3 bs).toNat))).1, 3 + (len3 bs).toNat + (scan (bs.drop (3 + (len3 bs).toNat))).2) := by
  rw [scan, if_pos h]
theorem scan_end {bs : List Int} (h : ¬ Whole3 bs) : scan bs = ([], 0) := by
  rw [scan, if_neg h]
theorem len3_range (bs : List Int) : 0 ≤ len3 bs := (getB_range _).1
theorem frame_length (r : List Int) : (frame r).length = 3 + r.length := by
  unfold frame
  rw [List.length_append, octAll_length]
theorem frames_nil : frames [] = [] := rfl
theorem frames_cons (r : List Int) (l : List (List Int)) : frames (r :: l) = frame r ++ frames l := by simp [frames]
theorem frames_append (a b : List (List Int)) : frames (a ++ b) = frames a ++ frames b := by simp [frames]
theorem frames_snoc (a : List (List Int)) (r : List Int) : frames (a ++ [r]) = frames a ++ frame r := by simp [frames]
theorem len3_frame (r t : List Int) (h : r.length < 16777216) : len3 (frame r ++ t) = r.length := by
  unfold len3 frame
  rw [List.append_assoc, List.take_append_of_le_length (by rw [octAll_length]; omega), List.take_of_length_le (by rw [octAll_length]; omega), getB_octAll]
  omega
theorem whole_frame (r t : List Int) (h : r.length ≤ 16384) : Whole3 (frame r ++ t) := by
  refine ⟨?_, ?_, ?_⟩
  · rw [List.length_append, frame_length]; omega
  · rw [len3_frame r t (by omega)]; omega
  · rw [len3_frame r t (by omega), List.length_append, frame_length]; omega
theorem drop_frame (r t : List Int) : (frame r ++ t).drop (3 + r.length) = t := by
  rw [← frame_length, List.drop_left]
theorem rec_frame (r t : List Int) : ((frame r ++ t).drop 3).take r.length = r := by
  unfold frame
  rw [List.append_assoc]
  have h : ((octAll (r.length : Int) 3) ++ (r ++ t)).drop (octAll (r.length : Int) 3).length = r ++ t := List.drop_left
  rw [octAll_length] at h
  rw [h, List.take_left]
theorem scan_frame (r t : List Int) (h : r.length ≤ 16384) : scan (frame r ++ t) = (r :: (scan t).1, 3 + r.length + (scan t).2) := by
  rw [scan_on (whole_frame r t h), len3_frame r t (by omega), Int.toNat_natCast, drop_frame, rec_frame]
/-- each record is short enough -/
def Shorts (l : List (List Int)) : Prop := ∀ r ∈ l, r.length ≤ 16384
theorem scan_frames (l : List (List Int)) (t : List Int) (h : Shorts l) : scan (frames l ++ t) = (l ++ (scan t).1, (frames l).length + (scan t).2) := by
  induction l with
  | nil => simp [frames]
  | cons r l ih =>
    rw [frames_cons, List.append_assoc, scan_frame r _ (h r (by simp)), ih (fun q hq => h q (by simp [hq]))]
    simp only [List.cons_append, List.length_append, frame_length, Prod.mk.injEq, true_and]
    omega
theorem scan_nil : scan [] = ([], 0) := scan_end (fun h => by have := h.1; simp at this)
theorem scan_whole (l : List (List Int)) (h : Shorts l) : scan (frames l) = (l, (frames l).length) := by
  have := scan_frames l [] h
  rw [List.append_nil, scan_nil] at this
  simpa using this
/-- a beginning of a frame is none -/
theorem scan_part (r : List Int) (n : Nat) (h : r.length < 16777216) (hn : n < (frame r).length) : scan ((frame r).take n) = ([], 0) := by
  refine scan_end fun hw => ?_
  obtain ⟨h1, h2, h3⟩ := hw
  rw [List.length_take, frame_length] at h1 h3
  rw [frame_length] at hn
  have e : len3 ((frame r).take n) = len3 (frame r ++ []) := by
    unfold len3
    rw [List.take_take, Nat.min_eq_left (by omega), List.append_nil]
  rw [e, len3_frame r [] h] at h3
  omega
/-- what a cut leaves: the frames that are whole, and a beginning of the next one -/
theorem frames_cut : ∀ (l : List (List Int)) (n : Nat), n ≤ (frames l).length → ∃ (k : Nat) (t : List Int), k ≤ l.length ∧ (frames l).take n = frames (l.take k) ++ t ∧
    (t = [] ∨ ∃ r m, l[k]? = some r ∧ t = (frame r).take m ∧ m < (frame r).length) ∧ (frames (l.take k)).length ≤ n ∧ (k = l.length ∨ n < (frames (l.take (k + 1))).length)
  | [], n, hn => ⟨0, [], by simp, by simp [frames], .inl rfl, by simp [frames], .inl rfl⟩
  | r :: l, n, hn => by
    by_cases hlt : n < (frame r).length
    · refine ⟨0, (frame r).take n, by simp, ?_, .inr ⟨r, n, rfl, rfl, hlt⟩, by simp [frames], .inr ?_⟩
      · rw [frames_cons, List.take_append_of_le_length (by omega)]
        simp [frames]
      · simpa [frames] using hlt
    · rw [frames_cons, List.length_append] at hn
      obtain ⟨k, t, h1, h2, h3, h4, h5⟩ := frames_cut l (n - (frame r).length) (by omega)
      refine ⟨k + 1, t, by simpa using h1, ?_, ?_, ?_, ?_⟩
      · rw [frames_cons, List.take_append, List.take_of_length_le (by omega), h2, List.take_succ_cons, frames_cons, List.append_assoc]
      · simpa using h3
      · rw [List.take_succ_cons, frames_cons, List.length_append]
        omega
      · rcases h5 with h5 | h5
        · left; simp [h5]
        · right
          rw [List.take_succ_cons, frames_cons, List.length_append]
          omega
/-- .. and what is scanned then -/
theorem scan_cut (l : List (List Int)) (n : Nat) (h : Shorts l) (hn : n ≤ (frames l).length) : ∃ k, k ≤ l.length ∧ scan ((frames l).take n) = (l.take k, (frames (l.take k)).length) ∧ ((frames l).take n).take (frames (l.take k)).length = frames (l.take k) ∧
    (frames (l.take k)).length ≤ n ∧ (k = l.length ∨ n < (frames (l.take (k + 1))).length) := by
  obtain ⟨k, t, h1, h2, h3, h4, h5⟩ := frames_cut l n hn
  have hs : Shorts (l.take k) := fun r hr => h r (List.mem_of_mem_take hr)
  have ht : scan t = ([], 0) := by
    rcases h3 with rfl | ⟨r, m, hr, rfl, hm⟩
    · exact scan_nil
    · have := h r (List.mem_of_getElem? hr)
      exact scan_part r m (by omega) hm
  refine ⟨k, h1, ?_, ?_, h4, h5⟩
  · rw [h2, scan_frames _ _ hs, ht]
    simp
  · rw [h2, List.take_left]
theorem frames_mono (l : List (List Int)) {i j : Nat} (h : i ≤ j) : (frames (l.take i)).length ≤ (frames (l.take j)).length := by
  have e : l.take j = l.take i ++ (l.take j).drop i := by
    have := List.take_append_drop i (l.take j)
    rw [List.take_take, Nat.min_eq_left h] at this
    exact this.symm
  rw [e, frames_append, List.length_append]
  omega
/-- what was flushed is there -/
theorem cut_keeps (a b : List (List Int)) (n k : Nat) (hn : (frames a).length ≤ n) (hk : k = (a ++ b).length ∨ n < (frames ((a ++ b).take (k + 1))).length) : a.length ≤ k := by
  rcases hk with rfl | hk
  · simp
  · by_cases h : a.length ≤ k
    · exact h
    · exfalso
      have h1 := frames_mono (a ++ b) (show k + 1 ≤ a.length by omega)
      rw [List.take_left] at h1
      omega
theorem frame_u8s {r : List Int} (h : U8s r) : U8s (frame r) := U8s.append (octAll_u8s _ _) h
theorem frames_u8s : ∀ {l : List (List Int)}, (∀ r ∈ l, U8s r) → U8s (frames l)
  | [], _ => fun j hj => by simp [frames] at hj
  | r :: l, h => by
    rw [frames_cons]
    exact U8s.append (frame_u8s (h r (by simp))) (frames_u8s (fun q hq => h q (by simp [hq])))
/-- how many octets so many records have at least, and at most -/
theorem frames_length : ∀ (l : List (List Int)), (frames l).length = 3 * l.length + l.flatten.length
  | [] => rfl
  | r :: l => by
    rw [frames_cons, List.length_append, frame_length, frames_length l, List.length_cons, List.flatten_cons, List.length_append]
    omega
/-- what is scanned is there: the frames of the records are the octets that were counted -/
theorem scan_frames_of : ∀ (n : Nat) (bs : List Int), bs.length ≤ n → U8s bs → Shorts (scan bs).1 ∧ frames (scan bs).1 = bs.take (scan bs).2 ∧ (scan bs).2 ≤ bs.length
  | n, bs, hn, hu => by
    by_cases hw : Whole3 bs
    · obtain ⟨h1, h2, h3⟩ := id hw
      have h0 := len3_range bs
      match n, hn with
      | 0, hn => omega
      | n + 1, hn =>
        obtain ⟨i1, i2, i3⟩ := scan_frames_of n (bs.drop (3 + (len3 bs).toNat)) (by rw [List.length_drop]; omega) (hu.drop _)
        have hrl : ((bs.drop 3).take (len3 bs).toNat).length = (len3 bs).toNat := by rw [List.length_take, List.length_drop]; omega
        rw [List.length_drop] at i3
        rw [scan_on hw]
        refine ⟨fun r hr => ?_, ?_, ?_⟩
        · rcases List.mem_cons.1 hr with rfl | hr
          · omega
          · exact i1 r hr
        · show frames (_ :: _) = _
          rw [frames_cons, i2]
          have hf : frame ((bs.drop 3).take (len3 bs).toNat) = bs.take (3 + (len3 bs).toNat) := by
            unfold frame
            rw [hrl, List.take_add]
            congr 1
            -- the three octets say their own number
            match bs, h1 with
            | b0 :: b1 :: b2 :: rest, _ =>
              have u0 := hu 0 (by simp)
              have u1 := hu 1 (by simp)
              have u2 := hu 2 (by simp)
              simp at u0 u1 u2
              have e : len3 (b0 :: b1 :: b2 :: rest) = b0 * 65536 + b1 * 256 + b2 := by
                simp [len3, getB, getStep]
                omega
              rw [e, Int.toNat_of_nonneg (by omega)]
              simp [octAll, octs, octAt, List.range_succ]
              omega
          rw [hf]
          conv => rhs; rw [show 3 + (len3 bs).toNat + (scan (bs.drop (3 + (len3 bs).toNat))).2 = (3 + (len3 bs).toNat) + (scan (bs.drop (3 + (len3 bs).toNat))).2 from rfl, List.take_add]
        · show 3 + (len3 bs).toNat + _ ≤ _
          omega
    · rw [scan_end hw]
      exact ⟨fun r hr => by simp at hr, by simp [frames], Nat.zero_le _⟩
end
end Go.Proofs.Ytaepdmmlejdifaa
