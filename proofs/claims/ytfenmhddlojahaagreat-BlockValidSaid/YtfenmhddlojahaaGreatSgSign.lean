import Derived.Test.YtfenmhddlojahaaGreatSgCheck
import Derived.Test.YtfenmhddlojahaaGreatAlong
import Derived.Test.YtfenmhddlojahaaGreatSlConcat
import Derived.Test.YtfenmhddlojahaaGreatWotsSigs
import Derived.Test.YtfenmhddlojahaaGreatSgVerify
import Derived.Test.YtfenmhddlojahaaGreatMerkle
namespace Go.Proofs.YtfenmhddlojahaaGreat
/-
  signer: Sign of a key that has a leaf left.
-/
section
set_option maxRecDepth 100000
section
set_option linter.unusedVariables false
open Go.RowKit

/-- the signature's pieces, and all of it -/
def sigL (seed : List Int) (ls : List (List Int)) (m K : Nat) (text : List Int) : List (List Int) := [octAll (IntKind.u64.wrap m) 2] ++ (signB seed m text ++ pathB ls m K)
def sigB (seed : List Int) (ls : List (List Int)) (m K : Nat) (text : List Int) : List Int := (sigL seed ls m K text).flatten
theorem sigL_length (seed : List Int) (ls : List (List Int)) (m K : Nat) (text : List Int) : (sigL seed ls m K text).length = 12 + K := by
  unfold sigL
  rw [List.length_append, List.length_append, show signB seed m text = endsB seed m (partsB text) from rfl, endsB_length, pathB_length]
  simp
  omega
theorem sigL_flat (seed : List Int) (ls : List (List Int)) (m K : Nat) (text : List Int) : [[octAll (IntKind.u64.wrap m) 2], signB seed m text, pathB ls m K].flatten = sigL seed ls m K text := by
  simp [sigL]
theorem rowsS_three (W : World) (t : TypeId) (u0 u1 u2 : Value) (l0 l1 l2 : List (List Int)) (h0 : Strs W u0 l0) (h1 : Strs W u1 l1) (h2 : Strs W u2 l2) : RowsS (W.alloc (.cells #[u0, u1, u2] t)) W.heap.size [u0, u1, u2] [l0, l1, l2] := by
  have hb := heap_alloc_new W (.cells #[u0, u1, u2] t)
  intro j hj
  match j, hj with
  | 0, _ => exact ⟨cell_of_row _ _ 0 _ _ _ hb, h0.up (Up.alloc (Up.refl W) _)⟩
  | 1, _ => exact ⟨cell_of_row _ _ 1 _ _ _ hb, h1.up (Up.alloc (Up.refl W) _)⟩
  | 2, _ => exact ⟨cell_of_row _ _ 2 _ _ _ hb, h2.up (Up.alloc (Up.refl W) _)⟩
def Le8 (ls : List (List Int)) : Prop := ∀ k : Nat, (ls[k]?.getD []).length ≤ 8
theorem le8_of {ls : List (List Int)} (h : All8 ls) : Le8 ls := fun k => by
  by_cases hk : k < ls.length
  · rw [h k hk]; omega
  · rw [List.getElem?_eq_none (by omega)]; simp
theorem le8_up {ls : List (List Int)} (h : Le8 ls) : Le8 (upB ls) := fun k => by
  by_cases hk : k < (ls.length + 1) / 2
  · rw [upB_at ls k hk]
    unfold cellB
    split
    · rw [bothB_length]; omega
    · exact h _
  · rw [List.getElem?_eq_none (by rw [upB_length]; omega)]; simp
theorem le8_upN {ls : List (List Int)} (h : Le8 ls) : ∀ k, Le8 (upN ls k)
  | 0 => h
  | k + 1 => le8_up (le8_upN h k)
theorem pathB_8 (ls : List (List Int)) (h : Le8 ls) (at_ K : Nat) : Le8 (pathB ls at_ K) := fun k => by
  by_cases hk : k < K
  · rw [pathB, upTo_at _ _ _ hk]; exact le8_upN h k _
  · rw [List.getElem?_eq_none (by rw [pathB_length]; omega)]; simp
theorem flat_le8 : ∀ (L : List (List Int)), (∀ l ∈ L, l.length ≤ 8) → L.flatten.length ≤ 8 * L.length
  | [], _ => by simp
  | x :: r, h => by
    have h1 := flat_le8 r fun l hl => h l (List.mem_cons_of_mem _ hl)
    have h2 := h x List.mem_cons_self
    rw [List.flatten_cons, List.length_append, List.length_cons]
    omega

end
end

/-
  signer: Root; Sign of a key with no leaf left, and of one that may not be.
-/
section
set_option maxRecDepth 100000
section
set_option linter.unusedVariables false
open Go.RowKit

end
end

/-
  signer, in plain mathematics: what is signed is a signature.
-/
section
set_option maxRecDepth 100000
section
set_option linter.unusedVariables false

theorem all8_up {ls : List (List Int)} (h : All8 ls) : All8 (upB ls) := fun k hk => by
  rw [upB_length] at hk
  rw [upB_at ls k hk]
  unfold cellB
  split
  · exact bothB_length _ _
  · exact h _ (by omega)
theorem all8_upN {ls : List (List Int)} (h : All8 ls) : ∀ k, All8 (upN ls k)
  | 0 => h
  | k + 1 => all8_up (all8_upN h k)
theorem path_all8 (ls : List (List Int)) (h : All8 ls) (m K : Nat) (hK : ls.length = 2 ^ K) (hm : m < 2 ^ K) : All8 (pathB ls m K) := fun k hk => by
  rw [pathB_length] at hk
  rw [pathB, upTo_at _ _ _ hk]
  refine all8_upN h k _ ?_
  rw [upN_pow ls K hK k (by omega)]
  have h1 := part_lt hm (show k ≤ K by omega)
  rw [show K - k = (K - (k + 1)) + 1 from by omega] at h1 ⊢
  exact nb_lt h1
theorem sign_all8 (seed : List Int) (m : Int) (text : List Int) : All8 (signB seed m text) := fun k hk => by
  have h1 : (signB seed m text).length = 11 := endsB_length _ _ _
  exact endsB_8 seed m (partsB text) k (by omega)
theorem flat_all8 : ∀ (L : List (List Int)), All8 L → L.flatten.length = 8 * L.length
  | [], _ => rfl
  | x :: r, h => by
    have h1 := flat_all8 r fun k hk => by have := h (k + 1) (by simpa using hk); simpa using this
    have h2 := h 0 (by simp)
    simp only [List.getElem?_cons_zero, Option.getD_some] at h2
    rw [List.flatten_cons, List.length_append, List.length_cons, h1, h2]
    omega
/-- the pieces of texts of eight octets are these texts -/
theorem piece_flat : ∀ (L : List (List Int)) (P : List Int) (i : Nat), All8 L → i < L.length → pieceB (P ++ L.flatten) (P.length + 8 * i) = L[i]?.getD []
  | x :: r, P, 0, h, _ => by
    have h2 := h 0 (by simp)
    simp only [List.getElem?_cons_zero, Option.getD_some] at h2
    unfold pieceB
    rw [Nat.mul_zero, Nat.add_zero, List.drop_left, List.flatten_cons]
    simp only [List.getElem?_cons_zero, Option.getD_some]
    rw [← h2, List.take_left]
  | x :: r, P, i + 1, h, hi => by
    have h2 := h 0 (by simp)
    simp only [List.getElem?_cons_zero, Option.getD_some] at h2
    have h1 := piece_flat r (P ++ x) i (fun k hk => by have := h (k + 1) (by simpa using hk); simpa using this) (by simpa using hi)
    rw [List.length_append, h2, List.append_assoc] at h1
    rw [List.flatten_cons, show P.length + 8 * (i + 1) = P.length + 8 + 8 * i from by omega, h1]
    simp
theorem upTo_pieces (sig : List Int) (p : Nat) (L : List (List Int)) (n : Nat) (hn : L.length = n) (h : ∀ i, i < n → pieceB sig (p + 8 * i) = L[i]?.getD []) : upTo (fun i => pieceB sig (p + 8 * i)) n = L := by
  apply List.ext_getElem (by rw [upTo_length, hn])
  intro j h1 h2
  rw [upTo_length] at h1
  have := h j h1
  simp only [List.getElem?_eq_getElem h2, Option.getD_some] at this
  simp only [upTo, List.getElem_map, List.getElem_range]
  exact this
theorem sigB_split (seed : List Int) (ls : List (List Int)) (m K : Nat) (text : List Int) : sigB seed ls m K text = octAll (IntKind.u64.wrap m) 2 ++ ((signB seed m text).flatten ++ (pathB ls m K).flatten) := by
  unfold sigB sigL
  rw [List.flatten_append, List.flatten_append]
  simp

theorem flat_u8s : ∀ (L : List (List Int)), (∀ k : Nat, U8s (L[k]?.getD [])) → U8s L.flatten
  | [], _ => fun j hj => by simp at hj
  | x :: r, h => by
    rw [List.flatten_cons]
    exact U8s.append (by simpa using h 0) (flat_u8s r fun k => by have := h (k + 1); simpa using this)
theorem sig_length (seed : List Int) (ls : List (List Int)) (m K : Nat) (text : List Int) (h : All8 ls) (hK : ls.length = 2 ^ K) (hm : m < 2 ^ K) : (sigB seed ls m K text).length = 90 + 8 * K := by
  have h1 : (signB seed m text).length = 11 := endsB_length _ _ _
  rw [sigB_split, List.length_append, List.length_append, octAll_length, flat_all8 _ (sign_all8 seed m text), flat_all8 _ (path_all8 ls h m K hK hm), h1, pathB_length]
  omega
theorem sig_u8s (seed : List Int) (ls : List (List Int)) (m K : Nat) (text : List Int) (hf : Fits ls) : U8s (sigB seed ls m K text) := by
  rw [sigB_split]
  refine (octAll_u8s _ _).append (U8s.append (flat_u8s _ fun k => ?_) (flat_u8s _ fun k => (pathB_fits ls hf m K k).1))
  by_cases hk : k < 11
  · rw [show signB seed m text = endsB seed m (partsB text) from rfl, endsB_at _ _ _ _ hk]; exact chainB_u8s _ (secretB_u8s _ _ _) _
  · rw [List.getElem?_eq_none (by rw [show signB seed m text = endsB seed m (partsB text) from rfl, endsB_length]; omega)]; exact fun j hj => by simp at hj
theorem sig_leaf (seed : List Int) (ls : List (List Int)) (m K : Nat) (text : List Int) (hm : m ≤ 1000) : sigLeaf (sigB seed ls m K text) = m := by
  unfold sigLeaf
  rw [sigB_split, List.take_append_of_le_length (by rw [octAll_length]; omega), List.take_of_length_le (by rw [octAll_length]; omega), getB_back _ 2 (by omega), IntKind.wrap_u64]
  omega
theorem sig_parts (seed : List Int) (ls : List (List Int)) (m K : Nat) (text : List Int) (h : All8 ls) (hK : ls.length = 2 ^ K) (hm : m < 2 ^ K) : sigParts (sigB seed ls m K text) = signB seed m text := by
  have h1 : (signB seed m text).length = 11 := endsB_length _ _ _
  refine upTo_pieces _ 2 _ 11 h1 fun i hi => ?_
  have hall : All8 (signB seed m text ++ pathB ls m K) := fun k hk => by
    by_cases hk1 : k < (signB seed m text).length
    · rw [List.getElem?_append_left hk1]; exact sign_all8 seed m text k hk1
    · rw [List.getElem?_append_right (by omega)]; rw [List.length_append] at hk; exact path_all8 ls h m K hK hm _ (by omega)
  have h2 := piece_flat (signB seed m text ++ pathB ls m K) (octAll (IntKind.u64.wrap m) 2) i hall (by rw [List.length_append]; omega)
  rw [List.flatten_append, octAll_length, List.getElem?_append_left (by omega)] at h2
  rw [sigB_split]
  exact h2
theorem sig_path (seed : List Int) (ls : List (List Int)) (m K : Nat) (text : List Int) (h : All8 ls) (hK : ls.length = 2 ^ K) (hm : m < 2 ^ K) : sigPath (sigB seed ls m K text) K = pathB ls m K := by
  have h1 : (signB seed m text).length = 11 := endsB_length _ _ _
  refine upTo_pieces _ 90 _ K (pathB_length _ _ _) fun i hi => ?_
  have h2 := piece_flat (pathB ls m K) (octAll (IntKind.u64.wrap m) 2 ++ (signB seed m text).flatten) i (path_all8 ls h m K hK hm) (by rw [pathB_length]; exact hi)
  rw [List.length_append, octAll_length, flat_all8 _ (sign_all8 seed m text), h1, List.append_assoc] at h2
  rw [sigB_split]
  exact h2
/-- WHAT IS SIGNED WITH A SEED's LEAVES IS A SIGNATURE. -/
theorem good_sign (seed : List Int) (m K : Nat) (text : List Int) (hK : K ≤ 4) (hm : m < 2 ^ K) :
    GoodSig (strOfNums (rootB (leavesB seed (2 ^ K)))) K text (sigB seed (leavesB seed (2 ^ K)) m K text) := by
  have hl : (leavesB seed (2 ^ K)).length = 2 ^ K := upTo_length _ _
  have h8 : All8 (leavesB seed (2 ^ K)) := fun k hk => by
    rw [hl] at hk
    rw [leavesB, upTo_at _ _ _ hk]
    exact shortB_length _
  have hat : (leavesB seed (2 ^ K))[m]?.getD [] = leafB seed m := by rw [leavesB, upTo_at _ _ _ hm]
  have hm16 : m ≤ 1000 := by
    have : K = 0 ∨ K = 1 ∨ K = 2 ∨ K = 3 ∨ K = 4 := by omega
    rcases this with rfl | rfl | rfl | rfl | rfl <;> omega
  refine ⟨by omega, by omega, by rw [sig_length _ _ _ _ _ h8 hl hm]; omega, ?_, ?_⟩
  · rw [sig_leaf _ _ _ _ _ hm16, Int.toNat_natCast]; omega
  · rw [sig_leaf _ _ _ _ _ hm16, sig_parts _ _ _ _ _ h8 hl hm, Int.toNat_natCast, Int.toNat_natCast, sig_path _ _ _ _ _ h8 hl hm, open_sign, ← hat, climb_path _ _ _ hl hm]
theorem leaves_ok (seed : List Int) (K : Nat) (hs : seed.length ≤ 64) (hK : K ≤ 4) (m : Nat) (hm : m ≤ 2 ^ K) : KeyOk seed (leavesB seed (2 ^ K)) m := by
  have hl : (leavesB seed (2 ^ K)).length = 2 ^ K := upTo_length _ _
  refine ⟨hs, ?_, fun k hk => ?_, by omega, by rw [hl]; omega⟩
  · rw [hl]
    have : K = 0 ∨ K = 1 ∨ K = 2 ∨ K = 3 ∨ K = 4 := by omega
    rcases this with rfl | rfl | rfl | rfl | rfl <;> simp
  · rw [hl] at hk
    rw [leavesB, upTo_at _ _ _ hk]
    exact shortB_length _
theorem leaves_fits (seed : List Int) (n : Nat) : Fits (leavesB seed n) := upTo_all _ _ (fun l => U8s l ∧ l.length ≤ 140737488351232) ⟨fun j hj => by simp at hj, by simp⟩ fun i _ => ⟨shortB_u8s _, by rw [show leafB seed i = shortB _ from rfl, shortB_length]; omega⟩
end
end
end Go.Proofs.YtfenmhddlojahaaGreat
