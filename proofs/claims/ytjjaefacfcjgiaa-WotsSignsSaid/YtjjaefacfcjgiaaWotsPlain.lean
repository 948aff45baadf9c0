import Derived.Test.YtjjaefacfcjgiaaShaPlain
import Derived.Test.YtjjaefacfcjgiaaUps
/-
  One-time signatures in plain mathematics: texts are lists of octets.
-/
namespace Go.Proofs.Ytjjaefacfcjgiaa
set_option linter.unusedVariables false

/-- the short sum -/
def shortB (xs : List Int) : List Int := (sumB xs).take 8
/-- so many steps on -/
def chainB (xs : List Int) : Nat → List Int
  | 0 => xs
  | k + 1 => shortB (chainB xs k)
/-- how many steps are asked for -/
def stepsN (n : Int) : Nat := (min n 3).toNat
def wotsB : List Int := [119, 111, 116, 115]
/-- what a secret is the short sum of -/
def seedB (seed : List Int) (leaf place : Int) : List Int :=
  wotsB ++ (octAll (IntKind.u64.wrap seed.length) 2 ++ (seed ++ (octAll (IntKind.u64.wrap leaf) 4 ++ octAll (IntKind.u64.wrap place) 1)))
def secretB (seed : List Int) (leaf place : Int) : List Int := shortB (seedB seed leaf place)
/-- the lowest bits as so many digits of two bits -/
def digsB (n : Int) (cnt : Nat) : List Int := (List.range cnt).map fun i => n / 4 ^ (cnt - 1 - i) % 4
/-- what the digits leave -/
def leftB (l : List Int) : Int := l.foldl (fun s d => s + (3 - d)) 0
def numB (bs : List Int) : Int := getB ((sumB bs).take 2)
def partsB (bs : List Int) : List Int := digsB (numB bs) 8 ++ digsB (leftB (digsB (numB bs) 8)) 3
/-- the ends of the secrets, so many steps on -/
def endsB (seed : List Int) (leaf : Int) (ds : List Int) : List (List Int) := (List.range 11).map fun (i : Nat) => chainB (secretB seed leaf (i : Int)) (stepsN (ds[i]?.getD 0))
def signB (seed : List Int) (leaf : Int) (text : List Int) : List (List Int) := endsB seed leaf (partsB text)
def leafB (seed : List Int) (leaf : Int) : List Int := shortB ((List.range 11).map fun (i : Nat) => chainB (secretB seed leaf (i : Int)) 3).flatten
/-- the ends to which parts lead -/
def openEnds (ds : List Int) (parts : List (List Int)) : List (List Int) := (List.range 11).map fun (i : Nat) => chainB (parts[i]?.getD []) (stepsN (3 - ds[i]?.getD 0))
def formedB (parts : List (List Int)) : Bool := parts.length == 11 && parts.all fun p => p.length == 8
def openB (text : List Int) (parts : List (List Int)) : List Int := if formedB parts then shortB (openEnds (partsB text) parts).flatten else []

theorem shortB_length (xs : List Int) : (shortB xs).length = 8 := by simp [shortB, sumB_length]
theorem sumB_u8s (xs : List Int) : U8s (sumB xs) := wordsB_u8s _
theorem shortB_u8s (xs : List Int) : U8s (shortB xs) := (sumB_u8s xs).take 8
theorem chainB_u8s (xs : List Int) (h : U8s xs) : ∀ k, U8s (chainB xs k)
  | 0 => h
  | _ + 1 => shortB_u8s _
theorem chainB_length (xs : List Int) (h : xs.length = 8) : ∀ k, (chainB xs k).length = 8
  | 0 => h
  | _ + 1 => shortB_length _
theorem chainB_le (xs : List Int) (n : Nat) (hn : 8 ≤ n) (h : xs.length ≤ n) : ∀ k, (chainB xs k).length ≤ n
  | 0 => h
  | _ + 1 => by show (shortB _).length ≤ n; rw [shortB_length]; exact hn
theorem chainB_add (xs : List Int) (i : Nat) : ∀ j, chainB (chainB xs i) j = chainB xs (i + j)
  | 0 => rfl
  | j + 1 => by show shortB _ = chainB xs ((i + j) + 1); rw [chainB_add xs i j]; rfl
theorem wotsB_u8s : U8s wotsB := fun j hj => by
  match j, hj with
  | 0, _ => decide
  | 1, _ => decide
  | 2, _ => decide
  | 3, _ => decide
theorem seedB_u8s (seed : List Int) (h : U8s seed) (leaf place : Int) : U8s (seedB seed leaf place) :=
  wotsB_u8s.append ((octAll_u8s _ _).append (h.append ((octAll_u8s _ _).append (octAll_u8s _ _))))
theorem seedB_length (seed : List Int) (leaf place : Int) : (seedB seed leaf place).length = seed.length + 11 := by
  simp [seedB, octAll_length, wotsB]; omega
theorem secretB_length (seed : List Int) (leaf place : Int) : (secretB seed leaf place).length = 8 := shortB_length _
theorem secretB_u8s (seed : List Int) (leaf place : Int) : U8s (secretB seed leaf place) := shortB_u8s _
theorem digsB_length (n : Int) (c : Nat) : (digsB n c).length = c := by simp [digsB]
theorem digsB_range (n : Int) (c j : Nat) : 0 ≤ (digsB n c)[j]?.getD 0 ∧ (digsB n c)[j]?.getD 0 ≤ 3 := by
  by_cases h : j < c
  · simp [digsB, h]; omega
  · rw [List.getElem?_eq_none (by rw [digsB_length]; omega)]; decide
theorem partsB_length (bs : List Int) : (partsB bs).length = 11 := by simp [partsB, digsB_length]
theorem partsB_range (bs : List Int) (j : Nat) : 0 ≤ (partsB bs)[j]?.getD 0 ∧ (partsB bs)[j]?.getD 0 ≤ 3 := by
  unfold partsB
  by_cases h : j < 8
  · rw [List.getElem?_append_left (by rw [digsB_length]; exact h)]; exact digsB_range _ _ _
  · rw [List.getElem?_append_right (by rw [digsB_length]; omega)]; exact digsB_range _ _ _
/-- the digits so far -/
def digsTo (n : Int) (cnt k : Nat) : List Int := (List.range k).map fun i => n / 4 ^ (cnt - 1 - i) % 4
theorem digsTo_succ (n : Int) (cnt k : Nat) : digsTo n cnt (k + 1) = digsTo n cnt k ++ [n / 4 ^ (cnt - 1 - k) % 4] := by simp [digsTo, List.range_succ]
theorem digsTo_length (n : Int) (cnt k : Nat) : (digsTo n cnt k).length = k := by simp [digsTo]
theorem digsTo_all (n : Int) (cnt : Nat) : digsTo n cnt cnt = digsB n cnt := rfl
theorem leftB_snoc (l : List Int) (d : Int) : leftB (l ++ [d]) = leftB l + (3 - d) := by simp [leftB, List.foldl_append]
theorem leftB_range (l : List Int) (h : ∀ j : Nat, 0 ≤ l[j]?.getD 0 ∧ l[j]?.getD 0 ≤ 3) : 0 ≤ leftB l ∧ leftB l ≤ 3 * l.length := by
  have key : ∀ k, k ≤ l.length → 0 ≤ leftB (l.take k) ∧ leftB (l.take k) ≤ 3 * k := by
    intro k
    induction k with
    | zero => intro _; simp [leftB]
    | succ k ih =>
      intro hk
      have h1 := ih (by omega)
      have h2 := h k
      rw [take_snoc l k (by omega), leftB_snoc]
      omega
  have := key l.length (Nat.le_refl _)
  rwa [List.take_length] at this
theorem left8_range (n : Int) : 0 ≤ leftB (digsB n 8) ∧ leftB (digsB n 8) ≤ 24 := by
  have := leftB_range (digsB n 8) (digsB_range n 8)
  rw [digsB_length] at this
  omega
theorem numB_range (bs : List Int) : 0 ≤ numB bs ∧ numB bs < 65536 := by
  have hu := sumB_u8s bs
  have hl : ((sumB bs).take 2).length = 2 := by simp [sumB_length]
  obtain ⟨a, b, h⟩ : ∃ a b, (sumB bs).take 2 = [a, b] := by
    match (sumB bs).take 2, hl with
    | [a, b], _ => exact ⟨a, b, rfl⟩
  have h2 := hu.take 2
  rw [h] at h2
  have ha : 0 ≤ a ∧ a < 256 := by simpa using h2 0 (by simp)
  have hb : 0 ≤ b ∧ b < 256 := by simpa using h2 1 (by simp)
  unfold numB
  rw [h]
  show 0 ≤ getStep (getStep 0 a) b ∧ getStep (getStep 0 a) b < 65536
  unfold getStep
  omega
/-- what the reference makes of the first two octets -/
theorem numB_two (bs : List Int) : numB bs = (sumB bs)[0]?.getD 0 * 256 + (sumB bs)[1]?.getD 0 := by
  have hu := sumB_u8s bs
  have hl := sumB_length bs
  have h0 := hu.at _ 0
  have h1 := hu.at _ 1
  have e : (sumB bs).take 2 = [(sumB bs)[0]?.getD 0, (sumB bs)[1]?.getD 0] := by
    match hs : sumB bs, hl with
    | a :: b :: r, _ => rfl
  unfold numB
  rw [e]
  show getStep (getStep 0 _) _ = _
  unfold getStep
  omega
/-- the page's law on digits -/
theorem digits_24 (n : Int) : (digsB n 8).sum + (16 * (leftB (digsB n 8) / 16 % 4) + 4 * (leftB (digsB n 8) / 4 % 4) + leftB (digsB n 8) % 4) = 24 := by
  have hr := left8_range n
  have e : leftB (digsB n 8) = 24 - (digsB n 8).sum := by
    obtain ⟨a, b, c, d, e, f, g, h, hl⟩ : ∃ a b c d e f g h, digsB n 8 = [a, b, c, d, e, f, g, h] := ⟨_, _, _, _, _, _, _, _, rfl⟩
    rw [hl]
    simp [leftB]
    omega
  omega

theorem stepsN_le (n : Int) : stepsN n ≤ 3 := by unfold stepsN; omega
theorem steps_sum (d : Int) (h : 0 ≤ d ∧ d ≤ 3) : stepsN d + stepsN (3 - d) = 3 := by unfold stepsN; omega

theorem endsB_length (seed : List Int) (leaf : Int) (ds : List Int) : (endsB seed leaf ds).length = 11 := by simp [endsB]
theorem endsB_at (seed : List Int) (leaf : Int) (ds : List Int) (i : Nat) (h : i < 11) : (endsB seed leaf ds)[i]?.getD [] = chainB (secretB seed leaf i) (stepsN (ds[i]?.getD 0)) := by simp [endsB, h]
theorem endsB_8 (seed : List Int) (leaf : Int) (ds : List Int) (i : Nat) (h : i < 11) : ((endsB seed leaf ds)[i]?.getD []).length = 8 := by
  rw [endsB_at _ _ _ _ h]; exact chainB_length _ (secretB_length _ _ _) _
theorem formed_signB (seed : List Int) (leaf : Int) (text : List Int) : formedB (signB seed leaf text) = true := by
  simp only [formedB, signB, endsB, List.length_map, List.length_range, beq_self_eq_true, Bool.true_and, List.all_map, List.all_eq_true, List.mem_range]
  intro i hi
  simp [chainB_length _ (secretB_length seed leaf i)]
/-- WHAT IS SIGNED OPENS. -/
theorem open_sign (seed : List Int) (leaf : Int) (text : List Int) : openB text (signB seed leaf text) = leafB seed leaf := by
  unfold openB leafB
  rw [if_pos (formed_signB seed leaf text)]
  congr 2
  unfold openEnds
  apply List.map_congr_left
  intro i hi
  have hi' := List.mem_range.1 hi
  show chainB ((endsB seed leaf (partsB text))[i]?.getD []) _ = _
  rw [endsB_at _ _ _ _ hi', chainB_add, steps_sum _ (partsB_range text i)]
/-- STEPS ADD UP. -/
theorem chain_sum (xs : List Int) (a b : Int) (ha : 0 ≤ a) (hb : 0 ≤ b) (h : a + b ≤ 3) : chainB (chainB xs (stepsN a)) (stepsN b) = chainB xs (stepsN (a + b)) := by
  rw [chainB_add]; congr 1; unfold stepsN; omega
theorem chain_far (xs : List Int) (a : Int) (h : 3 ≤ a) : chainB xs (stepsN a) = chainB xs (stepsN 3) := by
  congr 1; unfold stepsN; omega
end Go.Proofs.Ytjjaefacfcjgiaa
