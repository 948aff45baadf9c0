import Derived.Test.YtmcajckpgbamnaaUps
import Derived.Test.YtmcajckpgbamnaaStrs
import Derived.Test.YtmcajckpgbamnaaPkWriter
namespace Go.Proofs.Ytmcajckpgbamnaa
/-
  tx: the numbers of a transaction; Check; the page's example.
-/
section
set_option maxRecDepth 100000
section
set_option linter.unusedVariables false
open Go.RowKit

/-- a transaction's cells -/
def txC (f t a n : Int) (S : ByteArray) : Array Value := #[.int .i64 f, .int .i64 t, .int .i64 a, .int .i64 n, .string S]
def numsC (f t a n : Int) : Array Value := #[.int .i64 f, .int .i64 0, .int .i64 3, .int .i64 t, .int .i64 0, .int .i64 3, .int .i64 a, .int .i64 1, .int .i64 1000, .int .i64 n, .int .i64 0, .int .i64 1099511627776]
/-- the k-th number, its least, its most -/
def txX (f t a n : Int) (k : Nat) : Int := match k with | 0 => f | 1 => t | 2 => a | _ => n
def txL (k : Nat) : Int := match k with | 2 => 1 | _ => 0
def txM (k : Nat) : Int := match k with | 0 => 3 | 1 => 3 | 2 => 1000 | _ => 1099511627776
def numsOk (f t a n : Int) (k : Nat) : Prop := ∀ j, j < k → txL j ≤ txX f t a n j ∧ txX f t a n j ≤ txM j
def txE (f t a n : Int) (S : ByteArray) : Int := if ((0 ≤ f ∧ f ≤ 3) ∧ (0 ≤ t ∧ t ≤ 3) ∧ (1 ≤ a ∧ a ≤ 1000) ∧ (0 ≤ n ∧ n ≤ 1099511627776)) ∧ f ≠ t ∧ S.size ≤ 4096 then 0 else 9
theorem numsOk_four {f t a n : Int} : numsOk f t a n 4 ↔ ((0 ≤ f ∧ f ≤ 3) ∧ (0 ≤ t ∧ t ≤ 3) ∧ (1 ≤ a ∧ a ≤ 1000) ∧ (0 ≤ n ∧ n ≤ 1099511627776)) := by
  constructor
  · intro h
    exact ⟨h 0 (by omega), h 1 (by omega), h 2 (by omega), h 3 (by omega)⟩
  · intro ⟨h0, h1, h2, h3⟩ j hj
    have hc : j = 0 ∨ j = 1 ∨ j = 2 ∨ j = 3 := by omega
    rcases hc with rfl | rfl | rfl | rfl
    · exact h0
    · exact h1
    · exact h2
    · exact h3

end
end

/-
  tx: the text of a transaction, and its octets.
-/
section
set_option maxRecDepth 100000
section
set_option linter.unusedVariables false
open Go.RowKit

/-- a writer's error and octets behind a number, a text -/
def numS (p : Int × List Int) (n : Int) : Int × List Int := (wNumE p.1 n, wNumB p.1 p.2 n)
def textS (p : Int × List Int) (zs : List Int) : Int × List Int := (wTextE p.1 zs, wTextB p.1 p.2 zs)
theorem numS_le (p : Int × List Int) (n : Int) (h : p.2.length ≤ 20482) : (numS p n).2.length ≤ 20482 := wNumB_le _ _ _ h
theorem textS_le (p : Int × List Int) (zs : List Int) (h : p.2.length ≤ 20482) : (textS p zs).2.length ≤ 20482 := wTextB_le _ _ _ h
/-- .. behind the text and k numbers of a transaction -/
def txS (p : Int × List Int) (f t a n : Int) : Nat → Int × List Int
  | 0 => textS p [116, 120]
  | k + 1 => numS (txS p f t a n k) (txX f t a n k)
theorem txS_le (p : Int × List Int) (f t a n : Int) (h : p.2.length ≤ 20482) : ∀ k, (txS p f t a n k).2.length ≤ 20482
  | 0 => textS_le _ _ h
  | k + 1 => numS_le _ _ (txS_le p f t a n h k)
def I64 (n : Int) : Prop := -9223372036854775808 ≤ n ∧ n ≤ 9223372036854775807
theorem txX_i64 {f t a n : Int} (hf : I64 f) (ht : I64 t) (ha : I64 a) (hn : I64 n) (k : Nat) : I64 (txX f t a n k) := by
  unfold txX; split
  · exact hf
  · exact ht
  · exact ha
  · exact hn

theorem WrStep.size {g : Nat} {o o' : Value} {w w' : World} (hs : WrStep g o o' w w') : w.heap.size ≤ w'.heap.size := hs.1.size
theorem WrStep.keep {g : Nat} {o o' : Value} {w w' : World} (hs : WrStep g o o' w w') {B : Nat} {x : Obj} (hB : w.heap[B]? = some x) (hg : B ≠ g) (ho : o.ownBlock ≠ some B) : w'.heap[B]? = some x :=
  (hs.1.block B (lt_of_block hB) (fun e => by
    rcases e with e | e
    · exact hg e
    · exact ho e)).trans hB
/-- the octets that are signed of a transaction that may be -/
def txT (f t a n : Int) : List Int := [0, 2, 116, 120] ++ octAll f 6 ++ octAll t 6 ++ octAll a 6 ++ octAll n 6
theorem txT_length (f t a n : Int) : (txT f t a n).length = 28 := by simp [txT, octAll_length]
theorem txT_u8s (f t a n : Int) : U8s (txT f t a n) := by
  unfold txT
  refine ((((?_ : U8s [0, 2, 116, 120]).append (octAll_u8s _ _)).append (octAll_u8s _ _)).append (octAll_u8s _ _)).append (octAll_u8s _ _)
  intro j hj
  have hc : j = 0 ∨ j = 1 ∨ j = 2 ∨ j = 3 := by simp at hj; omega
  rcases hc with rfl | rfl | rfl | rfl <;> simp
theorem numS_ok (bs : List Int) (n : Int) (h0 : 0 ≤ n ∧ n ≤ 1099511627776) (hb : bs.length ≤ 16384) : numS (0, bs) n = (0, bs ++ octAll n 6) := by
  have h1 : ¬ (n < 0 ∨ 1099511627776 < n) := by omega
  simp [numS, wNumE, wNumB, wPut, h1, hb]
theorem textS_ok (bs zs : List Int) (h0 : zs.length ≤ 4096) (hb : bs.length ≤ 16384) : textS (0, bs) zs = (0, bs ++ (octAll zs.length 2 ++ zs)) := by
  have h1 : ¬ 4096 < zs.length := by omega
  simp [textS, wTextE, wTextB, wPut, h1, hb]
theorem txS_ok (bs : List Int) (f t a n : Int) (hf : 0 ≤ f ∧ f ≤ 1099511627776) (ht : 0 ≤ t ∧ t ≤ 1099511627776) (ha : 0 ≤ a ∧ a ≤ 1099511627776) (hn : 0 ≤ n ∧ n ≤ 1099511627776) (hb : bs.length ≤ 16000) : txS (0, bs) f t a n 4 = (0, bs ++ txT f t a n) := by
  have e : octAll (2 : Int) 2 = [0, 2] := by decide
  simp only [txS, txX]
  rw [textS_ok _ _ (by simp) (by omega)]
  rw [show octAll ((([116, 120] : List Int).length : Nat) : Int) 2 = [0, 2] from e]
  rw [numS_ok _ _ hf (by simp; omega), numS_ok _ _ ht (by simp [octAll_length]; omega), numS_ok _ _ ha (by simp [octAll_length]; omega), numS_ok _ _ hn (by simp [octAll_length]; omega)]
  simp [txT]

end
end
end Go.Proofs.Ytmcajckpgbamnaa
