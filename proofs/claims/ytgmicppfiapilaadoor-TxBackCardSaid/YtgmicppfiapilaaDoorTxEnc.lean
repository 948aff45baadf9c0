import Derived.Test.YtgmicppfiapilaaDoorTxRead
/-
  tx: what Put writes, Read reads.
-/
namespace Go.Proofs.YtgmicppfiapilaaDoor
set_option maxRecDepth 100000
section
set_option linter.unusedVariables false
open Go.RowKit

/-- a transaction's octets -/
def txO (f t a n : Int) (sig : List Int) : List Int := txT f t a n ++ (octAll sig.length 2 ++ sig)
theorem txE_ok {f t a n : Int} {S : ByteArray} (h : txE f t a n S = 0) : ((0 ≤ f ∧ f ≤ 3) ∧ (0 ≤ t ∧ t ≤ 3) ∧ (1 ≤ a ∧ a ≤ 1000) ∧ (0 ≤ n ∧ n ≤ 1099511627776)) ∧ f ≠ t ∧ S.size ≤ 4096 := by
  unfold txE at h
  split at h
  · assumption
  · cases h
theorem txE_ok_iff {f t a n : Int} {S : ByteArray} : txE f t a n S = 0 ↔ ((0 ≤ f ∧ f ≤ 3) ∧ (0 ≤ t ∧ t ≤ 3) ∧ (1 ≤ a ∧ a ≤ 1000) ∧ (0 ≤ n ∧ n ≤ 1099511627776)) ∧ f ≠ t ∧ S.size ≤ 4096 := ⟨txE_ok, fun h => if_pos h⟩
theorem txO_u8s (f t a n : Int) (sig : List Int) (h : U8s sig) : U8s (txO f t a n sig) := (txT_u8s _ _ _ _).append ((octAll_u8s _ _).append h)
theorem txO_length (f t a n : Int) (sig : List Int) : (txO f t a n sig).length = 30 + sig.length := by
  unfold txO; rw [List.length_append, List.length_append, txT_length, octAll_length]; omega
theorem put_ok (bs : List Int) (f t a n : Int) (sig : List Int) (h : txE f t a n (strOfNums sig) = 0) (hb : bs.length ≤ 16000) : textS (txS (0, bs) f t a n 4) sig = (0, bs ++ txO f t a n sig) := by
  obtain ⟨⟨hf, ht, ha, hn⟩, _, hs⟩ := txE_ok h
  rw [strOfNums_size] at hs
  rw [txS_ok bs f t a n (by omega) (by omega) (by omega) (by omega) hb, textS_ok _ _ hs (by rw [List.length_append, txT_length]; omega), List.append_assoc]
  rfl
theorem rS_ok (f t a n : Int) (tail : List Int) (hf : 0 ≤ f ∧ f ≤ 1099511627776) (ht : 0 ≤ t ∧ t ≤ 1099511627776) (ha : 0 ≤ a ∧ a ≤ 1099511627776) (hn : 0 ≤ n ∧ n ≤ 1099511627776) :
    rdText 0 (txT f t a n ++ tail) 4096 = ([116, 120], 0, octAll f 6 ++ (octAll t 6 ++ (octAll a 6 ++ (octAll n 6 ++ tail)))) ∧
    rS (0, txT f t a n ++ tail) 0 = (0, octAll f 6 ++ (octAll t 6 ++ (octAll a 6 ++ (octAll n 6 ++ tail)))) ∧ rS (0, txT f t a n ++ tail) 1 = (0, octAll t 6 ++ (octAll a 6 ++ (octAll n 6 ++ tail))) ∧ rS (0, txT f t a n ++ tail) 2 = (0, octAll a 6 ++ (octAll n 6 ++ tail)) ∧ rS (0, txT f t a n ++ tail) 3 = (0, octAll n 6 ++ tail) ∧ rS (0, txT f t a n ++ tail) 4 = (0, tail) := by
  have e2 : octAll (([116, 120] : List Int).length : Int) 2 = [0, 2] := by decide
  have h0 : rdText 0 (txT f t a n ++ tail) 4096 = ([116, 120], 0, octAll f 6 ++ (octAll t 6 ++ (octAll a 6 ++ (octAll n 6 ++ tail)))) := by
    rw [← rdText_enc [116, 120] (octAll f 6 ++ (octAll t 6 ++ (octAll a 6 ++ (octAll n 6 ++ tail)))) (by simp), e2]
    simp [txT]
  have h1 : rS (0, txT f t a n ++ tail) 0 = (0, octAll f 6 ++ (octAll t 6 ++ (octAll a 6 ++ (octAll n 6 ++ tail)))) := by simp only [rS]; rw [h0]
  have h2 : rS (0, txT f t a n ++ tail) 1 = (0, octAll t 6 ++ (octAll a 6 ++ (octAll n 6 ++ tail))) := by rw [rS, h1]; simp only; rw [rdNum_enc f _ hf.1 hf.2]
  have h3 : rS (0, txT f t a n ++ tail) 2 = (0, octAll a 6 ++ (octAll n 6 ++ tail)) := by rw [rS, h2]; simp only; rw [rdNum_enc t _ ht.1 ht.2]
  have h4 : rS (0, txT f t a n ++ tail) 3 = (0, octAll n 6 ++ tail) := by rw [rS, h3]; simp only; rw [rdNum_enc a _ ha.1 ha.2]
  have h5 : rS (0, txT f t a n ++ tail) 4 = (0, tail) := by rw [rS, h4]; simp only; rw [rdNum_enc n _ hn.1 hn.2]
  exact ⟨h0, h1, h2, h3, h4, h5⟩
/-- WHAT WAS PUT IS READ. -/
theorem read_ok (f t a n : Int) (sig rest : List Int) (h : txE f t a n (strOfNums sig) = 0) : rTxC (0, txO f t a n sig ++ rest) = txC f t a n (strOfNums sig) ∧ rSig (0, txO f t a n sig ++ rest) = (sig, 0, rest) := by
  obtain ⟨⟨hf, ht, ha, hn⟩, _, hs⟩ := txE_ok h
  rw [strOfNums_size] at hs
  unfold txO
  rw [List.append_assoc]
  obtain ⟨h0, h1, h2, h3, h4, h5⟩ := rS_ok f t a n ((octAll sig.length 2 ++ sig) ++ rest) (by omega) (by omega) (by omega) (by omega)
  have hg : rSig (0, txT f t a n ++ ((octAll sig.length 2 ++ sig) ++ rest)) = (sig, 0, rest) := by unfold rSig; rw [h5]; exact rdText_enc sig rest hs
  refine ⟨?_, hg⟩
  have x0 : rX (0, txT f t a n ++ ((octAll sig.length 2 ++ sig) ++ rest)) 0 = f := by unfold rX; rw [h1, rdNum_enc f _ (by omega) (by omega)]
  have x1 : rX (0, txT f t a n ++ ((octAll sig.length 2 ++ sig) ++ rest)) 1 = t := by unfold rX; rw [h2, rdNum_enc t _ (by omega) (by omega)]
  have x2 : rX (0, txT f t a n ++ ((octAll sig.length 2 ++ sig) ++ rest)) 2 = a := by unfold rX; rw [h3, rdNum_enc a _ (by omega) (by omega)]
  have x3 : rX (0, txT f t a n ++ ((octAll sig.length 2 ++ sig) ++ rest)) 3 = n := by unfold rX; rw [h4, rdNum_enc n _ (by omega) (by omega)]
  unfold rTxC
  simp only [hg, x0, x1, x2, x3, h0, h]
  rfl
end
end Go.Proofs.YtgmicppfiapilaaDoor
