import Derived.Test.YtmcajckpgbamnaaTxCheck
import Derived.Test.YtmcajckpgbamnaaPkReader
import Derived.Test.YtmcajckpgbamnaaAlong
namespace Go.Proofs.Ytmcajckpgbamnaa
/-
  tx: Read, of whatever reader.
-/
section
set_option maxRecDepth 100000
section
set_option linter.unusedVariables false
open Go.RowKit

def noTx : Array Value := #[.int .i64 0, .int .i64 0, .int .i64 0, .int .i64 0, .string ⟨#[]⟩]
theorem one_tx (f t a n : Int) (S : ByteArray) : (#[.int .i64 f, .int .i64 t, .int .i64 a, .int .i64 n, .string S] : Array Value).all (·.oneCell') = true := by simp [Value.oneCell']
theorem ex_build5 {P : Program} {o : Oper} {ρ : Operand → Value} {v : Value} {x0 x1 x2 x3 x4 : Operand} {t : TypeId} {v0 v1 v2 v3 v4 : Value} (w w' : World) (hr : (Instr.build t #[(0, v0), (1, v1), (2, v2), (3, v3), (4, v4)]).run P w = .ok v w') (hop : o.op = .build t #[(0, x0), (1, x1), (2, x2), (3, x3), (4, x4)]) (h0 : ρ x0 = v0) (h1 : ρ x1 = v1) (h2 : ρ x2 = v2) (h3 : ρ x3 = v3) (h4 : ρ x4 = v4) : (execOp ρ o).run P w = .ok (.value v) w' :=
  ex_build hop (by simp only [List.map_toArray, List.map_cons, List.map_nil, h0, h1, h2, h3, h4]) w w' hr
/-- the address of an element of an array -/
theorem ex_indexa {P : Program} {o : Oper} {ρ : Operand → Value} {x y : Operand} {t e : TypeId} {b off n k s : Nat} (hu : P.underlying t = some (.array n e)) (hsz : ∀ w, (sizeOf e).run P w = .ok s w) (hop : o.op = .indexAddr t x y) (hx : ρ x = .pointer (some ⟨b, off, none⟩)) (hk : k < n) (w : World) (hy : ρ y = .int .i64 (k : Nat) := by rfl) :
    (execOp ρ o).run P w = .ok (.value (.pointer (some ⟨b, off + k * s, none⟩))) w := by
  have h2 : ((⟨b, off, none⟩ : Addr).add (k * s)) = ⟨b, off + k * s, none⟩ := by unfold Addr.add; split <;> simp_all
  have he : P.elem t = e := by simp [Program.elem, hu]
  have hl : P.arrayLen t = n := by simp [Program.arrayLen, hu]
  have h3 := run_indexAt_array (P := P) (w := w) t ⟨b, off, none⟩ .i64 k (by rw [he, hl]; exact hu)
  have hr : (Instr.indexAt t (.pointer (some ⟨b, off, none⟩)) (.int .i64 k)).run P w = .ok (.pointer (some ⟨b, off + k * s, none⟩)) w := by
    rw [hl, if_pos ⟨by omega, by omega⟩, he, hsz] at h3
    rw [h3]
    simp [h2]
  unfold execOp; rw [hop]; simp only [hx, hy, Sem.run_bind, hr, Result.andThen_ok, Sem.run_pure]
/-- the reader's state behind the word and k numbers of a transaction -/
def rS (p : Int × List Int) : Nat → Int × List Int
  | 0 => ((rdText p.1 p.2 4096).2.1, (rdText p.1 p.2 4096).2.2)
  | k + 1 => ((rdNum (rS p k).1 (rS p k).2 1099511627776).2.1, (rdNum (rS p k).1 (rS p k).2 1099511627776).2.2)
def rX (p : Int × List Int) (k : Nat) : Int := (rdNum (rS p k).1 (rS p k).2 1099511627776).1
def rSig (p : Int × List Int) : List Int × Int × List Int := rdText (rS p 4).1 (rS p 4).2 4096
/-- what Read tells -/
def rTxC (p : Int × List Int) : Array Value :=
  if (rSig p).2.1 = 0 ∧ strOfNums (rdText p.1 p.2 4096).1 = ⟨#[116, 120]⟩ ∧ txE (rX p 0) (rX p 1) (rX p 2) (rX p 3) (strOfNums (rSig p).1) = 0 then
    txC (rX p 0) (rX p 1) (rX p 2) (rX p 3) (strOfNums (rSig p).1) else noTx
theorem rS_inv (p : Int × List Int) (h0 : p.1 ≠ 0 → p.2 = []) (hu : U8s p.2) : ∀ k, ((rS p k).1 ≠ 0 → (rS p k).2 = []) ∧ U8s (rS p k).2
  | 0 => ⟨(rdText_inv p.1 p.2 4096 h0 hu).1, (rdText_inv p.1 p.2 4096 h0 hu).2.1⟩
  | k + 1 => ⟨(rdNum_inv _ _ 1099511627776 (rS_inv p h0 hu k).1 (rS_inv p h0 hu k).2).1, (rdNum_inv _ _ 1099511627776 (rS_inv p h0 hu k).1 (rS_inv p h0 hu k).2).2.1⟩
/-- four numbers, of which k are read -/
def arrN (X : Nat → Int) (k : Nat) : Array Value := #[.int .i64 (if 0 < k then X 0 else 0), .int .i64 (if 1 < k then X 1 else 0), .int .i64 (if 2 < k then X 2 else 0), .int .i64 (if 3 < k then X 3 else 0)]
theorem arrN_next (X : Nat → Int) (k : Nat) (hk : k < 4) : (arrN X k).setIfInBounds k (.int .i64 (X k)) = arrN X (k + 1) := by
  have hc : k = 0 ∨ k = 1 ∨ k = 2 ∨ k = 3 := by omega
  rcases hc with rfl | rfl | rfl | rfl <;> simp [arrN]

end
end

/-
  tx: what Put writes, Read reads.
-/
section
set_option maxRecDepth 100000
section
set_option linter.unusedVariables false
open Go.RowKit

/-- a transaction's octets -/
def txO (f t a n : Int) (sig : List Int) : List Int := txT f t a n ++ (octAll sig.length 2 ++ sig)
theorem txE_ok {f t a n : Int} {S : ByteArray} (h : txE f t a n S = 0) : ((0 ≤ f ∧ f ≤ 3) ∧ (0 ≤ t ∧ t ≤ 3) ∧ (1 ≤ a ∧ a ≤ 1000) ∧ (0 ≤ n ∧ n ≤ 1099511627776)) ∧ f ≠ t ∧ S.size ≤ 4096 := by
  unfold txE at h
  split at h
  · assumption
  · cases h
theorem txE_ok_iff {f t a n : Int} {S : ByteArray} : txE f t a n S = 0 ↔ ((0 ≤ f ∧ f ≤ 3) ∧ (0 ≤ t ∧ t ≤ 3) ∧ (1 ≤ a ∧ a ≤ 1000) ∧ (0 ≤ n ∧ n ≤ 1099511627776)) ∧ f ≠ t ∧ S.size ≤ 4096 := ⟨txE_ok, fun h => if_pos h⟩
theorem txO_u8s (f t a n : Int) (sig : List Int) (h : U8s sig) : U8s (txO f t a n sig) := (txT_u8s _ _ _ _).append ((octAll_u8s _ _).append h)
theorem txO_length (f t a n : Int) (sig : List Int) : (txO f t a n sig).length = 30 + sig.length := by
  unfold txO; rw [List.length_append, List.length_append, txT_length, octAll_length]; omega
theorem put_ok (bs : List Int) (f t a n : Int) (sig : List Int) (h : txE f t a n (strOfNums sig) = 0) (hb : bs.length ≤ 16000) : textS (txS (0, bs) f t a n 4) sig = (0, bs ++ txO f t a n sig) := by
  obtain ⟨⟨hf, ht, ha, hn⟩, _, hs⟩ := txE_ok h
  rw [strOfNums_size] at hs
  rw [txS_ok bs f t a n (by omega) (by omega) (by omega) (by omega) hb, textS_ok _ _ hs (by rw [List.length_append, txT_length]; omega), List.append_assoc]
  rfl
theorem rS_ok (f t a n : Int) (tail : List Int) (hf : 0 ≤ f ∧ f ≤ 1099511627776) (ht : 0 ≤ t ∧ t ≤ 1099511627776) (ha : 0 ≤ a ∧ a ≤ 1099511627776) (hn : 0 ≤ n ∧ n ≤ 1099511627776) :
    rdText 0 (txT f t a n ++ tail) 4096 = ([116, 120], 0, octAll f 6 ++ (octAll t 6 ++ (octAll a 6 ++ (octAll n 6 ++ tail)))) ∧
    rS (0, txT f t a n ++ tail) 0 = (0, octAll f 6 ++ (octAll t 6 ++ (octAll a 6 ++ (octAll n 6 ++ tail)))) ∧ rS (0, txT f t a n ++ tail) 1 = (0, octAll t 6 ++ (octAll a 6 ++ (octAll n 6 ++ tail))) ∧ rS (0, txT f t a n ++ tail) 2 = (0, octAll a 6 ++ (octAll n 6 ++ tail)) ∧ rS (0, txT f t a n ++ tail) 3 = (0, octAll n 6 ++ tail) ∧ rS (0, txT f t a n ++ tail) 4 = (0, tail) := by
  have e2 : octAll (([116, 120] : List Int).length : Int) 2 = [0, 2] := by decide
  have h0 : rdText 0 (txT f t a n ++ tail) 4096 = ([116, 120], 0, octAll f 6 ++ (octAll t 6 ++ (octAll a 6 ++ (octAll n 6 ++ tail)))) := by
    rw [← rdText_enc [116, 120] (octAll f 6 ++ (octAll t 6 ++ (octAll a 6 ++ (octAll n 6 ++ tail)))) (by simp), e2]
    simp [txT]
  have h1 : rS (0, txT f t a n ++ tail) 0 = (0, octAll f 6 ++ (octAll t 6 ++ (octAll a 6 ++ (octAll n 6 ++ tail)))) := by simp only [rS]; rw [h0]
  have h2 : rS (0, txT f t a n ++ tail) 1 = (0, octAll t 6 ++ (octAll a 6 ++ (octAll n 6 ++ tail))) := by rw [rS, h1]; simp only; rw [rdNum_enc f _ hf.1 hf.2]
  have h3 : rS (0, txT f t a n ++ tail) 2 = (0, octAll a 6 ++ (octAll n 6 ++ tail)) := by rw [rS, h2]; simp only; rw [rdNum_enc t _ ht.1 ht.2]
  have h4 : rS (0, txT f t a n ++ tail) 3 = (0, octAll n 6 ++ tail) := by rw [rS, h3]; simp only; rw [rdNum_enc a _ ha.1 ha.2]
  have h5 : rS (0, txT f t a n ++ tail) 4 = (0, tail) := by rw [rS, h4]; simp only; rw [rdNum_enc n _ hn.1 hn.2]
  exact ⟨h0, h1, h2, h3, h4, h5⟩
/-- WHAT WAS PUT IS READ. -/
theorem read_ok (f t a n : Int) (sig rest : List Int) (h : txE f t a n (strOfNums sig) = 0) : rTxC (0, txO f t a n sig ++ rest) = txC f t a n (strOfNums sig) ∧ rSig (0, txO f t a n sig ++ rest) = (sig, 0, rest) := by
  obtain ⟨⟨hf, ht, ha, hn⟩, _, hs⟩ := txE_ok h
  rw [strOfNums_size] at hs
  unfold txO
  rw [List.append_assoc]
  obtain ⟨h0, h1, h2, h3, h4, h5⟩ := rS_ok f t a n ((octAll sig.length 2 ++ sig) ++ rest) (by omega) (by omega) (by omega) (by omega)
  have hg : rSig (0, txT f t a n ++ ((octAll sig.length 2 ++ sig) ++ rest)) = (sig, 0, rest) := by unfold rSig; rw [h5]; exact rdText_enc sig rest hs
  refine ⟨?_, hg⟩
  have x0 : rX (0, txT f t a n ++ ((octAll sig.length 2 ++ sig) ++ rest)) 0 = f := by unfold rX; rw [h1, rdNum_enc f _ (by omega) (by omega)]
  have x1 : rX (0, txT f t a n ++ ((octAll sig.length 2 ++ sig) ++ rest)) 1 = t := by unfold rX; rw [h2, rdNum_enc t _ (by omega) (by omega)]
  have x2 : rX (0, txT f t a n ++ ((octAll sig.length 2 ++ sig) ++ rest)) 2 = a := by unfold rX; rw [h3, rdNum_enc a _ (by omega) (by omega)]
  have x3 : rX (0, txT f t a n ++ ((octAll sig.length 2 ++ sig) ++ rest)) 3 = n := by unfold rX; rw [h4, rdNum_enc n _ (by omega) (by omega)]
  unfold rTxC
  simp only [hg, x0, x1, x2, x3, h0, h]
  rfl
end
end
end Go.Proofs.Ytmcajckpgbamnaa
