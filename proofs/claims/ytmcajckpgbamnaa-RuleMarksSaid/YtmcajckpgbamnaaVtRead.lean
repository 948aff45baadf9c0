import Derived.Test.YtmcajckpgbamnaaVtCheck
import Derived.Test.YtmcajckpgbamnaaTxRead
import Derived.Test.YtmcajckpgbamnaaPkReader
import Derived.Test.YtmcajckpgbamnaaAlong
namespace Go.Proofs.Ytmcajckpgbamnaa
/-
  vote: Read, of whatever reader.
-/
section
set_option maxRecDepth 100000
section
set_option linter.unusedVariables false
open Go.RowKit

def noVt : Array Value := #[.int .i64 0, .int .i64 0, .int .i64 0, .string ⟨#[]⟩, .int .i64 0, .int .i64 0, .string ⟨#[]⟩]
theorem alloc_vt (w : World) : (Instr.alloc 28 true (.tuple #[])).run Try.prog w = .ok (.pointer (some ⟨w.heap.size, 0, none⟩)) (w.alloc (.cells noVt 28)) := by
  simp [noVt, go_sem]
theorem one_vt (K V H : Int) (B : ByteArray) (T G : Int) (S : ByteArray) : (#[.int .i64 K, .int .i64 V, .int .i64 H, .string B, .int .i64 T, .int .i64 G, .string S] : Array Value).all (·.oneCell') = true := by simp [Value.oneCell']
theorem results_vt {fn : Func} {p : Tmp} (h : fn.results = #[.cell p 28]) (tmps : Array Value) (w : World) (B : Nat) (cs : Array Value) (hp : tmps.getD p undef = .pointer (some ⟨B, 0, none⟩))
    (hg : w.heap[B]? = some (.cells cs 28 (0, 0))) (hs : cs.size = 7) :
    (results fn tmps).run Try.prog w = .ok (.agg cs) w := by
  have hp' : tmps[p]?.getD undef = .pointer (some ⟨B, 0, none⟩) := by simpa using hp
  have hl := run_loadVar_row (P := Try.prog) w B 28 28 cs (0, 0) _ hg Try.underlying28 rfl (by rw [info_vt, hs])
  simp [results, h, hp', asAddr, hl]

/-- what a number, a text is, read by no closer bounds than pack's, and the reader's state behind it -/
def rvNum (q : Int × List Int) : Int := (rdNum q.1 q.2 1099511627776).1
def rvNumS (q : Int × List Int) : Int × List Int := ((rdNum q.1 q.2 1099511627776).2.1, (rdNum q.1 q.2 1099511627776).2.2)
def rvTxt (q : Int × List Int) : List Int := (rdText q.1 q.2 4096).1
def rvTxtS (q : Int × List Int) : Int × List Int := ((rdText q.1 q.2 4096).2.1, (rdText q.1 q.2 4096).2.2)
/-- a reader's state -/
def RvInv (q : Int × List Int) : Prop := (q.1 ≠ 0 → q.2 = []) ∧ U8s q.2
theorem rvNum_inv {q : Int × List Int} (h : RvInv q) : RvInv (rvNumS q) := ⟨(rdNum_inv _ _ 1099511627776 h.1 h.2).1, (rdNum_inv _ _ 1099511627776 h.1 h.2).2.1⟩
theorem rvTxt_inv {q : Int × List Int} (h : RvInv q) : RvInv (rvTxtS q) := ⟨(rdText_inv _ _ 4096 h.1 h.2).1, (rdText_inv _ _ 4096 h.1 h.2).2.1⟩
/-- a statement's fields, and the reader's states -/
def vr0 (p : Int × List Int) : Int × List Int := rvTxtS p
def vr1 (p : Int × List Int) : Int × List Int := rvNumS (vr0 p)
def vr2 (p : Int × List Int) : Int × List Int := rvNumS (vr1 p)
def vr3 (p : Int × List Int) : Int × List Int := rvNumS (vr2 p)
def vr4 (p : Int × List Int) : Int × List Int := rvTxtS (vr3 p)
def vr5 (p : Int × List Int) : Int × List Int := rvNumS (vr4 p)
def vr6 (p : Int × List Int) : Int × List Int := rvNumS (vr5 p)
def vr7 (p : Int × List Int) : Int × List Int := rvTxtS (vr6 p)
def vrV (p : Int × List Int) : Vt := ⟨rvNum (vr0 p), rvNum (vr1 p), rvNum (vr2 p), rvTxt (vr3 p), rvNum (vr4 p), rvNum (vr5 p)⟩
def vrSig (p : Int × List Int) : List Int := rvTxt (vr6 p)
theorem vr_inv {p : Int × List Int} (h : RvInv p) : RvInv (vr0 p) ∧ RvInv (vr1 p) ∧ RvInv (vr2 p) ∧ RvInv (vr3 p) ∧ RvInv (vr4 p) ∧ RvInv (vr5 p) ∧ RvInv (vr6 p) ∧ RvInv (vr7 p) := by
  have h0 : RvInv (vr0 p) := rvTxt_inv h
  have h1 : RvInv (vr1 p) := rvNum_inv h0
  have h2 : RvInv (vr2 p) := rvNum_inv h1
  have h3 : RvInv (vr3 p) := rvNum_inv h2
  have h4 : RvInv (vr4 p) := rvTxt_inv h3
  have h5 : RvInv (vr5 p) := rvNum_inv h4
  have h6 : RvInv (vr6 p) := rvNum_inv h5
  exact ⟨h0, h1, h2, h3, h4, h5, h6, rvTxt_inv h6⟩
/-- that what was read may be -/
def VrOk (p : Int × List Int) : Prop := (vr7 p).1 = 0 ∧ strOfNums (rvTxt p) = ⟨#[118, 111, 116, 101]⟩ ∧ vtE (vrV p) (strOfNums (vrSig p)) = 0
open Classical in
/-- what Read tells -/
noncomputable def rVtC (p : Int × List Int) : Array Value := if VrOk p then vtC (vrV p) (strOfNums (vrSig p)) else noVt

end
end

/-
  vote: what Put writes, Read reads.
-/
section
set_option maxRecDepth 100000
section
set_option linter.unusedVariables false
open Go.RowKit

/-- a statement's octets -/
def vtO (v : Vt) (sig : List Int) : List Int := vtT v ++ (octAll sig.length 2 ++ sig)
theorem vtO_u8s (v : Vt) (sig : List Int) (hb : U8s v.B) (h : U8s sig) : U8s (vtO v sig) := (vtT_u8s _ hb).append ((octAll_u8s _ _).append h)
theorem vtO_length (v : Vt) (sig : List Int) : (vtO v sig).length = 40 + v.B.length + sig.length := by
  unfold vtO; rw [List.length_append, List.length_append, vtT_length, octAll_length]; omega
theorem vtPut_ok (bs : List Int) (v : Vt) (sig : List Int) (h : vtE v (strOfNums sig) = 0) (hb : bs.length ≤ 16000) : textS (vtS6 (0, bs) v) sig = (0, bs ++ vtO v sig) := by
  obtain ⟨hm, hs⟩ := vtE_ok h
  rw [strOfNums_size] at hs
  have hk := vtMay_ok hm
  rw [vtS_ok bs v hk hb, textS_ok _ _ hs (by rw [List.length_append, vtT_length]; have := hk.bl; omega), List.append_assoc]
  rfl
theorem rvNumS_enc (n : Int) (rest : List Int) (h0 : 0 ≤ n ∧ n ≤ 1099511627776) : rvNum (0, octAll n 6 ++ rest) = n ∧ rvNumS (0, octAll n 6 ++ rest) = (0, rest) := by
  unfold rvNum rvNumS
  simp only [rdNum_enc n rest h0.1 h0.2, and_self]
theorem rvTxtS_enc (zs rest : List Int) (h : zs.length ≤ 4096) : rvTxt (0, (octAll zs.length 2 ++ zs) ++ rest) = zs ∧ rvTxtS (0, (octAll zs.length 2 ++ zs) ++ rest) = (0, rest) := by
  unfold rvTxt rvTxtS
  simp only [rdText_enc zs rest h, and_self]
/-- WHAT WAS PUT IS READ. -/
theorem vtRead_ok (v : Vt) (sig rest : List Int) (h : vtE v (strOfNums sig) = 0) : rVtC (0, vtO v sig ++ rest) = vtC v (strOfNums sig) ∧ vr7 (0, vtO v sig ++ rest) = (0, rest) := by
  obtain ⟨hm, hs⟩ := vtE_ok h
  rw [strOfNums_size] at hs
  have hk := vtMay_ok hm
  have e4 : octAll (([118, 111, 116, 101] : List Int).length : Int) 2 = [0, 4] := by decide
  have hO : vtO v sig ++ rest = (octAll (([118, 111, 116, 101] : List Int).length : Int) 2 ++ [118, 111, 116, 101]) ++ (octAll v.K 6 ++ (octAll v.V 6 ++ (octAll v.H 6 ++ ((octAll v.B.length 2 ++ v.B) ++ (octAll v.T 6 ++ (octAll v.G 6 ++ ((octAll sig.length 2 ++ sig) ++ rest))))))) := by
    rw [e4]; simp [vtO, vtT]
  rw [hO]
  generalize hp : ((0 : Int), (octAll (([118, 111, 116, 101] : List Int).length : Int) 2 ++ [118, 111, 116, 101]) ++ (octAll v.K 6 ++ (octAll v.V 6 ++ (octAll v.H 6 ++ ((octAll v.B.length 2 ++ v.B) ++ (octAll v.T 6 ++ (octAll v.G 6 ++ ((octAll sig.length 2 ++ sig) ++ rest)))))))) = p
  have t0 := rvTxtS_enc [118, 111, 116, 101] (octAll v.K 6 ++ (octAll v.V 6 ++ (octAll v.H 6 ++ ((octAll v.B.length 2 ++ v.B) ++ (octAll v.T 6 ++ (octAll v.G 6 ++ ((octAll sig.length 2 ++ sig) ++ rest))))))) (by simp)
  rw [hp] at t0
  have s0 : vr0 p = _ := t0.2
  have s1 : rvNum (vr0 p) = v.K ∧ vr1 p = (0, octAll v.V 6 ++ (octAll v.H 6 ++ ((octAll v.B.length 2 ++ v.B) ++ (octAll v.T 6 ++ (octAll v.G 6 ++ ((octAll sig.length 2 ++ sig) ++ rest)))))) := by unfold vr1; rw [s0]; exact rvNumS_enc _ _ hk.k
  have s2 : rvNum (vr1 p) = v.V ∧ vr2 p = (0, octAll v.H 6 ++ ((octAll v.B.length 2 ++ v.B) ++ (octAll v.T 6 ++ (octAll v.G 6 ++ ((octAll sig.length 2 ++ sig) ++ rest))))) := by unfold vr2; rw [s1.2]; exact rvNumS_enc _ _ hk.vv
  have s3 : rvNum (vr2 p) = v.H ∧ vr3 p = (0, (octAll v.B.length 2 ++ v.B) ++ (octAll v.T 6 ++ (octAll v.G 6 ++ ((octAll sig.length 2 ++ sig) ++ rest)))) := by unfold vr3; rw [s2.2]; exact rvNumS_enc _ _ hk.h
  have s4 : rvTxt (vr3 p) = v.B ∧ vr4 p = (0, octAll v.T 6 ++ (octAll v.G 6 ++ ((octAll sig.length 2 ++ sig) ++ rest))) := by unfold vr4; rw [s3.2]; exact rvTxtS_enc _ _ (by have := hk.bl; omega)
  have s5 : rvNum (vr4 p) = v.T ∧ vr5 p = (0, octAll v.G 6 ++ ((octAll sig.length 2 ++ sig) ++ rest)) := by unfold vr5; rw [s4.2]; exact rvNumS_enc _ _ hk.t
  have s6 : rvNum (vr5 p) = v.G ∧ vr6 p = (0, (octAll sig.length 2 ++ sig) ++ rest) := by unfold vr6; rw [s5.2]; exact rvNumS_enc _ _ ⟨hk.g.1, by have := hk.g.2; omega⟩
  have s7 : rvTxt (vr6 p) = sig ∧ vr7 p = (0, rest) := by unfold vr7; rw [s6.2]; exact rvTxtS_enc _ _ hs
  have hv : vrV p = v := by unfold vrV; rw [s1.1, s2.1, s3.1, s4.1, s5.1, s6.1]
  refine ⟨?_, s7.2⟩
  have hok : VrOk p := ⟨by rw [s7.2], by rw [t0.1]; rfl, by rw [hv, show vrSig p = sig from s7.1]; exact h⟩
  unfold rVtC
  rw [if_pos hok, hv, show vrSig p = sig from s7.1]
end
end
end Go.Proofs.Ytmcajckpgbamnaa
