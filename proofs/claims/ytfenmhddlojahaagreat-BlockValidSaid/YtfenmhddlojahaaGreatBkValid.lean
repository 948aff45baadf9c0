import Derived.Test.YtfenmhddlojahaaGreatBkName
import Derived.Test.YtfenmhddlojahaaGreatSgVerify
import Derived.Test.YtfenmhddlojahaaGreatVtMake
import Derived.Test.YtfenmhddlojahaaGreatCtRight
import Derived.Test.YtfenmhddlojahaaGreatTxMake
namespace Go.Proofs.YtfenmhddlojahaaGreat
/-
  block: is a block led? of a block that may be.
-/
section
set_option maxRecDepth 100000
section
set_option linter.unusedVariables false
open Go.RowKit Go.Sort Go.Lib

theorem rem_nat (x y : Operand) (a b : Nat) (hb : 1 ≤ b) (hb2 : b ≤ 9223372036854775807) (ha : a ≤ 1048576) (w : World) : (do eqGuard .rem 3 x y (.int .i64 (a : Int)) (.int .i64 (b : Int)); binOp .rem 3 (.int .i64 (a : Int)) (.int .i64 (b : Int)) : Sem Value).run Tryz.prog w = .ok (.int .i64 ((a % b : Nat) : Int)) w := by
  have h0 : ¬ ((b : Int) = 0) := by omega
  have h1 : Int.tmod (a : Int) (b : Int) = ((a % b : Nat) : Int) := by rw [Int.tmod_eq_emod_of_nonneg (by omega)]; rfl
  have h2 : a % b ≤ a := Nat.mod_le _ _
  simp [eqGuard, go_sem, h1]
  omega
theorem leader_nat (v l : Nat) (hl : 1 ≤ l) (hl2 : l ≤ 9223372036854775807) (hv : v ≤ 1048576) (w : World) : Calls Tryz.prog 50 #[.int .i64 (v : Int), .int .i64 (l : Int)] w fun e w' => e = .returned (.int .i64 ((v % l : Nat) : Int)) ∧ w = w' := by
  have h1 : ¬ (v : Int) < 0 := by omega
  have h2 : ¬ (l : Int) < 1 := by omega
  have HR := Lib.hid (fun x y wx => rem_nat x y v l hl hl2 hv wx)
  generalize hk : v % l = k at HR ⊢
  clear hk
  go_enter Tryz.func50, Tryz.ntmps50
  go_wp2_with (refine wpList_ex rfl (.int .i64 (k : Int)) _ (ex_bin rfl rfl rfl _ (HR.out _ _ _)) ?_)
  go_ret
  exact ⟨rfl, rfl⟩
theorem refLeader_nat (v l : Nat) (hl : 1 ≤ l) (hl2 : l ≤ 9223372036854775807) (hv : v ≤ 1048576) (w : World) : Calls Tryz.prog 47 #[.int .i64 (v : Int), .int .i64 (l : Int)] w fun e w' => e = .returned (.int .i64 ((v % l : Nat) : Int)) ∧ w = w' := by
  have h1 : ¬ (v : Int) < 0 := by omega
  have h2 : ¬ (l : Int) < 1 := by omega
  have HR := Lib.hid (fun x y wx => rem_nat x y v l hl hl2 hv wx)
  generalize hk : v % l = k at HR ⊢
  clear hk
  go_enter Tryz.func47, Tryz.ntmps47
  go_wp2_with (refine wpList_ex rfl (.int .i64 (k : Int)) _ (ex_bin rfl rfl rfl _ (HR.out _ _ _)) ?_)
  go_ret
  exact ⟨rfl, rfl⟩
/-- the root of the leader -/
def ledRoot (ls : List (List Int)) (v : Nat) : ByteArray := strOfNums (ls[v % ls.length]?.getD [])
theorem isLed_none (V H : Int) (P : ByteArray) (JV JH : Int) (JB : ByteArray) (ja : Option Addr) (jn jc : Nat) (ta : Option Addr) (n tc : Nat) (S : ByteArray) (ra : Option Addr) (rc : Nat) (w : World) :
    Calls Tryz.prog 42 #[.agg (bkC V H P JV JH JB ja jn jc ta n tc S), .slice ra 0 rc] w fun e w' => e = .returned (.bool false) ∧ Up w w' := by
  have HU := Lib.hid (Up.alloc (Up.refl w) (.cells (bkC V H P JV JH JB ja jn jc ta n tc S) 55))
  unfold bkC at HU ⊢
  go_enter Tryz.func42, Tryz.ntmps42
  go_wp2
  go_ret
  exact ⟨rfl, HU.out⟩

set_option maxHeartbeats 4000000 in
theorem isLed_some (vn : Nat) (H : Int) (P : ByteArray) (JV JH : Int) (JB : ByteArray) (ja : Option Addr) (jn jc : Nat) (ta : Option Addr) (n tc : Nat) (S : ByteArray) (xs : List Ts) (rv : Value) (ls : List (List Int)) (w : World) (hm : BkMay vn H P JV JH JB xs S) (ht : TArg w (.slice ta n tc) xs) (hs : Strs w rv ls) (hpos : 1 ≤ ls.length) (hll : ls.length ≤ 9223372036854775807) (hsz : S.size ≤ 9223372036854775807) :
    Calls Tryz.prog 42 #[.agg (bkC vn H P JV JH JB ja jn jc ta n tc S), rv] w fun e w' => ∃ ok : Bool, e = .returned (.bool ok) ∧ (GoodSig (ledRoot ls vn) 4 (sumB (bkL vn H P JV xs).flatten) (octsOf S) → ok = true) ∧ (¬ GoodSig (ledRoot ls vn) 4 (sumB (bkL vn H P JV xs).flatten) (octsOf S) → ok = false) ∧ Up w w' := by
  obtain ⟨ra, rc, rfl, hrc, hrn, hrd⟩ := hs
  have hv20 : vn ≤ 1048576 := by have := hm.v; omega
  have HN0 : Hid (∀ wx, Up w wx → Calls Tryz.prog 79 #[.agg (bkC vn H P JV JH JB ja jn jc ta n tc S)] wx fun e w' => e = .returned (.string (strOfNums (sumB (bkL vn H P JV xs).flatten))) ∧ Up wx w') := fun wx u => bkName_ok vn H P JV JH JB ja jn jc ta n tc S xs wx hm (ht.up u)
  have hy := sumB_u8s (bkL vn H P JV xs).flatten
  have hyl := sumB_length (bkL vn H P JV xs).flatten
  have HCV0 : Hid (∀ W, ∃ a c w', (convert 9 31 (.string (strOfNums (sumB (bkL vn H P JV xs).flatten)))).run Tryz.prog W = .ok (.slice a 32 c) w' ∧ Ints .u8 w' (.slice a 32 c) (sumB (bkL vn H P JV xs).flatten) ∧ Up W w') := fun W => by
    have c := conv_str _ hy W
    rwa [hyl] at c
  have HV0 : Hid (∀ wx xa xc, Ints .u8 wx (.slice xa 32 xc) (sumB (bkL vn H P JV xs).flatten) → Calls Tryz.prog 78 #[.string (ledRoot ls vn), .int .i64 4, .slice xa 32 xc, .string S] wx (SigTold (ledRoot ls vn) 4 (sumB (bkL vn H P JV xs).flatten) (octsOf S) wx)) := fun wx xa xc hi => by
    have c := verify_any (ledRoot ls vn) 4 _ _ (octsOf S) wx hi hy (by rw [hyl]; decide) (octsOf_u8s S) (by rw [octsOf_length]; exact hsz)
    rwa [strOf_octs] at c
  have HLD : Hid (∀ wx, Calls Tryz.prog 50 #[.int .i64 (vn : Int), .int .i64 (ls.length : Int)] wx fun e w' => e = .returned (.int .i64 ((vn % ls.length : Nat) : Int)) ∧ wx = w') := fun wx => leader_nat vn ls.length hpos hll hv20 wx
  have hk : vn % ls.length < ls.length := Nat.mod_lt _ hpos
  obtain ⟨rb, ro, rfl, hcell⟩ : ∃ b off, ra = some ⟨b, off, none⟩ ∧ ∀ j, j < ls.length → w.cell? ⟨b, off + j, none⟩ = some (.string (strOfNums (ls[j]?.getD []))) := by
    rcases hrd with rfl | h
    · simp at hpos
    · exact h
  have hcw := hcell _ hk
  change _ = some (Value.string (ledRoot ls vn)) at hcw
  have HRW := Lib.hid hcw
  unfold SigTold at HV0
  generalize GoodSig (ledRoot ls vn) 4 (sumB (bkL vn H P JV xs).flatten) (octsOf S) = GD at HV0 ⊢
  generalize sigLeaf (octsOf S) = SL at HV0
  generalize ledRoot ls vn = R at HV0 HRW
  generalize hN : strOfNums (sumB (bkL vn H P JV xs).flatten) = N at HN0 HCV0
  generalize sumB (bkL vn H P JV xs).flatten = Y at HV0 HCV0
  generalize hkk : vn % ls.length = k at HLD hk HRW
  generalize hrl : ls.length = rn at HLD hk hpos
  have HU0 := Lib.hid (Up.alloc (Up.refl w) (.cells (bkC vn H P JV JH JB ja jn jc ta n tc S) 55))
  have HB0 := Lib.hid (heap_alloc_new w (.cells (bkC vn H P JV JH JB ja jn jc ta n tc S) 55))
  unfold bkC at HU0 HB0 HN0 ⊢
  have hz : ((rn : Int) == 0) = false := by rw [beq_eq_false_iff_ne]; omega
  clear hm ht hrd hrn hrc hy hyl hcell hcw hN hkk hrl hll hsz hv20 hpos
  go_enter Tryz.func42, Tryz.ntmps42
  go_wp2_with fail
  generalize w.alloc (.cells #[.int .i64 (vn : Nat), .int .i64 H, .string P, .int .i64 JV, .int .i64 JH, .string JB, .slice ja jn jc, .slice ta n tc, .string S] 55) = wr at HU0 HB0 ⊢
  generalize w.heap.size = M at HB0 ⊢
  with_reducible refine Calls.mono (HLD.out _) ?_
  rintro e w1 ⟨rfl, rfl⟩
  have hcl := later_cell HRW.out HU0.out
  have hkz : ¬ ((rn : Int) ≤ (k : Int)) := by omega
  go_upto_region 4 with fail
  clear hcl hkz
  have HUR := HU0
  have HB : Hid (∀ wx, Up wr wx → wx.heap[M]? = some (.cells #[.int .i64 (vn : Nat), .int .i64 H, .string P, .int .i64 JV, .int .i64 JH, .string JB, .slice ja jn jc, .slice ta n tc, .string S] 55 (0, 0))) := fun wx u => (u.block _ (lt_of_block HB0.out)).trans HB0.out
  have HN : Hid (∀ wx, Up wr wx → Calls Tryz.prog 79 #[.agg #[.int .i64 (vn : Nat), .int .i64 H, .string P, .int .i64 JV, .int .i64 JH, .string JB, .slice ja jn jc, .slice ta n tc, .string S]] wx fun e w' => e = .returned (.string N) ∧ Up wx w') := fun wx u => HN0.out wx (Up.trans HUR.out u)
  have HV := HV0
  have HCV := HCV0
  clear HV0 HCV0 HN0 HB0 HRW HLD
  refine region_alongK (fun x => Up wr x) (.read 0 (.read 1 (.read 4 (.read 5 (.step 2 (.step 3 (.step 6 (.read 7 (.read 8 (.read 9 (.read 10 (.read 11 (.nil))))))))))))) (by kernel_rfl) rfl (by kernel_rfl) (by kernel_rfl) (fun c a d v w h => by cases d <;> exact h) (Up.drew1 wr) ?_
  refine alongK_read (.string R) rfl rfl (fun wx hS => ex_move (by rfl) (by rfl) wx) ?_
  refine alongK_read (.agg #[.int .i64 (vn : Nat), .int .i64 H, .string P, .int .i64 JV, .int .i64 JH, .string JB, .slice ja jn jc, .slice ta n tc, .string S]) rfl rfl (fun wx hS => ex_loadrow rfl rfl wx 55 (HB.out wx hS) Tryz.underlying55 rfl info_bk) ?_
  change AlongK _ _ _ _ _ { tmps := #[_, _, .pointer (some ⟨M, 0, none⟩), _, .bool false, .string R, _, _, _, _, _, _, _, _, _, _, _, _, _, _, .string R, .agg #[.int .i64 (vn : Nat), .int .i64 H, .string P, .int .i64 JV, .int .i64 JH, .string JB, .slice ja jn jc, .slice ta n tc, .string S], _, _, _, _, _, _, _, _], defers := _ } _
  refine alongK_read (.pointer (some ⟨M, 8, none⟩)) rfl rfl (fun wx hS => ex_field rfl rfl wx (by simp [go_sem])) ?_
  refine alongK_read (.string S) rfl rfl (fun wx hS => ex_load Tryz.isAgg9 rfl rfl wx ((bk_cells (HB.out wx hS)).2.2.2.2.2.2.2.2)) ?_
  change AlongK _ _ _ _ _ { tmps := #[_, _, .pointer (some ⟨M, 0, none⟩), _, .bool false, .string R, _, _, _, _, _, _, _, _, _, _, _, _, _, _, .string R, .agg #[.int .i64 (vn : Nat), .int .i64 H, .string P, .int .i64 JV, .int .i64 JH, .string JB, .slice ja jn jc, .slice ta n tc, .string S], _, _, .pointer (some ⟨M, 8, none⟩), .string S, _, _, _, _], defers := _ } _
  refine alongK_step ?_
  refine opK_call (vs := [.agg #[.int .i64 (vn : Nat), .int .i64 H, .string P, .int .i64 JV, .int .i64 JH, .string JB, .slice ja jn jc, .slice ta n tc, .string S]]) rfl rfl rfl (enters_of Tryz.func79 (by kernel_rfl) rfl) rfl ?_
  with_reducible refine Calls.mono (HN.out _ (Up.drew1 wr)) ?_
  rintro e y1 ⟨rfl, hy1⟩
  refine ⟨_, rfl, (fun x => Up wr x), (fun _ h => h), (Up.trans (Up.drew1 wr) hy1), ?_⟩
  change AlongK _ _ _ _ _ { tmps := #[_, _, .pointer (some ⟨M, 0, none⟩), _, .bool false, .string R, _, _, _, _, _, _, _, _, _, _, _, _, _, _, .string R, .agg #[.int .i64 (vn : Nat), .int .i64 H, .string P, .int .i64 JV, .int .i64 JH, .string JB, .slice ja jn jc, .slice ta n tc, .string S], .string N, _, .pointer (some ⟨M, 8, none⟩), .string S, _, _, _, _], defers := _ } _
  refine alongK_step ?_
  obtain ⟨xa, xc, wq, hcv, hIq, hUq⟩ := HCV.out y1
  refine opK_run (.slice xa 32 xc) wq rfl rfl (ex_conv rfl rfl _ _ hcv) (fun x => Up wr x) (fun _ h => h) (Up.trans (Up.trans (Up.drew1 wr) hy1) hUq) ?_
  change AlongK _ _ _ _ _ { tmps := #[_, _, .pointer (some ⟨M, 0, none⟩), _, .bool false, .string R, _, _, _, _, _, _, _, _, _, _, _, _, _, _, .string R, .agg #[.int .i64 (vn : Nat), .int .i64 H, .string P, .int .i64 JV, .int .i64 JH, .string JB, .slice ja jn jc, .slice ta n tc, .string S], .string N, .slice xa 32 xc, .pointer (some ⟨M, 8, none⟩), .string S, _, _, _, _], defers := _ } _
  refine alongK_step ?_
  refine opK_call (vs := [.string R, .int .i64 4, .slice xa 32 xc, .string S]) rfl rfl rfl (enters_of Tryz.func78 (by kernel_rfl) rfl) rfl ?_
  with_reducible refine Calls.mono (HV.out _ xa xc hIq) ?_
  rintro e y3 ⟨⟨s0, ok, rfl, hg1, hg2⟩, hy3⟩
  refine ⟨_, rfl, (fun x => Up wr x), (fun _ h => h), (Up.trans (Up.trans (Up.trans (Up.drew1 wr) hy1) hUq) hy3), ?_⟩
  change AlongK _ _ _ _ _ { tmps := #[_, _, .pointer (some ⟨M, 0, none⟩), _, .bool false, .string R, _, _, _, _, _, _, _, _, _, _, _, _, _, _, .string R, .agg #[.int .i64 (vn : Nat), .int .i64 H, .string P, .int .i64 JV, .int .i64 JH, .string JB, .slice ja jn jc, .slice ta n tc, .string S], .string N, .slice xa 32 xc, .pointer (some ⟨M, 8, none⟩), .string S, .tuple #[.int .i64 s0, .bool ok], _, _, _], defers := _ } _
  refine alongK_read (.tuple #[.int .i64 s0, .bool ok]) rfl rfl (fun wx hS => ex_move (by rfl) (by rfl) wx) ?_
  refine alongK_read (.int .i64 s0) rfl rfl (fun wx hS => ex_extr (cs := #[.int .i64 s0, .bool ok]) rfl rfl rfl wx) ?_
  change AlongK _ _ _ _ _ { tmps := #[_, _, .pointer (some ⟨M, 0, none⟩), _, .bool false, .string R, _, _, _, _, _, _, _, _, _, _, _, _, _, .tuple #[.int .i64 s0, .bool ok], .string R, .agg #[.int .i64 (vn : Nat), .int .i64 H, .string P, .int .i64 JV, .int .i64 JH, .string JB, .slice ja jn jc, .slice ta n tc, .string S], .string N, .slice xa 32 xc, .pointer (some ⟨M, 8, none⟩), .string S, .tuple #[.int .i64 s0, .bool ok], .int .i64 s0, _, _], defers := _ } _
  refine alongK_read (.bool ok) rfl rfl (fun wx hS => ex_extr (cs := #[.int .i64 s0, .bool ok]) rfl rfl rfl wx) ?_
  refine alongK_read (.int .i64 s0) rfl rfl (fun wx hS => ex_assign (by rfl) (by rfl) wx) ?_
  change AlongK _ _ _ _ _ { tmps := #[_, _, .pointer (some ⟨M, 0, none⟩), _, .bool false, .string R, .int .i64 s0, _, _, _, _, _, _, _, _, _, _, _, _, .tuple #[.int .i64 s0, .bool ok], .string R, .agg #[.int .i64 (vn : Nat), .int .i64 H, .string P, .int .i64 JV, .int .i64 JH, .string JB, .slice ja jn jc, .slice ta n tc, .string S], .string N, .slice xa 32 xc, .pointer (some ⟨M, 8, none⟩), .string S, .tuple #[.int .i64 s0, .bool ok], .int .i64 s0, .bool ok, _], defers := _ } _
  refine alongK_read (.bool ok) rfl rfl (fun wx hS => ex_assign (by rfl) (by rfl) wx) ?_
  change AlongK _ _ _ _ _ { tmps := #[_, _, .pointer (some ⟨M, 0, none⟩), _, .bool false, .string R, .int .i64 s0, .bool ok, _, _, _, _, _, _, _, _, _, _, _, .tuple #[.int .i64 s0, .bool ok], .string R, .agg #[.int .i64 (vn : Nat), .int .i64 H, .string P, .int .i64 JV, .int .i64 JH, .string JB, .slice ja jn jc, .slice ta n tc, .string S], .string N, .slice xa 32 xc, .pointer (some ⟨M, 8, none⟩), .string S, .tuple #[.int .i64 s0, .bool ok], .int .i64 s0, .bool ok, _], defers := _ } _
  refine alongK_done ?_
  have HEND := Lib.hid (Up.trans HUR.out (Up.trans (Up.trans (Up.trans (Up.drew1 wr) hy1) hUq) hy3))
  have HG1 := Lib.hid hg1
  have HG2 := Lib.hid hg2
  clear hg1 hg2 hy1 hy3 hIq hUq hcv
  go_wp2
  go_ret
  exact ⟨ok, rfl, fun h => (HG1.out h).2, fun h => (HG2.out h).2, HEND.out⟩
end
end

/-
  block.Valid, of whatever block and config.
-/
section
set_option maxRecDepth 100000
section
set_option linter.unusedVariables false
open Go.RowKit Go.Sort Go.Lib

/-- a transaction is valid -/
noncomputable def tgB (cs : List (List Int)) (x : Ts) : Bool := @decide (TxGood x.1.F x.1.T x.1.A x.1.N (octsOf x.2) cs) (Classical.propDecidable _)
theorem tgB_iff (cs : List (List Int)) (x : Ts) : tgB cs x = true ↔ TxGood x.1.F x.1.T x.1.A x.1.N (octsOf x.2) cs := by unfold tgB; simp
theorem valid_ts (x : Ts) (hx : x.2.size ≤ 9223372036854775807) (rv : Value) (cs : List (List Int)) (w : World) (hs : Strs w rv cs) (hll : cs.length ≤ 9223372036854775807) :
    Calls Tryz.prog 44 #[.agg (tsA x), rv] w fun e w' => e = .returned (.bool (tgB cs x)) ∧ Up w w' := by
  have h := txValid_any x.1.F x.1.T x.1.A x.1.N (octsOf x.2) rv cs w hs (octsOf_u8s _) (by rw [octsOf_length]; exact hx) hll
  rw [strOf_octs] at h
  refine h.mono ?_
  rintro e w' ⟨b, rfl, g1, g2, hu⟩
  refine ⟨?_, hu⟩
  by_cases hg : TxGood x.1.F x.1.T x.1.A x.1.N (octsOf x.2) cs
  · rw [g1 hg, (tgB_iff cs x).2 hg]
  · rw [g2 hg]
    have : tgB cs x = false := by cases h : tgB cs x with
      | false => rfl
      | true => exact absurd ((tgB_iff cs x).1 h) hg
    rw [this]
def cfC (ra : Option Addr) (rn rc : Nat) (ca : Option Addr) (cn cc : Nat) (q b0 cp : Int) : Array Value := #[.slice ra rn rc, .slice ca cn cc, .int .i64 q, .int .i64 b0, .int .i64 cp]
theorem isWrongTx_any (x : Ts) (hx : x.2.size ≤ 9223372036854775807) (C : Nat) (ra : Option Addr) (rn rc : Nat) (ca : Option Addr) (cc : Nat) (q b0 cp : Int) (cs : List (List Int)) (w : World) (hC : w.heap[C]? = some (.cells (cfC ra rn rc ca cs.length cc q b0 cp) 57 (0, 0))) (hs : Strs w (.slice ca cs.length cc) cs) (hll : cs.length ≤ 9223372036854775807) :
    Calls Tryz.prog 43 (#[.agg (tsA x)] ++ #[.pointer (some ⟨C, 0, none⟩)]) w fun e w' => e = .returned (.bool (!tgB cs x)) ∧ Up w w' := by
  have u1 := Up.alloc (Up.refl w) (.cells (tsA x) 85)
  have HU := Lib.hid u1
  have HB := Lib.hid (heap_alloc_new w (.cells (tsA x) 85))
  have hC1 := (u1.block _ (lt_of_block hC)).trans hC
  unfold cfC at hC1
  obtain ⟨d0, d1, d2, d3, d4⟩ := tx_cells hC1
  have HV := Lib.hid (valid_ts x hx (.slice ca cs.length cc) cs (w.alloc (.cells (tsA x) 85)) (hs.up u1) hll)
  generalize tgB cs x = tb at HV ⊢
  have hsh : tsA x = #[.int .i64 x.1.F, .int .i64 x.1.T, .int .i64 x.1.A, .int .i64 x.1.N, .string x.2] := rfl
  rw [hsh] at HU HB HV d0 d1 d2 d3 d4 ⊢
  clear hC hs hll hx u1 hC1 hsh
  generalize x.1.F = F at *
  generalize x.1.T = T at *
  generalize x.1.A = A at *
  generalize x.1.N = NN at *
  generalize x.2 = SG at *
  go_enter Tryz.func43, Tryz.ntmps43
  go_wp2_with fail
  with_reducible refine Calls.mono HV.out ?_
  rintro e w2 ⟨rfl, u2⟩
  have HU2 := Lib.hid (Up.trans HU.out u2)
  clear u2
  go_wp2
  go_ret
  exact ⟨rfl, HU2.out⟩

/-- a block is valid -/
structure BvP (vn : Nat) (H : Int) (P : ByteArray) (JV JH : Int) (JB : ByteArray) (vs : List Vs) (S : ByteArray) (xs : List Ts) (ls cs : List (List Int)) (q : Int) : Prop where
  may : BkMay vn H P JV JH JB xs S
  pos : 1 ≤ ls.length
  led : GoodSig (ledRoot ls vn) 4 (sumB (bkL vn H P JV xs).flatten) (octsOf S)
  right : RightP JV JH JB ls vs q
  txs : ∀ x ∈ xs, tgB cs x = true

theorem info_cf : (Tryz.prog.info? 57).map (·.size) = some 5 := by kernel_rfl
theorem bkValid_no (V H : Int) (P : ByteArray) (JV JH : Int) (JB : ByteArray) (ja : Option Addr) (jn jc : Nat) (ta : Option Addr) (n tc : Nat) (S : ByteArray) (xs : List Ts) (cf : Array Value) (hcf : cf.size = 5) (w : World) (hm : ¬ BkMay V H P JV JH JB xs S) (hsz : n ≤ 9223372036854775807) (ht : TArg w (.slice ta n tc) xs) :
    Calls Tryz.prog 19 #[.agg (bkC V H P JV JH JB ja jn jc ta n tc S), .agg cf] w fun e w' => e = .returned (.bool false) ∧ Up w w' := by
  have HCK : Hid (∀ wx, Up w wx → Calls Tryz.prog 41 #[.agg (bkC V H P JV JH JB ja jn jc ta n tc S)] wx fun e w' => e = .returned (.int .i64 9) ∧ Up wx w') := fun wx u => by
    have c := bkCheck_any V H P JV JH JB ja jn jc ta n tc S xs wx hsz (ht.up u)
    rwa [bkE_no hm] at c
  have u1 := Up.alloc (Up.refl w) (.cells (bkC V H P JV JH JB ja jn jc ta n tc S) 55)
  have u2 := Up.alloc (Up.refl (w.alloc (.cells (bkC V H P JV JH JB ja jn jc ta n tc S) 55))) (.cells cf 57)
  have HU0 := Lib.hid (Up.trans u1 u2)
  have HB0 := Lib.hid ((u2.block _ (lt_of_block (heap_alloc_new w (.cells (bkC V H P JV JH JB ja jn jc ta n tc S) 55)))).trans (heap_alloc_new w (.cells (bkC V H P JV JH JB ja jn jc ta n tc S) 55)))
  unfold bkC at HU0 HB0 HCK ⊢
  clear hm ht hsz u1 u2 hcf
  go_enter Tryz.func19, Tryz.ntmps19
  go_wp2_with (refine wpList_ex rfl (.agg #[.int .i64 V, .int .i64 H, .string P, .int .i64 JV, .int .i64 JH, .string JB, .slice ja jn jc, .slice ta n tc, .string S]) _ (ex_loadrow (x := .tmp 2) rfl rfl _ 55 HB0.out Tryz.underlying55 rfl info_bk) ?_)
  with_reducible refine Calls.mono (HCK.out _ HU0.out) ?_
  rintro e w2 ⟨rfl, u2⟩
  have HU2 := Lib.hid (Up.trans HU0.out u2)
  clear u2
  go_wp2
  go_ret
  exact ⟨rfl, HU2.out⟩

set_option maxHeartbeats 4000000 in
theorem bkValid_may (vn : Nat) (H : Int) (P : ByteArray) (JV JH : Int) (JB : ByteArray) (ja : Option Addr) (jn jc : Nat) (ta : Option Addr) (n tc : Nat) (S : ByteArray) (xs : List Ts) (vs : List Vs) (ra : Option Addr) (rc : Nat) (ca : Option Addr) (cc : Nat) (q b0 cp : Int) (ls cs : List (List Int)) (w : World) (hm : BkMay vn H P JV JH JB xs S) (ht : TArg w (.slice ta n tc) xs)
    (hv : VArg w (.slice ja jn jc) vs) (hvn : vs.length = jn) (hvz : jn < 4611686018427387904) (hvo : ∀ (j : Nat) (x : Vs), vs[j]? = some x → VsOk x) (hs : Strs w (.slice ra ls.length rc) ls) (hll : ls.length ≤ 9223372036854775807) (hc : Strs w (.slice ca cs.length cc) cs) (hcl : cs.length ≤ 9223372036854775807) :
    Calls Tryz.prog 19 #[.agg (bkC vn H P JV JH JB ja jn jc ta n tc S), .agg (cfC ra ls.length rc ca cs.length cc q b0 cp)] w (SaysP w (BvP vn H P JV JH JB vs S xs ls cs q)) := by
  have hn := ht.len
  have hn4 : n ≤ 4 := by have := hm.n; omega
  have HCK : Hid (∀ wx, Up w wx → Calls Tryz.prog 41 #[.agg (bkC vn H P JV JH JB ja jn jc ta n tc S)] wx fun e w' => e = .returned (.int .i64 0) ∧ Up wx w') := fun wx u => by
    have c := bkCheck_any vn H P JV JH JB ja jn jc ta n tc S xs wx (by omega) (ht.up u)
    rwa [bkE_ok hm] at c
  have HLN : Hid (∀ wx, ls.length = 0 → Calls Tryz.prog 42 #[.agg (bkC vn H P JV JH JB ja jn jc ta n tc S), .slice ra ls.length rc] wx fun e w' => e = .returned (.bool false) ∧ Up wx w') := fun wx h => by
    rw [h]
    exact isLed_none vn H P JV JH JB ja jn jc ta n tc S ra rc wx
  have HLS : Hid (∀ wx, Up w wx → 1 ≤ ls.length → Calls Tryz.prog 42 #[.agg (bkC vn H P JV JH JB ja jn jc ta n tc S), .slice ra ls.length rc] wx fun e w' => ∃ ok : Bool, e = .returned (.bool ok) ∧ (GoodSig (ledRoot ls vn) 4 (sumB (bkL vn H P JV xs).flatten) (octsOf S) → ok = true) ∧ (¬ GoodSig (ledRoot ls vn) 4 (sumB (bkL vn H P JV xs).flatten) (octsOf S) → ok = false) ∧ Up wx w') :=
    fun wx u h => isLed_some vn H P JV JH JB ja jn jc ta n tc S xs _ ls wx hm (ht.up u) (hs.up u) h hll (by have := hm.s; omega)
  have HLD : Hid (∀ wx, Up w wx → ∃ ok : Bool, Calls Tryz.prog 42 #[.agg (bkC vn H P JV JH JB ja jn jc ta n tc S), .slice ra ls.length rc] wx (fun e w' => e = .returned (.bool ok) ∧ Up wx w') ∧ (ok = true ↔ 1 ≤ ls.length ∧ GoodSig (ledRoot ls vn) 4 (sumB (bkL vn H P JV xs).flatten) (octsOf S))) := fun wx u => by
    by_cases h0 : ls.length = 0
    · exact ⟨false, HLN.out wx h0, ⟨(fun h => by cases h), (fun h => by omega)⟩⟩
    · by_cases hg : GoodSig (ledRoot ls vn) 4 (sumB (bkL vn H P JV xs).flatten) (octsOf S)
      · exact ⟨true, (HLS.out wx u (by omega)).mono (fun e w' ⟨ok, h1, h2, h3, h4⟩ => ⟨by rw [h1, h2 hg], h4⟩), ⟨fun _ => ⟨by omega, hg⟩, fun _ => rfl⟩⟩
      · exact ⟨false, (HLS.out wx u (by omega)).mono (fun e w' ⟨ok, h1, h2, h3, h4⟩ => ⟨by rw [h1, h3 hg], h4⟩), ⟨(fun h => by cases h), fun h => absurd h.2 hg⟩⟩
  have HCC : Hid (∀ wx, Up w wx → Calls Tryz.prog 12 #[.agg #[.int .i64 JV, .int .i64 JH, .string JB, .slice ja jn jc], .slice ra ls.length rc, .int .i64 q] wx (CheckP wx (RightP JV JH JB ls vs q))) := fun wx u => ctCheck_any JV JH JB ja jn jc vs _ ls q wx (hv.up u) hvn hvz (hs.up u) hll hvo
  have HTX : Hid (∀ (C : Nat) wx, Up w wx → wx.heap[C]? = some (.cells (cfC ra ls.length rc ca cs.length cc q b0 cp) 57 (0, 0)) → Calls Tryz.prog 45 #[.slice ta n tc, .func (.func 43) #[] #[.pointer (some ⟨C, 0, none⟩)]] wx fun e w' => e = .returned (.bool (xs.any fun x => !tgB cs x)) ∧ Up wx w') := fun C wx u hC =>
    (tsContains_of 43 #[.pointer (some ⟨C, 0, none⟩)] (enters_of Tryz.func43 (by kernel_rfl) rfl) (fun x => !tgB cs x) ta n tc xs (by omega) wx (ht.up u) (fun x W hx u2 => (isWrongTx_any x (by have := (ts_ok (hm.ts x hx)).2; omega) C ra ls.length rc ca cc q b0 cp cs W ((u2.block _ (lt_of_block hC)).trans hC) (hc.up (Up.trans u u2)) hcl).mono (fun e w' h => ⟨h.1, Up.trans u2 h.2⟩)))
  have HTB : Hid ((!xs.any fun x => !tgB cs x) = true ↔ ∀ x ∈ xs, tgB cs x = true) := by
    have h : (!xs.any fun x => !tgB cs x) = true ↔ ∀ x ∈ xs, tgB cs x = true := by
      rw [Bool.not_eq_true', List.any_eq_false]
      simp
    exact h
  have HMK : Hid (1 ≤ ls.length ∧ GoodSig (ledRoot ls vn) 4 (sumB (bkL vn H P JV xs).flatten) (octsOf S) → RightP JV JH JB ls vs q → (∀ x ∈ xs, tgB cs x = true) → BvP vn H P JV JH JB vs S xs ls cs q) := fun h1 h2 h3 => ⟨hm, h1.1, h1.2, h2, h3⟩
  have HUN : Hid (BvP vn H P JV JH JB vs S xs ls cs q → (1 ≤ ls.length ∧ GoodSig (ledRoot ls vn) 4 (sumB (bkL vn H P JV xs).flatten) (octsOf S)) ∧ RightP JV JH JB ls vs q ∧ (∀ x ∈ xs, tgB cs x = true)) := fun h => ⟨⟨h.pos, h.led⟩, h.right, h.txs⟩
  generalize BvP vn H P JV JH JB vs S xs ls cs q = GOAL at HMK HUN ⊢
  generalize (1 ≤ ls.length ∧ GoodSig (ledRoot ls vn) 4 (sumB (bkL vn H P JV xs).flatten) (octsOf S)) = LED at HLD HMK HUN
  generalize RightP JV JH JB ls vs q = RGT at HCC HMK HUN
  generalize (∀ x ∈ xs, tgB cs x = true) = TXS at HTB HMK HUN
  generalize (xs.any fun x => !tgB cs x) = tb at HTX HTB
  have u1 := Up.alloc (Up.refl w) (.cells (bkC vn H P JV JH JB ja jn jc ta n tc S) 55)
  have u2 := Up.alloc (Up.refl (w.alloc (.cells (bkC vn H P JV JH JB ja jn jc ta n tc S) 55))) (.cells (cfC ra ls.length rc ca cs.length cc q b0 cp) 57)
  have HU0 := Lib.hid (Up.trans u1 u2)
  have hb := heap_alloc_new w (.cells (bkC vn H P JV JH JB ja jn jc ta n tc S) 55)
  have HB0 := Lib.hid ((u2.block _ (lt_of_block hb)).trans hb)
  have hcf := heap_alloc_new (w.alloc (.cells (bkC vn H P JV JH JB ja jn jc ta n tc S) 55)) (.cells (cfC ra ls.length rc ca cs.length cc q b0 cp) 57)
  rw [show (w.alloc (.cells (bkC vn H P JV JH JB ja jn jc ta n tc S) 55)).heap.size = w.heap.size + 1 by simp] at hcf
  have HC0 := Lib.hid hcf
  unfold bkC at HU0 HB0 HC0 HCK HLD ⊢
  unfold cfC at HU0 HB0 HC0 HTX ⊢
  clear hm ht hn hv hvn hvz hvo hs hll hc hcl u1 u2 hb hcf HLN HLS hn4
  go_enter Tryz.func19, Tryz.ntmps19
  go_wp2_with (refine wpList_ex rfl (.agg #[.int .i64 (vn : Nat), .int .i64 H, .string P, .int .i64 JV, .int .i64 JH, .string JB, .slice ja jn jc, .slice ta n tc, .string S]) _ (ex_loadrow (x := .tmp 2) rfl rfl _ 55 HB0.out Tryz.underlying55 rfl info_bk) ?_)
  generalize (w.alloc (.cells #[.int .i64 (vn : Nat), .int .i64 H, .string P, .int .i64 JV, .int .i64 JH, .string JB, .slice ja jn jc, .slice ta n tc, .string S] 55)).alloc (.cells #[.slice ra ls.length rc, .slice ca cs.length cc, .int .i64 q, .int .i64 b0, .int .i64 cp] 57) = w1 at HU0 HB0 HC0 ⊢
  generalize w.heap.size + 1 = C at HC0 ⊢
  generalize w.heap.size = M at HB0 ⊢
  with_reducible refine Calls.mono (HCK.out _ HU0.out) ?_
  rintro e w2 ⟨rfl, u2⟩
  have HB2 := Lib.hid ((u2.block _ (lt_of_block HB0.out)).trans HB0.out)
  have HC2 := Lib.hid ((u2.block _ (lt_of_block HC0.out)).trans HC0.out)
  have HU2 := Lib.hid (Up.trans HU0.out u2)
  clear u2 HU0 HB0 HC0 HCK
  obtain ⟨ok, hl, hok⟩ := HLD.out w2 HU2.out
  have HL2 := Lib.hid hl
  have HOK := Lib.hid hok
  clear hl hok HLD
  obtain ⟨c0, c1, c2, c3, c4, c5, c6, c7, c8⟩ := bk_cells HB2.out
  obtain ⟨d0, d1, d2, d3, d4⟩ := tx_cells HC2.out
  go_wp2_with fail
  clear c0 c1 c2 c3 c4 c5 c6 c7 c8 d0 d1 d2 d3 d4
  with_reducible refine Calls.mono HL2.out ?_
  rintro e w3 ⟨rfl, u3⟩
  have HB3 := Lib.hid ((u3.block _ (lt_of_block HB2.out)).trans HB2.out)
  have HC3 := Lib.hid ((u3.block _ (lt_of_block HC2.out)).trans HC2.out)
  have HU3 := Lib.hid (Up.trans HU2.out u3)
  clear u3 HB2 HC2 HU2 HL2
  cases ok with
  | false =>
    have HNO : Hid (¬ GOAL) := fun h => by have := HOK.out.2 (HUN.out h).1; cases this
    go_wp2
    go_ret
    exact ⟨⟨false, rfl, ⟨(fun h => by cases h), fun h => absurd h HNO.out⟩⟩, HU3.out⟩
  | true =>
    have HLED : Hid LED := HOK.out.1 rfl
    clear HOK
    obtain ⟨c0, c1, c2, c3, c4, c5, c6, c7, c8⟩ := bk_cells HB3.out
    obtain ⟨d0, d1, d2, d3, d4⟩ := tx_cells HC3.out
    go_wp2_with fail
    clear c0 c1 c2 c3 c4 c5 c6 c7 c8 d0 d1 d2 d3 d4
    with_reducible refine Calls.mono (HCC.out _ HU3.out) ?_
    rintro e w4 ⟨hy, hno, u4⟩
    have HB4 := Lib.hid ((u4.block _ (lt_of_block HB3.out)).trans HB3.out)
    have HC4 := Lib.hid ((u4.block _ (lt_of_block HC3.out)).trans HC3.out)
    have HU4 := Lib.hid (Up.trans HU3.out u4)
    clear u4 HB3 HC3 HU3
    by_cases hr : RGT
    · obtain rfl : e = .returned (.int .i64 0) := hy hr
      have HR := Lib.hid hr
      clear hy hno hr
      obtain ⟨c0, c1, c2, c3, c4, c5, c6, c7, c8⟩ := bk_cells HB4.out
      go_wp2_with fail
      clear c0 c1 c2 c3 c4 c5 c6 c7 c8
      with_reducible refine Calls.mono (HTX.out C _ HU4.out HC4.out) ?_
      rintro e w5 ⟨rfl, u5⟩
      have HU5 := Lib.hid (Up.trans HU4.out u5)
      clear u5
      go_wp2
      go_ret
      exact ⟨⟨!tb, rfl, ⟨fun h => HMK.out HLED.out HR.out (HTB.out.1 h), fun h => HTB.out.2 (HUN.out h).2.2⟩⟩, HU5.out⟩
    · obtain rfl : e = .returned (.int .i64 41) := hno hr
      have HNO : Hid (¬ GOAL) := fun h => hr (HUN.out h).2.1
      clear hy hno hr
      go_wp2
      go_ret
      exact ⟨⟨false, rfl, ⟨(fun h => by cases h), fun h => absurd h HNO.out⟩⟩, HU4.out⟩
end
end
end Go.Proofs.YtfenmhddlojahaaGreat
