import Derived.Test.YtfenmhddlojahaaGreatBkValid
import Derived.Test.YtfenmhddlojahaaGreatRfBkN
import Derived.Test.YtfenmhddlojahaaGreatRfCert
/-
  The reference: whether a block is valid.
-/
namespace Go.Proofs.YtfenmhddlojahaaGreat
set_option maxRecDepth 100000
section
set_option linter.unusedVariables false
open Go.RowKit Go.Sort Go.Lib

theorem refValid_ts (x : Ts) (hx : x.2.size ≤ 9223372036854775807) (rv : Value) (cs : List (List Int)) (w : World) (hs : Strs w rv cs) (hll : cs.length ≤ 9223372036854775807) :
    Calls Tryz.prog 49 #[.agg (tsA x), rv] w fun e w' => e = .returned (.bool (tgB cs x)) ∧ Up w w' := by
  have h := refTxValid_any x.1.F x.1.T x.1.A x.1.N (octsOf x.2) rv cs w hs (octsOf_u8s _) (by rw [octsOf_length]; exact hx) hll
  rw [strOf_octs] at h
  refine h.mono ?_
  rintro e w' ⟨b, rfl, g1, g2, hu⟩
  refine ⟨?_, hu⟩
  by_cases hg : TxGood x.1.F x.1.T x.1.A x.1.N (octsOf x.2) cs
  · rw [g1 hg, (tgB_iff cs x).2 hg]
  · rw [g2 hg]
    have : tgB cs x = false := by cases h : tgB cs x with
      | false => rfl
      | true => exact absurd ((tgB_iff cs x).1 h) hg
    rw [this]
/-- a block is valid, as the reference reckons it -/
structure RvP (vn : Nat) (H : Int) (P : ByteArray) (JV JH : Int) (JB : ByteArray) (vs : List Vs) (S : ByteArray) (xs : List Ts) (ls cs : List (List Int)) (q : Int) : Prop where
  may : BkMay vn H P JV JH JB xs S
  pos : 1 ≤ ls.length
  led : GoodSig (ledRoot ls vn) 4 (sumB (bkZ vn H P JV xs)) (octsOf S)
  right : RightP JV JH JB ls vs q
  txs : ∀ x ∈ xs, tgB cs x = true
/-- both are one: where all transactions are valid the text is short -/
theorem rv_bv {vn : Nat} {H : Int} {P : ByteArray} {JV JH : Int} {JB : ByteArray} {vs : List Vs} {S : ByteArray} {xs : List Ts} {ls cs : List (List Int)} {q : Int} : RvP vn H P JV JH JB vs S xs ls cs q ↔ BvP vn H P JV JH JB vs S xs ls cs q := by
  have key : BkMay vn H P JV JH JB xs S → (∀ x ∈ xs, tgB cs x = true) → bkZ vn H P JV xs = (bkL vn H P JV xs).flatten := fun hm ht => by
    refine bkZ_ok hm ?_
    have h1 := bkFlat_len 136 (xs.map tsB) (fun l hl => by
      obtain ⟨x, hx, rfl⟩ := List.mem_map.1 hl
      have hg := ((tgB_iff cs x).1 (ht x hx)).2.2.2.2.1
      unfold tsB
      rw [List.length_append, List.length_append, txT_length, octAll_length]
      omega)
    have h2 := bkH_len (V := vn) (H := H) (JV := JV) (n := xs.length) hm.p
    unfold bkL
    rw [List.flatten_cons, List.length_append, h2]
    rw [List.length_map] at h1
    have : xs.length * 136 ≤ 4 * 136 := Nat.mul_le_mul_right _ hm.n
    omega
  constructor
  · intro h
    exact ⟨h.may, h.pos, by rw [← key h.may h.txs]; exact h.led, h.right, h.txs⟩
  · intro h
    exact ⟨h.may, h.pos, by rw [key h.may h.txs]; exact h.led, h.right, h.txs⟩

theorem refBkValid_no (V H : Int) (P : ByteArray) (JV JH : Int) (JB : ByteArray) (ja : Option Addr) (jn jc : Nat) (ta : Option Addr) (n tc : Nat) (S : ByteArray) (xs : List Ts) (cf : Array Value) (w : World) (hm : ¬ BkMay V H P JV JH JB xs S) (ht : TArg w (.slice ta n tc) xs) :
    Calls Tryz.prog 20 #[.agg (bkC V H P JV JH JB ja jn jc ta n tc S), .agg cf] w fun e w' => e = .returned (.bool false) ∧ Up w w' := by
  have HCK : Hid (∀ wx, Up w wx → Calls Tryz.prog 46 #[.agg (bkC V H P JV JH JB ja jn jc ta n tc S)] wx fun e w' => e = .returned (.int .i64 9) ∧ Up wx w') := fun wx u => by
    have c := refBlock_any V H P JV JH JB ja jn jc ta n tc S xs wx (ht.up u)
    rwa [bkE_no hm] at c
  have u1 := Up.alloc (Up.refl w) (.cells (bkC V H P JV JH JB ja jn jc ta n tc S) 55)
  have u2 := Up.alloc (Up.refl (w.alloc (.cells (bkC V H P JV JH JB ja jn jc ta n tc S) 55))) (.cells cf 57)
  have HU0 := Lib.hid (Up.trans u1 u2)
  have HB0 := Lib.hid ((u2.block _ (lt_of_block (heap_alloc_new w (.cells (bkC V H P JV JH JB ja jn jc ta n tc S) 55)))).trans (heap_alloc_new w (.cells (bkC V H P JV JH JB ja jn jc ta n tc S) 55)))
  unfold bkC at HU0 HB0 HCK ⊢
  clear hm ht u1 u2
  go_enter Tryz.func20, Tryz.ntmps20
  go_wp2_with (refine wpList_ex rfl (.agg #[.int .i64 V, .int .i64 H, .string P, .int .i64 JV, .int .i64 JH, .string JB, .slice ja jn jc, .slice ta n tc, .string S]) _ (ex_loadrow (x := .tmp 2) rfl rfl _ 55 HB0.out Tryz.underlying55 rfl info_bk) ?_)
  with_reducible refine Calls.mono (HCK.out _ HU0.out) ?_
  rintro e w2 ⟨rfl, u2⟩
  have HU2 := Lib.hid (Up.trans HU0.out u2)
  clear u2
  go_wp2
  go_ret
  exact ⟨rfl, HU2.out⟩

set_option maxHeartbeats 4000000 in
theorem refBkValid_may (vn : Nat) (H : Int) (P : ByteArray) (JV JH : Int) (JB : ByteArray) (ja : Option Addr) (jn jc : Nat) (ta : Option Addr) (n tc : Nat) (S : ByteArray) (xs : List Ts) (vs : List Vs) (ra : Option Addr) (rc : Nat) (ca : Option Addr) (cc : Nat) (q b0 cp : Int) (ls cs : List (List Int)) (w : World) (hm : BkMay vn H P JV JH JB xs S) (ht : TArg w (.slice ta n tc) xs)
    (hv : VArg w (.slice ja jn jc) vs) (hvn : vs.length = jn) (hvz : jn < 4611686018427387904) (hvo : ∀ (j : Nat) (x : Vs), vs[j]? = some x → VsOk x) (hs : Strs w (.slice ra ls.length rc) ls) (hll : ls.length ≤ 9223372036854775807) (hc : Strs w (.slice ca cs.length cc) cs) (hcl : cs.length ≤ 9223372036854775807) :
    Calls Tryz.prog 20 #[.agg (bkC vn H P JV JH JB ja jn jc ta n tc S), .agg (cfC ra ls.length rc ca cs.length cc q b0 cp)] w (SaysP w (RvP vn H P JV JH JB vs S xs ls cs q)) := by
  have hn := ht.len
  have hn4 : n ≤ 4 := by have := hm.n; omega
  have hv20 : vn ≤ 1048576 := by have := hm.v; omega
  have HCK : Hid (∀ wx, Up w wx → Calls Tryz.prog 46 #[.agg (bkC vn H P JV JH JB ja jn jc ta n tc S)] wx fun e w' => e = .returned (.int .i64 0) ∧ Up wx w') := fun wx u => by
    have c := refBlock_any vn H P JV JH JB ja jn jc ta n tc S xs wx (ht.up u)
    rwa [bkE_ok hm] at c
  have HCC : Hid (∀ wx, Up w wx → Calls Tryz.prog 13 #[.agg #[.int .i64 JV, .int .i64 JH, .string JB, .slice ja jn jc], .slice ra ls.length rc, .int .i64 q] wx (CheckP wx (RightP JV JH JB ls vs q))) := fun wx u => refCert_any JV JH JB ja jn jc vs _ ls q wx (hv.up u) hvn hvz (hs.up u) hll hvo
  have HN0 : Hid (∀ wx, Up w wx → Calls Tryz.prog 48 #[.agg (bkC vn H P JV JH JB ja jn jc ta n tc S)] wx fun e w' => e = .returned (.string (strOfNums (sumB (bkZ vn H P JV xs)))) ∧ Up wx w') := fun wx u => refBkName_any vn H P JV JH JB ja jn jc ta n tc S xs wx hm (ht.up u)
  have hy := sumB_u8s (bkZ vn H P JV xs)
  have hyl := sumB_length (bkZ vn H P JV xs)
  have HCV0 : Hid (∀ W, ∃ a c w', (convert 9 31 (.string (strOfNums (sumB (bkZ vn H P JV xs))))).run Tryz.prog W = .ok (.slice a 32 c) w' ∧ Ints .u8 w' (.slice a 32 c) (sumB (bkZ vn H P JV xs)) ∧ Up W w') := fun W => by
    have c := conv_str _ hy W
    rwa [hyl] at c
  have HV0 : Hid (∀ wx xa xc, Ints .u8 wx (.slice xa 32 xc) (sumB (bkZ vn H P JV xs)) → Calls Tryz.prog 37 #[.string (ledRoot ls vn), .int .i64 4, .slice xa 32 xc, .string S] wx (SigTold (ledRoot ls vn) 4 (sumB (bkZ vn H P JV xs)) (octsOf S) wx)) := fun wx xa xc hi => by
    have c := refVerify_any (ledRoot ls vn) 4 _ _ (octsOf S) wx hi hy (by rw [hyl]; decide) (octsOf_u8s S) (by rw [octsOf_length]; have := hm.s; omega)
    rwa [strOf_octs] at c
  have HTV0 : Hid (∀ x ∈ xs, ∀ wx, Up w wx → Calls Tryz.prog 49 #[.agg (tsA x), .slice ca cs.length cc] wx fun e w' => e = .returned (.bool (tgB cs x)) ∧ Up wx w') := fun x hx wx u => refValid_ts x (by have := (ts_ok (hm.ts x hx)).2; omega) _ cs wx (hc.up u) hcl
  have HMK : Hid (1 ≤ ls.length → GoodSig (ledRoot ls vn) 4 (sumB (bkZ vn H P JV xs)) (octsOf S) → RightP JV JH JB ls vs q → (∀ x ∈ xs, tgB cs x = true) → RvP vn H P JV JH JB vs S xs ls cs q) := fun h0 h1 h2 h3 => ⟨hm, h0, h1, h2, h3⟩
  have HUN : Hid (RvP vn H P JV JH JB vs S xs ls cs q → 1 ≤ ls.length ∧ GoodSig (ledRoot ls vn) 4 (sumB (bkZ vn H P JV xs)) (octsOf S) ∧ RightP JV JH JB ls vs q ∧ (∀ x ∈ xs, tgB cs x = true)) := fun h => ⟨h.pos, h.led, h.right, h.txs⟩
  unfold SigTold at HV0
  generalize RvP vn H P JV JH JB vs S xs ls cs q = GOAL at HMK HUN ⊢
  generalize GoodSig (ledRoot ls vn) 4 (sumB (bkZ vn H P JV xs)) (octsOf S) = GD at HV0 HMK HUN
  generalize RightP JV JH JB ls vs q = RGT at HCC HMK HUN
  generalize sigLeaf (octsOf S) = SL at HV0
  generalize hN : strOfNums (sumB (bkZ vn H P JV xs)) = N at HN0 HCV0
  generalize sumB (bkZ vn H P JV xs) = Y at HV0 HCV0
  have HT := Lib.hid ht
  have HNN := Lib.hid hn
  have HS := Lib.hid hs
  have u1 := Up.alloc (Up.refl w) (.cells (bkC vn H P JV JH JB ja jn jc ta n tc S) 55)
  have u2 := Up.alloc (Up.refl (w.alloc (.cells (bkC vn H P JV JH JB ja jn jc ta n tc S) 55))) (.cells (cfC ra ls.length rc ca cs.length cc q b0 cp) 57)
  have HU0 := Lib.hid (Up.trans u1 u2)
  have hb := heap_alloc_new w (.cells (bkC vn H P JV JH JB ja jn jc ta n tc S) 55)
  have HB0 := Lib.hid ((u2.block _ (lt_of_block hb)).trans hb)
  have hcf := heap_alloc_new (w.alloc (.cells (bkC vn H P JV JH JB ja jn jc ta n tc S) 55)) (.cells (cfC ra ls.length rc ca cs.length cc q b0 cp) 57)
  rw [show (w.alloc (.cells (bkC vn H P JV JH JB ja jn jc ta n tc S) 55)).heap.size = w.heap.size + 1 by simp] at hcf
  have HC0 := Lib.hid hcf
  unfold bkC at HU0 HB0 HC0 HCK HN0 ⊢
  unfold cfC at HU0 HB0 HC0 ⊢
  generalize cs.length = cn at HU0 HB0 HC0 HTV0 ⊢
  clear hm ht hn hv hvn hvz hvo hs hc hcl u1 u2 hb hcf hy hyl hN
  go_enter Tryz.func20, Tryz.ntmps20
  go_wp2_with (refine wpList_ex rfl (.agg #[.int .i64 (vn : Nat), .int .i64 H, .string P, .int .i64 JV, .int .i64 JH, .string JB, .slice ja jn jc, .slice ta n tc, .string S]) _ (ex_loadrow (x := .tmp 2) rfl rfl _ 55 HB0.out Tryz.underlying55 rfl info_bk) ?_)
  generalize (w.alloc (.cells #[.int .i64 (vn : Nat), .int .i64 H, .string P, .int .i64 JV, .int .i64 JH, .string JB, .slice ja jn jc, .slice ta n tc, .string S] 55)).alloc (.cells #[.slice ra ls.length rc, .slice ca cn cc, .int .i64 q, .int .i64 b0, .int .i64 cp] 57) = w1 at HU0 HB0 HC0 ⊢
  generalize w.heap.size + 1 = C at HC0 ⊢
  generalize w.heap.size = M at HB0 ⊢
  with_reducible refine Calls.mono (HCK.out _ HU0.out) ?_
  rintro e w2 ⟨rfl, u2⟩
  have HB2 := Lib.hid ((u2.block _ (lt_of_block HB0.out)).trans HB0.out)
  have HC2 := Lib.hid ((u2.block _ (lt_of_block HC0.out)).trans HC0.out)
  have HU2 := Lib.hid (Up.trans HU0.out u2)
  clear u2 HU0 HB0 HC0 HCK
  obtain ⟨c0, c1, c2, c3, c4, c5, c6, c7, c8⟩ := bk_cells HB2.out
  obtain ⟨d0, d1, d2, d3, d4⟩ := tx_cells HC2.out
  by_cases h0 : ls.length = 0
  · have HNO : Hid (¬ GOAL) := fun h => by have := (HUN.out h).1; omega
    have hz : ((ls.length : Int) == 0) = true := by rw [beq_iff_eq]; omega
    clear h0
    go_wp2
    go_ret
    exact ⟨⟨false, rfl, ⟨(fun h => by cases h), fun h => absurd h HNO.out⟩⟩, HU2.out⟩
  have hz : ((ls.length : Int) == 0) = false := by rw [beq_eq_false_iff_ne]; omega
  have hpos : 1 ≤ ls.length := by omega
  have HPOS := Lib.hid hpos
  have HLD0 : Hid (∀ wx, Calls Tryz.prog 47 #[.int .i64 (vn : Int), .int .i64 (ls.length : Int)] wx fun e w' => e = .returned (.int .i64 ((vn % ls.length : Nat) : Int)) ∧ wx = w') := fun wx => refLeader_nat vn ls.length hpos hll hv20 wx
  clear h0
  go_wp2_with fail
  clear c0 c1 c2 c3 c4 c5 c6 c7 c8 d0 d1 d2 d3 d4 hz
  with_reducible refine Calls.mono (HCC.out _ HU2.out) ?_
  rintro e wr ⟨hy, hno, u4⟩
  have HUR := Lib.hid (Up.trans HU2.out u4)
  have HB : Hid (∀ wx, Up wr wx → wx.heap[M]? = some (.cells #[.int .i64 (vn : Nat), .int .i64 H, .string P, .int .i64 JV, .int .i64 JH, .string JB, .slice ja jn jc, .slice ta n tc, .string S] 55 (0, 0))) := fun wx u => ((Up.trans u4 u).block _ (lt_of_block HB2.out)).trans HB2.out
  have HC1 : Hid (∀ wx, Up wr wx → wx.heap[C]? = some (.cells #[.slice ra ls.length rc, .slice ca cn cc, .int .i64 q, .int .i64 b0, .int .i64 cp] 57 (0, 0))) := fun wx u => ((Up.trans u4 u).block _ (lt_of_block HC2.out)).trans HC2.out
  clear u4 HB2 HC2 HU2 HCC
  by_cases hr : RGT
  · obtain rfl : e = .returned (.int .i64 0) := hy hr
    have HR := Lib.hid hr
    have hk : vn % ls.length < ls.length := Nat.mod_lt _ hpos
    obtain ⟨ra', rc', he, _, _, hrd⟩ := HS.out
    cases he
    obtain ⟨rb, ro, rfl, hcell⟩ : ∃ b off, ra = some ⟨b, off, none⟩ ∧ ∀ j, j < ls.length → w.cell? ⟨b, off + j, none⟩ = some (.string (strOfNums (ls[j]?.getD []))) := by
      rcases hrd with rfl | h
      · simp at hpos
      · exact h
    have hcw := hcell _ hk
    change _ = some (Value.string (ledRoot ls vn)) at hcw
    have HRW := Lib.hid hcw
    have HKR := Lib.hid hk
    clear hy hno hr hrd hcell hcw hk hpos hll hv20
    generalize ledRoot ls vn = R at HV0 HRW
    generalize vn % ls.length = k at HLD0 HKR HRW
    generalize ls.length = rn at HLD0 HKR HC1
    have HRT : Hid (∀ wx, Up wr wx → wx.cell? ⟨rb, ro + k * 1, none⟩ = some (.string R)) := fun wx u => by rw [Nat.mul_one]; exact later_cell HRW.out (Up.trans HUR.out u)
    have HN : Hid (∀ wx, Up wr wx → Calls Tryz.prog 48 #[.agg #[.int .i64 (vn : Nat), .int .i64 H, .string P, .int .i64 JV, .int .i64 JH, .string JB, .slice ja jn jc, .slice ta n tc, .string S]] wx fun e w' => e = .returned (.string N) ∧ Up wx w') := fun wx u => HN0.out wx (Up.trans HUR.out u)
    have HV := HV0
    have HCV := HCV0
    have HLD := HLD0
    have HC := HC1
    clear HV0 HCV0 HLD0 HN0 HRW HC1
    go_upto_region 3 with fail
    refine region_alongK (fun x => Up wr x) (.read 0 (.read 1 (.read 2 (.read 3 (.read 4 (.read 5 (.read 6 (.read 10 (.read 13 (.read 14 (.step 7 (.read 8 (.read 9 (.step 11 (.step 12 (.step 15 (.read 16 (.read 17 (.read 18 (.read 19 (.read 20 (.nil)))))))))))))))))))))) (by kernel_rfl) rfl (by kernel_rfl) (by kernel_rfl) (fun c a d v w h => by cases d <;> exact h) (Up.drew1 wr) ?_
    refine alongK_read (.pointer (some ⟨C, 0, none⟩)) rfl rfl (fun wx hS => ex_field rfl rfl wx (by simp [go_sem])) ?_
    refine alongK_read (.slice (some ⟨rb, ro, none⟩) rn rc) rfl rfl (fun wx hS => ex_load Tryz.isAgg25 rfl rfl wx ((tx_cells (HC.out wx hS)).1)) ?_
    change AlongK _ _ _ _ _ { tmps := #[_, _, .pointer (some ⟨M, 0, none⟩), .pointer (some ⟨C, 0, none⟩), .bool false, _, _, _, _, _, _, _, _, _, _, _, _, _, _, _, _, _, _, _, _, _, _, _, .pointer (some ⟨C, 0, none⟩), .slice (some ⟨rb, ro, none⟩) rn rc, _, _, _, _, _, _, _, _, _, _, _, _, _, _, _, _, _, _, _, _, _, _, _, _, _, _, _, _, _, _, _, _, _, _, _], defers := _ } _
    refine alongK_read (.pointer (some ⟨M, 0, none⟩)) rfl rfl (fun wx hS => ex_field rfl rfl wx (by simp [go_sem])) ?_
    refine alongK_read (.int .i64 (vn : Nat)) rfl rfl (fun wx hS => ex_load Tryz.isAgg3 rfl rfl wx ((bk_cells (HB.out wx hS)).1)) ?_
    change AlongK _ _ _ _ _ { tmps := #[_, _, .pointer (some ⟨M, 0, none⟩), .pointer (some ⟨C, 0, none⟩), .bool false, _, _, _, _, _, _, _, _, _, _, _, _, _, _, _, _, _, _, _, _, _, _, _, .pointer (some ⟨C, 0, none⟩), .slice (some ⟨rb, ro, none⟩) rn rc, .pointer (some ⟨M, 0, none⟩), .int .i64 (vn : Nat), _, _, _, _, _, _, _, _, _, _, _, _, _, _, _, _, _, _, _, _, _, _, _, _, _, _, _, _, _, _, _, _, _], defers := _ } _
    refine alongK_read (.pointer (some ⟨C, 0, none⟩)) rfl rfl (fun wx hS => ex_field rfl rfl wx (by simp [go_sem])) ?_
    refine alongK_read (.slice (some ⟨rb, ro, none⟩) rn rc) rfl rfl (fun wx hS => ex_load Tryz.isAgg25 rfl rfl wx ((tx_cells (HC.out wx hS)).1)) ?_
    change AlongK _ _ _ _ _ { tmps := #[_, _, .pointer (some ⟨M, 0, none⟩), .pointer (some ⟨C, 0, none⟩), .bool false, _, _, _, _, _, _, _, _, _, _, _, _, _, _, _, _, _, _, _, _, _, _, _, .pointer (some ⟨C, 0, none⟩), .slice (some ⟨rb, ro, none⟩) rn rc, .pointer (some ⟨M, 0, none⟩), .int .i64 (vn : Nat), .pointer (some ⟨C, 0, none⟩), .slice (some ⟨rb, ro, none⟩) rn rc, _, _, _, _, _, _, _, _, _, _, _, _, _, _, _, _, _, _, _, _, _, _, _, _, _, _, _, _, _, _, _], defers := _ } _
    refine alongK_read (.int .i64 rn) rfl rfl (fun wx hS => ex_lensl Tryz.underlying25 rfl rfl wx) ?_
    refine alongK_read (.agg #[.int .i64 (vn : Nat), .int .i64 H, .string P, .int .i64 JV, .int .i64 JH, .string JB, .slice ja jn jc, .slice ta n tc, .string S]) rfl rfl (fun wx hS => ex_loadrow rfl rfl wx 55 (HB.out wx hS) Tryz.underlying55 rfl info_bk) ?_
    change AlongK _ _ _ _ _ { tmps := #[_, _, .pointer (some ⟨M, 0, none⟩), .pointer (some ⟨C, 0, none⟩), .bool false, _, _, _, _, _, _, _, _, _, _, _, _, _, _, _, _, _, _, _, _, _, _, _, .pointer (some ⟨C, 0, none⟩), .slice (some ⟨rb, ro, none⟩) rn rc, .pointer (some ⟨M, 0, none⟩), .int .i64 (vn : Nat), .pointer (some ⟨C, 0, none⟩), .slice (some ⟨rb, ro, none⟩) rn rc, .int .i64 rn, _, _, _, .agg #[.int .i64 (vn : Nat), .int .i64 H, .string P, .int .i64 JV, .int .i64 JH, .string JB, .slice ja jn jc, .slice ta n tc, .string S], _, _, _, _, _, _, _, _, _, _, _, _, _, _, _, _, _, _, _, _, _, _, _, _, _, _], defers := _ } _
    refine alongK_read (.pointer (some ⟨M, 8, none⟩)) rfl rfl (fun wx hS => ex_field rfl rfl wx (by simp [go_sem])) ?_
    refine alongK_read (.string S) rfl rfl (fun wx hS => ex_load Tryz.isAgg9 rfl rfl wx ((bk_cells (HB.out wx hS)).2.2.2.2.2.2.2.2)) ?_
    change AlongK _ _ _ _ _ { tmps := #[_, _, .pointer (some ⟨M, 0, none⟩), .pointer (some ⟨C, 0, none⟩), .bool false, _, _, _, _, _, _, _, _, _, _, _, _, _, _, _, _, _, _, _, _, _, _, _, .pointer (some ⟨C, 0, none⟩), .slice (some ⟨rb, ro, none⟩) rn rc, .pointer (some ⟨M, 0, none⟩), .int .i64 (vn : Nat), .pointer (some ⟨C, 0, none⟩), .slice (some ⟨rb, ro, none⟩) rn rc, .int .i64 rn, _, _, _, .agg #[.int .i64 (vn : Nat), .int .i64 H, .string P, .int .i64 JV, .int .i64 JH, .string JB, .slice ja jn jc, .slice ta n tc, .string S], _, _, .pointer (some ⟨M, 8, none⟩), .string S, _, _, _, _, _, _, _, _, _, _, _, _, _, _, _, _, _, _, _, _, _, _], defers := _ } _
    refine alongK_step ?_
    refine opK_call (vs := [.int .i64 (vn : Nat), .int .i64 (rn : Int)]) rfl rfl rfl (enters_of Tryz.func47 (by kernel_rfl) rfl) rfl ?_
    with_reducible refine Calls.mono (HLD.out _) ?_
    rintro e y0 ⟨rfl, rfl⟩
    refine ⟨_, rfl, (fun x => Up wr x), (fun _ h => h), (Up.drew1 wr), ?_⟩
    change AlongK _ _ _ _ _ { tmps := #[_, _, .pointer (some ⟨M, 0, none⟩), .pointer (some ⟨C, 0, none⟩), .bool false, _, _, _, _, _, _, _, _, _, _, _, _, _, _, _, _, _, _, _, _, _, _, _, .pointer (some ⟨C, 0, none⟩), .slice (some ⟨rb, ro, none⟩) rn rc, .pointer (some ⟨M, 0, none⟩), .int .i64 (vn : Nat), .pointer (some ⟨C, 0, none⟩), .slice (some ⟨rb, ro, none⟩) rn rc, .int .i64 rn, .int .i64 (k : Int), _, _, .agg #[.int .i64 (vn : Nat), .int .i64 H, .string P, .int .i64 JV, .int .i64 JH, .string JB, .slice ja jn jc, .slice ta n tc, .string S], _, _, .pointer (some ⟨M, 8, none⟩), .string S, _, _, _, _, _, _, _, _, _, _, _, _, _, _, _, _, _, _, _, _, _, _], defers := _ } _
    refine alongK_read (.pointer (some ⟨rb, ro + k * 1, none⟩)) rfl rfl (fun wx hS => ex_index Tryz.underlying25 Tryz.sizeOf9 rfl rfl rfl (HKR.out) wx) ?_
    refine alongK_read (.string R) rfl rfl (fun wx hS => ex_load Tryz.isAgg9 rfl rfl wx (HRT.out wx hS)) ?_
    change AlongK _ _ _ _ _ { tmps := #[_, _, .pointer (some ⟨M, 0, none⟩), .pointer (some ⟨C, 0, none⟩), .bool false, _, _, _, _, _, _, _, _, _, _, _, _, _, _, _, _, _, _, _, _, _, _, _, .pointer (some ⟨C, 0, none⟩), .slice (some ⟨rb, ro, none⟩) rn rc, .pointer (some ⟨M, 0, none⟩), .int .i64 (vn : Nat), .pointer (some ⟨C, 0, none⟩), .slice (some ⟨rb, ro, none⟩) rn rc, .int .i64 rn, .int .i64 (k : Int), .pointer (some ⟨rb, ro + k * 1, none⟩), .string R, .agg #[.int .i64 (vn : Nat), .int .i64 H, .string P, .int .i64 JV, .int .i64 JH, .string JB, .slice ja jn jc, .slice ta n tc, .string S], _, _, .pointer (some ⟨M, 8, none⟩), .string S, _, _, _, _, _, _, _, _, _, _, _, _, _, _, _, _, _, _, _, _, _, _], defers := _ } _
    refine alongK_step ?_
    refine opK_call (vs := [.agg #[.int .i64 (vn : Nat), .int .i64 H, .string P, .int .i64 JV, .int .i64 JH, .string JB, .slice ja jn jc, .slice ta n tc, .string S]]) rfl rfl rfl (enters_of Tryz.func48 (by kernel_rfl) rfl) rfl ?_
    with_reducible refine Calls.mono (HN.out _ (Up.drew1 wr)) ?_
    rintro e y1 ⟨rfl, hy1⟩
    refine ⟨_, rfl, (fun x => Up wr x), (fun _ h => h), (Up.trans (Up.drew1 wr) hy1), ?_⟩
    change AlongK _ _ _ _ _ { tmps := #[_, _, .pointer (some ⟨M, 0, none⟩), .pointer (some ⟨C, 0, none⟩), .bool false, _, _, _, _, _, _, _, _, _, _, _, _, _, _, _, _, _, _, _, _, _, _, _, .pointer (some ⟨C, 0, none⟩), .slice (some ⟨rb, ro, none⟩) rn rc, .pointer (some ⟨M, 0, none⟩), .int .i64 (vn : Nat), .pointer (some ⟨C, 0, none⟩), .slice (some ⟨rb, ro, none⟩) rn rc, .int .i64 rn, .int .i64 (k : Int), .pointer (some ⟨rb, ro + k * 1, none⟩), .string R, .agg #[.int .i64 (vn : Nat), .int .i64 H, .string P, .int .i64 JV, .int .i64 JH, .string JB, .slice ja jn jc, .slice ta n tc, .string S], .string N, _, .pointer (some ⟨M, 8, none⟩), .string S, _, _, _, _, _, _, _, _, _, _, _, _, _, _, _, _, _, _, _, _, _, _], defers := _ } _
    refine alongK_step ?_
    obtain ⟨xa, xc, wq, hcv, hIq, hUq⟩ := HCV.out y1
    refine opK_run (.slice xa 32 xc) wq rfl rfl (ex_conv rfl rfl _ _ hcv) (fun x => Up wr x) (fun _ h => h) (Up.trans (Up.trans (Up.drew1 wr) hy1) hUq) ?_
    change AlongK _ _ _ _ _ { tmps := #[_, _, .pointer (some ⟨M, 0, none⟩), .pointer (some ⟨C, 0, none⟩), .bool false, _, _, _, _, _, _, _, _, _, _, _, _, _, _, _, _, _, _, _, _, _, _, _, .pointer (some ⟨C, 0, none⟩), .slice (some ⟨rb, ro, none⟩) rn rc, .pointer (some ⟨M, 0, none⟩), .int .i64 (vn : Nat), .pointer (some ⟨C, 0, none⟩), .slice (some ⟨rb, ro, none⟩) rn rc, .int .i64 rn, .int .i64 (k : Int), .pointer (some ⟨rb, ro + k * 1, none⟩), .string R, .agg #[.int .i64 (vn : Nat), .int .i64 H, .string P, .int .i64 JV, .int .i64 JH, .string JB, .slice ja jn jc, .slice ta n tc, .string S], .string N, .slice xa 32 xc, .pointer (some ⟨M, 8, none⟩), .string S, _, _, _, _, _, _, _, _, _, _, _, _, _, _, _, _, _, _, _, _, _, _], defers := _ } _
    refine alongK_step ?_
    refine opK_call (vs := [.string R, .int .i64 4, .slice xa 32 xc, .string S]) rfl rfl rfl (enters_of Tryz.func37 (by kernel_rfl) rfl) rfl ?_
    with_reducible refine Calls.mono (HV.out _ xa xc hIq) ?_
    rintro e y3 ⟨⟨s0, ok, rfl, hg1, hg2⟩, hy3⟩
    refine ⟨_, rfl, (fun x => Up wr x), (fun _ h => h), (Up.trans (Up.trans (Up.trans (Up.drew1 wr) hy1) hUq) hy3), ?_⟩
    change AlongK _ _ _ _ _ { tmps := #[_, _, .pointer (some ⟨M, 0, none⟩), .pointer (some ⟨C, 0, none⟩), .bool false, _, _, _, _, _, _, _, _, _, _, _, _, _, _, _, _, _, _, _, _, _, _, _, .pointer (some ⟨C, 0, none⟩), .slice (some ⟨rb, ro, none⟩) rn rc, .pointer (some ⟨M, 0, none⟩), .int .i64 (vn : Nat), .pointer (some ⟨C, 0, none⟩), .slice (some ⟨rb, ro, none⟩) rn rc, .int .i64 rn, .int .i64 (k : Int), .pointer (some ⟨rb, ro + k * 1, none⟩), .string R, .agg #[.int .i64 (vn : Nat), .int .i64 H, .string P, .int .i64 JV, .int .i64 JH, .string JB, .slice ja jn jc, .slice ta n tc, .string S], .string N, .slice xa 32 xc, .pointer (some ⟨M, 8, none⟩), .string S, .tuple #[.int .i64 s0, .bool ok], _, _, _, _, _, _, _, _, _, _, _, _, _, _, _, _, _, _, _, _, _], defers := _ } _
    refine alongK_read (.tuple #[.int .i64 s0, .bool ok]) rfl rfl (fun wx hS => ex_move (by rfl) (by rfl) wx) ?_
    refine alongK_read (.int .i64 s0) rfl rfl (fun wx hS => ex_extr (cs := #[.int .i64 s0, .bool ok]) rfl rfl rfl wx) ?_
    change AlongK _ _ _ _ _ { tmps := #[_, _, .pointer (some ⟨M, 0, none⟩), .pointer (some ⟨C, 0, none⟩), .bool false, _, _, _, _, _, _, _, _, _, _, _, _, _, _, _, _, _, _, _, _, _, _, .tuple #[.int .i64 s0, .bool ok], .pointer (some ⟨C, 0, none⟩), .slice (some ⟨rb, ro, none⟩) rn rc, .pointer (some ⟨M, 0, none⟩), .int .i64 (vn : Nat), .pointer (some ⟨C, 0, none⟩), .slice (some ⟨rb, ro, none⟩) rn rc, .int .i64 rn, .int .i64 (k : Int), .pointer (some ⟨rb, ro + k * 1, none⟩), .string R, .agg #[.int .i64 (vn : Nat), .int .i64 H, .string P, .int .i64 JV, .int .i64 JH, .string JB, .slice ja jn jc, .slice ta n tc, .string S], .string N, .slice xa 32 xc, .pointer (some ⟨M, 8, none⟩), .string S, .tuple #[.int .i64 s0, .bool ok], .int .i64 s0, _, _, _, _, _, _, _, _, _, _, _, _, _, _, _, _, _, _, _, _], defers := _ } _
    refine alongK_read (.bool ok) rfl rfl (fun wx hS => ex_extr (cs := #[.int .i64 s0, .bool ok]) rfl rfl rfl wx) ?_
    refine alongK_read (.int .i64 s0) rfl rfl (fun wx hS => ex_assign (by rfl) (by rfl) wx) ?_
    change AlongK _ _ _ _ _ { tmps := #[_, _, .pointer (some ⟨M, 0, none⟩), .pointer (some ⟨C, 0, none⟩), .bool false, .int .i64 s0, _, _, _, _, _, _, _, _, _, _, _, _, _, _, _, _, _, _, _, _, _, .tuple #[.int .i64 s0, .bool ok], .pointer (some ⟨C, 0, none⟩), .slice (some ⟨rb, ro, none⟩) rn rc, .pointer (some ⟨M, 0, none⟩), .int .i64 (vn : Nat), .pointer (some ⟨C, 0, none⟩), .slice (some ⟨rb, ro, none⟩) rn rc, .int .i64 rn, .int .i64 (k : Int), .pointer (some ⟨rb, ro + k * 1, none⟩), .string R, .agg #[.int .i64 (vn : Nat), .int .i64 H, .string P, .int .i64 JV, .int .i64 JH, .string JB, .slice ja jn jc, .slice ta n tc, .string S], .string N, .slice xa 32 xc, .pointer (some ⟨M, 8, none⟩), .string S, .tuple #[.int .i64 s0, .bool ok], .int .i64 s0, .bool ok, _, _, _, _, _, _, _, _, _, _, _, _, _, _, _, _, _, _, _], defers := _ } _
    refine alongK_read (.bool ok) rfl rfl (fun wx hS => ex_assign (by rfl) (by rfl) wx) ?_
    change AlongK _ _ _ _ _ { tmps := #[_, _, .pointer (some ⟨M, 0, none⟩), .pointer (some ⟨C, 0, none⟩), .bool false, .int .i64 s0, .bool ok, _, _, _, _, _, _, _, _, _, _, _, _, _, _, _, _, _, _, _, _, .tuple #[.int .i64 s0, .bool ok], .pointer (some ⟨C, 0, none⟩), .slice (some ⟨rb, ro, none⟩) rn rc, .pointer (some ⟨M, 0, none⟩), .int .i64 (vn : Nat), .pointer (some ⟨C, 0, none⟩), .slice (some ⟨rb, ro, none⟩) rn rc, .int .i64 rn, .int .i64 (k : Int), .pointer (some ⟨rb, ro + k * 1, none⟩), .string R, .agg #[.int .i64 (vn : Nat), .int .i64 H, .string P, .int .i64 JV, .int .i64 JH, .string JB, .slice ja jn jc, .slice ta n tc, .string S], .string N, .slice xa 32 xc, .pointer (some ⟨M, 8, none⟩), .string S, .tuple #[.int .i64 s0, .bool ok], .int .i64 s0, .bool ok, _, _, _, _, _, _, _, _, _, _, _, _, _, _, _, _, _, _, _], defers := _ } _
    refine alongK_done ?_
    have HEND := Lib.hid (Up.trans (Up.trans (Up.trans (Up.drew1 wr) hy1) hUq) hy3)
    have HG : Hid (ok = true ↔ GD) := ⟨fun h => Classical.byContradiction (fun k => by have := (hg2 k).2; rw [h] at this; cases this), fun h => (hg1 h).2⟩
    clear hg1 hg2 hy1 hy3 hIq hUq hcv
    go_wp2
    go_loopw [6, 7] (fun v6 vi wz => ∃ (i : Nat) (bb : Bool), v6 = .bool bb ∧ vi = .int .i64 (i : Nat) ∧ i ≤ n ∧ Hid (bb = true ↔ GD ∧ ∀ x ∈ xs.take i, tgB cs x = true) ∧ Hid (Up wr wz)) (fun _ vi _ => n - (RowKit.intOf vi).toNat)
    case atStart => exact ⟨0, ok, rfl, rfl, Nat.zero_le _, Lib.hid ⟨fun h => ⟨HG.out.1 h, fun x hx => by simp at hx⟩, fun h => HG.out.2 h.1⟩, HEND⟩
    case round =>
      obtain ⟨i, bb, rfl, rfl, hi, HBB, HUZ⟩ := hrel
      have c7 := (bk_cells (HB.out _ HUZ.out)).2.2.2.2.2.2.2.1
      by_cases hlt : i < n
      · have hz : (i : Int) < (n : Int) := by omega
        have HIN := Lib.hid hlt
        obtain ⟨x, hx⟩ : ∃ x, xs[i]? = some x := ⟨xs[i]'(by have := HNN.out; omega), List.getElem?_eq_getElem _⟩
        obtain ⟨tb, tof, hb1⟩ := (HT.out).ptr (by have := HNN.out; omega)
        subst hb1
        have htk : xs.take (i + 1) = xs.take i ++ [x] := by
          obtain ⟨hi2, e⟩ := List.getElem?_eq_some_iff.1 hx
          rw [List.take_succ_eq_append_getElem hi2, e]
        have HLT : Hid (∀ wx, Up wr wx → (loadVar 85 ⟨tb, tof + i * 5, none⟩).run Tryz.prog wx = .ok (.agg (tsA x)) wx) := fun wx u => (HT.out.up (Up.trans HUR.out (Up.trans HUZ.out u))).load hx
        have HB7 : Hid (∀ wx, Up wr wx → wx.heap[M]? = some (.cells #[.int .i64 (vn : Nat), .int .i64 H, .string P, .int .i64 JV, .int .i64 JH, .string JB, .slice ja jn jc, .slice (some ⟨tb, tof, none⟩) n tc, .string S] 55 (0, 0))) := fun wx u => HB.out wx (Up.trans HUZ.out u)
        have HC7 : Hid (∀ wx, Up wr wx → wx.heap[C]? = some (.cells #[.slice (some ⟨rb, ro, none⟩) rn rc, .slice ca cn cc, .int .i64 q, .int .i64 b0, .int .i64 cp] 57 (0, 0))) := fun wx u => HC.out wx (Up.trans HUZ.out u)
        cases bb with
        | false =>
          have HNXF : Hid (false = true ↔ GD ∧ ∀ y ∈ xs.take (i + 1), tgB cs y = true) := ⟨(fun h => by cases h), fun h => HBB.out.2 ⟨h.1, fun y hy => h.2 y (by rw [htk]; exact List.mem_append_left _ hy)⟩⟩
          clear hx htk
          go_wp2_with fail
          refine region_alongK (fun x => Up wr x) (.read 0 (.read 1 (.read 2 (.read 3 (.read 4 (.read 5 (.read 6 (.read 7 (.read 8 (.read 9 (.read 10 (.read 11 (.nil))))))))))))) (by kernel_rfl) rfl (by kernel_rfl) (by kernel_rfl) (fun c a d v w h => by cases d <;> exact h) (Up.drew1 wr) ?_
          refine alongK_read (.bool false) rfl rfl (fun wx hS => ex_move (by rfl) (by rfl) wx) ?_
          change AlongK _ _ _ _ _ { tmps := #[_, _, .pointer (some ⟨M, 0, none⟩), .pointer (some ⟨C, 0, none⟩), _, _, .bool false, .int .i64 (i : Int), _, _, _, _, _, _, _, _, _, _, _, _, _, _, _, _, _, _, _, _, _, _, _, _, _, _, _, _, _, _, _, _, _, _, _, _, _, _, _, _, _, _, _, _, _, .bool false, _, _, _, _, _, _, _, _, _, _, _], defers := _ } _
          refine alongK_read (.bool false) rfl rfl (fun wx hS => ex_move (by rfl) (by rfl) wx) ?_
          change AlongK _ _ _ _ _ { tmps := #[_, _, .pointer (some ⟨M, 0, none⟩), .pointer (some ⟨C, 0, none⟩), _, _, .bool false, .int .i64 (i : Int), _, _, _, _, _, _, _, _, _, _, _, _, _, _, _, _, _, _, _, _, _, _, _, _, _, _, _, _, _, _, _, _, _, _, _, _, _, _, _, _, _, _, _, _, _, .bool false, .bool false, _, _, _, _, _, _, _, _, _, _], defers := _ } _
          refine alongK_skip rfl rfl ?_
          change AlongK _ _ _ _ _ { tmps := #[_, _, .pointer (some ⟨M, 0, none⟩), .pointer (some ⟨C, 0, none⟩), _, _, .bool false, .int .i64 (i : Int), _, _, _, _, _, _, _, _, _, _, _, _, _, _, _, _, _, _, _, _, _, _, _, _, _, _, _, _, _, _, _, _, _, _, _, _, _, _, _, _, _, _, _, _, _, .bool false, .bool false, undef, _, _, _, _, _, _, _, _, _], defers := _ } _
          refine alongK_skip rfl rfl ?_
          change AlongK _ _ _ _ _ { tmps := #[_, _, .pointer (some ⟨M, 0, none⟩), .pointer (some ⟨C, 0, none⟩), _, _, .bool false, .int .i64 (i : Int), _, _, _, _, _, _, _, _, _, _, _, _, _, _, _, _, _, _, _, _, _, _, _, _, _, _, _, _, _, _, _, _, _, _, _, _, _, _, _, _, _, _, _, _, _, .bool false, .bool false, undef, undef, _, _, _, _, _, _, _, _], defers := _ } _
          refine alongK_skip rfl rfl ?_
          change AlongK _ _ _ _ _ { tmps := #[_, _, .pointer (some ⟨M, 0, none⟩), .pointer (some ⟨C, 0, none⟩), _, _, .bool false, .int .i64 (i : Int), _, _, _, _, _, _, _, _, _, _, _, _, _, _, _, _, _, _, _, _, _, _, _, _, _, _, _, _, _, _, _, _, _, _, _, _, _, _, _, _, _, _, _, _, _, .bool false, .bool false, undef, undef, undef, _, _, _, _, _, _, _], defers := _ } _
          refine alongK_skip rfl rfl ?_
          change AlongK _ _ _ _ _ { tmps := #[_, _, .pointer (some ⟨M, 0, none⟩), .pointer (some ⟨C, 0, none⟩), _, _, .bool false, .int .i64 (i : Int), _, _, _, _, _, _, _, _, _, _, _, _, _, _, _, _, _, _, _, _, _, _, _, _, _, _, _, _, _, _, _, _, _, _, _, _, _, _, _, _, _, _, _, _, _, .bool false, .bool false, undef, undef, undef, undef, _, _, _, _, _, _], defers := _ } _
          refine alongK_skip rfl rfl ?_
          change AlongK _ _ _ _ _ { tmps := #[_, _, .pointer (some ⟨M, 0, none⟩), .pointer (some ⟨C, 0, none⟩), _, _, .bool false, .int .i64 (i : Int), _, _, _, _, _, _, _, _, _, _, _, _, _, _, _, _, _, _, _, _, _, _, _, _, _, _, _, _, _, _, _, _, _, _, _, _, _, _, _, _, _, _, _, _, _, .bool false, .bool false, undef, undef, undef, undef, undef, _, _, _, _, _], defers := _ } _
          refine alongK_skip rfl rfl ?_
          change AlongK _ _ _ _ _ { tmps := #[_, _, .pointer (some ⟨M, 0, none⟩), .pointer (some ⟨C, 0, none⟩), _, _, .bool false, .int .i64 (i : Int), _, _, _, _, _, _, _, _, _, _, _, _, _, _, _, _, _, _, _, _, _, _, _, _, _, _, _, _, _, _, _, _, _, _, _, _, _, _, _, _, _, _, _, _, _, .bool false, .bool false, undef, undef, undef, undef, undef, undef, _, _, _, _], defers := _ } _
          refine alongK_skip rfl rfl ?_
          change AlongK _ _ _ _ _ { tmps := #[_, _, .pointer (some ⟨M, 0, none⟩), .pointer (some ⟨C, 0, none⟩), _, _, .bool false, .int .i64 (i : Int), _, _, _, _, _, _, _, _, _, _, _, _, _, _, _, _, _, _, _, _, _, _, _, _, _, _, _, _, _, _, _, _, _, _, _, _, _, _, _, _, _, _, _, _, _, .bool false, .bool false, undef, undef, undef, undef, undef, undef, undef, _, _, _], defers := _ } _
          refine alongK_skip rfl rfl ?_
          change AlongK _ _ _ _ _ { tmps := #[_, _, .pointer (some ⟨M, 0, none⟩), .pointer (some ⟨C, 0, none⟩), _, _, .bool false, .int .i64 (i : Int), _, _, _, _, _, _, _, _, _, _, _, _, _, _, _, _, _, _, _, _, _, _, _, _, _, _, _, _, _, _, _, _, _, _, _, _, _, _, _, _, _, _, _, _, _, .bool false, .bool false, undef, undef, undef, undef, undef, undef, undef, undef, _, _], defers := _ } _
          refine alongK_read (.bool false) rfl rfl (fun wx hS => ex_pickf rfl (by rfl) (by rfl) wx) ?_
          change AlongK _ _ _ _ _ { tmps := #[_, _, .pointer (some ⟨M, 0, none⟩), .pointer (some ⟨C, 0, none⟩), _, _, .bool false, .int .i64 (i : Int), _, _, _, _, _, _, _, _, _, _, _, _, _, _, _, _, _, _, _, _, _, _, _, _, _, _, _, _, _, _, _, _, _, _, _, _, _, _, _, _, _, _, _, _, _, .bool false, .bool false, undef, undef, undef, undef, undef, undef, undef, undef, .bool false, _], defers := _ } _
          refine alongK_read (.bool false) rfl rfl (fun wx hS => ex_assign (by rfl) (by rfl) wx) ?_
          change AlongK _ _ _ _ _ { tmps := #[_, _, .pointer (some ⟨M, 0, none⟩), .pointer (some ⟨C, 0, none⟩), _, _, .bool false, .int .i64 (i : Int), _, _, _, _, _, _, _, _, _, _, _, _, _, _, _, _, _, _, _, _, _, _, _, _, _, _, _, _, _, _, _, _, _, _, _, _, _, _, _, _, _, _, _, _, _, .bool false, .bool false, undef, undef, undef, undef, undef, undef, undef, undef, .bool false, _], defers := _ } _
          refine alongK_done ?_
          focus
            have HUE := Lib.hid (Up.trans HUZ.out (Up.drew1 wr))
            go_wp2
            go_roundw
            case rel => exact ⟨i + 1, false, rfl, by go_num, HIN.out, HNXF, HUE⟩
            case measure => simp [RowKit.intOf]; omega
        | true =>
          obtain ⟨tb7, htb⟩ : ∃ tb7, tgB cs x = tb7 := ⟨_, rfl⟩
          have HTV : Hid (∀ wx, Up wr wx → Calls Tryz.prog 49 #[.agg (tsA x), .slice ca cn cc] wx fun e w' => e = .returned (.bool tb7) ∧ Up wx w') := fun wx u => by
            have c := HTV0.out x (List.mem_of_getElem? hx) wx (Up.trans HUR.out (Up.trans HUZ.out u))
            rwa [htb] at c
          have HNXT : Hid (tb7 = true ↔ GD ∧ ∀ y ∈ xs.take (i + 1), tgB cs y = true) := by
            have hbb := HBB.out.1 rfl
            refine ⟨fun h => ⟨hbb.1, fun y hy => ?_⟩, fun h => ?_⟩
            · rw [htk] at hy
              rcases List.mem_append.1 hy with hy | hy
              · exact hbb.2 y hy
              · rw [List.mem_singleton.1 hy, htb]; exact h
            · have := h.2 x (by rw [htk]; exact List.mem_append_right _ (List.mem_singleton.2 rfl))
              rwa [htb] at this
          clear hx htk htb HBB
          go_wp2_with fail
          refine region_alongK (fun x => Up wr x) (.read 0 (.read 1 (.read 2 (.read 3 (.read 4 (.read 5 (.read 6 (.read 7 (.read 8 (.step 9 (.read 10 (.read 11 (.nil))))))))))))) (by kernel_rfl) rfl (by kernel_rfl) (by kernel_rfl) (fun c a d v w h => by cases d <;> exact h) (Up.drew1 wr) ?_
          refine alongK_read (.bool true) rfl rfl (fun wx hS => ex_move (by rfl) (by rfl) wx) ?_
          change AlongK _ _ _ _ _ { tmps := #[_, _, .pointer (some ⟨M, 0, none⟩), .pointer (some ⟨C, 0, none⟩), _, _, .bool true, .int .i64 (i : Int), _, _, _, _, _, _, _, _, _, _, _, _, _, _, _, _, _, _, _, _, _, _, _, _, _, _, _, _, _, _, _, _, _, _, _, _, _, _, _, _, _, _, _, _, _, .bool true, _, _, _, _, _, _, _, _, _, _, _], defers := _ } _
          refine alongK_read (.bool true) rfl rfl (fun wx hS => ex_move (by rfl) (by rfl) wx) ?_
          change AlongK _ _ _ _ _ { tmps := #[_, _, .pointer (some ⟨M, 0, none⟩), .pointer (some ⟨C, 0, none⟩), _, _, .bool true, .int .i64 (i : Int), _, _, _, _, _, _, _, _, _, _, _, _, _, _, _, _, _, _, _, _, _, _, _, _, _, _, _, _, _, _, _, _, _, _, _, _, _, _, _, _, _, _, _, _, _, .bool true, .bool true, _, _, _, _, _, _, _, _, _, _], defers := _ } _
          refine alongK_read (.pointer (some ⟨M, 7, none⟩)) rfl rfl (fun wx hS => ex_field rfl rfl wx (by simp [go_sem])) ?_
          change AlongK _ _ _ _ _ { tmps := #[_, _, .pointer (some ⟨M, 0, none⟩), .pointer (some ⟨C, 0, none⟩), _, _, .bool true, .int .i64 (i : Int), _, _, _, _, _, _, _, _, _, _, _, _, _, _, _, _, _, _, _, _, _, _, _, _, _, _, _, _, _, _, _, _, _, _, _, _, _, _, _, _, _, _, _, _, _, .bool true, .bool true, .pointer (some ⟨M, 7, none⟩), _, _, _, _, _, _, _, _, _], defers := _ } _
          refine alongK_read (.slice (some ⟨tb, tof, none⟩) n tc) rfl rfl (fun wx hS => ex_load Tryz.isAgg53 rfl rfl wx ((bk_cells (HB7.out wx hS)).2.2.2.2.2.2.2.1)) ?_
          change AlongK _ _ _ _ _ { tmps := #[_, _, .pointer (some ⟨M, 0, none⟩), .pointer (some ⟨C, 0, none⟩), _, _, .bool true, .int .i64 (i : Int), _, _, _, _, _, _, _, _, _, _, _, _, _, _, _, _, _, _, _, _, _, _, _, _, _, _, _, _, _, _, _, _, _, _, _, _, _, _, _, _, _, _, _, _, _, .bool true, .bool true, .pointer (some ⟨M, 7, none⟩), .slice (some ⟨tb, tof, none⟩) n tc, _, _, _, _, _, _, _, _], defers := _ } _
          refine alongK_read (.int .i64 (i : Int)) rfl rfl (fun wx hS => ex_move (by rfl) (by rfl) wx) ?_
          change AlongK _ _ _ _ _ { tmps := #[_, _, .pointer (some ⟨M, 0, none⟩), .pointer (some ⟨C, 0, none⟩), _, _, .bool true, .int .i64 (i : Int), _, _, _, _, _, _, _, _, _, _, _, _, _, _, _, _, _, _, _, _, _, _, _, _, _, _, _, _, _, _, _, _, _, _, _, _, _, _, _, _, _, _, _, _, _, .bool true, .bool true, .pointer (some ⟨M, 7, none⟩), .slice (some ⟨tb, tof, none⟩) n tc, .int .i64 (i : Int), _, _, _, _, _, _, _], defers := _ } _
          refine alongK_read (.pointer (some ⟨tb, tof + i * 5, none⟩)) rfl rfl (fun wx hS => ex_index Tryz.underlying53 Tryz.sizeOf85 rfl rfl rfl (HIN.out) wx) ?_
          change AlongK _ _ _ _ _ { tmps := #[_, _, .pointer (some ⟨M, 0, none⟩), .pointer (some ⟨C, 0, none⟩), _, _, .bool true, .int .i64 (i : Int), _, _, _, _, _, _, _, _, _, _, _, _, _, _, _, _, _, _, _, _, _, _, _, _, _, _, _, _, _, _, _, _, _, _, _, _, _, _, _, _, _, _, _, _, _, .bool true, .bool true, .pointer (some ⟨M, 7, none⟩), .slice (some ⟨tb, tof, none⟩) n tc, .int .i64 (i : Int), .pointer (some ⟨tb, tof + i * 5, none⟩), _, _, _, _, _, _], defers := _ } _
          refine alongK_read (.agg (tsA x)) rfl rfl (fun wx hS => ex_ldt rfl rfl (HLT.out wx hS)) ?_
          change AlongK _ _ _ _ _ { tmps := #[_, _, .pointer (some ⟨M, 0, none⟩), .pointer (some ⟨C, 0, none⟩), _, _, .bool true, .int .i64 (i : Int), _, _, _, _, _, _, _, _, _, _, _, _, _, _, _, _, _, _, _, _, _, _, _, _, _, _, _, _, _, _, _, _, _, _, _, _, _, _, _, _, _, _, _, _, _, .bool true, .bool true, .pointer (some ⟨M, 7, none⟩), .slice (some ⟨tb, tof, none⟩) n tc, .int .i64 (i : Int), .pointer (some ⟨tb, tof + i * 5, none⟩), .agg (tsA x), _, _, _, _, _], defers := _ } _
          refine alongK_read (.pointer (some ⟨C, 1, none⟩)) rfl rfl (fun wx hS => ex_field rfl rfl wx (by simp [go_sem])) ?_
          change AlongK _ _ _ _ _ { tmps := #[_, _, .pointer (some ⟨M, 0, none⟩), .pointer (some ⟨C, 0, none⟩), _, _, .bool true, .int .i64 (i : Int), _, _, _, _, _, _, _, _, _, _, _, _, _, _, _, _, _, _, _, _, _, _, _, _, _, _, _, _, _, _, _, _, _, _, _, _, _, _, _, _, _, _, _, _, _, .bool true, .bool true, .pointer (some ⟨M, 7, none⟩), .slice (some ⟨tb, tof, none⟩) n tc, .int .i64 (i : Int), .pointer (some ⟨tb, tof + i * 5, none⟩), .agg (tsA x), .pointer (some ⟨C, 1, none⟩), _, _, _, _], defers := _ } _
          refine alongK_read (.slice ca cn cc) rfl rfl (fun wx hS => ex_load Tryz.isAgg25 rfl rfl wx ((tx_cells (HC7.out wx hS)).2.1)) ?_
          change AlongK _ _ _ _ _ { tmps := #[_, _, .pointer (some ⟨M, 0, none⟩), .pointer (some ⟨C, 0, none⟩), _, _, .bool true, .int .i64 (i : Int), _, _, _, _, _, _, _, _, _, _, _, _, _, _, _, _, _, _, _, _, _, _, _, _, _, _, _, _, _, _, _, _, _, _, _, _, _, _, _, _, _, _, _, _, _, .bool true, .bool true, .pointer (some ⟨M, 7, none⟩), .slice (some ⟨tb, tof, none⟩) n tc, .int .i64 (i : Int), .pointer (some ⟨tb, tof + i * 5, none⟩), .agg (tsA x), .pointer (some ⟨C, 1, none⟩), .slice ca cn cc, _, _, _], defers := _ } _
          refine alongK_step ?_
          refine opK_call (vs := [.agg (tsA x), .slice ca cn cc]) rfl rfl rfl (enters_of Tryz.func49 (by kernel_rfl) rfl) rfl ?_
          with_reducible refine Calls.mono (HTV.out _ (Up.drew1 wr)) ?_
          rintro e y7 ⟨rfl, hy7⟩
          refine ⟨_, rfl, (fun x => Up wr x), (fun _ h => h), (Up.trans (Up.drew1 wr) hy7), ?_⟩
          change AlongK _ _ _ _ _ { tmps := #[_, _, .pointer (some ⟨M, 0, none⟩), .pointer (some ⟨C, 0, none⟩), _, _, .bool true, .int .i64 (i : Int), _, _, _, _, _, _, _, _, _, _, _, _, _, _, _, _, _, _, _, _, _, _, _, _, _, _, _, _, _, _, _, _, _, _, _, _, _, _, _, _, _, _, _, _, _, .bool true, .bool true, .pointer (some ⟨M, 7, none⟩), .slice (some ⟨tb, tof, none⟩) n tc, .int .i64 (i : Int), .pointer (some ⟨tb, tof + i * 5, none⟩), .agg (tsA x), .pointer (some ⟨C, 1, none⟩), .slice ca cn cc, .bool tb7, _, _], defers := _ } _
          refine alongK_read (.bool tb7) rfl rfl (fun wx hS => ex_pickt rfl (by rfl) (by rfl) wx) ?_
          change AlongK _ _ _ _ _ { tmps := #[_, _, .pointer (some ⟨M, 0, none⟩), .pointer (some ⟨C, 0, none⟩), _, _, .bool true, .int .i64 (i : Int), _, _, _, _, _, _, _, _, _, _, _, _, _, _, _, _, _, _, _, _, _, _, _, _, _, _, _, _, _, _, _, _, _, _, _, _, _, _, _, _, _, _, _, _, _, .bool true, .bool true, .pointer (some ⟨M, 7, none⟩), .slice (some ⟨tb, tof, none⟩) n tc, .int .i64 (i : Int), .pointer (some ⟨tb, tof + i * 5, none⟩), .agg (tsA x), .pointer (some ⟨C, 1, none⟩), .slice ca cn cc, .bool tb7, .bool tb7, _], defers := _ } _
          refine alongK_read (.bool tb7) rfl rfl (fun wx hS => ex_assign (by rfl) (by rfl) wx) ?_
          change AlongK _ _ _ _ _ { tmps := #[_, _, .pointer (some ⟨M, 0, none⟩), .pointer (some ⟨C, 0, none⟩), _, _, .bool tb7, .int .i64 (i : Int), _, _, _, _, _, _, _, _, _, _, _, _, _, _, _, _, _, _, _, _, _, _, _, _, _, _, _, _, _, _, _, _, _, _, _, _, _, _, _, _, _, _, _, _, _, .bool true, .bool true, .pointer (some ⟨M, 7, none⟩), .slice (some ⟨tb, tof, none⟩) n tc, .int .i64 (i : Int), .pointer (some ⟨tb, tof + i * 5, none⟩), .agg (tsA x), .pointer (some ⟨C, 1, none⟩), .slice ca cn cc, .bool tb7, .bool tb7, _], defers := _ } _
          refine alongK_done ?_
          focus
            have HUE := Lib.hid (Up.trans HUZ.out (Up.trans (Up.drew1 wr) hy7))
            go_wp2
            go_roundw
            case rel => exact ⟨i + 1, tb7, rfl, by go_num, HIN.out, HNXT, HUE⟩
            case measure => simp [RowKit.intOf]; omega
      · have hie : i = n := by omega
        have hz : ¬ (i : Int) < (n : Int) := by omega
        have htk : xs.take i = xs := List.take_of_length_le (by have := HNN.out; omega)
        rw [htk] at HBB
        have HFIN : Hid (bb = true ↔ GOAL) := ⟨fun h => HMK.out HPOS.out (HBB.out.1 h).1 HR.out (HBB.out.1 h).2, fun h => HBB.out.2 ⟨(HUN.out h).2.1, (HUN.out h).2.2.2⟩⟩
        clear hie htk HBB
        go_wp2
        go_ret
        exact ⟨⟨bb, rfl, HFIN.out⟩, Up.trans HUR.out HUZ.out⟩
  · obtain rfl : e = .returned (.int .i64 41) := hno hr
    have HNO : Hid (¬ GOAL) := fun h => hr (HUN.out h).2.2.1
    clear hy hno hr
    go_wp2
    go_ret
    exact ⟨⟨false, rfl, ⟨(fun h => by cases h), fun h => absurd h HNO.out⟩⟩, HUR.out⟩
end
end Go.Proofs.YtfenmhddlojahaaGreat
