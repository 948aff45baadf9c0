import Derived.Test.YtfenmhddlojahaaBkText
/-
  block: Text and Name, of whatever block.
-/
namespace Go.Proofs.Ytfenmhddlojahaa
set_option maxRecDepth 100000
section
set_option linter.unusedVariables false
open Go.RowKit Go.Sort Go.Lib

theorem done_in {bs : List Int} (h : bs.length ≤ 16384) : doneE 0 bs = 0 ∧ doneB 0 bs = bs := by
  unfold doneE doneB
  constructor
  · rw [if_neg (by decide), if_neg (by omega)]
  · first | rw [if_neg (by omega)] | simp [h]
/-- what writes one part -/
structure PartFn (wp : World) (f : Value) (l : List Int) : Prop where
  ex : ∃ (F : FuncId) (cb : Array Value), f = .func (.func F) #[] cb ∧ (∀ args w, (callFunc F args).run Try.prog w = .ok (.enter F args) w) ∧
    ∀ (wx : World) (g base : Nat), Up wp wx → Wr wx base g (.slice none 0 0) 0 [] → base ≤ wx.heap.size → wp.heap.size ≤ g →
      Calls Try.prog F (#[.pointer (some ⟨g, 0, none⟩)] ++ cb) wx fun e w' => e = .returned (.tuple #[]) ∧ ∃ o', Wr w' base g o' 0 l ∧ WrStep g (.slice none 0 0) o' wx w'
  len : l.length ≤ 16384
theorem partB {V H : Int} {P : ByteArray} {JV JH : Int} {JB : ByteArray} {ja : Option Addr} {jn jc : Nat} {ta : Option Addr} {n tc : Nat} {S : ByteArray} {xs : List Ts} {wp : World} {M : Nat} (hm : BkMay V H P JV JH JB xs S) (hn : xs.length = n) (hM : wp.heap[M]? = some (.cells (bkC V H P JV JH JB ja jn jc ta n tc S) 27 (0, 0))) : PartFn wp (fnB M) (bkH V H P JV n) :=
  ⟨⟨_, _, rfl, enters_of Try.func28 (by kernel_rfl) rfl, fun wx g base u h hb hg => putB_any g M V H P JV JH JB ja jn jc ta n tc S base wx h hb (fun e => by have := lt_of_block hM; omega) ((u.block _ (lt_of_block hM)).trans hM) hm.v hm.h hm.p hm.jv (by have := hm.n; omega)⟩, by rw [bkH_len hm.p]; decide⟩
theorem partT {x : Ts} {wp : World} {k : Nat} (hx : tsE x = 0) (hk : wp.heap[k]? = some (.cells (tsA x) 36 (0, 0))) : PartFn wp (fnT k) (tsB x) :=
  ⟨⟨_, _, rfl, enters_of Try.func31 (by kernel_rfl) rfl, fun wx g base u h hb hg => putT_any g k x base wx h hb ((u.block _ (lt_of_block hk)).trans hk) hx⟩, Nat.le_trans (tsB_len hx) (by decide)⟩
/-- each part has its closure -/
theorem part_fns {V H : Int} {P : ByteArray} {JV JH : Int} {JB : ByteArray} {ja : Option Addr} {jn jc : Nat} {ta : Option Addr} {n tc : Nat} {S : ByteArray} {xs : List Ts} {wp : World} {M : Nat} {bs : List Nat} (hm : BkMay V H P JV JH JB xs S) (hn : xs.length = n) (hM : wp.heap[M]? = some (.cells (bkC V H P JV JH JB ja jn jc ta n tc S) 27 (0, 0))) (hb : bs.length = n) (hbx : Boxes wp bs xs) (i : Nat) (hi : i < n + 1) :
    ∃ f l, (fnB M :: bs.map fnT)[i]? = some f ∧ (bkL V H P JV xs)[i]? = some l ∧ PartFn wp f l := by
  match i, hi with
  | 0, _ => exact ⟨_, _, rfl, rfl, by rw [hn]; exact partB hm hn hM⟩
  | k + 1, hi =>
    obtain ⟨b, hbk⟩ : ∃ b, bs[k]? = some b := ⟨bs[k]'(by omega), List.getElem?_eq_getElem _⟩
    obtain ⟨x, hx, hh⟩ := hbx k b hbk
    refine ⟨fnT b, tsB x, ?_, ?_, partT (hm.ts x (List.mem_of_getElem? hx)) hh⟩
    · rw [List.getElem?_cons_succ, List.getElem?_map, hbk]; rfl
    · unfold bkL; rw [List.getElem?_cons_succ, List.getElem?_map, hx]; rfl

/-- what Text answers -/
structure TextP (w : World) (bs : List Int) (e : Ending) (w' : World) : Prop where
  ex : ∃ a c, e = .returned (.slice a bs.length c) ∧ Ints .u8 w' (.slice a bs.length c) bs
  up : Up w w'

set_option maxHeartbeats 4000000 in
theorem bkText_ok (V H : Int) (P : ByteArray) (JV JH : Int) (JB : ByteArray) (ja : Option Addr) (jn jc : Nat) (ta : Option Addr) (n tc : Nat) (S : ByteArray) (xs : List Ts) (w : World) (hm : BkMay V H P JV JH JB xs S) (ht : TArg w (.slice ta n tc) xs) :
    Calls Try.prog 10 #[.agg (bkC V H P JV JH JB ja jn jc ta n tc S)] w (TextP w (bkL V H P JV xs).flatten) := by
  have hn := ht.len
  have h4 : n ≤ 4 := by have := hm.n; omega
  have HCK : Hid (∀ wx, Up w wx → Calls Try.prog 13 #[.agg (bkC V H P JV JH JB ja jn jc ta n tc S)] wx fun e w' => e = .returned (.int .i64 0) ∧ Up wx w') := fun wx u => by
    have c := bkCheck_any V H P JV JH JB ja jn jc ta n tc S xs wx (by omega) (ht.up u)
    rwa [bkE_ok hm] at c
  have HTP : Hid (∀ wx, Up w wx → Calls Try.prog 14 #[.agg (bkC V H P JV JH JB ja jn jc ta n tc S)] wx (PartsP wx (bkC V H P JV JH JB ja jn jc ta n tc S) xs n)) := fun wx u => textParts_any V H P JV JH JB ja jn jc ta n tc S xs wx h4 (ht.up u)
  have HPF : Hid (∀ (wp : World) (M : Nat) (bs : List Nat), wp.heap[M]? = some (.cells (bkC V H P JV JH JB ja jn jc ta n tc S) 27 (0, 0)) → bs.length = n → Boxes wp bs xs → ∀ i, i < n + 1 → ∃ f l, (fnB M :: bs.map fnT)[i]? = some f ∧ (bkL V H P JV xs)[i]? = some l ∧ PartFn wp f l) := fun wp M bs h1 h2 h3 => part_fns hm hn h1 h2 h3
  have HLL : Hid ((bkL V H P JV xs).length = n + 1) := by (have h : (bkL V H P JV xs).length = n + 1 := by unfold bkL; simp [hn]); exact h
  have HFL := Lib.hid (bkL_len hm)
  generalize bkL V H P JV xs = ls at HPF HLL HFL ⊢
  have HU0 := Lib.hid (Up.alloc (Up.refl w) (.cells (bkC V H P JV JH JB ja jn jc ta n tc S) 27))
  have HB0 := Lib.hid (heap_alloc_new w (.cells (bkC V H P JV JH JB ja jn jc ta n tc S) 27))
  unfold bkC at HU0 HB0 HCK HTP HPF ⊢
  clear hm ht hn
  go_enter Try.func10, Try.ntmps10
  go_wp2_with (refine wpList_ex rfl (.agg #[.int .i64 V, .int .i64 H, .string P, .int .i64 JV, .int .i64 JH, .string JB, .slice ja jn jc, .slice ta n tc, .string S]) _ (ex_loadrow (x := .tmp 1) rfl rfl _ 27 HB0.out Try.underlying27 rfl info_bk) ?_)
  generalize w.alloc (.cells #[.int .i64 V, .int .i64 H, .string P, .int .i64 JV, .int .i64 JH, .string JB, .slice ja jn jc, .slice ta n tc, .string S] 27) = w1 at HU0 HB0 ⊢
  generalize w.heap.size = B at HB0 ⊢
  with_reducible refine Calls.mono (HCK.out _ HU0.out) ?_
  rintro e w2 ⟨rfl, u2⟩
  have HB2 := Lib.hid ((u2.block _ (lt_of_block HB0.out)).trans HB0.out)
  have HU2 := Lib.hid (Up.trans HU0.out u2)
  clear u2 HB0 HU0
  go_wp2_with (refine wpList_ex rfl (.agg #[.int .i64 V, .int .i64 H, .string P, .int .i64 JV, .int .i64 JH, .string JB, .slice ja jn jc, .slice ta n tc, .string S]) _ (ex_loadrow (x := .tmp 1) rfl rfl _ 27 HB2.out Try.underlying27 rfl info_bk) ?_)
  with_reducible refine Calls.mono (HTP.out _ HU2.out) ?_
  rintro e wp ⟨⟨fa, fc, M, bs, rfl, ho, hM, hbl, hbx⟩, up⟩
  have HPP := Lib.hid (HPF.out wp M bs hM hbl hbx)
  have HUP := Lib.hid (Up.trans HU2.out up)
  obtain ⟨fg, hfg, hfrow⟩ : ∃ fg, fa = some ⟨fg, 0, none⟩ ∧ ∀ wx, Up wp wx → ∀ (i : Nat) (f : Value), i < n + 1 → (fnB M :: bs.map fnT)[i]? = some f → wx.cell? ⟨fg, i, none⟩ = some f := by
    rcases ho.2 with ⟨he, h0⟩ | ⟨g, cap, cur, he, _, hg, hc, _, hs, ht⟩
    · omega
    · cases he
      refine ⟨g, rfl, fun wx u i f hi hf => ?_⟩
      rw [cell_of_row _ _ i _ _ _ ((u.block _ (lt_of_block hg)).trans hg), ← hf, ← ht, List.getElem?_take_of_lt (by omega), Array.getElem?_toList]
  subst hfg
  have HFR := Lib.hid hfrow
  clear ho hM hbl hbx up hfrow HPF HTP HCK HB2 HU2
  generalize (fnB M :: bs.map fnT) = fs at HPP HFR
  obtain ⟨m, hm1⟩ : ∃ m, n + 1 = m := ⟨_, rfl⟩
  rw [hm1] at HPP HFR HLL ⊢
  have hm5 : m ≤ 5 := by omega
  clear hm1
  go_wp2
  go_loopw [3, 15] (fun v3 vi wr => ∃ (i : Nat) (va : Option Addr) (vc : Nat) (us : List Value), v3 = .slice va i vc ∧ vi = .int .i64 (i : Nat) ∧ i ≤ m ∧ us.length = i ∧ Hid (wr.ownsRow wp.heap.size 37 1 (.slice va i vc) i us) ∧ Hid (PartRows wr us ls) ∧ Hid (Up wp wr))
    (fun _ vi _ => m - (RowKit.intOf vi).toNat)
  case atStart => exact ⟨0, none, 0, [], rfl, rfl, Nat.zero_le _, rfl, Lib.hid ⟨rfl, .inl ⟨rfl, rfl⟩⟩, Lib.hid (fun j u h => by simp at h), Lib.hid (Up.refl _)⟩
  case round =>
    obtain ⟨i, va, vc, us, rfl, rfl, hi, hul, HO, HP, HU⟩ := hrel
    by_cases hlt : i < m
    · have hz : (i : Int) < (m : Int) := by omega
      obtain ⟨f, l, hf, hl, ⟨⟨F, cb, rfl, eg, hcall⟩, hlen⟩⟩ := HPP.out i hlt
      have hcell := HFR.out wr HU.out i _ hlt hf
      have HCA := Lib.hid hcall
      have HEG := Lib.hid eg
      have HLS := Lib.hid hl
      have HLE := Lib.hid hlen
      clear hf hl hcall eg hlen
      go_wp2_with fail
      clear hcell
      with_reducible refine Calls.mono (new_any wr) ?_
      rintro e w4 ⟨rfl, hw4⟩
      have HW4 : Hid (Wr w4 wr.heap.size wr.heap.size (.slice none 0 0) 0 []) := by subst hw4; exact wr_new wr
      have HU4 : Hid (Up wr w4) := by subst hw4; exact Up.alloc (Up.refl _) _
      clear hw4
      have hs4 : wr.heap.size ≤ w4.heap.size := Below.size HU4.out
      have HSZ : Hid (wp.heap.size ≤ wr.heap.size) := Below.size HU.out
      have HC4 := Lib.hid (HCA.out w4 wr.heap.size wr.heap.size (Up.trans HU.out HU4.out) HW4.out hs4 HSZ.out)
      go_wp2_with (refine wpList_callv (f := F) (cb := cb) (vs := [.pointer (some ⟨wr.heap.size, 0, none⟩)]) rfl rfl rfl rfl HEG.out ?_)
      with_reducible refine Calls.mono HC4.out ?_
      rintro e w5 ⟨rfl, o5, k1, k2⟩
      refine ⟨_, rfl, ?_⟩
      have HU5 : Hid (Up wr w5) := Below.trans HU4.out (HW4.out.below k2 hs4)
      have hdn := wdone_any wr.heap.size wr.heap.size o5 0 l w5 k1 (Nat.le_trans HLE.out (by decide))
      rw [(done_in HLE.out).1, (done_in HLE.out).2] at hdn
      have HDN := Lib.hid hdn
      clear k1 k2 hdn hs4
      go_wp2_with fail
      with_reducible refine Calls.mono HDN.out ?_
      rintro e w6 ⟨r6, rfl, k1, k2⟩
      have HU6 := Lib.hid (Up.trans HU5.out k2)
      obtain ⟨xa, xc, rfl⟩ := row_shape k1
      have HR6 := Lib.hid k1
      have ho6 := ownsRow_up HO.out HU6.out
      obtain ⟨va', vc', w8, hap, ho8, hu8, hk8⟩ := app1 (st := 43) (et := 37) Try.underlying43 info_by rfl wp w6 va vc i us (.slice xa l.length xc) ho6 rfl (Up.trans HU.out HU6.out) (by omega) (by unfold maxLen; omega)
      have hp8 := (HP.out.up HU6.out).kept hk8 (fun l' b u g hu hg e => rows_apart hu ho6 (by decide) hg e)
      have hr8 := own_keep k1 hk8 (fun g hg e => rows_apart k1 ho6 (by decide) hg e)
      have HP8 := Lib.hid (hp8.more (by rw [hul]; exact HLS.out) hr8)
      have HO8 := Lib.hid ho8
      have HU8 := Lib.hid hu8
      have HAP := Lib.hid hap
      have hul8 : (us ++ [Value.slice xa l.length xc]).length = i + 1 := by simp [hul]
      have HUL := Lib.hid hul8
      clear k1 k2 ho6 hap ho8 hu8 hk8 hp8 hr8 hul8
      generalize us ++ [Value.slice xa l.length xc] = us' at HP8 HO8 HUL
      generalize hi8 : i + 1 = i' at HO8 HUL HAP
      have HI8 := Lib.hid hi8
      clear hi8
      generalize l.length = ln at HAP ⊢
      go_wp2_with (first | (refine wpList_ex rfl (.slice va' i' vc') w8 (ex_app1 (s := .tmp 28) (x := .tmp 30) rfl rfl rfl rfl HAP.out) ?_))
      go_roundw
      case rel => exact ⟨i', va', vc', us', rfl, by rw [← HI8.out]; go_num, by rw [← HI8.out]; exact hlt, HUL.out, HO8, HP8, HU8⟩
      case measure => simp [RowKit.intOf]; omega
    · have hie : i = m := by omega
      have hz : ¬ (i : Int) < (m : Int) := by omega
      have HR8 := Lib.hid (rows_of_parts HO.out HP.out (by rw [HLL.out, hie]))
      have hj := join_any (.slice va i vc) ls wr HR8.out (by rw [HLL.out]; omega) (Nat.le_trans HFL.out (by decide))
      have HJ : Hid (Calls Try.prog 17 #[.slice va i vc] wr fun e w' => ∃ a k c, e = .returned (.slice a k c) ∧ k = ls.flatten.length ∧ Ints .u8 w' (.slice a k c) ls.flatten ∧ Up wr w') := hj.mono (fun e w' h => ⟨_, _, _, h.1, rfl, Ints.of_row h.2.1, h.2.2⟩)
      clear hj hie
      go_wp2_with fail
      with_reducible refine Calls.mono HJ.out ?_
      rintro e w9 ⟨ja9, k9, jc9, rfl, hk9, h9, u9⟩
      have HI9 := Lib.hid h9
      have HK9 := Lib.hid hk9
      have HU9 : Hid (Up w w9) := Up.trans HUP.out (Up.trans HU.out u9)
      clear h9 u9 hk9
      go_wp2
      go_ret
      exact ⟨⟨ja9, jc9, by rw [← HK9.out]; rfl, by rw [← HK9.out]; exact HI9.out⟩, HU9.out⟩

theorem bkText_no (V H : Int) (P : ByteArray) (JV JH : Int) (JB : ByteArray) (ja : Option Addr) (jn jc : Nat) (ta : Option Addr) (n tc : Nat) (S : ByteArray) (xs : List Ts) (w : World) (hm : ¬ BkMay V H P JV JH JB xs S) (hsz : n ≤ 9223372036854775807) (ht : TArg w (.slice ta n tc) xs) :
    Calls Try.prog 10 #[.agg (bkC V H P JV JH JB ja jn jc ta n tc S)] w (TextP w []) := by
  have HCK : Hid (∀ wx, Up w wx → Calls Try.prog 13 #[.agg (bkC V H P JV JH JB ja jn jc ta n tc S)] wx fun e w' => e = .returned (.int .i64 9) ∧ Up wx w') := fun wx u => by
    have c := bkCheck_any V H P JV JH JB ja jn jc ta n tc S xs wx hsz (ht.up u)
    rwa [bkE_no hm] at c
  have HU0 := Lib.hid (Up.alloc (Up.refl w) (.cells (bkC V H P JV JH JB ja jn jc ta n tc S) 27))
  have HB0 := Lib.hid (heap_alloc_new w (.cells (bkC V H P JV JH JB ja jn jc ta n tc S) 27))
  unfold bkC at HU0 HB0 HCK ⊢
  clear hm ht hsz
  go_enter Try.func10, Try.ntmps10
  go_wp2_with (refine wpList_ex rfl (.agg #[.int .i64 V, .int .i64 H, .string P, .int .i64 JV, .int .i64 JH, .string JB, .slice ja jn jc, .slice ta n tc, .string S]) _ (ex_loadrow (x := .tmp 1) rfl rfl _ 27 HB0.out Try.underlying27 rfl info_bk) ?_)
  with_reducible refine Calls.mono (HCK.out _ HU0.out) ?_
  rintro e w2 ⟨rfl, u2⟩
  have HU2 := Lib.hid (Up.trans HU0.out u2)
  clear u2
  go_wp2
  go_ret
  exact ⟨⟨none, 0, rfl, Ints.empty (fun _ => rfl)⟩, HU2.out⟩

/-- a block's name -/
noncomputable def bkN (V H : Int) (P : ByteArray) (JV JH : Int) (JB : ByteArray) (xs : List Ts) (S : ByteArray) : ByteArray := @ite _ (BkMay V H P JV JH JB xs S) (Classical.propDecidable _) (strOfNums (sumB (bkL V H P JV xs).flatten)) ⟨#[]⟩

set_option maxHeartbeats 2000000 in
theorem bkName_ok (V H : Int) (P : ByteArray) (JV JH : Int) (JB : ByteArray) (ja : Option Addr) (jn jc : Nat) (ta : Option Addr) (n tc : Nat) (S : ByteArray) (xs : List Ts) (w : World) (hm : BkMay V H P JV JH JB xs S) (ht : TArg w (.slice ta n tc) xs) :
    Calls Try.prog 6 #[.agg (bkC V H P JV JH JB ja jn jc ta n tc S)] w fun e w' => e = .returned (.string (strOfNums (sumB (bkL V H P JV xs).flatten))) ∧ Up w w' := by
  have HT : Hid (∀ wx, Up w wx → Calls Try.prog 10 #[.agg (bkC V H P JV JH JB ja jn jc ta n tc S)] wx (TextP wx (bkL V H P JV xs).flatten)) := fun wx u => bkText_ok V H P JV JH JB ja jn jc ta n tc S xs wx hm (ht.up u)
  have hlen := bkL_len hm
  have hu8 := bkL_u8s V H P JV xs
  have hpos : 0 < (bkL V H P JV xs).flatten.length := by
    unfold bkL
    rw [List.flatten_cons, List.length_append, bkH_len hm.p]; omega
  generalize (bkL V H P JV xs).flatten = fl at HT hlen hu8 hpos ⊢
  have HL : Hid (∀ (v : Value) wx, Rows8 wx v [fl] → Calls Try.prog 11 #[v] wx fun e w' => e = .returned (.string (strOfNums (sumB fl))) ∧ Up wx w') := fun v wx h => by
    have hff : [fl].flatten = fl := by simp
    have c := long_any v [fl] wx h (by rw [hff]; exact hu8) (by simp) (by rw [hff]; exact Nat.le_trans hlen (by decide))
    rw [hff] at c
    exact c
  have HU0 := Lib.hid (Up.alloc (Up.refl w) (.cells (bkC V H P JV JH JB ja jn jc ta n tc S) 27))
  have HB0 := Lib.hid (heap_alloc_new w (.cells (bkC V H P JV JH JB ja jn jc ta n tc S) 27))
  unfold bkC at HU0 HB0 HT ⊢
  generalize sumB fl = Z at HL ⊢
  have HLN := Lib.hid hlen
  clear hm ht hlen hu8
  go_enter Try.func6, Try.ntmps6
  go_wp2_with (refine wpList_ex rfl (.agg #[.int .i64 V, .int .i64 H, .string P, .int .i64 JV, .int .i64 JH, .string JB, .slice ja jn jc, .slice ta n tc, .string S]) _ (ex_loadrow (x := .tmp 1) rfl rfl _ 27 HB0.out Try.underlying27 rfl info_bk) ?_)
  with_reducible refine Calls.mono (HT.out _ HU0.out) ?_
  rintro e w2 ⟨⟨a2, c2, rfl, h2⟩, u2⟩
  have HU2 := Lib.hid (Up.trans HU0.out u2)
  have HR : Hid (Rows8 (w2.alloc (.cells #[.slice a2 fl.length c2] 37)) (.slice (some ⟨w2.heap.size, 0, none⟩) 1 1) [fl]) := by
    refine ⟨_, 1, rfl, Nat.le_refl _, (fun e => by cases e), .inr ⟨w2.heap.size, 0, rfl, fun j hj => ?_⟩⟩
    have hj0 : j = 0 := by simpa using hj
    subst hj0
    exact ⟨_, cell_of_row _ _ 0 _ _ _ (heap_alloc_new w2 _), h2.up (Up.alloc (Up.refl w2) _)⟩
  have HU3 := Lib.hid (Up.trans HU2.out (Up.alloc (Up.refl w2) (.cells #[.slice a2 fl.length c2] 37)))
  clear u2 h2
  generalize fl.length = k at HR HU3 hpos ⊢
  have hz : ((k : Int) == 0) = false := by rw [beq_eq_false_iff_ne]; omega
  go_wp2_with fail
  with_reducible refine Calls.mono (HL.out _ _ HR.out) ?_
  rintro e w4 ⟨rfl, u4⟩
  have HU4 := Lib.hid (Up.trans HU3.out u4)
  clear u4
  go_wp2
  go_ret
  exact ⟨rfl, HU4.out⟩
theorem bkName_no (V H : Int) (P : ByteArray) (JV JH : Int) (JB : ByteArray) (ja : Option Addr) (jn jc : Nat) (ta : Option Addr) (n tc : Nat) (S : ByteArray) (xs : List Ts) (w : World) (hm : ¬ BkMay V H P JV JH JB xs S) (hsz : n ≤ 9223372036854775807) (ht : TArg w (.slice ta n tc) xs) :
    Calls Try.prog 6 #[.agg (bkC V H P JV JH JB ja jn jc ta n tc S)] w fun e w' => e = .returned (.string ⟨#[]⟩) ∧ Up w w' := by
  have HT : Hid (∀ wx, Up w wx → Calls Try.prog 10 #[.agg (bkC V H P JV JH JB ja jn jc ta n tc S)] wx (TextP wx [])) := fun wx u => bkText_no V H P JV JH JB ja jn jc ta n tc S xs wx hm hsz (ht.up u)
  have HU0 := Lib.hid (Up.alloc (Up.refl w) (.cells (bkC V H P JV JH JB ja jn jc ta n tc S) 27))
  have HB0 := Lib.hid (heap_alloc_new w (.cells (bkC V H P JV JH JB ja jn jc ta n tc S) 27))
  unfold bkC at HU0 HB0 HT ⊢
  clear hm ht hsz
  go_enter Try.func6, Try.ntmps6
  go_wp2_with (refine wpList_ex rfl (.agg #[.int .i64 V, .int .i64 H, .string P, .int .i64 JV, .int .i64 JH, .string JB, .slice ja jn jc, .slice ta n tc, .string S]) _ (ex_loadrow (x := .tmp 1) rfl rfl _ 27 HB0.out Try.underlying27 rfl info_bk) ?_)
  with_reducible refine Calls.mono (HT.out _ HU0.out) ?_
  rintro e w2 ⟨⟨a2, c2, rfl, h2⟩, u2⟩
  have HU2 := Lib.hid (Up.trans HU0.out u2)
  clear u2 h2
  go_wp2
  go_ret
  exact ⟨rfl, HU2.out⟩
end
end Go.Proofs.Ytfenmhddlojahaa
