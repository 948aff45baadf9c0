import Derived.Test.YtgmicppfiapilaaDoorTxEnc
import Derived.Test.YtgmicppfiapilaaDoorTxMake
import Derived.Test.YtgmicppfiapilaaDoorTxValid
import Derived.Test.YtgmicppfiapilaaDoorTxKey
import Derived.Test.YtgmicppfiapilaaDoorRefTx
import Derived.Test.YtgmicppfiapilaaDoorSgRoot
/-
  TxBack: the walk returns true.
-/
namespace Go.Proofs.YtgmicppfiapilaaDoor
set_option maxRecDepth 100000
section
set_option linter.unusedVariables false
open Go.RowKit

theorem key_cells {W : World} {B : Nat} {c0 c1 c2 : Value} {ty : TypeId} {fr : Nat × Nat} (h : W.heap[B]? = some (.cells #[c0, c1, c2] ty fr)) :
    W.cell? ⟨B, 0, none⟩ = some c0 ∧ W.cell? ⟨B, 1, none⟩ = some c1 ∧ W.cell? ⟨B, 2, none⟩ = some c2 :=
  ⟨cell_of_row _ _ 0 _ _ _ h, cell_of_row _ _ 1 _ _ _ h, cell_of_row _ _ 2 _ _ _ h⟩

set_option maxHeartbeats 4000000 in
theorem txBack_none (f t a n : Int) (S : ByteArray) (next : Int) (w : World) (hf : f < 0 ∨ 3 < f) (hn : -9223372036854775808 ≤ next ∧ next ≤ 9223372036854775807) :
    Calls Tryd.prog 3 #[.agg (txC f t a n S), .int .i64 next] w fun e w' => e = .returned (.bool true) ∧ Up w w' := by
  have Hk : Hid (∀ wx, Calls Tryd.prog 5 #[.int .i64 f] wx fun e w' => e = .returned (.agg #[.string ⟨#[]⟩, .slice none 0 0, .int .i64 0]) ∧ Up wx w') := fun wx => txKey_none f wx hf
  unfold txC
  have run : ∀ (hq : f < 0 ∨ ¬ f < 0 ∧ 3 < f), Calls Tryd.prog 3 #[.agg #[.int .i64 f, .int .i64 t, .int .i64 a, .int .i64 n, .string S], .int .i64 next] w fun e w' => e = .returned (.bool true) ∧ Up w w' := by
    intro hq
    clear hf
    rcases hq with h | ⟨h0, h⟩
    all_goals
      go_enter Tryd.func3, Tryd.ntmps3
      go_wp2_with fail
      with_reducible refine Calls.mono (txAlive_any _) ?_
      rintro e w1 ⟨rfl, hU1⟩
      have hb := (hU1.block w.heap.size (by simp)).trans (heap_alloc_new w (.cells #[.int .i64 f, .int .i64 t, .int .i64 a, .int .i64 n, .string S] 23))
      have Hb := Lib.hid hb
      have HU1 := Lib.hid (Up.trans (Up.alloc (Up.refl w) _) hU1)
      obtain ⟨hc0, hc1, hc2, hc3, hc4⟩ := tx_cells hb
      have hfr := frozen_of_row _ _ 4 _ _ hb
      clear hb hU1
      have HTs := Lib.hid (set_field Hb.out 4 (.string ⟨#[]⟩) (cs' := #[.int .i64 f, .int .i64 t, .int .i64 a, .int .i64 n, .string ⟨#[]⟩]) rfl)
      have HUs : Hid (Up w (w1.setCell ⟨w.heap.size, 4, none⟩ (.string ⟨#[]⟩))) := up_at HU1.out (grownBy_setCell w1 ⟨w.heap.size, 4, none⟩ (.string ⟨#[]⟩)) (Nat.le_refl _)
      go_wp2_with fail
      with_reducible refine Calls.mono (Hk.out _) ?_
      rintro e w2 ⟨rfl, hU2⟩
      have hb2 := (hU2.block w.heap.size (lt_of_block HTs.out)).trans HTs.out
      have HU2 := Lib.hid (Up.trans HUs.out hU2)
      clear hc0 hc1 hc2 hc3 hc4 hfr hU2
      obtain ⟨hc0, hc1, hc2, hc3, hc4⟩ := tx_cells (((Up.alloc (Up.refl w2) (.cells #[.string ⟨#[]⟩, .slice none 0 0, .int .i64 0] 27)).block _ (lt_of_block hb2)).trans hb2)
      clear hb2
      go_wp2
      go_ret
      exact ⟨rfl, Up.alloc HU2.out _⟩
  exact run (by omega)

set_option maxHeartbeats 4000000 in
theorem txBack_bad (f t a n : Int) (S : ByteArray) (next : Int) (w : World) (hf : 0 ≤ f ∧ f ≤ 3) (hE : txE f t a n ⟨#[]⟩ ≠ 0) (hn : -9223372036854775808 ≤ next ∧ next ≤ 9223372036854775807) :
    Calls Tryd.prog 3 #[.agg (txC f t a n S), .int .i64 next] w fun e w' => e = .returned (.bool true) ∧ Up w w' := by
  have Hk : Hid (∀ wx, Calls Tryd.prog 5 #[.int .i64 f] wx fun e w' => ∃ g c, e = .returned (.agg #[.string (strOfNums (cliB f)), .slice (some ⟨g, 0, none⟩) 4 c, .int .i64 0]) ∧ Up wx w') := by
    intro wx
    refine (txKey_some f wx hf).mono fun e w' ⟨v, h1, h2, h3⟩ => ?_
    obtain ⟨g, c, rfl, _⟩ := row_slice h2 (by omega)
    exact ⟨g, c, h1, h3⟩
  have HM : Hid (∀ (wx : World) (g c m : Nat), Calls Tryd.prog 6 #[.agg #[.string (strOfNums (cliB f)), .slice (some ⟨g, 0, none⟩) 4 c, .int .i64 m], .agg #[.int .i64 f, .int .i64 t, .int .i64 a, .int .i64 n, .string ⟨#[]⟩]] wx fun e w' => e = .returned (.tuple #[.agg #[.int .i64 0, .int .i64 0, .int .i64 0, .int .i64 0, .string ⟨#[]⟩], .agg #[.string ⟨#[]⟩, .slice none 0 0, .int .i64 0], .int .i64 9]) ∧ Up wx w') :=
    fun wx g c m => txMake_bad _ ⟨_, _, _, rfl, by simp [Value.oneCell']⟩ f t a n ⟨#[]⟩ wx hE
  have HR : Hid (∀ wx, Calls Tryd.prog 7 #[.agg #[.int .i64 f, .int .i64 t, .int .i64 a, .int .i64 n, .string ⟨#[]⟩]] wx fun e w' => e = .returned (.int .i64 9) ∧ Up wx w') := fun wx => by
    have := refTx_any f t a n ⟨#[]⟩ wx
    rw [txE_nine hE] at this
    exact this
  obtain ⟨q, hq⟩ : ∃ q, next.tmod 4 = q := ⟨_, rfl⟩
  have hq1 : -3 ≤ q ∧ q ≤ 3 := by
    have t1 := Int.lt_tmod_of_pos next (show (0 : Int) < 4 by omega)
    have t2 := Int.tmod_lt_of_pos next (show (0 : Int) < 4 by omega)
    omega
  obtain ⟨m, hm⟩ : ∃ m : Nat, (q + 4) % 4 = m := ⟨((q + 4) % 4).toNat, by omega⟩
  have hq0 : 0 ≤ q + 4 := by omega
  have h1 : ¬ f < 0 := by omega
  have h2 : ¬ 3 < f := by omega
  generalize strOfNums (cliB f) = SEED at Hk HM
  unfold txC
  clear hE
  go_enter Tryd.func3, Tryd.ntmps3
  go_wp2_with fail
  with_reducible refine Calls.mono (txAlive_any _) ?_
  rintro e w1 ⟨rfl, hU1⟩
  have hb := (hU1.block w.heap.size (by simp)).trans (heap_alloc_new w (.cells #[.int .i64 f, .int .i64 t, .int .i64 a, .int .i64 n, .string S] 23))
  have Hb := Lib.hid hb
  have HU1 := Lib.hid (Up.trans (Up.alloc (Up.refl w) _) hU1)
  obtain ⟨hc0, hc1, hc2, hc3, hc4⟩ := tx_cells hb
  have hfr := frozen_of_row _ _ 4 _ _ hb
  clear hb hU1
  have HTs := Lib.hid (set_field Hb.out 4 (.string ⟨#[]⟩) (cs' := #[.int .i64 f, .int .i64 t, .int .i64 a, .int .i64 n, .string ⟨#[]⟩]) rfl)
  have HUs : Hid (Up w (w1.setCell ⟨w.heap.size, 4, none⟩ (.string ⟨#[]⟩))) := up_at HU1.out (grownBy_setCell w1 ⟨w.heap.size, 4, none⟩ (.string ⟨#[]⟩)) (Nat.le_refl _)
  go_wp2_with fail
  with_reducible refine Calls.mono (Hk.out _) ?_
  rintro e w2 ⟨g, c, rfl, hU2⟩
  have hb2 := (hU2.block w.heap.size (lt_of_block HTs.out)).trans HTs.out
  have HU2 := Lib.hid (Up.trans HUs.out hU2)
  clear hc0 hc1 hc2 hc3 hc4 hfr hU2
  have hb3 := ((Up.alloc (Up.refl w2) (.cells #[.string SEED, .slice (some ⟨g, 0, none⟩) 4 c, .int .i64 0] 27)).block _ (lt_of_block hb2)).trans hb2
  have hb4 := ((Up.alloc (Up.refl w2) (.cells #[.string SEED, .slice (some ⟨g, 0, none⟩) 4 c, .int .i64 (m : Int)] 27)).block _ (lt_of_block hb2)).trans hb2
  have Hb4 := Lib.hid hb4
  obtain ⟨hc0, hc1, hc2, hc3, hc4⟩ := tx_cells hb3
  obtain ⟨hd0, hd1, hd2, hd3, hd4⟩ := tx_cells hb4
  clear hb2 hb3 hb4
  go_wp2_with fail
  with_reducible refine Calls.mono (HM.out _ _ _ _) ?_
  rintro e w3 ⟨rfl, hU3⟩
  have hb5 := (hU3.block _ (lt_of_block Hb4.out)).trans Hb4.out
  have HU3 := Lib.hid (Up.trans (Up.trans HU2.out (Up.alloc (Up.refl w2) _)) hU3)
  clear hc0 hc1 hc2 hc3 hc4 hd0 hd1 hd2 hd3 hd4 hU3
  have hu6 := Up.alloc (Up.alloc (Up.refl w3) (.cells #[.int .i64 0, .int .i64 0, .int .i64 0, .int .i64 0, .string ⟨#[]⟩] 23)) (.cells #[.string ⟨#[]⟩, .slice none 0 0, .int .i64 0] 27)
  obtain ⟨hc0, hc1, hc2, hc3, hc4⟩ := tx_cells ((hu6.block _ (lt_of_block hb5)).trans hb5)
  have HU6 := Lib.hid (Up.trans HU3.out hu6)
  have H7 := Lib.hid (heap_alloc2_old w3 (.cells #[.int .i64 0, .int .i64 0, .int .i64 0, .int .i64 0, .string ⟨#[]⟩] 23) (.cells #[.string ⟨#[]⟩, .slice none 0 0, .int .i64 0] 27))
  clear hb5 hu6
  go_wp2_with fail
  with_reducible refine Calls.mono (HR.out _) ?_
  rintro e w8 ⟨rfl, hU8⟩
  clear hc0 hc1 hc2 hc3 hc4
  obtain ⟨hc0, hc1, hc2, hc3, hc4⟩ := tx_cells ((hU8.block _ (lt_of_block H7.out)).trans H7.out)
  have HU8 := Lib.hid (Up.trans HU6.out hU8)
  clear hU8
  go_wp2
  go_ret
  exact ⟨rfl, HU8.out⟩

theorem roots_at (fn : Nat) (hf : fn < 4) (RB : List Int) : ((List.replicate 4 ([] : List Int)).set fn RB)[((fn : Nat) : Int).toNat]?.getD [] = RB := by
  rw [Int.toNat_natCast, List.getElem?_set_self (by rw [List.length_replicate]; exact hf)]; rfl
theorem roots_strs (fn : Nat) (hf : fn < 4) (RB : List Int) (W : World) (b : Nat) (hb : W.heap[b]? = some (.cells ((([.string ⟨#[]⟩, .string ⟨#[]⟩, .string ⟨#[]⟩, .string ⟨#[]⟩] : List Value).set fn (.string (strOfNums RB))).toArray) 9 (0, 0))) : Strs W (.slice (some ⟨b, 0, none⟩) 4 4) ((List.replicate 4 []).set fn RB) := by
  refine ⟨some ⟨b, 0, none⟩, 4, by simp, by simp, by simp, .inr ⟨b, 0, rfl, fun j hj => ?_⟩⟩
  have hj4 : j < 4 := by simpa using hj
  rw [Nat.zero_add, cell_of_row _ _ j _ _ _ hb, List.getElem?_toArray]
  by_cases e : j = fn
  · subst e
    rw [List.getElem?_set_self (show j < 4 from hj4), List.getElem?_set_self (show j < 4 from hj4)]
    rfl
  · rw [List.getElem?_set_ne (fun h => e h.symm), List.getElem?_set_ne (fun h => e h.symm)]
    have hcj : j = 0 ∨ j = 1 ∨ j = 2 ∨ j = 3 := by omega
    rcases hcj with rfl | rfl | rfl | rfl <;> rfl

/-- the calls of the good way, with all that they tell -/
structure BackFs (w : World) (fn m : Nat) (t a n : Int) (SEED SIG ROOT : ByteArray) (OCT : List Int) (ls rs : List (List Int)) : Prop where
  key : ∀ wx, Calls Tryd.prog 5 #[.int .i64 (fn : Nat)] wx fun e w' => ∃ g c, e = .returned (.agg #[.string SEED, .slice (some ⟨g, 0, none⟩) 4 c, .int .i64 0]) ∧ Strs w' (.slice (some ⟨g, 0, none⟩) 4 c) ls ∧ Up wx w'
  make : ∀ (wx : World) (g c : Nat), Up w wx → Strs wx (.slice (some ⟨g, 0, none⟩) 4 c) ls → Calls Tryd.prog 6 #[.agg #[.string SEED, .slice (some ⟨g, 0, none⟩) 4 c, .int .i64 m], .agg #[.int .i64 (fn : Nat), .int .i64 t, .int .i64 a, .int .i64 n, .string ⟨#[]⟩]] wx fun e w' => ∃ ra rc, e = .returned (.tuple #[.agg #[.int .i64 (fn : Nat), .int .i64 t, .int .i64 a, .int .i64 n, .string SIG], .agg #[.string SEED, .slice ra 4 rc, .int .i64 ((m : Int) + 1)], .int .i64 0]) ∧ Up wx w'
  may : ∀ wx, Calls Tryd.prog 7 #[.agg #[.int .i64 (fn : Nat), .int .i64 t, .int .i64 a, .int .i64 n, .string ⟨#[]⟩]] wx fun e w' => e = .returned (.int .i64 0) ∧ Up wx w'
  root : ∀ (wx : World) (g c : Nat), Strs wx (.slice (some ⟨g, 0, none⟩) 4 c) ls → Calls Tryd.prog 8 #[.agg #[.string SEED, .slice (some ⟨g, 0, none⟩) 4 c, .int .i64 m]] wx fun e w' => e = .returned (.tuple #[.string ROOT, .int .i64 0]) ∧ Up wx w'
  put : ∀ (wx : World) (g base : Nat), Wr wx base g (.slice none 0 0) 0 [] → base ≤ wx.heap.size → Calls Tryd.prog 10 #[.pointer (some ⟨g, 0, none⟩), .agg #[.int .i64 (fn : Nat), .int .i64 t, .int .i64 a, .int .i64 n, .string SIG]] wx fun e w' => e = .returned (.tuple #[]) ∧ ∃ o', Wr w' base g o' 0 OCT ∧ Below base wx w'
  done : ∀ (wx : World) (g base : Nat) (o : Value), Wr wx base g o 0 OCT → Calls Tryd.prog 11 #[.pointer (some ⟨g, 0, none⟩)] wx fun e w' => ∃ ra rc, e = .returned (.tuple #[.slice ra OCT.length rc, .int .i64 0]) ∧ Ints .u8 w' (.slice ra OCT.length rc) OCT ∧ Up wx w'
  opened : ∀ (wx : World) (v : Value), Ints .u8 wx v OCT → Calls Tryd.prog 13 #[v] wx fun e w' => ∃ g l, e = .returned (.pointer (some ⟨g, 0, none⟩)) ∧ Rd w' g l 0 OCT ∧ Up wx w' ∧ wx.heap.size ≤ g ∧ (∀ k, l.ownBlock = some k → wx.heap.size ≤ k ∧ k < w'.heap.size)
  read : ∀ (wx : World) (g : Nat) (l : Value), Rd wx g l 0 OCT → (∀ k, l.ownBlock = some k → k < wx.heap.size) → Calls Tryd.prog 12 #[.pointer (some ⟨g, 0, none⟩)] wx fun e w' => e = .returned (.agg #[.int .i64 (fn : Nat), .int .i64 t, .int .i64 a, .int .i64 n, .string SIG]) ∧ wx.grownBy w' (some g)
  valid : ∀ (wx : World) (v : Value), Strs wx v rs → Calls Tryd.prog 14 #[.agg #[.int .i64 (fn : Nat), .int .i64 t, .int .i64 a, .int .i64 n, .string SIG], v] wx fun e w' => e = .returned (.bool true) ∧ Up wx w'
  roots : ∀ (W : World) (b : Nat), W.heap[b]? = some (.cells ((([.string ⟨#[]⟩, .string ⟨#[]⟩, .string ⟨#[]⟩, .string ⟨#[]⟩] : List Value).set fn (.string ROOT)).toArray) 9 (0, 0)) → Strs W (.slice (some ⟨b, 0, none⟩) 4 4) rs

set_option maxHeartbeats 4000000 in
theorem backFs (w : World) (fn m : Nat) (t a n : Int) (hT : Tab64 w) (hf : fn < 4) (hm : m < 4) (hE : txE fn t a n ⟨#[]⟩ = 0) :
    ∃ SEED SIG ROOT OCT ls rs, BackFs w fn m t a n SEED SIG ROOT OCT ls rs := by
  have hok := txE_ok hE
  have hcu := cliB_u8s fn ⟨by omega, by omega⟩
  have e4 : (2 : Nat) ^ 2 = 4 := by decide
  have hls : (leavesB (cliB fn) 4).length = 4 := upTo_length _ _
  have hko : ∀ k : Nat, k ≤ 4 → KeyOk (cliB fn) (leavesB (cliB fn) 4) k := fun k hk => by
    have := leaves_ok (cliB fn) 2 (by simp [cliB]) (by omega) k hk
    rwa [e4] at this
  have hfit := leaves_fits (cliB fn) 4
  have hgood := good_sign (cliB fn) m 2 (txT fn t a n) (by omega) hm
  rw [e4] at hgood
  have hkey : ∀ wx, Calls Tryd.prog 5 #[.int .i64 (fn : Nat)] wx fun e w' => ∃ g c, e = .returned (.agg #[.string (strOfNums (cliB fn)), .slice (some ⟨g, 0, none⟩) 4 c, .int .i64 0]) ∧ Strs w' (.slice (some ⟨g, 0, none⟩) 4 c) (leavesB (cliB fn) 4) ∧ Up wx w' := by
    intro wx
    refine (txKey_some fn wx ⟨by omega, by omega⟩).mono fun e w' ⟨v, h1, h2, h3⟩ => ?_
    obtain ⟨g, c, rfl, _⟩ := row_slice h2 (by omega)
    exact ⟨g, c, h1, Strs.of_row h2, h3⟩
  generalize leavesB (cliB fn) 4 = LS at hls hko hfit hgood hkey
  have h8 : All8 LS := (hko 0 (by omega)).eight
  have hsl : (sigB (cliB fn) LS m 2 (txT fn t a n)).length = 106 := sig_length (cliB fn) LS m 2 (txT fn t a n) h8 (hls.trans e4.symm) hm
  have hsu := sig_u8s (cliB fn) LS m 2 (txT fn t a n) hfit
  have hi : I64 fn ∧ I64 t ∧ I64 a ∧ I64 n := by unfold I64; omega
  have hmake : ∀ (wx : World) (g c : Nat), Up w wx → Strs wx (.slice (some ⟨g, 0, none⟩) 4 c) LS → Calls Tryd.prog 6 #[.agg #[.string (strOfNums (cliB fn)), .slice (some ⟨g, 0, none⟩) 4 c, .int .i64 m], .agg #[.int .i64 (fn : Nat), .int .i64 t, .int .i64 a, .int .i64 n, .string ⟨#[]⟩]] wx fun e w' => ∃ ra rc, e = .returned (.tuple #[.agg #[.int .i64 (fn : Nat), .int .i64 t, .int .i64 a, .int .i64 n, .string (strOfNums (sigB (cliB fn) LS m 2 (txT fn t a n)))], .agg #[.string (strOfNums (cliB fn)), .slice ra 4 rc, .int .i64 ((m : Int) + 1)], .int .i64 0]) ∧ Up wx w' := by
    intro wx g c hx hs
    refine (txMake_ok (cliB fn) _ LS m 2 fn t a n ⟨#[]⟩ wx hs (hko m (by omega)) hfit hcu (hls.trans e4.symm) (by omega) (by rw [hls]; exact hm) (hT.up hx) hE).mono fun e w' ⟨r, h1, h2, h3⟩ => ?_
    rw [hls] at h2
    obtain ⟨ra, rc, rfl⟩ := row_shape h2
    exact ⟨ra, rc, h1, h3⟩
  have hroot : ∀ (wx : World) (g c : Nat), Strs wx (.slice (some ⟨g, 0, none⟩) 4 c) LS → Calls Tryd.prog 8 #[.agg #[.string (strOfNums (cliB fn)), .slice (some ⟨g, 0, none⟩) 4 c, .int .i64 m]] wx fun e w' => e = .returned (.tuple #[.string (strOfNums (rootB LS)), .int .i64 0]) ∧ Up wx w' := fun wx g c hs => sgRoot_ok (cliB fn) _ LS m wx hs (hko m (by omega)) hfit
  generalize rootB LS = RB at hroot hgood
  generalize sigB (cliB fn) LS m 2 (txT fn t a n) = SG at hsl hsu hgood hmake
  have hgood : GoodSig (strOfNums RB) 2 (txT fn t a n) SG := hgood
  generalize strOfNums (cliB fn) = SEED at hkey hmake hroot
  have hEs : txE fn t a n (strOfNums SG) = 0 := txE_ok_iff.2 ⟨hok.1, hok.2.1, by rw [strOfNums_size, hsl]; omega⟩
  clear hko hcu hm hT hls hfit h8
  refine ⟨SEED, strOfNums SG, strOfNums RB, txO fn t a n SG, LS, (List.replicate 4 []).set fn RB, hkey, hmake, ?_, hroot, ?_, ?_, ?_, ?_, ?_, ?_⟩
  · intro wx
    have := refTx_any fn t a n ⟨#[]⟩ wx
    rw [hE] at this
    exact this
  · intro wx g base hw hb
    refine (txPut_any base g _ 0 [] fn t a n _ wx hw hi.1 hi.2.1 hi.2.2.1 hi.2.2.2 hsu (by rw [hsl]; omega) (by simp) hb).mono fun e w' ⟨h1, o', h2, h3⟩ => ?_
    rw [put_ok [] fn t a n _ hEs (by simp), List.nil_append] at h2
    exact ⟨h1, o', h2, hw.below h3 hb⟩
  · intro wx g base o hw
    have hol : (txO fn t a n SG).length ≤ 16384 := by rw [txO_length, hsl]; omega
    have := wdone_any base g o 0 _ wx hw (by omega)
    rw [show doneE 0 (txO fn t a n SG) = 0 from by unfold doneE; rw [if_neg (by simp), if_neg (by omega)], show doneB 0 (txO fn t a n SG) = txO fn t a n SG from by unfold doneB; rw [if_neg (by omega)]] at this
    refine this.mono fun e w' ⟨r, h1, h2, h3⟩ => ?_
    obtain ⟨ra, rc, rfl⟩ := row_shape h2
    exact ⟨ra, rc, h1, Ints.of_row h2, h3⟩
  · intro wx v hv
    exact open_reader v _ wx hv (by rw [txO_length, hsl]; omega)
  · intro wx g l hr hl
    have := txRead_any g l 0 _ wx hr (fun h => absurd rfl h) (txO_u8s _ _ _ _ _ hsu) hl
    have h2 := (read_ok fn t a n _ [] hEs).1
    rw [List.append_nil] at h2
    rw [h2] at this
    exact this.mono fun e w' ⟨h3, _, _, h4, _⟩ => ⟨h3, h4⟩
  · intro wx v hs
    refine (txValid_any fn t a n _ v _ wx hs hsu (by rw [hsl]; omega) (by simp)).mono fun e w' ⟨b, h1, h2, _, h4⟩ => ?_
    have hg : TxGood fn t a n SG ((List.replicate 4 []).set fn RB) := by
      refine ⟨hEs, by rw [Int.toNat_natCast, List.length_set, List.length_replicate]; exact hf, ?_⟩
      rw [roots_at fn hf RB]
      exact hgood
    rw [h1, h2 hg]
    exact ⟨rfl, h4⟩
  · exact fun W b hb => roots_strs fn hf RB W b hb

set_option maxHeartbeats 8000000 in
theorem txBack_good (fn m : Nat) (t a n : Int) (S SEED SIG ROOT : ByteArray) (OCT : List Int) (ls rs : List (List Int)) (next q : Int) (w : World) (hF : BackFs w fn m t a n SEED SIG ROOT OCT ls rs) (hfn : fn < 4) (hq : next.tmod 4 = q) (hq0 : 0 ≤ q + 4) (hm : (q + 4) % 4 = m) (hm4 : m < 4) (hn : -9223372036854775808 ≤ next ∧ next ≤ 9223372036854775807) (hq3 : q ≤ 3) :
    Calls Tryd.prog 3 #[.agg (txC fn t a n S), .int .i64 next] w fun e w' => e = .returned (.bool true) ∧ Up w w' := by
  have HF := Lib.hid hF
  have Hfn := Lib.hid hfn
  have h1 : ¬ (fn : Int) < 0 := by omega
  have h2 : ¬ (3 : Int) < (fn : Int) := by omega
  have hfn4 : (fn : Int) < 4 := by omega
  clear hF
  unfold txC
  go_enter Tryd.func3, Tryd.ntmps3
  go_wp2_with fail
  with_reducible refine Calls.mono (txAlive_any _) ?_
  rintro e w1 ⟨rfl, hU1⟩
  have hb := (hU1.block w.heap.size (by simp)).trans (heap_alloc_new w (.cells #[.int .i64 (fn : Nat), .int .i64 t, .int .i64 a, .int .i64 n, .string S] 23))
  have Hb := Lib.hid hb
  have HU1 := Lib.hid (Up.trans (Up.alloc (Up.refl w) _) hU1)
  obtain ⟨hc0, hc1, hc2, hc3, hc4⟩ := tx_cells hb
  have hfr := frozen_of_row _ _ 4 _ _ hb
  clear hb hU1
  have HTs := Lib.hid (set_field Hb.out 4 (.string ⟨#[]⟩) (cs' := #[.int .i64 (fn : Nat), .int .i64 t, .int .i64 a, .int .i64 n, .string ⟨#[]⟩]) rfl)
  have HUs : Hid (Up w (w1.setCell ⟨w.heap.size, 4, none⟩ (.string ⟨#[]⟩))) := up_at HU1.out (grownBy_setCell w1 ⟨w.heap.size, 4, none⟩ (.string ⟨#[]⟩)) (Nat.le_refl _)
  go_wp2_with fail
  with_reducible refine Calls.mono (HF.out.key _) ?_
  rintro e w2 ⟨g, c, rfl, hs2, hU2⟩
  have hb2 := (hU2.block w.heap.size (lt_of_block HTs.out)).trans HTs.out
  have HS2 := Lib.hid hs2
  have HU2 := Lib.hid (Up.trans HUs.out hU2)
  clear hc0 hc1 hc2 hc3 hc4 hfr hU2 hs2
  have huA := Up.alloc (Up.refl w2) (.cells #[.string SEED, .slice (some ⟨g, 0, none⟩) 4 c, .int .i64 (m : Int)] 27)
  have HuA := Lib.hid huA
  have hb3 := ((Up.alloc (Up.refl w2) (.cells #[.string SEED, .slice (some ⟨g, 0, none⟩) 4 c, .int .i64 0] 27)).block _ (lt_of_block hb2)).trans hb2
  have hb4 := (huA.block _ (lt_of_block hb2)).trans hb2
  have HTA := Lib.hid hb4
  have HKA := Lib.hid (heap_alloc_new w2 (.cells #[.string SEED, .slice (some ⟨g, 0, none⟩) 4 c, .int .i64 (m : Int)] 27))
  obtain ⟨hc0, hc1, hc2, hc3, hc4⟩ := tx_cells hb3
  obtain ⟨hd0, hd1, hd2, hd3, hd4⟩ := tx_cells hb4
  clear hb2 hb3 hb4 huA
  go_wp2_with fail
  with_reducible refine Calls.mono (HF.out.make _ g c (Up.trans HU2.out HuA.out) (HS2.out.up HuA.out)) ?_
  rintro e w3 ⟨ra, rc, rfl, hU3⟩
  have HUA3 := Lib.hid (Up.trans HuA.out hU3)
  clear hc0 hc1 hc2 hc3 hc4 hd0 hd1 hd2 hd3 hd4
  have hT3 := (hU3.block _ (lt_of_block HTA.out)).trans HTA.out
  have hK3 := (hU3.block _ (lt_of_block HKA.out)).trans HKA.out
  have huB := Up.alloc (Up.alloc (Up.refl w3) (.cells #[.int .i64 (fn : Nat), .int .i64 t, .int .i64 a, .int .i64 n, .string SIG] 23)) (.cells #[.string SEED, .slice ra 4 rc, .int .i64 ((m : Int) + 1)] 27)
  have HTB := Lib.hid ((huB.block _ (lt_of_block hT3)).trans hT3)
  have HKB := Lib.hid ((huB.block _ (lt_of_block hK3)).trans hK3)
  have HSB := Lib.hid (HS2.out.up (Up.trans HUA3.out huB))
  have HUB := Lib.hid (Up.trans HU2.out (Up.trans HUA3.out huB))
  have HDB := Lib.hid (heap_alloc2_old w3 (.cells #[.int .i64 (fn : Nat), .int .i64 t, .int .i64 a, .int .i64 n, .string SIG] 23) (.cells #[.string SEED, .slice ra 4 rc, .int .i64 ((m : Int) + 1)] 27))
  have HQB := Lib.hid (heap_alloc2_new w3 (.cells #[.int .i64 (fn : Nat), .int .i64 t, .int .i64 a, .int .i64 n, .string SIG] 23) (.cells #[.string SEED, .slice ra 4 rc, .int .i64 ((m : Int) + 1)] 27))
  obtain ⟨hc0, hc1, hc2, hc3, hc4⟩ := tx_cells HTB.out
  clear hT3 hK3 huB hU3
  go_wp2_with fail
  with_reducible refine Calls.mono (HF.out.may _) ?_
  rintro e w4 ⟨rfl, hU4⟩
  have HT4 := Lib.hid ((hU4.block _ (lt_of_block HTB.out)).trans HTB.out)
  have HK4 := Lib.hid ((hU4.block _ (lt_of_block HKB.out)).trans HKB.out)
  have HD4 := Lib.hid ((hU4.block _ (lt_of_block HDB.out)).trans HDB.out)
  have HQ4 := Lib.hid ((hU4.block _ (lt_of_block HQB.out)).trans HQB.out)
  have HS4 := Lib.hid (HSB.out.up hU4)
  have HU4 := Lib.hid (Up.trans HUB.out hU4)
  clear hc0 hc1 hc2 hc3 hc4 hU4
  obtain ⟨hk0, hk1, hk2⟩ := key_cells HK4.out
  generalize hA : w.heap.size = A at HT4
  generalize hK : w2.heap.size = K at HK4 hk0 hk1 hk2 ⊢
  generalize hD : w3.heap.size = D at HD4 HQ4 ⊢
  go_wp2_with fail
  with_reducible refine Calls.mono (HF.out.root _ g c HS4.out) ?_
  rintro e w5 ⟨rfl, hU5⟩
  clear hk0 hk1 hk2
  have huR := Up.alloc (Up.refl w5) (.cells #[.string ⟨#[]⟩, .string ⟨#[]⟩, .string ⟨#[]⟩, .string ⟨#[]⟩] 9)
  have huR4 := Up.trans hU5 huR
  have HTR := Lib.hid ((huR4.block _ (lt_of_block HT4.out)).trans HT4.out)
  have HKR := Lib.hid ((huR4.block _ (lt_of_block HK4.out)).trans HK4.out)
  have HDR := Lib.hid ((huR4.block _ (lt_of_block HD4.out)).trans HD4.out)
  have HQR := Lib.hid ((huR4.block _ (lt_of_block HQ4.out)).trans HQ4.out)
  have HUR := Lib.hid (Up.trans HU4.out huR4)
  have HRR := Lib.hid (heap_alloc_new w5 (.cells #[.string ⟨#[]⟩, .string ⟨#[]⟩, .string ⟨#[]⟩, .string ⟨#[]⟩] 9))
  obtain ⟨hc0, hc1, hc2, hc3, hc4⟩ := tx_cells HTR.out
  have hfrR := frozen_of_row _ _ fn _ _ HRR.out
  have hcR : (w5.alloc (.cells #[.string ⟨#[]⟩, .string ⟨#[]⟩, .string ⟨#[]⟩, .string ⟨#[]⟩] 9)).cell? ⟨w5.heap.size, fn, none⟩ = some (.string ⟨#[]⟩) := by
    rw [cell_of_row _ _ fn _ _ _ HRR.out]
    have hcj : fn = 0 ∨ fn = 1 ∨ fn = 2 ∨ fn = 3 := by omega
    rcases hcj with rfl | rfl | rfl | rfl <;> rfl
  clear huR huR4
  subst hA
  have huR2 : Up w5 (w5.alloc (.cells ((([.string ⟨#[]⟩, .string ⟨#[]⟩, .string ⟨#[]⟩, .string ⟨#[]⟩] : List Value).set fn (.string ROOT)).toArray) 9)) := Up.alloc (Up.refl w5) _
  have HRS := Lib.hid (heap_alloc_new w5 (.cells ((([.string ⟨#[]⟩, .string ⟨#[]⟩, .string ⟨#[]⟩, .string ⟨#[]⟩] : List Value).set fn (.string ROOT)).toArray) 9))
  have hu42 := Up.trans hU5 huR2
  have HTr := Lib.hid ((hu42.block _ (lt_of_block HT4.out)).trans HT4.out)
  have HKr := Lib.hid ((hu42.block _ (lt_of_block HK4.out)).trans HK4.out)
  have HDr := Lib.hid ((hu42.block _ (lt_of_block HD4.out)).trans HD4.out)
  have HQr := Lib.hid ((hu42.block _ (lt_of_block HQ4.out)).trans HQ4.out)
  have HUr := Lib.hid (Up.trans HU4.out hu42)
  clear hu42 huR2 hU5
  go_wp2_with fail
  clear hc0 hc1 hc2 hc3 hc4 hfrR hcR
  clear HTR HKR HDR HQR HUR HRR
  generalize hwR : w5.alloc (.cells ((([.string ⟨#[]⟩, .string ⟨#[]⟩, .string ⟨#[]⟩, .string ⟨#[]⟩] : List Value).set fn (.string ROOT)).toArray) 9) = wR at HTr HKr HDr HQr HUr HRS ⊢
  clear hwR
  generalize w5.heap.size = R at HRS ⊢
  with_reducible refine Calls.mono (new_any _) ?_
  rintro e wN ⟨rfl, rfl⟩
  have huN := Up.alloc (Up.refl wR) (.cells #[.bool true, .slice none 0 0, .int .i64 0] 55)
  have Hwr := Lib.hid (wr_new wR)
  have hDN := (huN.block _ (lt_of_block HDr.out)).trans HDr.out
  obtain ⟨hd0, hd1, hd2, hd3, hd4⟩ := tx_cells hDN
  have HuN := Lib.hid huN
  clear huN hDN
  go_wp2_with fail
  with_reducible refine Calls.mono (HF.out.put _ _ _ Hwr.out (by simp)) ?_
  rintro e w6 ⟨rfl, o6, hw6, hb6⟩
  have Hw6 := Lib.hid hw6
  have HR6 : Hid (Up wR w6) := Lib.hid (Below.trans HuN.out hb6)
  clear hw6 hb6 hd0 hd1 hd2 hd3 hd4
  generalize wR.heap.size = G at Hw6 ⊢
  go_wp2_with fail
  with_reducible refine Calls.mono (HF.out.done _ _ _ _ Hw6.out) ?_
  rintro e w7 ⟨xa, xc, rfl, hi7, hU7⟩
  have HI7 := Lib.hid hi7
  have HR7 := Lib.hid (Up.trans HR6.out hU7)
  clear hi7 hU7
  go_wp2_with fail
  with_reducible refine Calls.mono (HF.out.opened _ _ HI7.out) ?_
  rintro e w8 ⟨g8, l8, rfl, hr8, hU8, hg8, hl8⟩
  have Hr8 := Lib.hid hr8
  have HR8 := Lib.hid (Up.trans HR7.out hU8)
  have Hl8 := Lib.hid (fun k hk => (hl8 k hk).2)
  have Hg8 := Lib.hid (Nat.le_trans HR7.out.size hg8)
  clear hr8 hU8 hl8 hg8
  go_wp2_with fail
  with_reducible refine Calls.mono (HF.out.read _ _ _ Hr8.out Hl8.out) ?_
  rintro e w9 ⟨rfl, hg9⟩
  have HR9 := Lib.hid (up_at HR8.out hg9 Hg8.out)
  clear hg9
  have hu9 := Up.trans HR9.out (Up.alloc (Up.refl w9) (.cells #[.int .i64 (fn : Nat), .int .i64 t, .int .i64 a, .int .i64 n, .string SIG] 23))
  have hD9 := (hu9.block _ (lt_of_block HDr.out)).trans HDr.out
  obtain ⟨hd0, hd1, hd2, hd3, hd4⟩ := tx_cells hD9
  have huz := Up.trans hu9 (Up.alloc (Up.refl _) (.cells #[.int .i64 (fn : Nat), .int .i64 t, .int .i64 a, .int .i64 n, .string ⟨#[]⟩] 23))
  have HUz := Lib.hid huz
  have HDz := Lib.hid ((huz.block _ (lt_of_block HDr.out)).trans HDr.out)
  have HKz := Lib.hid ((huz.block _ (lt_of_block HKr.out)).trans HKr.out)
  have HQz := Lib.hid ((huz.block _ (lt_of_block HQr.out)).trans HQr.out)
  have HTz := Lib.hid ((huz.block _ (lt_of_block HTr.out)).trans HTr.out)
  have HRz := Lib.hid ((huz.block _ (lt_of_block HRS.out)).trans HRS.out)
  clear hu9 hD9 huz
  obtain ⟨he0, he1, he2, he3, he4⟩ := tx_cells HDz.out
  obtain ⟨ht0, ht1, ht2, ht3, ht4⟩ := tx_cells HTz.out
  have HVz := Lib.hid (heap_alloc2_old w9 (.cells #[.int .i64 (fn : Nat), .int .i64 t, .int .i64 a, .int .i64 n, .string SIG] 23) (.cells #[.int .i64 (fn : Nat), .int .i64 t, .int .i64 a, .int .i64 n, .string ⟨#[]⟩] 23))
  go_wp2_with fail
  with_reducible refine Calls.mono (HF.out.valid _ _ (HF.out.roots _ _ HRz.out)) ?_
  rintro e wv ⟨rfl, hUv⟩
  clear hd0 hd1 hd2 hd3 hd4 he0 he1 he2 he3 he4 ht0 ht1 ht2 ht3 ht4
  obtain ⟨hd0, hd1, hd2, hd3, hd4⟩ := tx_cells ((hUv.block _ (lt_of_block HDz.out)).trans HDz.out)
  obtain ⟨he0, he1, he2, he3, he4⟩ := tx_cells ((hUv.block _ (lt_of_block HVz.out)).trans HVz.out)
  obtain ⟨hk0, hk1, hk2⟩ := key_cells ((hUv.block _ (lt_of_block HKz.out)).trans HKz.out)
  obtain ⟨hq0', hq1', hq2'⟩ := key_cells ((hUv.block _ (lt_of_block HQz.out)).trans HQz.out)
  have HUv := Lib.hid (Up.trans HUr.out (Up.trans HUz.out hUv))
  clear hUv
  go_wp2
  go_ret
  exact ⟨rfl, HUv.out⟩

theorem lawTxBack_any (f t a n : Int) (S : ByteArray) (next : Int) (w : World) (hT : Tab64 w) (hn : -9223372036854775808 ≤ next ∧ next ≤ 9223372036854775807) :
    Calls Tryd.prog 3 #[.agg (txC f t a n S), .int .i64 next] w fun e w' => e = .returned (.bool true) ∧ Below w.heap.size w w' := by
  by_cases hf : f < 0 ∨ 3 < f
  · exact txBack_none f t a n S next w hf hn
  · by_cases hE : txE f t a n ⟨#[]⟩ = 0
    · obtain ⟨fn, rfl⟩ : ∃ fn : Nat, f = fn := ⟨f.toNat, by omega⟩
      obtain ⟨q, hq⟩ : ∃ q, next.tmod 4 = q := ⟨_, rfl⟩
      have hq1 : -3 ≤ q ∧ q ≤ 3 := by
        have t1 := Int.lt_tmod_of_pos next (show (0 : Int) < 4 by omega)
        have t2 := Int.tmod_lt_of_pos next (show (0 : Int) < 4 by omega)
        omega
      obtain ⟨m, hm⟩ : ∃ m : Nat, (q + 4) % 4 = m := ⟨((q + 4) % 4).toNat, by omega⟩
      obtain ⟨_, _, _, _, _, _, hF⟩ := backFs w fn m t a n hT (by omega) (by omega) hE
      exact txBack_good fn m t a n S _ _ _ _ _ _ next q w hF (by omega) hq (by omega) hm (by omega) hn hq1.2
    · exact txBack_bad f t a n S next w ⟨by omega, by omega⟩ hE hn
end
end Go.Proofs.YtgmicppfiapilaaDoor
