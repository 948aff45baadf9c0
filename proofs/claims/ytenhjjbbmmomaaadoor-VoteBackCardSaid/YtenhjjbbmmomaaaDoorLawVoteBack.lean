import Derived.Test.YtenhjjbbmmomaaaDoorVtRead
import Derived.Test.YtenhjjbbmmomaaaDoorVtMake
import Derived.Test.YtenhjjbbmmomaaaDoorRefVt
import Derived.Test.YtenhjjbbmmomaaaDoorSgSign
/-
  VoteBack: the walk returns true.
-/
namespace Go.Proofs.YtenhjjbbmmomaaaDoor
set_option maxRecDepth 100000
section
set_option linter.unusedVariables false
open Go.RowKit

theorem vt_same (x y : Operand) (K V H : Int) (BS : ByteArray) (T G : Int) (S : ByteArray) (w : World) : (do eqGuard .eql 23 x y (.agg #[.int .i64 K, .int .i64 V, .int .i64 H, .string BS, .int .i64 T, .int .i64 G, .string S]) (.agg #[.int .i64 K, .int .i64 V, .int .i64 H, .string BS, .int .i64 T, .int .i64 G, .string S]); binOp .eql 23 (.agg #[.int .i64 K, .int .i64 V, .int .i64 H, .string BS, .int .i64 T, .int .i64 G, .string S]) (.agg #[.int .i64 K, .int .i64 V, .int .i64 H, .string BS, .int .i64 T, .int .i64 G, .string S]) : Sem Value).run Tryd.prog w = .ok (.bool true) w := by
  simp [eqGuard, go_sem]
theorem vt_add (x y : Operand) (m : Nat) (hm : m ≤ 1000) (w : World) : (do eqGuard .add 3 x y (.int .i64 m) (.int .i64 1); binOp .add 3 (.int .i64 m) (.int .i64 1) : Sem Value).run Tryd.prog w = .ok (.int .i64 ((m : Int) + 1)) w := by
  simp [eqGuard, go_sem]
  rw [IntKind.wrap_i64]
  omega

set_option maxHeartbeats 4000000 in
theorem vtBack_none (K V H : Int) (BL : List Int) (T G : Int) (S : ByteArray) (next : Int) (w : World) (hf : G < 0 ∨ 6 < G) (hn : -9223372036854775808 ≤ next ∧ next ≤ 9223372036854775807) :
    Calls Tryd.prog 3 #[.agg (vtC ⟨K, V, H, BL, T, G⟩ S), .int .i64 next] w fun e w' => e = .returned (.bool true) ∧ Up w w' := by
  have Hk : Hid (∀ wx, Calls Tryd.prog 5 #[.int .i64 G] wx fun e w' => e = .returned (.agg #[.string ⟨#[]⟩, .slice none 0 0, .int .i64 0]) ∧ Up wx w') := fun wx => vtKey_none G wx hf
  unfold vtC
  simp only
  generalize strOfNums BL = BS
  have run : ∀ (hq : G < 0 ∨ ¬ G < 0 ∧ 6 < G), Calls Tryd.prog 3 #[.agg #[.int .i64 K, .int .i64 V, .int .i64 H, .string BS, .int .i64 T, .int .i64 G, .string S], .int .i64 next] w fun e w' => e = .returned (.bool true) ∧ Up w w' := by
    intro hq
    clear hf
    rcases hq with h | ⟨h0, h⟩
    all_goals
      go_enter Tryd.func3, Tryd.ntmps3
      go_wp2_with fail
      with_reducible refine Calls.mono (vtAlive_any _) ?_
      rintro e w1 ⟨rfl, hU1⟩
      have hb := (hU1.block w.heap.size (by simp)).trans (heap_alloc_new w (.cells #[.int .i64 K, .int .i64 V, .int .i64 H, .string BS, .int .i64 T, .int .i64 G, .string S] 23))
      have Hb := Lib.hid hb
      have HU1 := Lib.hid (Up.trans (Up.alloc (Up.refl w) _) hU1)
      obtain ⟨hc0, hc1, hc2, hc3, hc4, hc5, hc6⟩ := vt_cells hb
      have hfr := frozen_of_row _ _ 6 _ _ hb
      clear hb hU1
      have HTs := Lib.hid (set_field Hb.out 6 (.string ⟨#[]⟩) (cs' := #[.int .i64 K, .int .i64 V, .int .i64 H, .string BS, .int .i64 T, .int .i64 G, .string ⟨#[]⟩]) rfl)
      have HUs : Hid (Up w (w1.setCell ⟨w.heap.size, 6, none⟩ (.string ⟨#[]⟩))) := up_at HU1.out (grownBy_setCell w1 ⟨w.heap.size, 6, none⟩ (.string ⟨#[]⟩)) (Nat.le_refl _)
      go_wp2_with fail
      with_reducible refine Calls.mono (Hk.out _) ?_
      rintro e w2 ⟨rfl, hU2⟩
      have hb2 := (hU2.block w.heap.size (lt_of_block HTs.out)).trans HTs.out
      have HU2 := Lib.hid (Up.trans HUs.out hU2)
      clear hc0 hc1 hc2 hc3 hc4 hc5 hc6 hfr hU2
      obtain ⟨hc0, hc1, hc2, hc3, hc4, hc5, hc6⟩ := vt_cells (((Up.alloc (Up.refl w2) (.cells #[.string ⟨#[]⟩, .slice none 0 0, .int .i64 0] 27)).block _ (lt_of_block hb2)).trans hb2)
      clear hb2
      go_wp2
      go_ret
      exact ⟨rfl, Up.alloc HU2.out _⟩
  exact run (by omega)

set_option maxHeartbeats 4000000 in
theorem vtBack_bad (K V H : Int) (BL : List Int) (T G : Int) (S : ByteArray) (next : Int) (w : World) (hf : 0 ≤ G ∧ G ≤ 6) (hE : vtE ⟨K, V, H, BL, T, G⟩ ⟨#[]⟩ ≠ 0) (hn : -9223372036854775808 ≤ next ∧ next ≤ 9223372036854775807) :
    Calls Tryd.prog 3 #[.agg (vtC ⟨K, V, H, BL, T, G⟩ S), .int .i64 next] w fun e w' => e = .returned (.bool true) ∧ Up w w' := by
  have Hk : Hid (∀ wx, Calls Tryd.prog 5 #[.int .i64 G] wx fun e w' => ∃ g c, e = .returned (.agg #[.string (strOfNums (repB G)), .slice (some ⟨g, 0, none⟩) 16 c, .int .i64 0]) ∧ Up wx w') := by
    intro wx
    refine (vtKey_some G wx hf).mono fun e w' ⟨v, h1, h2, h3⟩ => ?_
    obtain ⟨g, c, rfl, _⟩ := row_slice h2 (by omega)
    exact ⟨g, c, h1, h3⟩
  have HM : Hid (∀ (wx : World) (g c m : Nat), Calls Tryd.prog 6 #[.agg #[.string (strOfNums (repB G)), .slice (some ⟨g, 0, none⟩) 16 c, .int .i64 m], .agg #[.int .i64 K, .int .i64 V, .int .i64 H, .string (strOfNums BL), .int .i64 T, .int .i64 G, .string ⟨#[]⟩]] wx fun e w' => e = .returned (.tuple #[.agg #[.int .i64 0, .int .i64 0, .int .i64 0, .string ⟨#[]⟩, .int .i64 0, .int .i64 0, .string ⟨#[]⟩], .agg #[.string ⟨#[]⟩, .slice none 0 0, .int .i64 0], .int .i64 9]) ∧ Up wx w') :=
    fun wx g c m => vtSign_bad _ ⟨_, _, _, rfl, by simp [Value.oneCell']⟩ ⟨K, V, H, BL, T, G⟩ ⟨#[]⟩ wx hE
  have HR : Hid (∀ wx, Calls Tryd.prog 7 #[.agg #[.int .i64 K, .int .i64 V, .int .i64 H, .string (strOfNums BL), .int .i64 T, .int .i64 G, .string ⟨#[]⟩]] wx fun e w' => e = .returned (.int .i64 9) ∧ Up wx w') := fun wx => by
    have := refVt_any ⟨K, V, H, BL, T, G⟩ ⟨#[]⟩ wx
    rw [vtE_nine hE] at this
    exact this
  obtain ⟨q, hq⟩ : ∃ q, next.tmod 16 = q := ⟨_, rfl⟩
  have hq1 : -15 ≤ q ∧ q ≤ 15 := by
    have t1 := Int.lt_tmod_of_pos next (show (0 : Int) < 16 by omega)
    have t2 := Int.tmod_lt_of_pos next (show (0 : Int) < 16 by omega)
    omega
  obtain ⟨m, hm⟩ : ∃ m : Nat, (q + 16) % 16 = m := ⟨((q + 16) % 16).toNat, by omega⟩
  have hq0 : 0 ≤ q + 16 := by omega
  have h1 : ¬ G < 0 := by omega
  have h2 : ¬ 6 < G := by omega
  generalize strOfNums (repB G) = SEED at Hk HM
  unfold vtC
  simp only at HM HR ⊢
  generalize strOfNums BL = BS at HM HR ⊢
  clear hE
  go_enter Tryd.func3, Tryd.ntmps3
  go_wp2_with fail
  with_reducible refine Calls.mono (vtAlive_any _) ?_
  rintro e w1 ⟨rfl, hU1⟩
  have hb := (hU1.block w.heap.size (by simp)).trans (heap_alloc_new w (.cells #[.int .i64 K, .int .i64 V, .int .i64 H, .string BS, .int .i64 T, .int .i64 G, .string S] 23))
  have Hb := Lib.hid hb
  have HU1 := Lib.hid (Up.trans (Up.alloc (Up.refl w) _) hU1)
  obtain ⟨hc0, hc1, hc2, hc3, hc4, hc5, hc6⟩ := vt_cells hb
  have hfr := frozen_of_row _ _ 6 _ _ hb
  clear hb hU1
  have HTs := Lib.hid (set_field Hb.out 6 (.string ⟨#[]⟩) (cs' := #[.int .i64 K, .int .i64 V, .int .i64 H, .string BS, .int .i64 T, .int .i64 G, .string ⟨#[]⟩]) rfl)
  have HUs : Hid (Up w (w1.setCell ⟨w.heap.size, 6, none⟩ (.string ⟨#[]⟩))) := up_at HU1.out (grownBy_setCell w1 ⟨w.heap.size, 6, none⟩ (.string ⟨#[]⟩)) (Nat.le_refl _)
  go_wp2_with fail
  with_reducible refine Calls.mono (Hk.out _) ?_
  rintro e w2 ⟨g, c, rfl, hU2⟩
  have hb2 := (hU2.block w.heap.size (lt_of_block HTs.out)).trans HTs.out
  have HU2 := Lib.hid (Up.trans HUs.out hU2)
  clear hc0 hc1 hc2 hc3 hc4 hc5 hc6 hfr hU2
  have hb3 := ((Up.alloc (Up.refl w2) (.cells #[.string SEED, .slice (some ⟨g, 0, none⟩) 16 c, .int .i64 0] 27)).block _ (lt_of_block hb2)).trans hb2
  have hb4 := ((Up.alloc (Up.refl w2) (.cells #[.string SEED, .slice (some ⟨g, 0, none⟩) 16 c, .int .i64 (m : Int)] 27)).block _ (lt_of_block hb2)).trans hb2
  have Hb4 := Lib.hid hb4
  obtain ⟨hc0, hc1, hc2, hc3, hc4, hc5, hc6⟩ := vt_cells hb3
  obtain ⟨hd0, hd1, hd2, hd3, hd4, hd5, hd6⟩ := vt_cells hb4
  clear hb2 hb3 hb4
  go_wp2_with fail
  with_reducible refine Calls.mono (HM.out _ _ _ _) ?_
  rintro e w3 ⟨rfl, hU3⟩
  have hb5 := (hU3.block _ (lt_of_block Hb4.out)).trans Hb4.out
  have HU3 := Lib.hid (Up.trans (Up.trans HU2.out (Up.alloc (Up.refl w2) _)) hU3)
  clear hc0 hc1 hc2 hc3 hc4 hc5 hc6 hd0 hd1 hd2 hd3 hd4 hd5 hd6 hU3
  have hu6 := Up.alloc (Up.alloc (Up.refl w3) (.cells #[.int .i64 0, .int .i64 0, .int .i64 0, .string ⟨#[]⟩, .int .i64 0, .int .i64 0, .string ⟨#[]⟩] 23)) (.cells #[.string ⟨#[]⟩, .slice none 0 0, .int .i64 0] 27)
  obtain ⟨hc0, hc1, hc2, hc3, hc4, hc5, hc6⟩ := vt_cells ((hu6.block _ (lt_of_block hb5)).trans hb5)
  have HU6 := Lib.hid (Up.trans HU3.out hu6)
  have H7 := Lib.hid (heap_alloc2_old w3 (.cells #[.int .i64 0, .int .i64 0, .int .i64 0, .string ⟨#[]⟩, .int .i64 0, .int .i64 0, .string ⟨#[]⟩] 23) (.cells #[.string ⟨#[]⟩, .slice none 0 0, .int .i64 0] 27))
  clear hb5 hu6
  go_wp2_with fail
  with_reducible refine Calls.mono (HR.out _) ?_
  rintro e w8 ⟨rfl, hU8⟩
  clear hc0 hc1 hc2 hc3 hc4 hc5 hc6
  obtain ⟨hc0, hc1, hc2, hc3, hc4, hc5, hc6⟩ := vt_cells ((hU8.block _ (lt_of_block H7.out)).trans H7.out)
  have HU8 := Lib.hid (Up.trans HU6.out hU8)
  clear hU8
  go_wp2
  go_ret
  exact ⟨rfl, HU8.out⟩

theorem roots7_at (fn : Nat) (hf : fn < 7) (RB : List Int) : ((List.replicate 7 ([] : List Int)).set fn RB)[((fn : Nat) : Int).toNat]?.getD [] = RB := by
  rw [Int.toNat_natCast, List.getElem?_set_self (by rw [List.length_replicate]; exact hf)]; rfl
theorem roots7_strs (fn : Nat) (hf : fn < 7) (RB : List Int) (W : World) (b : Nat) (hb : W.heap[b]? = some (.cells ((([.string ⟨#[]⟩, .string ⟨#[]⟩, .string ⟨#[]⟩, .string ⟨#[]⟩, .string ⟨#[]⟩, .string ⟨#[]⟩, .string ⟨#[]⟩] : List Value).set fn (.string (strOfNums RB))).toArray) 9 (0, 0))) : Strs W (.slice (some ⟨b, 0, none⟩) 7 7) ((List.replicate 7 []).set fn RB) := by
  refine ⟨some ⟨b, 0, none⟩, 7, by simp, by simp, by simp, .inr ⟨b, 0, rfl, fun j hj => ?_⟩⟩
  have hj4 : j < 7 := by simpa using hj
  rw [Nat.zero_add, cell_of_row _ _ j _ _ _ hb, List.getElem?_toArray]
  by_cases e : j = fn
  · subst e
    rw [List.getElem?_set_self (show j < 7 from hj4), List.getElem?_set_self (show j < 7 from hj4)]
    rfl
  · rw [List.getElem?_set_ne (fun h => e h.symm), List.getElem?_set_ne (fun h => e h.symm)]
    have hcj : j = 0 ∨ j = 1 ∨ j = 2 ∨ j = 3 ∨ j = 4 ∨ j = 5 ∨ j = 6 := by omega
    rcases hcj with rfl | rfl | rfl | rfl | rfl | rfl | rfl <;> rfl

/-- the calls of the good way, with all that they tell -/
structure VBackFs (w : World) (fn m : Nat) (K V H : Int) (BS : ByteArray) (T : Int) (SEED SIG ROOT : ByteArray) (OCT : List Int) (ls rs : List (List Int)) : Prop where
  key : ∀ wx, Calls Tryd.prog 5 #[.int .i64 (fn : Nat)] wx fun e w' => ∃ g c, e = .returned (.agg #[.string SEED, .slice (some ⟨g, 0, none⟩) 16 c, .int .i64 0]) ∧ Strs w' (.slice (some ⟨g, 0, none⟩) 16 c) ls ∧ Up wx w'
  make : ∀ (wx : World) (g c : Nat), Up w wx → Strs wx (.slice (some ⟨g, 0, none⟩) 16 c) ls → Calls Tryd.prog 6 #[.agg #[.string SEED, .slice (some ⟨g, 0, none⟩) 16 c, .int .i64 m], .agg #[.int .i64 K, .int .i64 V, .int .i64 H, .string BS, .int .i64 T, .int .i64 (fn : Nat), .string ⟨#[]⟩]] wx fun e w' => ∃ ra rc, e = .returned (.tuple #[.agg #[.int .i64 K, .int .i64 V, .int .i64 H, .string BS, .int .i64 T, .int .i64 (fn : Nat), .string SIG], .agg #[.string SEED, .slice ra 16 rc, .int .i64 ((m : Int) + 1)], .int .i64 0]) ∧ Up wx w'
  may : ∀ wx, Calls Tryd.prog 7 #[.agg #[.int .i64 K, .int .i64 V, .int .i64 H, .string BS, .int .i64 T, .int .i64 (fn : Nat), .string ⟨#[]⟩]] wx fun e w' => e = .returned (.int .i64 0) ∧ Up wx w'
  root : ∀ (wx : World) (g c : Nat), Strs wx (.slice (some ⟨g, 0, none⟩) 16 c) ls → Calls Tryd.prog 8 #[.agg #[.string SEED, .slice (some ⟨g, 0, none⟩) 16 c, .int .i64 m]] wx fun e w' => e = .returned (.tuple #[.string ROOT, .int .i64 0]) ∧ Up wx w'
  put : ∀ (wx : World) (g base : Nat), Wr wx base g (.slice none 0 0) 0 [] → base ≤ wx.heap.size → Calls Tryd.prog 10 #[.pointer (some ⟨g, 0, none⟩), .agg #[.int .i64 K, .int .i64 V, .int .i64 H, .string BS, .int .i64 T, .int .i64 (fn : Nat), .string SIG]] wx fun e w' => e = .returned (.tuple #[]) ∧ ∃ o', Wr w' base g o' 0 OCT ∧ Below base wx w'
  done : ∀ (wx : World) (g base : Nat) (o : Value), Wr wx base g o 0 OCT → Calls Tryd.prog 11 #[.pointer (some ⟨g, 0, none⟩)] wx fun e w' => ∃ ra rc, e = .returned (.tuple #[.slice ra OCT.length rc, .int .i64 0]) ∧ Ints .u8 w' (.slice ra OCT.length rc) OCT ∧ Up wx w'
  opened : ∀ (wx : World) (v : Value), Ints .u8 wx v OCT → Calls Tryd.prog 14 #[v] wx fun e w' => ∃ g l, e = .returned (.pointer (some ⟨g, 0, none⟩)) ∧ Rd w' g l 0 OCT ∧ Up wx w' ∧ wx.heap.size ≤ g ∧ (∀ k, l.ownBlock = some k → wx.heap.size ≤ k ∧ k < w'.heap.size)
  read : ∀ (wx : World) (g : Nat) (l : Value), Rd wx g l 0 OCT → (∀ k, l.ownBlock = some k → k < wx.heap.size) → Calls Tryd.prog 13 #[.pointer (some ⟨g, 0, none⟩)] wx fun e w' => e = .returned (.agg #[.int .i64 K, .int .i64 V, .int .i64 H, .string BS, .int .i64 T, .int .i64 (fn : Nat), .string SIG]) ∧ wx.grownBy w' (some g)
  valid : ∀ (wx : World) (v : Value), Strs wx v rs → Calls Tryd.prog 12 #[.agg #[.int .i64 K, .int .i64 V, .int .i64 H, .string BS, .int .i64 T, .int .i64 (fn : Nat), .string SIG], v] wx fun e w' => e = .returned (.bool true) ∧ Up wx w'
  roots : ∀ (W : World) (b : Nat), W.heap[b]? = some (.cells ((([.string ⟨#[]⟩, .string ⟨#[]⟩, .string ⟨#[]⟩, .string ⟨#[]⟩, .string ⟨#[]⟩, .string ⟨#[]⟩, .string ⟨#[]⟩] : List Value).set fn (.string ROOT)).toArray) 9 (0, 0)) → Strs W (.slice (some ⟨b, 0, none⟩) 7 7) rs

set_option maxHeartbeats 4000000 in
theorem vbackFs (w : World) (fn m : Nat) (K V H : Int) (BL : List Int) (T : Int) (hT : Tab64 w) (hf : fn < 7) (hm : m < 16) (hbl : U8s BL) (hE : vtE ⟨K, V, H, BL, T, (fn : Nat)⟩ ⟨#[]⟩ = 0) :
    ∃ SEED SIG ROOT OCT ls rs, VBackFs w fn m K V H (strOfNums BL) T SEED SIG ROOT OCT ls rs := by
  have hok := vtE_ok hE
  have hcu := repB_u8s fn ⟨by omega, by omega⟩
  have e4 : (2 : Nat) ^ 4 = 16 := by decide
  have hls : (leavesB (repB fn) 16).length = 16 := upTo_length _ _
  have hko : ∀ k : Nat, k ≤ 16 → KeyOk (repB fn) (leavesB (repB fn) 16) k := fun k hk => by
    have := leaves_ok (repB fn) 4 (by simp [repB]) (by omega) k hk
    rwa [e4] at this
  have hfit := leaves_fits (repB fn) 16
  have hgood := good_sign (repB fn) m 4 (vtT ⟨K, V, H, BL, T, (fn : Nat)⟩) (by omega) hm
  rw [e4] at hgood
  have hkey : ∀ wx, Calls Tryd.prog 5 #[.int .i64 (fn : Nat)] wx fun e w' => ∃ g c, e = .returned (.agg #[.string (strOfNums (repB fn)), .slice (some ⟨g, 0, none⟩) 16 c, .int .i64 0]) ∧ Strs w' (.slice (some ⟨g, 0, none⟩) 16 c) (leavesB (repB fn) 16) ∧ Up wx w' := by
    intro wx
    refine (vtKey_some fn wx ⟨by omega, by omega⟩).mono fun e w' ⟨v, h1, h2, h3⟩ => ?_
    obtain ⟨g, c, rfl, _⟩ := row_slice h2 (by omega)
    exact ⟨g, c, h1, Strs.of_row h2, h3⟩
  generalize leavesB (repB fn) 16 = LS at hls hko hfit hgood hkey
  have h8 : All8 LS := (hko 0 (by omega)).eight
  have hsl : (sigB (repB fn) LS m 4 (vtT ⟨K, V, H, BL, T, (fn : Nat)⟩)).length = 122 := sig_length (repB fn) LS m 4 (vtT ⟨K, V, H, BL, T, (fn : Nat)⟩) h8 (hls.trans e4.symm) hm
  have hsu := sig_u8s (repB fn) LS m 4 (vtT ⟨K, V, H, BL, T, (fn : Nat)⟩) hfit
  have hi : VtFit ⟨K, V, H, BL, T, (fn : Nat)⟩ := (vtMay_ok hok.1).fit hbl
  have hmake : ∀ (wx : World) (g c : Nat), Up w wx → Strs wx (.slice (some ⟨g, 0, none⟩) 16 c) LS → Calls Tryd.prog 6 #[.agg #[.string (strOfNums (repB fn)), .slice (some ⟨g, 0, none⟩) 16 c, .int .i64 m], .agg #[.int .i64 K, .int .i64 V, .int .i64 H, .string (strOfNums BL), .int .i64 T, .int .i64 (fn : Nat), .string ⟨#[]⟩]] wx fun e w' => ∃ ra rc, e = .returned (.tuple #[.agg #[.int .i64 K, .int .i64 V, .int .i64 H, .string (strOfNums BL), .int .i64 T, .int .i64 (fn : Nat), .string (strOfNums (sigB (repB fn) LS m 4 (vtT ⟨K, V, H, BL, T, (fn : Nat)⟩)))], .agg #[.string (strOfNums (repB fn)), .slice ra 16 rc, .int .i64 ((m : Int) + 1)], .int .i64 0]) ∧ Up wx w' := by
    intro wx g c hx hs
    refine (vtSign_ok (repB fn) _ LS m 4 ⟨K, V, H, BL, T, (fn : Nat)⟩ ⟨#[]⟩ wx hs (hko m (by omega)) hfit hcu (hls.trans e4.symm) (by omega) (by rw [hls]; exact hm) (hT.up hx) hbl hE).mono fun e w' ⟨r, h1, h2, h3⟩ => ?_
    rw [hls] at h2
    obtain ⟨ra, rc, rfl⟩ := row_shape h2
    exact ⟨ra, rc, h1, h3⟩
  have hroot : ∀ (wx : World) (g c : Nat), Strs wx (.slice (some ⟨g, 0, none⟩) 16 c) LS → Calls Tryd.prog 8 #[.agg #[.string (strOfNums (repB fn)), .slice (some ⟨g, 0, none⟩) 16 c, .int .i64 m]] wx fun e w' => e = .returned (.tuple #[.string (strOfNums (rootB LS)), .int .i64 0]) ∧ Up wx w' := fun wx g c hs => sgRoot_ok (repB fn) _ LS m wx hs (hko m (by omega)) hfit
  generalize rootB LS = RB at hroot hgood
  generalize sigB (repB fn) LS m 4 (vtT ⟨K, V, H, BL, T, (fn : Nat)⟩) = SG at hsl hsu hgood hmake
  have hgood : GoodSig (strOfNums RB) 4 (vtT ⟨K, V, H, BL, T, (fn : Nat)⟩) SG := hgood
  generalize strOfNums (repB fn) = SEED at hkey hmake hroot
  have hEs : vtE ⟨K, V, H, BL, T, (fn : Nat)⟩ (strOfNums SG) = 0 := vtE_ok_iff.2 ⟨hok.1, by rw [strOfNums_size, hsl]; omega⟩
  have hBl := (vtMay_ok hok.1).bl
  have hOl : (vtO ⟨K, V, H, BL, T, (fn : Nat)⟩ SG).length ≤ 16384 := by rw [vtO_length, hsl]; simp only at hBl ⊢; omega
  clear hko hcu hm hT hls hfit h8
  refine ⟨SEED, strOfNums SG, strOfNums RB, vtO ⟨K, V, H, BL, T, (fn : Nat)⟩ SG, LS, (List.replicate 7 []).set fn RB, hkey, hmake, ?_, hroot, ?_, ?_, ?_, ?_, ?_, ?_⟩
  · intro wx
    have := refVt_any ⟨K, V, H, BL, T, (fn : Nat)⟩ ⟨#[]⟩ wx
    rw [hE] at this
    exact this
  · intro wx g base hw hb
    refine (vtPut_any base g _ 0 [] ⟨K, V, H, BL, T, (fn : Nat)⟩ _ wx hw hi hsu (by rw [hsl]; omega) (by simp) hb).mono fun e w' ⟨h1, o', h2, h3⟩ => ?_
    rw [vtPut_ok [] ⟨K, V, H, BL, T, (fn : Nat)⟩ _ hEs (by simp), List.nil_append] at h2
    exact ⟨h1, o', h2, hw.below h3 hb⟩
  · intro wx g base o hw
    have hol := hOl
    have := wdone_any base g o 0 _ wx hw (by omega)
    rw [show doneE 0 (vtO ⟨K, V, H, BL, T, (fn : Nat)⟩ SG) = 0 from by unfold doneE; rw [if_neg (by simp), if_neg (by omega)], show doneB 0 (vtO ⟨K, V, H, BL, T, (fn : Nat)⟩ SG) = vtO ⟨K, V, H, BL, T, (fn : Nat)⟩ SG from by unfold doneB; rw [if_neg (by omega)]] at this
    refine this.mono fun e w' ⟨r, h1, h2, h3⟩ => ?_
    obtain ⟨ra, rc, rfl⟩ := row_shape h2
    exact ⟨ra, rc, h1, Ints.of_row h2, h3⟩
  · intro wx v hv
    exact open_reader v _ wx hv (by omega)
  · intro wx g l hr hl
    have := vtRead_any g l 0 _ wx hr (fun h => absurd rfl h) (vtO_u8s _ _ hbl hsu) hl
    have h2 := (vtRead_ok ⟨K, V, H, BL, T, (fn : Nat)⟩ _ [] hEs).1
    rw [List.append_nil] at h2
    rw [h2] at this
    exact this.mono fun e w' ⟨h3, _, _, h4, _⟩ => ⟨h3, h4⟩
  · intro wx v hs
    refine (vtValid_any ⟨K, V, H, BL, T, (fn : Nat)⟩ _ v _ wx hs hbl hsu (by rw [hsl]; omega) (by simp)).mono fun e w' ⟨b, h1, h2, _, h4⟩ => ?_
    have hg : VtGood ⟨K, V, H, BL, T, (fn : Nat)⟩ SG ((List.replicate 7 []).set fn RB) := by
      refine ⟨hEs, by rw [Int.toNat_natCast, List.length_set, List.length_replicate]; exact hf, ?_⟩
      rw [roots7_at fn hf RB]
      exact hgood
    rw [h1, h2 hg]
    exact ⟨rfl, h4⟩
  · exact fun W b hb => roots7_strs fn hf RB W b hb

set_option maxHeartbeats 8000000 in
theorem vtBack_good (fn m : Nat) (K V H : Int) (BL : List Int) (T : Int) (S SEED SIG ROOT : ByteArray) (OCT : List Int) (ls rs : List (List Int)) (next q : Int) (w : World) (hF : VBackFs w fn m K V H (strOfNums BL) T SEED SIG ROOT OCT ls rs) (hfn : fn < 7) (hq : next.tmod 16 = q) (hq0 : 0 ≤ q + 16) (hm : (q + 16) % 16 = m) (hm4 : m < 16) (hn : -9223372036854775808 ≤ next ∧ next ≤ 9223372036854775807) (hq3 : q ≤ 15) :
    Calls Tryd.prog 3 #[.agg (vtC ⟨K, V, H, BL, T, (fn : Nat)⟩ S), .int .i64 next] w fun e w' => e = .returned (.bool true) ∧ Up w w' := by
  have HF := Lib.hid hF
  have Hfn := Lib.hid hfn
  have Hm : Hid (m ≤ 1000) := Lib.hid (by omega)
  have h1 : ¬ (fn : Int) < 0 := by omega
  have h2 : ¬ (6 : Int) < (fn : Int) := by omega
  have hfn4 : (fn : Int) < 7 := by omega
  clear hF
  unfold vtC
  simp only
  generalize strOfNums BL = BS at HF ⊢
  go_enter Tryd.func3, Tryd.ntmps3
  go_wp2_with fail
  with_reducible refine Calls.mono (vtAlive_any _) ?_
  rintro e w1 ⟨rfl, hU1⟩
  have hb := (hU1.block w.heap.size (by simp)).trans (heap_alloc_new w (.cells #[.int .i64 K, .int .i64 V, .int .i64 H, .string BS, .int .i64 T, .int .i64 (fn : Nat), .string S] 23))
  have Hb := Lib.hid hb
  have HU1 := Lib.hid (Up.trans (Up.alloc (Up.refl w) _) hU1)
  obtain ⟨hc0, hc1, hc2, hc3, hc4, hc5, hc6⟩ := vt_cells hb
  have hfr := frozen_of_row _ _ 6 _ _ hb
  clear hb hU1
  have HTs := Lib.hid (set_field Hb.out 6 (.string ⟨#[]⟩) (cs' := #[.int .i64 K, .int .i64 V, .int .i64 H, .string BS, .int .i64 T, .int .i64 (fn : Nat), .string ⟨#[]⟩]) rfl)
  have HUs : Hid (Up w (w1.setCell ⟨w.heap.size, 6, none⟩ (.string ⟨#[]⟩))) := up_at HU1.out (grownBy_setCell w1 ⟨w.heap.size, 6, none⟩ (.string ⟨#[]⟩)) (Nat.le_refl _)
  go_wp2_with fail
  with_reducible refine Calls.mono (HF.out.key _) ?_
  rintro e w2 ⟨g, c, rfl, hs2, hU2⟩
  have hb2 := (hU2.block w.heap.size (lt_of_block HTs.out)).trans HTs.out
  have HS2 := Lib.hid hs2
  have HU2 := Lib.hid (Up.trans HUs.out hU2)
  clear hc0 hc1 hc2 hc3 hc4 hc5 hc6 hfr hU2 hs2
  have huA := Up.alloc (Up.refl w2) (.cells #[.string SEED, .slice (some ⟨g, 0, none⟩) 16 c, .int .i64 (m : Int)] 27)
  have HuA := Lib.hid huA
  have hb3 := ((Up.alloc (Up.refl w2) (.cells #[.string SEED, .slice (some ⟨g, 0, none⟩) 16 c, .int .i64 0] 27)).block _ (lt_of_block hb2)).trans hb2
  have hb4 := (huA.block _ (lt_of_block hb2)).trans hb2
  have HTA := Lib.hid hb4
  have HKA := Lib.hid (heap_alloc_new w2 (.cells #[.string SEED, .slice (some ⟨g, 0, none⟩) 16 c, .int .i64 (m : Int)] 27))
  obtain ⟨hc0, hc1, hc2, hc3, hc4, hc5, hc6⟩ := vt_cells hb3
  obtain ⟨hd0, hd1, hd2, hd3, hd4, hd5, hd6⟩ := vt_cells hb4
  clear hb2 hb3 hb4 huA
  go_wp2_with fail
  with_reducible refine Calls.mono (HF.out.make _ g c (Up.trans HU2.out HuA.out) (HS2.out.up HuA.out)) ?_
  rintro e w3 ⟨ra, rc, rfl, hU3⟩
  have HUA3 := Lib.hid (Up.trans HuA.out hU3)
  clear hc0 hc1 hc2 hc3 hc4 hc5 hc6 hd0 hd1 hd2 hd3 hd4 hd5 hd6
  have hT3 := (hU3.block _ (lt_of_block HTA.out)).trans HTA.out
  have hK3 := (hU3.block _ (lt_of_block HKA.out)).trans HKA.out
  have huB := Up.alloc (Up.alloc (Up.refl w3) (.cells #[.int .i64 K, .int .i64 V, .int .i64 H, .string BS, .int .i64 T, .int .i64 (fn : Nat), .string SIG] 23)) (.cells #[.string SEED, .slice ra 16 rc, .int .i64 ((m : Int) + 1)] 27)
  have HTB := Lib.hid ((huB.block _ (lt_of_block hT3)).trans hT3)
  have HKB := Lib.hid ((huB.block _ (lt_of_block hK3)).trans hK3)
  have HSB := Lib.hid (HS2.out.up (Up.trans HUA3.out huB))
  have HUB := Lib.hid (Up.trans HU2.out (Up.trans HUA3.out huB))
  have HDB := Lib.hid (heap_alloc2_old w3 (.cells #[.int .i64 K, .int .i64 V, .int .i64 H, .string BS, .int .i64 T, .int .i64 (fn : Nat), .string SIG] 23) (.cells #[.string SEED, .slice ra 16 rc, .int .i64 ((m : Int) + 1)] 27))
  have HQB := Lib.hid (heap_alloc2_new w3 (.cells #[.int .i64 K, .int .i64 V, .int .i64 H, .string BS, .int .i64 T, .int .i64 (fn : Nat), .string SIG] 23) (.cells #[.string SEED, .slice ra 16 rc, .int .i64 ((m : Int) + 1)] 27))
  obtain ⟨hc0, hc1, hc2, hc3, hc4, hc5, hc6⟩ := vt_cells HTB.out
  clear hT3 hK3 huB hU3
  go_wp2_with fail
  with_reducible refine Calls.mono (HF.out.may _) ?_
  rintro e w4 ⟨rfl, hU4⟩
  have HT4 := Lib.hid ((hU4.block _ (lt_of_block HTB.out)).trans HTB.out)
  have HK4 := Lib.hid ((hU4.block _ (lt_of_block HKB.out)).trans HKB.out)
  have HD4 := Lib.hid ((hU4.block _ (lt_of_block HDB.out)).trans HDB.out)
  have HQ4 := Lib.hid ((hU4.block _ (lt_of_block HQB.out)).trans HQB.out)
  have HS4 := Lib.hid (HSB.out.up hU4)
  have HU4 := Lib.hid (Up.trans HUB.out hU4)
  clear hc0 hc1 hc2 hc3 hc4 hc5 hc6 hU4
  obtain ⟨hk0, hk1, hk2⟩ := key_cells HK4.out
  generalize hA : w.heap.size = A at HT4
  generalize hK : w2.heap.size = KB at HK4 hk0 hk1 hk2 ⊢
  generalize hD : w3.heap.size = DB at HD4 HQ4 ⊢
  go_wp2_with fail
  with_reducible refine Calls.mono (HF.out.root _ g c HS4.out) ?_
  rintro e w5 ⟨rfl, hU5⟩
  clear hk0 hk1 hk2
  have huR := Up.alloc (Up.refl w5) (.cells #[.string ⟨#[]⟩, .string ⟨#[]⟩, .string ⟨#[]⟩, .string ⟨#[]⟩, .string ⟨#[]⟩, .string ⟨#[]⟩, .string ⟨#[]⟩] 9)
  have huR4 := Up.trans hU5 huR
  have HTR := Lib.hid ((huR4.block _ (lt_of_block HT4.out)).trans HT4.out)
  have HKR := Lib.hid ((huR4.block _ (lt_of_block HK4.out)).trans HK4.out)
  have HDR := Lib.hid ((huR4.block _ (lt_of_block HD4.out)).trans HD4.out)
  have HQR := Lib.hid ((huR4.block _ (lt_of_block HQ4.out)).trans HQ4.out)
  have HUR := Lib.hid (Up.trans HU4.out huR4)
  have HRR := Lib.hid (heap_alloc_new w5 (.cells #[.string ⟨#[]⟩, .string ⟨#[]⟩, .string ⟨#[]⟩, .string ⟨#[]⟩, .string ⟨#[]⟩, .string ⟨#[]⟩, .string ⟨#[]⟩] 9))
  obtain ⟨hc0, hc1, hc2, hc3, hc4, hc5, hc6⟩ := vt_cells HTR.out
  have hfrR := frozen_of_row _ _ fn _ _ HRR.out
  have hcR : (w5.alloc (.cells #[.string ⟨#[]⟩, .string ⟨#[]⟩, .string ⟨#[]⟩, .string ⟨#[]⟩, .string ⟨#[]⟩, .string ⟨#[]⟩, .string ⟨#[]⟩] 9)).cell? ⟨w5.heap.size, fn, none⟩ = some (.string ⟨#[]⟩) := by
    rw [cell_of_row _ _ fn _ _ _ HRR.out]
    have hcj : fn = 0 ∨ fn = 1 ∨ fn = 2 ∨ fn = 3 ∨ fn = 4 ∨ fn = 5 ∨ fn = 6 := by omega
    rcases hcj with rfl | rfl | rfl | rfl | rfl | rfl | rfl <;> rfl
  clear huR huR4
  subst hA
  have huR2 : Up w5 (w5.alloc (.cells ((([.string ⟨#[]⟩, .string ⟨#[]⟩, .string ⟨#[]⟩, .string ⟨#[]⟩, .string ⟨#[]⟩, .string ⟨#[]⟩, .string ⟨#[]⟩] : List Value).set fn (.string ROOT)).toArray) 9)) := Up.alloc (Up.refl w5) _
  have HRS := Lib.hid (heap_alloc_new w5 (.cells ((([.string ⟨#[]⟩, .string ⟨#[]⟩, .string ⟨#[]⟩, .string ⟨#[]⟩, .string ⟨#[]⟩, .string ⟨#[]⟩, .string ⟨#[]⟩] : List Value).set fn (.string ROOT)).toArray) 9))
  have hu42 := Up.trans hU5 huR2
  have HTr := Lib.hid ((hu42.block _ (lt_of_block HT4.out)).trans HT4.out)
  have HKr := Lib.hid ((hu42.block _ (lt_of_block HK4.out)).trans HK4.out)
  have HDr := Lib.hid ((hu42.block _ (lt_of_block HD4.out)).trans HD4.out)
  have HQr := Lib.hid ((hu42.block _ (lt_of_block HQ4.out)).trans HQ4.out)
  have HUr := Lib.hid (Up.trans HU4.out hu42)
  clear hu42 huR2 hU5
  go_wp2_with fail
  clear hc0 hc1 hc2 hc3 hc4 hc5 hc6 hfrR hcR
  clear HTR HKR HDR HQR HUR HRR
  generalize hwR : w5.alloc (.cells ((([.string ⟨#[]⟩, .string ⟨#[]⟩, .string ⟨#[]⟩, .string ⟨#[]⟩, .string ⟨#[]⟩, .string ⟨#[]⟩, .string ⟨#[]⟩] : List Value).set fn (.string ROOT)).toArray) 9) = wR at HTr HKr HDr HQr HUr HRS ⊢
  clear hwR
  generalize w5.heap.size = RB at HRS ⊢
  with_reducible refine Calls.mono (new_any _) ?_
  rintro e wN ⟨rfl, rfl⟩
  have huN := Up.alloc (Up.refl wR) (.cells #[.bool true, .slice none 0 0, .int .i64 0] 56)
  have Hwr := Lib.hid (wr_new wR)
  have hDN := (huN.block _ (lt_of_block HDr.out)).trans HDr.out
  obtain ⟨hd0, hd1, hd2, hd3, hd4, hd5, hd6⟩ := vt_cells hDN
  have HuN := Lib.hid huN
  clear huN hDN
  go_wp2_with fail
  with_reducible refine Calls.mono (HF.out.put _ _ _ Hwr.out (by simp)) ?_
  rintro e w6 ⟨rfl, o6, hw6, hb6⟩
  have Hw6 := Lib.hid hw6
  have HR6 : Hid (Up wR w6) := Lib.hid (Below.trans HuN.out hb6)
  clear hw6 hb6 hd0 hd1 hd2 hd3 hd4 hd5 hd6
  generalize wR.heap.size = GB at Hw6 ⊢
  go_wp2_with fail
  with_reducible refine Calls.mono (HF.out.done _ _ _ _ Hw6.out) ?_
  rintro e w7 ⟨xa, xc, rfl, hi7, hU7⟩
  have HI7 := Lib.hid hi7
  have HR7 := Lib.hid (Up.trans HR6.out hU7)
  clear hi7 hU7
  have hD7 := (HR7.out.block _ (lt_of_block HDr.out)).trans HDr.out
  obtain ⟨hd0, hd1, hd2, hd3, hd4, hd5, hd6⟩ := vt_cells hD7
  have huz := Up.trans HR7.out (Up.alloc (Up.refl w7) (.cells #[.int .i64 K, .int .i64 V, .int .i64 H, .string BS, .int .i64 T, .int .i64 (fn : Nat), .string ⟨#[]⟩] 23))
  have HUz := Lib.hid huz
  have HDz := Lib.hid ((huz.block _ (lt_of_block HDr.out)).trans HDr.out)
  have HKz := Lib.hid ((huz.block _ (lt_of_block HKr.out)).trans HKr.out)
  have HQz := Lib.hid ((huz.block _ (lt_of_block HQr.out)).trans HQr.out)
  have HTz := Lib.hid ((huz.block _ (lt_of_block HTr.out)).trans HTr.out)
  have HRz := Lib.hid ((huz.block _ (lt_of_block HRS.out)).trans HRS.out)
  have HIz := Lib.hid (HI7.out.up (Up.alloc (Up.refl w7) (.cells #[.int .i64 K, .int .i64 V, .int .i64 H, .string BS, .int .i64 T, .int .i64 (fn : Nat), .string ⟨#[]⟩] 23)))
  have HVz := Lib.hid (heap_alloc_new w7 (.cells #[.int .i64 K, .int .i64 V, .int .i64 H, .string BS, .int .i64 T, .int .i64 (fn : Nat), .string ⟨#[]⟩] 23))
  clear hD7 huz
  go_wp2
  clear hd0 hd1 hd2 hd3 hd4 hd5 hd6
  generalize w.heap.size = AB at HTz ⊢
  generalize w7.heap.size = B7 at HVz ⊢
  generalize w7.alloc (.cells #[.int .i64 K, .int .i64 V, .int .i64 H, .string BS, .int .i64 T, .int .i64 (fn : Nat), .string ⟨#[]⟩] 23) = wz at HUz HDz HKz HQz HTz HRz HIz HVz ⊢
  refine region_alongK (fun x => Up wz x) (.read 0 (.read 1 (.read 2 (.read 3 (.read 4 (.read 5 (.read 6 (.read 7 (.read 8 (.read 9 (.read 10 (.read 11 (.read 12 (.read 13 (.read 14 (.read 15 (.read 16 (.read 17 (.step 18 (.read 19 (.read 20 (.read 21 (.read 24 (.step 22 (.step 23 (.read 25 (.read 26 (.read 27 (.read 28 (.read 29 (.read 30 (.read 31 (.read 32 (.read 33 (.read 34 (.read 35 (.nil))))))))))))))))))))))))))))))))))))) (by kernel_rfl) rfl (by kernel_rfl) (by kernel_rfl) (fun c a d v w h => by cases d <;> exact h) (Up.drew1 wz) ?_
  refine alongK_read (.int .i64 0) rfl rfl (fun wx hS => ex_move (by rfl) (by rfl) wx) ?_
  change AlongK _ _ _ _ _ { tmps := #[.agg #[.int .i64 K, .int .i64 V, .int .i64 H, .string BS, .int .i64 T, .int .i64 (fn : Nat), .string S], .int .i64 next, .pointer (some ⟨AB, 0, none⟩), _, .bool false, .pointer (some ⟨KB, 0, none⟩), .pointer (some ⟨DB, 0, none⟩), .pointer (some ⟨DB + 1, 0, none⟩), .int .i64 0, .string ROOT, .int .i64 0, .slice (some ⟨RB, 0, none⟩) 7 7, _, .slice xa OCT.length xc, .int .i64 0, .pointer (some ⟨B7, 0, none⟩), _, _, _, _, _, _, _, _, _, _, _, _, _, _, _, _, _, _, _, _, _, _, _, _, _, _, _, _, _, _, _, _, _, _, _, _, _, _, _, _, _, _, _, _, _, _, _, _, _, _, _, _, _, _, _, _, _, _, _, _, _, _, .int .i64 0, _, _, _, _, _, _, _, _, _, _, _, _, _, _, _, _, _, _, _, _, _, _, _, _, _, _, _, _, _, _, _, _, _, _], defers := _ } _
  refine alongK_read (.bool true) rfl rfl (fun wx hS => ex_eqi rfl (by rfl) (by rfl) (by simp) wx) ?_
  change AlongK _ _ _ _ _ { tmps := #[.agg #[.int .i64 K, .int .i64 V, .int .i64 H, .string BS, .int .i64 T, .int .i64 (fn : Nat), .string S], .int .i64 next, .pointer (some ⟨AB, 0, none⟩), _, .bool false, .pointer (some ⟨KB, 0, none⟩), .pointer (some ⟨DB, 0, none⟩), .pointer (some ⟨DB + 1, 0, none⟩), .int .i64 0, .string ROOT, .int .i64 0, .slice (some ⟨RB, 0, none⟩) 7 7, _, .slice xa OCT.length xc, .int .i64 0, .pointer (some ⟨B7, 0, none⟩), _, _, _, _, _, _, _, _, _, _, _, _, _, _, _, _, _, _, _, _, _, _, _, _, _, _, _, _, _, _, _, _, _, _, _, _, _, _, _, _, _, _, _, _, _, _, _, _, _, _, _, _, _, _, _, _, _, _, _, _, _, _, .int .i64 0, .bool true, _, _, _, _, _, _, _, _, _, _, _, _, _, _, _, _, _, _, _, _, _, _, _, _, _, _, _, _, _, _, _, _, _], defers := _ } _
  refine alongK_read (.bool true) rfl rfl (fun wx hS => ex_move (by rfl) (by rfl) wx) ?_
  change AlongK _ _ _ _ _ { tmps := #[.agg #[.int .i64 K, .int .i64 V, .int .i64 H, .string BS, .int .i64 T, .int .i64 (fn : Nat), .string S], .int .i64 next, .pointer (some ⟨AB, 0, none⟩), _, .bool false, .pointer (some ⟨KB, 0, none⟩), .pointer (some ⟨DB, 0, none⟩), .pointer (some ⟨DB + 1, 0, none⟩), .int .i64 0, .string ROOT, .int .i64 0, .slice (some ⟨RB, 0, none⟩) 7 7, _, .slice xa OCT.length xc, .int .i64 0, .pointer (some ⟨B7, 0, none⟩), _, _, _, _, _, _, _, _, _, _, _, _, _, _, _, _, _, _, _, _, _, _, _, _, _, _, _, _, _, _, _, _, _, _, _, _, _, _, _, _, _, _, _, _, _, _, _, _, _, _, _, _, _, _, _, _, _, _, _, _, _, _, .int .i64 0, .bool true, .bool true, _, _, _, _, _, _, _, _, _, _, _, _, _, _, _, _, _, _, _, _, _, _, _, _, _, _, _, _, _, _, _, _], defers := _ } _
  refine alongK_read (.int .i64 0) rfl rfl (fun wx hS => ex_move (by rfl) (by rfl) wx) ?_
  change AlongK _ _ _ _ _ { tmps := #[.agg #[.int .i64 K, .int .i64 V, .int .i64 H, .string BS, .int .i64 T, .int .i64 (fn : Nat), .string S], .int .i64 next, .pointer (some ⟨AB, 0, none⟩), _, .bool false, .pointer (some ⟨KB, 0, none⟩), .pointer (some ⟨DB, 0, none⟩), .pointer (some ⟨DB + 1, 0, none⟩), .int .i64 0, .string ROOT, .int .i64 0, .slice (some ⟨RB, 0, none⟩) 7 7, _, .slice xa OCT.length xc, .int .i64 0, .pointer (some ⟨B7, 0, none⟩), _, _, _, _, _, _, _, _, _, _, _, _, _, _, _, _, _, _, _, _, _, _, _, _, _, _, _, _, _, _, _, _, _, _, _, _, _, _, _, _, _, _, _, _, _, _, _, _, _, _, _, _, _, _, _, _, _, _, _, _, _, _, .int .i64 0, .bool true, .bool true, .int .i64 0, _, _, _, _, _, _, _, _, _, _, _, _, _, _, _, _, _, _, _, _, _, _, _, _, _, _, _, _, _, _, _], defers := _ } _
  refine alongK_read (.bool true) rfl rfl (fun wx hS => ex_eqi rfl (by rfl) (by rfl) (by simp) wx) ?_
  change AlongK _ _ _ _ _ { tmps := #[.agg #[.int .i64 K, .int .i64 V, .int .i64 H, .string BS, .int .i64 T, .int .i64 (fn : Nat), .string S], .int .i64 next, .pointer (some ⟨AB, 0, none⟩), _, .bool false, .pointer (some ⟨KB, 0, none⟩), .pointer (some ⟨DB, 0, none⟩), .pointer (some ⟨DB + 1, 0, none⟩), .int .i64 0, .string ROOT, .int .i64 0, .slice (some ⟨RB, 0, none⟩) 7 7, _, .slice xa OCT.length xc, .int .i64 0, .pointer (some ⟨B7, 0, none⟩), _, _, _, _, _, _, _, _, _, _, _, _, _, _, _, _, _, _, _, _, _, _, _, _, _, _, _, _, _, _, _, _, _, _, _, _, _, _, _, _, _, _, _, _, _, _, _, _, _, _, _, _, _, _, _, _, _, _, _, _, _, _, .int .i64 0, .bool true, .bool true, .int .i64 0, .bool true, _, _, _, _, _, _, _, _, _, _, _, _, _, _, _, _, _, _, _, _, _, _, _, _, _, _, _, _, _, _], defers := _ } _
  refine alongK_read (.bool true) rfl rfl (fun wx hS => ex_pickt rfl (by rfl) (by rfl) wx) ?_
  change AlongK _ _ _ _ _ { tmps := #[.agg #[.int .i64 K, .int .i64 V, .int .i64 H, .string BS, .int .i64 T, .int .i64 (fn : Nat), .string S], .int .i64 next, .pointer (some ⟨AB, 0, none⟩), _, .bool false, .pointer (some ⟨KB, 0, none⟩), .pointer (some ⟨DB, 0, none⟩), .pointer (some ⟨DB + 1, 0, none⟩), .int .i64 0, .string ROOT, .int .i64 0, .slice (some ⟨RB, 0, none⟩) 7 7, _, .slice xa OCT.length xc, .int .i64 0, .pointer (some ⟨B7, 0, none⟩), _, _, _, _, _, _, _, _, _, _, _, _, _, _, _, _, _, _, _, _, _, _, _, _, _, _, _, _, _, _, _, _, _, _, _, _, _, _, _, _, _, _, _, _, _, _, _, _, _, _, _, _, _, _, _, _, _, _, _, _, _, _, .int .i64 0, .bool true, .bool true, .int .i64 0, .bool true, .bool true, _, _, _, _, _, _, _, _, _, _, _, _, _, _, _, _, _, _, _, _, _, _, _, _, _, _, _, _, _], defers := _ } _
  refine alongK_read (.bool true) rfl rfl (fun wx hS => ex_move (by rfl) (by rfl) wx) ?_
  change AlongK _ _ _ _ _ { tmps := #[.agg #[.int .i64 K, .int .i64 V, .int .i64 H, .string BS, .int .i64 T, .int .i64 (fn : Nat), .string S], .int .i64 next, .pointer (some ⟨AB, 0, none⟩), _, .bool false, .pointer (some ⟨KB, 0, none⟩), .pointer (some ⟨DB, 0, none⟩), .pointer (some ⟨DB + 1, 0, none⟩), .int .i64 0, .string ROOT, .int .i64 0, .slice (some ⟨RB, 0, none⟩) 7 7, _, .slice xa OCT.length xc, .int .i64 0, .pointer (some ⟨B7, 0, none⟩), _, _, _, _, _, _, _, _, _, _, _, _, _, _, _, _, _, _, _, _, _, _, _, _, _, _, _, _, _, _, _, _, _, _, _, _, _, _, _, _, _, _, _, _, _, _, _, _, _, _, _, _, _, _, _, _, _, _, _, _, _, _, .int .i64 0, .bool true, .bool true, .int .i64 0, .bool true, .bool true, .bool true, _, _, _, _, _, _, _, _, _, _, _, _, _, _, _, _, _, _, _, _, _, _, _, _, _, _, _, _], defers := _ } _
  refine alongK_read (.int .i64 0) rfl rfl (fun wx hS => ex_move (by rfl) (by rfl) wx) ?_
  change AlongK _ _ _ _ _ { tmps := #[.agg #[.int .i64 K, .int .i64 V, .int .i64 H, .string BS, .int .i64 T, .int .i64 (fn : Nat), .string S], .int .i64 next, .pointer (some ⟨AB, 0, none⟩), _, .bool false, .pointer (some ⟨KB, 0, none⟩), .pointer (some ⟨DB, 0, none⟩), .pointer (some ⟨DB + 1, 0, none⟩), .int .i64 0, .string ROOT, .int .i64 0, .slice (some ⟨RB, 0, none⟩) 7 7, _, .slice xa OCT.length xc, .int .i64 0, .pointer (some ⟨B7, 0, none⟩), _, _, _, _, _, _, _, _, _, _, _, _, _, _, _, _, _, _, _, _, _, _, _, _, _, _, _, _, _, _, _, _, _, _, _, _, _, _, _, _, _, _, _, _, _, _, _, _, _, _, _, _, _, _, _, _, _, _, _, _, _, _, .int .i64 0, .bool true, .bool true, .int .i64 0, .bool true, .bool true, .bool true, .int .i64 0, _, _, _, _, _, _, _, _, _, _, _, _, _, _, _, _, _, _, _, _, _, _, _, _, _, _, _], defers := _ } _
  refine alongK_read (.bool true) rfl rfl (fun wx hS => ex_eqi rfl (by rfl) (by rfl) (by simp) wx) ?_
  change AlongK _ _ _ _ _ { tmps := #[.agg #[.int .i64 K, .int .i64 V, .int .i64 H, .string BS, .int .i64 T, .int .i64 (fn : Nat), .string S], .int .i64 next, .pointer (some ⟨AB, 0, none⟩), _, .bool false, .pointer (some ⟨KB, 0, none⟩), .pointer (some ⟨DB, 0, none⟩), .pointer (some ⟨DB + 1, 0, none⟩), .int .i64 0, .string ROOT, .int .i64 0, .slice (some ⟨RB, 0, none⟩) 7 7, _, .slice xa OCT.length xc, .int .i64 0, .pointer (some ⟨B7, 0, none⟩), _, _, _, _, _, _, _, _, _, _, _, _, _, _, _, _, _, _, _, _, _, _, _, _, _, _, _, _, _, _, _, _, _, _, _, _, _, _, _, _, _, _, _, _, _, _, _, _, _, _, _, _, _, _, _, _, _, _, _, _, _, _, .int .i64 0, .bool true, .bool true, .int .i64 0, .bool true, .bool true, .bool true, .int .i64 0, .bool true, _, _, _, _, _, _, _, _, _, _, _, _, _, _, _, _, _, _, _, _, _, _, _, _, _, _], defers := _ } _
  refine alongK_read (.bool true) rfl rfl (fun wx hS => ex_pickt rfl (by rfl) (by rfl) wx) ?_
  change AlongK _ _ _ _ _ { tmps := #[.agg #[.int .i64 K, .int .i64 V, .int .i64 H, .string BS, .int .i64 T, .int .i64 (fn : Nat), .string S], .int .i64 next, .pointer (some ⟨AB, 0, none⟩), _, .bool false, .pointer (some ⟨KB, 0, none⟩), .pointer (some ⟨DB, 0, none⟩), .pointer (some ⟨DB + 1, 0, none⟩), .int .i64 0, .string ROOT, .int .i64 0, .slice (some ⟨RB, 0, none⟩) 7 7, _, .slice xa OCT.length xc, .int .i64 0, .pointer (some ⟨B7, 0, none⟩), _, _, _, _, _, _, _, _, _, _, _, _, _, _, _, _, _, _, _, _, _, _, _, _, _, _, _, _, _, _, _, _, _, _, _, _, _, _, _, _, _, _, _, _, _, _, _, _, _, _, _, _, _, _, _, _, _, _, _, _, _, _, .int .i64 0, .bool true, .bool true, .int .i64 0, .bool true, .bool true, .bool true, .int .i64 0, .bool true, .bool true, _, _, _, _, _, _, _, _, _, _, _, _, _, _, _, _, _, _, _, _, _, _, _, _, _], defers := _ } _
  refine alongK_read (.bool true) rfl rfl (fun wx hS => ex_move (by rfl) (by rfl) wx) ?_
  change AlongK _ _ _ _ _ { tmps := #[.agg #[.int .i64 K, .int .i64 V, .int .i64 H, .string BS, .int .i64 T, .int .i64 (fn : Nat), .string S], .int .i64 next, .pointer (some ⟨AB, 0, none⟩), _, .bool false, .pointer (some ⟨KB, 0, none⟩), .pointer (some ⟨DB, 0, none⟩), .pointer (some ⟨DB + 1, 0, none⟩), .int .i64 0, .string ROOT, .int .i64 0, .slice (some ⟨RB, 0, none⟩) 7 7, _, .slice xa OCT.length xc, .int .i64 0, .pointer (some ⟨B7, 0, none⟩), _, _, _, _, _, _, _, _, _, _, _, _, _, _, _, _, _, _, _, _, _, _, _, _, _, _, _, _, _, _, _, _, _, _, _, _, _, _, _, _, _, _, _, _, _, _, _, _, _, _, _, _, _, _, _, _, _, _, _, _, _, _, .int .i64 0, .bool true, .bool true, .int .i64 0, .bool true, .bool true, .bool true, .int .i64 0, .bool true, .bool true, .bool true, _, _, _, _, _, _, _, _, _, _, _, _, _, _, _, _, _, _, _, _, _, _, _, _], defers := _ } _
  refine alongK_read (.agg #[.int .i64 K, .int .i64 V, .int .i64 H, .string BS, .int .i64 T, .int .i64 (fn : Nat), .string ⟨#[]⟩]) rfl rfl (fun wx hS => ex_loadrow rfl rfl wx 23 ((hS.block _ (lt_of_block HVz.out)).trans HVz.out) Tryd.underlying23 rfl info_vt) ?_
  change AlongK _ _ _ _ _ { tmps := #[.agg #[.int .i64 K, .int .i64 V, .int .i64 H, .string BS, .int .i64 T, .int .i64 (fn : Nat), .string S], .int .i64 next, .pointer (some ⟨AB, 0, none⟩), _, .bool false, .pointer (some ⟨KB, 0, none⟩), .pointer (some ⟨DB, 0, none⟩), .pointer (some ⟨DB + 1, 0, none⟩), .int .i64 0, .string ROOT, .int .i64 0, .slice (some ⟨RB, 0, none⟩) 7 7, _, .slice xa OCT.length xc, .int .i64 0, .pointer (some ⟨B7, 0, none⟩), _, _, _, _, _, _, _, _, _, _, _, _, _, _, _, _, _, _, _, _, _, _, _, _, _, _, _, _, _, _, _, _, _, _, _, _, _, _, _, _, _, _, _, _, _, _, _, _, _, _, _, _, _, _, _, _, _, _, _, _, _, _, .int .i64 0, .bool true, .bool true, .int .i64 0, .bool true, .bool true, .bool true, .int .i64 0, .bool true, .bool true, .bool true, .agg #[.int .i64 K, .int .i64 V, .int .i64 H, .string BS, .int .i64 T, .int .i64 (fn : Nat), .string ⟨#[]⟩], _, _, _, _, _, _, _, _, _, _, _, _, _, _, _, _, _, _, _, _, _, _, _], defers := _ } _
  refine alongK_read (.agg #[.int .i64 K, .int .i64 V, .int .i64 H, .string BS, .int .i64 T, .int .i64 (fn : Nat), .string ⟨#[]⟩]) rfl rfl (fun wx hS => ex_loadrow rfl rfl wx 23 ((hS.block _ (lt_of_block HTz.out)).trans HTz.out) Tryd.underlying23 rfl info_vt) ?_
  change AlongK _ _ _ _ _ { tmps := #[.agg #[.int .i64 K, .int .i64 V, .int .i64 H, .string BS, .int .i64 T, .int .i64 (fn : Nat), .string S], .int .i64 next, .pointer (some ⟨AB, 0, none⟩), _, .bool false, .pointer (some ⟨KB, 0, none⟩), .pointer (some ⟨DB, 0, none⟩), .pointer (some ⟨DB + 1, 0, none⟩), .int .i64 0, .string ROOT, .int .i64 0, .slice (some ⟨RB, 0, none⟩) 7 7, _, .slice xa OCT.length xc, .int .i64 0, .pointer (some ⟨B7, 0, none⟩), _, _, _, _, _, _, _, _, _, _, _, _, _, _, _, _, _, _, _, _, _, _, _, _, _, _, _, _, _, _, _, _, _, _, _, _, _, _, _, _, _, _, _, _, _, _, _, _, _, _, _, _, _, _, _, _, _, _, _, _, _, _, .int .i64 0, .bool true, .bool true, .int .i64 0, .bool true, .bool true, .bool true, .int .i64 0, .bool true, .bool true, .bool true, .agg #[.int .i64 K, .int .i64 V, .int .i64 H, .string BS, .int .i64 T, .int .i64 (fn : Nat), .string ⟨#[]⟩], .agg #[.int .i64 K, .int .i64 V, .int .i64 H, .string BS, .int .i64 T, .int .i64 (fn : Nat), .string ⟨#[]⟩], _, _, _, _, _, _, _, _, _, _, _, _, _, _, _, _, _, _, _, _, _, _], defers := _ } _
  refine alongK_read (.bool true) rfl rfl (fun wx hS => ex_bin rfl rfl rfl wx (vt_same _ _ _ _ _ _ _ _ _ wx)) ?_
  change AlongK _ _ _ _ _ { tmps := #[.agg #[.int .i64 K, .int .i64 V, .int .i64 H, .string BS, .int .i64 T, .int .i64 (fn : Nat), .string S], .int .i64 next, .pointer (some ⟨AB, 0, none⟩), _, .bool false, .pointer (some ⟨KB, 0, none⟩), .pointer (some ⟨DB, 0, none⟩), .pointer (some ⟨DB + 1, 0, none⟩), .int .i64 0, .string ROOT, .int .i64 0, .slice (some ⟨RB, 0, none⟩) 7 7, _, .slice xa OCT.length xc, .int .i64 0, .pointer (some ⟨B7, 0, none⟩), _, _, _, _, _, _, _, _, _, _, _, _, _, _, _, _, _, _, _, _, _, _, _, _, _, _, _, _, _, _, _, _, _, _, _, _, _, _, _, _, _, _, _, _, _, _, _, _, _, _, _, _, _, _, _, _, _, _, _, _, _, _, .int .i64 0, .bool true, .bool true, .int .i64 0, .bool true, .bool true, .bool true, .int .i64 0, .bool true, .bool true, .bool true, .agg #[.int .i64 K, .int .i64 V, .int .i64 H, .string BS, .int .i64 T, .int .i64 (fn : Nat), .string ⟨#[]⟩], .agg #[.int .i64 K, .int .i64 V, .int .i64 H, .string BS, .int .i64 T, .int .i64 (fn : Nat), .string ⟨#[]⟩], .bool true, _, _, _, _, _, _, _, _, _, _, _, _, _, _, _, _, _, _, _, _, _], defers := _ } _
  refine alongK_read (.bool true) rfl rfl (fun wx hS => ex_pickt rfl (by rfl) (by rfl) wx) ?_
  change AlongK _ _ _ _ _ { tmps := #[.agg #[.int .i64 K, .int .i64 V, .int .i64 H, .string BS, .int .i64 T, .int .i64 (fn : Nat), .string S], .int .i64 next, .pointer (some ⟨AB, 0, none⟩), _, .bool false, .pointer (some ⟨KB, 0, none⟩), .pointer (some ⟨DB, 0, none⟩), .pointer (some ⟨DB + 1, 0, none⟩), .int .i64 0, .string ROOT, .int .i64 0, .slice (some ⟨RB, 0, none⟩) 7 7, _, .slice xa OCT.length xc, .int .i64 0, .pointer (some ⟨B7, 0, none⟩), _, _, _, _, _, _, _, _, _, _, _, _, _, _, _, _, _, _, _, _, _, _, _, _, _, _, _, _, _, _, _, _, _, _, _, _, _, _, _, _, _, _, _, _, _, _, _, _, _, _, _, _, _, _, _, _, _, _, _, _, _, _, .int .i64 0, .bool true, .bool true, .int .i64 0, .bool true, .bool true, .bool true, .int .i64 0, .bool true, .bool true, .bool true, .agg #[.int .i64 K, .int .i64 V, .int .i64 H, .string BS, .int .i64 T, .int .i64 (fn : Nat), .string ⟨#[]⟩], .agg #[.int .i64 K, .int .i64 V, .int .i64 H, .string BS, .int .i64 T, .int .i64 (fn : Nat), .string ⟨#[]⟩], .bool true, .bool true, _, _, _, _, _, _, _, _, _, _, _, _, _, _, _, _, _, _, _, _], defers := _ } _
  refine alongK_read (.bool true) rfl rfl (fun wx hS => ex_move (by rfl) (by rfl) wx) ?_
  change AlongK _ _ _ _ _ { tmps := #[.agg #[.int .i64 K, .int .i64 V, .int .i64 H, .string BS, .int .i64 T, .int .i64 (fn : Nat), .string S], .int .i64 next, .pointer (some ⟨AB, 0, none⟩), _, .bool false, .pointer (some ⟨KB, 0, none⟩), .pointer (some ⟨DB, 0, none⟩), .pointer (some ⟨DB + 1, 0, none⟩), .int .i64 0, .string ROOT, .int .i64 0, .slice (some ⟨RB, 0, none⟩) 7 7, _, .slice xa OCT.length xc, .int .i64 0, .pointer (some ⟨B7, 0, none⟩), _, _, _, _, _, _, _, _, _, _, _, _, _, _, _, _, _, _, _, _, _, _, _, _, _, _, _, _, _, _, _, _, _, _, _, _, _, _, _, _, _, _, _, _, _, _, _, _, _, _, _, _, _, _, _, _, _, _, _, _, _, _, .int .i64 0, .bool true, .bool true, .int .i64 0, .bool true, .bool true, .bool true, .int .i64 0, .bool true, .bool true, .bool true, .agg #[.int .i64 K, .int .i64 V, .int .i64 H, .string BS, .int .i64 T, .int .i64 (fn : Nat), .string ⟨#[]⟩], .agg #[.int .i64 K, .int .i64 V, .int .i64 H, .string BS, .int .i64 T, .int .i64 (fn : Nat), .string ⟨#[]⟩], .bool true, .bool true, .bool true, _, _, _, _, _, _, _, _, _, _, _, _, _, _, _, _, _, _, _], defers := _ } _
  refine alongK_read (.agg #[.int .i64 K, .int .i64 V, .int .i64 H, .string BS, .int .i64 T, .int .i64 (fn : Nat), .string SIG]) rfl rfl (fun wx hS => ex_loadrow rfl rfl wx 23 ((hS.block _ (lt_of_block HDz.out)).trans HDz.out) Tryd.underlying23 rfl info_vt) ?_
  change AlongK _ _ _ _ _ { tmps := #[.agg #[.int .i64 K, .int .i64 V, .int .i64 H, .string BS, .int .i64 T, .int .i64 (fn : Nat), .string S], .int .i64 next, .pointer (some ⟨AB, 0, none⟩), _, .bool false, .pointer (some ⟨KB, 0, none⟩), .pointer (some ⟨DB, 0, none⟩), .pointer (some ⟨DB + 1, 0, none⟩), .int .i64 0, .string ROOT, .int .i64 0, .slice (some ⟨RB, 0, none⟩) 7 7, _, .slice xa OCT.length xc, .int .i64 0, .pointer (some ⟨B7, 0, none⟩), _, _, _, _, _, _, _, _, _, _, _, _, _, _, _, _, _, _, _, _, _, _, _, _, _, _, _, _, _, _, _, _, _, _, _, _, _, _, _, _, _, _, _, _, _, _, _, _, _, _, _, _, _, _, _, _, _, _, _, _, _, _, .int .i64 0, .bool true, .bool true, .int .i64 0, .bool true, .bool true, .bool true, .int .i64 0, .bool true, .bool true, .bool true, .agg #[.int .i64 K, .int .i64 V, .int .i64 H, .string BS, .int .i64 T, .int .i64 (fn : Nat), .string ⟨#[]⟩], .agg #[.int .i64 K, .int .i64 V, .int .i64 H, .string BS, .int .i64 T, .int .i64 (fn : Nat), .string ⟨#[]⟩], .bool true, .bool true, .bool true, .agg #[.int .i64 K, .int .i64 V, .int .i64 H, .string BS, .int .i64 T, .int .i64 (fn : Nat), .string SIG], _, _, _, _, _, _, _, _, _, _, _, _, _, _, _, _, _, _], defers := _ } _
  refine alongK_read (.slice (some ⟨RB, 0, none⟩) 7 7) rfl rfl (fun wx hS => ex_move (by rfl) (by rfl) wx) ?_
  change AlongK _ _ _ _ _ { tmps := #[.agg #[.int .i64 K, .int .i64 V, .int .i64 H, .string BS, .int .i64 T, .int .i64 (fn : Nat), .string S], .int .i64 next, .pointer (some ⟨AB, 0, none⟩), _, .bool false, .pointer (some ⟨KB, 0, none⟩), .pointer (some ⟨DB, 0, none⟩), .pointer (some ⟨DB + 1, 0, none⟩), .int .i64 0, .string ROOT, .int .i64 0, .slice (some ⟨RB, 0, none⟩) 7 7, _, .slice xa OCT.length xc, .int .i64 0, .pointer (some ⟨B7, 0, none⟩), _, _, _, _, _, _, _, _, _, _, _, _, _, _, _, _, _, _, _, _, _, _, _, _, _, _, _, _, _, _, _, _, _, _, _, _, _, _, _, _, _, _, _, _, _, _, _, _, _, _, _, _, _, _, _, _, _, _, _, _, _, _, .int .i64 0, .bool true, .bool true, .int .i64 0, .bool true, .bool true, .bool true, .int .i64 0, .bool true, .bool true, .bool true, .agg #[.int .i64 K, .int .i64 V, .int .i64 H, .string BS, .int .i64 T, .int .i64 (fn : Nat), .string ⟨#[]⟩], .agg #[.int .i64 K, .int .i64 V, .int .i64 H, .string BS, .int .i64 T, .int .i64 (fn : Nat), .string ⟨#[]⟩], .bool true, .bool true, .bool true, .agg #[.int .i64 K, .int .i64 V, .int .i64 H, .string BS, .int .i64 T, .int .i64 (fn : Nat), .string SIG], .slice (some ⟨RB, 0, none⟩) 7 7, _, _, _, _, _, _, _, _, _, _, _, _, _, _, _, _, _], defers := _ } _
  refine alongK_step ?_
  have hRd := ((Up.drew1 wz).block _ (lt_of_block HRz.out)).trans HRz.out
  refine opK_call (vs := [.agg #[.int .i64 K, .int .i64 V, .int .i64 H, .string BS, .int .i64 T, .int .i64 (fn : Nat), .string SIG], .slice (some ⟨RB, 0, none⟩) 7 7]) rfl rfl rfl (enters_of Tryd.func12 (by kernel_rfl) rfl) rfl ?_
  with_reducible refine Calls.mono (HF.out.valid _ _ (HF.out.roots _ _ hRd)) ?_
  rintro e wv ⟨rfl, hUv⟩
  have hAv : Up wz wv := Up.trans (Up.drew1 wz) hUv
  refine ⟨_, rfl, (fun x => Up wz x), (fun x hx => hx), hAv, ?_⟩
  change AlongK _ _ _ _ _ { tmps := #[.agg #[.int .i64 K, .int .i64 V, .int .i64 H, .string BS, .int .i64 T, .int .i64 (fn : Nat), .string S], .int .i64 next, .pointer (some ⟨AB, 0, none⟩), _, .bool false, .pointer (some ⟨KB, 0, none⟩), .pointer (some ⟨DB, 0, none⟩), .pointer (some ⟨DB + 1, 0, none⟩), .int .i64 0, .string ROOT, .int .i64 0, .slice (some ⟨RB, 0, none⟩) 7 7, _, .slice xa OCT.length xc, .int .i64 0, .pointer (some ⟨B7, 0, none⟩), _, _, _, _, _, _, _, _, _, _, _, _, _, _, _, _, _, _, _, _, _, _, _, _, _, _, _, _, _, _, _, _, _, _, _, _, _, _, _, _, _, _, _, _, _, _, _, _, _, _, _, _, _, _, _, _, _, _, _, _, _, _, .int .i64 0, .bool true, .bool true, .int .i64 0, .bool true, .bool true, .bool true, .int .i64 0, .bool true, .bool true, .bool true, .agg #[.int .i64 K, .int .i64 V, .int .i64 H, .string BS, .int .i64 T, .int .i64 (fn : Nat), .string ⟨#[]⟩], .agg #[.int .i64 K, .int .i64 V, .int .i64 H, .string BS, .int .i64 T, .int .i64 (fn : Nat), .string ⟨#[]⟩], .bool true, .bool true, .bool true, .agg #[.int .i64 K, .int .i64 V, .int .i64 H, .string BS, .int .i64 T, .int .i64 (fn : Nat), .string SIG], .slice (some ⟨RB, 0, none⟩) 7 7, .bool true, _, _, _, _, _, _, _, _, _, _, _, _, _, _, _, _], defers := _ } _
  refine alongK_read (.bool true) rfl rfl (fun wx hS => ex_pickt rfl (by rfl) (by rfl) wx) ?_
  change AlongK _ _ _ _ _ { tmps := #[.agg #[.int .i64 K, .int .i64 V, .int .i64 H, .string BS, .int .i64 T, .int .i64 (fn : Nat), .string S], .int .i64 next, .pointer (some ⟨AB, 0, none⟩), _, .bool false, .pointer (some ⟨KB, 0, none⟩), .pointer (some ⟨DB, 0, none⟩), .pointer (some ⟨DB + 1, 0, none⟩), .int .i64 0, .string ROOT, .int .i64 0, .slice (some ⟨RB, 0, none⟩) 7 7, _, .slice xa OCT.length xc, .int .i64 0, .pointer (some ⟨B7, 0, none⟩), _, _, _, _, _, _, _, _, _, _, _, _, _, _, _, _, _, _, _, _, _, _, _, _, _, _, _, _, _, _, _, _, _, _, _, _, _, _, _, _, _, _, _, _, _, _, _, _, _, _, _, _, _, _, _, _, _, _, _, _, _, _, .int .i64 0, .bool true, .bool true, .int .i64 0, .bool true, .bool true, .bool true, .int .i64 0, .bool true, .bool true, .bool true, .agg #[.int .i64 K, .int .i64 V, .int .i64 H, .string BS, .int .i64 T, .int .i64 (fn : Nat), .string ⟨#[]⟩], .agg #[.int .i64 K, .int .i64 V, .int .i64 H, .string BS, .int .i64 T, .int .i64 (fn : Nat), .string ⟨#[]⟩], .bool true, .bool true, .bool true, .agg #[.int .i64 K, .int .i64 V, .int .i64 H, .string BS, .int .i64 T, .int .i64 (fn : Nat), .string SIG], .slice (some ⟨RB, 0, none⟩) 7 7, .bool true, .bool true, _, _, _, _, _, _, _, _, _, _, _, _, _, _, _], defers := _ } _
  refine alongK_read (.bool true) rfl rfl (fun wx hS => ex_move (by rfl) (by rfl) wx) ?_
  change AlongK _ _ _ _ _ { tmps := #[.agg #[.int .i64 K, .int .i64 V, .int .i64 H, .string BS, .int .i64 T, .int .i64 (fn : Nat), .string S], .int .i64 next, .pointer (some ⟨AB, 0, none⟩), _, .bool false, .pointer (some ⟨KB, 0, none⟩), .pointer (some ⟨DB, 0, none⟩), .pointer (some ⟨DB + 1, 0, none⟩), .int .i64 0, .string ROOT, .int .i64 0, .slice (some ⟨RB, 0, none⟩) 7 7, _, .slice xa OCT.length xc, .int .i64 0, .pointer (some ⟨B7, 0, none⟩), _, _, _, _, _, _, _, _, _, _, _, _, _, _, _, _, _, _, _, _, _, _, _, _, _, _, _, _, _, _, _, _, _, _, _, _, _, _, _, _, _, _, _, _, _, _, _, _, _, _, _, _, _, _, _, _, _, _, _, _, _, _, .int .i64 0, .bool true, .bool true, .int .i64 0, .bool true, .bool true, .bool true, .int .i64 0, .bool true, .bool true, .bool true, .agg #[.int .i64 K, .int .i64 V, .int .i64 H, .string BS, .int .i64 T, .int .i64 (fn : Nat), .string ⟨#[]⟩], .agg #[.int .i64 K, .int .i64 V, .int .i64 H, .string BS, .int .i64 T, .int .i64 (fn : Nat), .string ⟨#[]⟩], .bool true, .bool true, .bool true, .agg #[.int .i64 K, .int .i64 V, .int .i64 H, .string BS, .int .i64 T, .int .i64 (fn : Nat), .string SIG], .slice (some ⟨RB, 0, none⟩) 7 7, .bool true, .bool true, .bool true, _, _, _, _, _, _, _, _, _, _, _, _, _, _], defers := _ } _
  refine alongK_read (.slice xa OCT.length xc) rfl rfl (fun wx hS => ex_move (by rfl) (by rfl) wx) ?_
  change AlongK _ _ _ _ _ { tmps := #[.agg #[.int .i64 K, .int .i64 V, .int .i64 H, .string BS, .int .i64 T, .int .i64 (fn : Nat), .string S], .int .i64 next, .pointer (some ⟨AB, 0, none⟩), _, .bool false, .pointer (some ⟨KB, 0, none⟩), .pointer (some ⟨DB, 0, none⟩), .pointer (some ⟨DB + 1, 0, none⟩), .int .i64 0, .string ROOT, .int .i64 0, .slice (some ⟨RB, 0, none⟩) 7 7, _, .slice xa OCT.length xc, .int .i64 0, .pointer (some ⟨B7, 0, none⟩), _, _, _, _, _, _, _, _, _, _, _, _, _, _, _, _, _, _, _, _, _, _, _, _, _, _, _, _, _, _, _, _, _, _, _, _, _, _, _, _, _, _, _, _, _, _, _, _, _, _, _, _, _, _, _, _, _, _, _, _, _, _, .int .i64 0, .bool true, .bool true, .int .i64 0, .bool true, .bool true, .bool true, .int .i64 0, .bool true, .bool true, .bool true, .agg #[.int .i64 K, .int .i64 V, .int .i64 H, .string BS, .int .i64 T, .int .i64 (fn : Nat), .string ⟨#[]⟩], .agg #[.int .i64 K, .int .i64 V, .int .i64 H, .string BS, .int .i64 T, .int .i64 (fn : Nat), .string ⟨#[]⟩], .bool true, .bool true, .bool true, .agg #[.int .i64 K, .int .i64 V, .int .i64 H, .string BS, .int .i64 T, .int .i64 (fn : Nat), .string SIG], .slice (some ⟨RB, 0, none⟩) 7 7, .bool true, .bool true, .bool true, .slice xa OCT.length xc, _, _, _, _, _, _, _, _, _, _, _, _, _], defers := _ } _
  refine alongK_read (.agg #[.int .i64 K, .int .i64 V, .int .i64 H, .string BS, .int .i64 T, .int .i64 (fn : Nat), .string SIG]) rfl rfl (fun wx hS => ex_loadrow rfl rfl wx 23 ((hS.block _ (lt_of_block HDz.out)).trans HDz.out) Tryd.underlying23 rfl info_vt) ?_
  change AlongK _ _ _ _ _ { tmps := #[.agg #[.int .i64 K, .int .i64 V, .int .i64 H, .string BS, .int .i64 T, .int .i64 (fn : Nat), .string S], .int .i64 next, .pointer (some ⟨AB, 0, none⟩), _, .bool false, .pointer (some ⟨KB, 0, none⟩), .pointer (some ⟨DB, 0, none⟩), .pointer (some ⟨DB + 1, 0, none⟩), .int .i64 0, .string ROOT, .int .i64 0, .slice (some ⟨RB, 0, none⟩) 7 7, _, .slice xa OCT.length xc, .int .i64 0, .pointer (some ⟨B7, 0, none⟩), _, _, _, _, _, _, _, _, _, _, _, _, _, _, _, _, _, _, _, _, _, _, _, _, _, _, _, _, _, _, _, _, _, _, _, _, _, _, _, _, _, _, _, _, _, _, _, _, _, _, _, _, _, _, _, _, _, _, _, _, _, _, .int .i64 0, .bool true, .bool true, .int .i64 0, .bool true, .bool true, .bool true, .int .i64 0, .bool true, .bool true, .bool true, .agg #[.int .i64 K, .int .i64 V, .int .i64 H, .string BS, .int .i64 T, .int .i64 (fn : Nat), .string ⟨#[]⟩], .agg #[.int .i64 K, .int .i64 V, .int .i64 H, .string BS, .int .i64 T, .int .i64 (fn : Nat), .string ⟨#[]⟩], .bool true, .bool true, .bool true, .agg #[.int .i64 K, .int .i64 V, .int .i64 H, .string BS, .int .i64 T, .int .i64 (fn : Nat), .string SIG], .slice (some ⟨RB, 0, none⟩) 7 7, .bool true, .bool true, .bool true, .slice xa OCT.length xc, _, _, .agg #[.int .i64 K, .int .i64 V, .int .i64 H, .string BS, .int .i64 T, .int .i64 (fn : Nat), .string SIG], _, _, _, _, _, _, _, _, _, _], defers := _ } _
  refine alongK_step ?_
  refine opK_call (vs := [.slice xa OCT.length xc]) rfl rfl rfl (enters_of Tryd.func14 (by kernel_rfl) rfl) rfl ?_
  with_reducible refine Calls.mono (HF.out.opened _ _ (HIz.out.up hAv)) ?_
  rintro e w8 ⟨g8, l8, rfl, hr8, hU8, hg8, hl8⟩
  have hA8 : Up wz w8 := Up.trans hAv hU8
  refine ⟨_, rfl, (fun x => Up wz x), (fun x hx => hx), hA8, ?_⟩
  change AlongK _ _ _ _ _ { tmps := #[.agg #[.int .i64 K, .int .i64 V, .int .i64 H, .string BS, .int .i64 T, .int .i64 (fn : Nat), .string S], .int .i64 next, .pointer (some ⟨AB, 0, none⟩), _, .bool false, .pointer (some ⟨KB, 0, none⟩), .pointer (some ⟨DB, 0, none⟩), .pointer (some ⟨DB + 1, 0, none⟩), .int .i64 0, .string ROOT, .int .i64 0, .slice (some ⟨RB, 0, none⟩) 7 7, _, .slice xa OCT.length xc, .int .i64 0, .pointer (some ⟨B7, 0, none⟩), _, _, _, _, _, _, _, _, _, _, _, _, _, _, _, _, _, _, _, _, _, _, _, _, _, _, _, _, _, _, _, _, _, _, _, _, _, _, _, _, _, _, _, _, _, _, _, _, _, _, _, _, _, _, _, _, _, _, _, _, _, _, .int .i64 0, .bool true, .bool true, .int .i64 0, .bool true, .bool true, .bool true, .int .i64 0, .bool true, .bool true, .bool true, .agg #[.int .i64 K, .int .i64 V, .int .i64 H, .string BS, .int .i64 T, .int .i64 (fn : Nat), .string ⟨#[]⟩], .agg #[.int .i64 K, .int .i64 V, .int .i64 H, .string BS, .int .i64 T, .int .i64 (fn : Nat), .string ⟨#[]⟩], .bool true, .bool true, .bool true, .agg #[.int .i64 K, .int .i64 V, .int .i64 H, .string BS, .int .i64 T, .int .i64 (fn : Nat), .string SIG], .slice (some ⟨RB, 0, none⟩) 7 7, .bool true, .bool true, .bool true, .slice xa OCT.length xc, .pointer (some ⟨g8, 0, none⟩), _, .agg #[.int .i64 K, .int .i64 V, .int .i64 H, .string BS, .int .i64 T, .int .i64 (fn : Nat), .string SIG], _, _, _, _, _, _, _, _, _, _], defers := _ } _
  refine alongK_step ?_
  refine opK_call (vs := [.pointer (some ⟨g8, 0, none⟩)]) rfl rfl rfl (enters_of Tryd.func13 (by kernel_rfl) rfl) rfl ?_
  with_reducible refine Calls.mono (HF.out.read _ _ _ hr8 (fun k hk => (hl8 k hk).2)) ?_
  rintro e w9 ⟨rfl, hg9⟩
  have hA9 : Up wz w9 := up_at hA8 hg9 (Nat.le_trans hAv.size hg8)
  refine ⟨_, rfl, (fun x => Up wz x), (fun x hx => hx), hA9, ?_⟩
  change AlongK _ _ _ _ _ { tmps := #[.agg #[.int .i64 K, .int .i64 V, .int .i64 H, .string BS, .int .i64 T, .int .i64 (fn : Nat), .string S], .int .i64 next, .pointer (some ⟨AB, 0, none⟩), _, .bool false, .pointer (some ⟨KB, 0, none⟩), .pointer (some ⟨DB, 0, none⟩), .pointer (some ⟨DB + 1, 0, none⟩), .int .i64 0, .string ROOT, .int .i64 0, .slice (some ⟨RB, 0, none⟩) 7 7, _, .slice xa OCT.length xc, .int .i64 0, .pointer (some ⟨B7, 0, none⟩), _, _, _, _, _, _, _, _, _, _, _, _, _, _, _, _, _, _, _, _, _, _, _, _, _, _, _, _, _, _, _, _, _, _, _, _, _, _, _, _, _, _, _, _, _, _, _, _, _, _, _, _, _, _, _, _, _, _, _, _, _, _, .int .i64 0, .bool true, .bool true, .int .i64 0, .bool true, .bool true, .bool true, .int .i64 0, .bool true, .bool true, .bool true, .agg #[.int .i64 K, .int .i64 V, .int .i64 H, .string BS, .int .i64 T, .int .i64 (fn : Nat), .string ⟨#[]⟩], .agg #[.int .i64 K, .int .i64 V, .int .i64 H, .string BS, .int .i64 T, .int .i64 (fn : Nat), .string ⟨#[]⟩], .bool true, .bool true, .bool true, .agg #[.int .i64 K, .int .i64 V, .int .i64 H, .string BS, .int .i64 T, .int .i64 (fn : Nat), .string SIG], .slice (some ⟨RB, 0, none⟩) 7 7, .bool true, .bool true, .bool true, .slice xa OCT.length xc, .pointer (some ⟨g8, 0, none⟩), .agg #[.int .i64 K, .int .i64 V, .int .i64 H, .string BS, .int .i64 T, .int .i64 (fn : Nat), .string SIG], .agg #[.int .i64 K, .int .i64 V, .int .i64 H, .string BS, .int .i64 T, .int .i64 (fn : Nat), .string SIG], _, _, _, _, _, _, _, _, _, _], defers := _ } _
  refine alongK_read (.bool true) rfl rfl (fun wx hS => ex_bin rfl rfl rfl wx (vt_same _ _ _ _ _ _ _ _ _ wx)) ?_
  change AlongK _ _ _ _ _ { tmps := #[.agg #[.int .i64 K, .int .i64 V, .int .i64 H, .string BS, .int .i64 T, .int .i64 (fn : Nat), .string S], .int .i64 next, .pointer (some ⟨AB, 0, none⟩), _, .bool false, .pointer (some ⟨KB, 0, none⟩), .pointer (some ⟨DB, 0, none⟩), .pointer (some ⟨DB + 1, 0, none⟩), .int .i64 0, .string ROOT, .int .i64 0, .slice (some ⟨RB, 0, none⟩) 7 7, _, .slice xa OCT.length xc, .int .i64 0, .pointer (some ⟨B7, 0, none⟩), _, _, _, _, _, _, _, _, _, _, _, _, _, _, _, _, _, _, _, _, _, _, _, _, _, _, _, _, _, _, _, _, _, _, _, _, _, _, _, _, _, _, _, _, _, _, _, _, _, _, _, _, _, _, _, _, _, _, _, _, _, _, .int .i64 0, .bool true, .bool true, .int .i64 0, .bool true, .bool true, .bool true, .int .i64 0, .bool true, .bool true, .bool true, .agg #[.int .i64 K, .int .i64 V, .int .i64 H, .string BS, .int .i64 T, .int .i64 (fn : Nat), .string ⟨#[]⟩], .agg #[.int .i64 K, .int .i64 V, .int .i64 H, .string BS, .int .i64 T, .int .i64 (fn : Nat), .string ⟨#[]⟩], .bool true, .bool true, .bool true, .agg #[.int .i64 K, .int .i64 V, .int .i64 H, .string BS, .int .i64 T, .int .i64 (fn : Nat), .string SIG], .slice (some ⟨RB, 0, none⟩) 7 7, .bool true, .bool true, .bool true, .slice xa OCT.length xc, .pointer (some ⟨g8, 0, none⟩), .agg #[.int .i64 K, .int .i64 V, .int .i64 H, .string BS, .int .i64 T, .int .i64 (fn : Nat), .string SIG], .agg #[.int .i64 K, .int .i64 V, .int .i64 H, .string BS, .int .i64 T, .int .i64 (fn : Nat), .string SIG], .bool true, _, _, _, _, _, _, _, _, _], defers := _ } _
  refine alongK_read (.bool true) rfl rfl (fun wx hS => ex_pickt rfl (by rfl) (by rfl) wx) ?_
  change AlongK _ _ _ _ _ { tmps := #[.agg #[.int .i64 K, .int .i64 V, .int .i64 H, .string BS, .int .i64 T, .int .i64 (fn : Nat), .string S], .int .i64 next, .pointer (some ⟨AB, 0, none⟩), _, .bool false, .pointer (some ⟨KB, 0, none⟩), .pointer (some ⟨DB, 0, none⟩), .pointer (some ⟨DB + 1, 0, none⟩), .int .i64 0, .string ROOT, .int .i64 0, .slice (some ⟨RB, 0, none⟩) 7 7, _, .slice xa OCT.length xc, .int .i64 0, .pointer (some ⟨B7, 0, none⟩), _, _, _, _, _, _, _, _, _, _, _, _, _, _, _, _, _, _, _, _, _, _, _, _, _, _, _, _, _, _, _, _, _, _, _, _, _, _, _, _, _, _, _, _, _, _, _, _, _, _, _, _, _, _, _, _, _, _, _, _, _, _, .int .i64 0, .bool true, .bool true, .int .i64 0, .bool true, .bool true, .bool true, .int .i64 0, .bool true, .bool true, .bool true, .agg #[.int .i64 K, .int .i64 V, .int .i64 H, .string BS, .int .i64 T, .int .i64 (fn : Nat), .string ⟨#[]⟩], .agg #[.int .i64 K, .int .i64 V, .int .i64 H, .string BS, .int .i64 T, .int .i64 (fn : Nat), .string ⟨#[]⟩], .bool true, .bool true, .bool true, .agg #[.int .i64 K, .int .i64 V, .int .i64 H, .string BS, .int .i64 T, .int .i64 (fn : Nat), .string SIG], .slice (some ⟨RB, 0, none⟩) 7 7, .bool true, .bool true, .bool true, .slice xa OCT.length xc, .pointer (some ⟨g8, 0, none⟩), .agg #[.int .i64 K, .int .i64 V, .int .i64 H, .string BS, .int .i64 T, .int .i64 (fn : Nat), .string SIG], .agg #[.int .i64 K, .int .i64 V, .int .i64 H, .string BS, .int .i64 T, .int .i64 (fn : Nat), .string SIG], .bool true, .bool true, _, _, _, _, _, _, _, _], defers := _ } _
  refine alongK_read (.bool true) rfl rfl (fun wx hS => ex_move (by rfl) (by rfl) wx) ?_
  change AlongK _ _ _ _ _ { tmps := #[.agg #[.int .i64 K, .int .i64 V, .int .i64 H, .string BS, .int .i64 T, .int .i64 (fn : Nat), .string S], .int .i64 next, .pointer (some ⟨AB, 0, none⟩), _, .bool false, .pointer (some ⟨KB, 0, none⟩), .pointer (some ⟨DB, 0, none⟩), .pointer (some ⟨DB + 1, 0, none⟩), .int .i64 0, .string ROOT, .int .i64 0, .slice (some ⟨RB, 0, none⟩) 7 7, _, .slice xa OCT.length xc, .int .i64 0, .pointer (some ⟨B7, 0, none⟩), _, _, _, _, _, _, _, _, _, _, _, _, _, _, _, _, _, _, _, _, _, _, _, _, _, _, _, _, _, _, _, _, _, _, _, _, _, _, _, _, _, _, _, _, _, _, _, _, _, _, _, _, _, _, _, _, _, _, _, _, _, _, .int .i64 0, .bool true, .bool true, .int .i64 0, .bool true, .bool true, .bool true, .int .i64 0, .bool true, .bool true, .bool true, .agg #[.int .i64 K, .int .i64 V, .int .i64 H, .string BS, .int .i64 T, .int .i64 (fn : Nat), .string ⟨#[]⟩], .agg #[.int .i64 K, .int .i64 V, .int .i64 H, .string BS, .int .i64 T, .int .i64 (fn : Nat), .string ⟨#[]⟩], .bool true, .bool true, .bool true, .agg #[.int .i64 K, .int .i64 V, .int .i64 H, .string BS, .int .i64 T, .int .i64 (fn : Nat), .string SIG], .slice (some ⟨RB, 0, none⟩) 7 7, .bool true, .bool true, .bool true, .slice xa OCT.length xc, .pointer (some ⟨g8, 0, none⟩), .agg #[.int .i64 K, .int .i64 V, .int .i64 H, .string BS, .int .i64 T, .int .i64 (fn : Nat), .string SIG], .agg #[.int .i64 K, .int .i64 V, .int .i64 H, .string BS, .int .i64 T, .int .i64 (fn : Nat), .string SIG], .bool true, .bool true, .bool true, _, _, _, _, _, _, _], defers := _ } _
  refine alongK_read (.pointer (some ⟨DB + 1, 2, none⟩)) rfl rfl (fun wx hS => ex_field rfl rfl wx (by simp [go_sem])) ?_
  change AlongK _ _ _ _ _ { tmps := #[.agg #[.int .i64 K, .int .i64 V, .int .i64 H, .string BS, .int .i64 T, .int .i64 (fn : Nat), .string S], .int .i64 next, .pointer (some ⟨AB, 0, none⟩), _, .bool false, .pointer (some ⟨KB, 0, none⟩), .pointer (some ⟨DB, 0, none⟩), .pointer (some ⟨DB + 1, 0, none⟩), .int .i64 0, .string ROOT, .int .i64 0, .slice (some ⟨RB, 0, none⟩) 7 7, _, .slice xa OCT.length xc, .int .i64 0, .pointer (some ⟨B7, 0, none⟩), _, _, _, _, _, _, _, _, _, _, _, _, _, _, _, _, _, _, _, _, _, _, _, _, _, _, _, _, _, _, _, _, _, _, _, _, _, _, _, _, _, _, _, _, _, _, _, _, _, _, _, _, _, _, _, _, _, _, _, _, _, _, .int .i64 0, .bool true, .bool true, .int .i64 0, .bool true, .bool true, .bool true, .int .i64 0, .bool true, .bool true, .bool true, .agg #[.int .i64 K, .int .i64 V, .int .i64 H, .string BS, .int .i64 T, .int .i64 (fn : Nat), .string ⟨#[]⟩], .agg #[.int .i64 K, .int .i64 V, .int .i64 H, .string BS, .int .i64 T, .int .i64 (fn : Nat), .string ⟨#[]⟩], .bool true, .bool true, .bool true, .agg #[.int .i64 K, .int .i64 V, .int .i64 H, .string BS, .int .i64 T, .int .i64 (fn : Nat), .string SIG], .slice (some ⟨RB, 0, none⟩) 7 7, .bool true, .bool true, .bool true, .slice xa OCT.length xc, .pointer (some ⟨g8, 0, none⟩), .agg #[.int .i64 K, .int .i64 V, .int .i64 H, .string BS, .int .i64 T, .int .i64 (fn : Nat), .string SIG], .agg #[.int .i64 K, .int .i64 V, .int .i64 H, .string BS, .int .i64 T, .int .i64 (fn : Nat), .string SIG], .bool true, .bool true, .bool true, .pointer (some ⟨DB + 1, 2, none⟩), _, _, _, _, _, _], defers := _ } _
  refine alongK_read (.int .i64 ((m : Int) + 1)) rfl rfl (fun wx hS => ex_load Tryd.isAgg3 rfl rfl wx ((key_cells ((hS.block _ (lt_of_block HQz.out)).trans HQz.out)).2.2)) ?_
  change AlongK _ _ _ _ _ { tmps := #[.agg #[.int .i64 K, .int .i64 V, .int .i64 H, .string BS, .int .i64 T, .int .i64 (fn : Nat), .string S], .int .i64 next, .pointer (some ⟨AB, 0, none⟩), _, .bool false, .pointer (some ⟨KB, 0, none⟩), .pointer (some ⟨DB, 0, none⟩), .pointer (some ⟨DB + 1, 0, none⟩), .int .i64 0, .string ROOT, .int .i64 0, .slice (some ⟨RB, 0, none⟩) 7 7, _, .slice xa OCT.length xc, .int .i64 0, .pointer (some ⟨B7, 0, none⟩), _, _, _, _, _, _, _, _, _, _, _, _, _, _, _, _, _, _, _, _, _, _, _, _, _, _, _, _, _, _, _, _, _, _, _, _, _, _, _, _, _, _, _, _, _, _, _, _, _, _, _, _, _, _, _, _, _, _, _, _, _, _, .int .i64 0, .bool true, .bool true, .int .i64 0, .bool true, .bool true, .bool true, .int .i64 0, .bool true, .bool true, .bool true, .agg #[.int .i64 K, .int .i64 V, .int .i64 H, .string BS, .int .i64 T, .int .i64 (fn : Nat), .string ⟨#[]⟩], .agg #[.int .i64 K, .int .i64 V, .int .i64 H, .string BS, .int .i64 T, .int .i64 (fn : Nat), .string ⟨#[]⟩], .bool true, .bool true, .bool true, .agg #[.int .i64 K, .int .i64 V, .int .i64 H, .string BS, .int .i64 T, .int .i64 (fn : Nat), .string SIG], .slice (some ⟨RB, 0, none⟩) 7 7, .bool true, .bool true, .bool true, .slice xa OCT.length xc, .pointer (some ⟨g8, 0, none⟩), .agg #[.int .i64 K, .int .i64 V, .int .i64 H, .string BS, .int .i64 T, .int .i64 (fn : Nat), .string SIG], .agg #[.int .i64 K, .int .i64 V, .int .i64 H, .string BS, .int .i64 T, .int .i64 (fn : Nat), .string SIG], .bool true, .bool true, .bool true, .pointer (some ⟨DB + 1, 2, none⟩), .int .i64 ((m : Int) + 1), _, _, _, _, _], defers := _ } _
  refine alongK_read (.pointer (some ⟨KB, 2, none⟩)) rfl rfl (fun wx hS => ex_field rfl rfl wx (by simp [go_sem])) ?_
  change AlongK _ _ _ _ _ { tmps := #[.agg #[.int .i64 K, .int .i64 V, .int .i64 H, .string BS, .int .i64 T, .int .i64 (fn : Nat), .string S], .int .i64 next, .pointer (some ⟨AB, 0, none⟩), _, .bool false, .pointer (some ⟨KB, 0, none⟩), .pointer (some ⟨DB, 0, none⟩), .pointer (some ⟨DB + 1, 0, none⟩), .int .i64 0, .string ROOT, .int .i64 0, .slice (some ⟨RB, 0, none⟩) 7 7, _, .slice xa OCT.length xc, .int .i64 0, .pointer (some ⟨B7, 0, none⟩), _, _, _, _, _, _, _, _, _, _, _, _, _, _, _, _, _, _, _, _, _, _, _, _, _, _, _, _, _, _, _, _, _, _, _, _, _, _, _, _, _, _, _, _, _, _, _, _, _, _, _, _, _, _, _, _, _, _, _, _, _, _, .int .i64 0, .bool true, .bool true, .int .i64 0, .bool true, .bool true, .bool true, .int .i64 0, .bool true, .bool true, .bool true, .agg #[.int .i64 K, .int .i64 V, .int .i64 H, .string BS, .int .i64 T, .int .i64 (fn : Nat), .string ⟨#[]⟩], .agg #[.int .i64 K, .int .i64 V, .int .i64 H, .string BS, .int .i64 T, .int .i64 (fn : Nat), .string ⟨#[]⟩], .bool true, .bool true, .bool true, .agg #[.int .i64 K, .int .i64 V, .int .i64 H, .string BS, .int .i64 T, .int .i64 (fn : Nat), .string SIG], .slice (some ⟨RB, 0, none⟩) 7 7, .bool true, .bool true, .bool true, .slice xa OCT.length xc, .pointer (some ⟨g8, 0, none⟩), .agg #[.int .i64 K, .int .i64 V, .int .i64 H, .string BS, .int .i64 T, .int .i64 (fn : Nat), .string SIG], .agg #[.int .i64 K, .int .i64 V, .int .i64 H, .string BS, .int .i64 T, .int .i64 (fn : Nat), .string SIG], .bool true, .bool true, .bool true, .pointer (some ⟨DB + 1, 2, none⟩), .int .i64 ((m : Int) + 1), .pointer (some ⟨KB, 2, none⟩), _, _, _, _], defers := _ } _
  refine alongK_read (.int .i64 (m : Int)) rfl rfl (fun wx hS => ex_load Tryd.isAgg3 rfl rfl wx ((key_cells ((hS.block _ (lt_of_block HKz.out)).trans HKz.out)).2.2)) ?_
  change AlongK _ _ _ _ _ { tmps := #[.agg #[.int .i64 K, .int .i64 V, .int .i64 H, .string BS, .int .i64 T, .int .i64 (fn : Nat), .string S], .int .i64 next, .pointer (some ⟨AB, 0, none⟩), _, .bool false, .pointer (some ⟨KB, 0, none⟩), .pointer (some ⟨DB, 0, none⟩), .pointer (some ⟨DB + 1, 0, none⟩), .int .i64 0, .string ROOT, .int .i64 0, .slice (some ⟨RB, 0, none⟩) 7 7, _, .slice xa OCT.length xc, .int .i64 0, .pointer (some ⟨B7, 0, none⟩), _, _, _, _, _, _, _, _, _, _, _, _, _, _, _, _, _, _, _, _, _, _, _, _, _, _, _, _, _, _, _, _, _, _, _, _, _, _, _, _, _, _, _, _, _, _, _, _, _, _, _, _, _, _, _, _, _, _, _, _, _, _, .int .i64 0, .bool true, .bool true, .int .i64 0, .bool true, .bool true, .bool true, .int .i64 0, .bool true, .bool true, .bool true, .agg #[.int .i64 K, .int .i64 V, .int .i64 H, .string BS, .int .i64 T, .int .i64 (fn : Nat), .string ⟨#[]⟩], .agg #[.int .i64 K, .int .i64 V, .int .i64 H, .string BS, .int .i64 T, .int .i64 (fn : Nat), .string ⟨#[]⟩], .bool true, .bool true, .bool true, .agg #[.int .i64 K, .int .i64 V, .int .i64 H, .string BS, .int .i64 T, .int .i64 (fn : Nat), .string SIG], .slice (some ⟨RB, 0, none⟩) 7 7, .bool true, .bool true, .bool true, .slice xa OCT.length xc, .pointer (some ⟨g8, 0, none⟩), .agg #[.int .i64 K, .int .i64 V, .int .i64 H, .string BS, .int .i64 T, .int .i64 (fn : Nat), .string SIG], .agg #[.int .i64 K, .int .i64 V, .int .i64 H, .string BS, .int .i64 T, .int .i64 (fn : Nat), .string SIG], .bool true, .bool true, .bool true, .pointer (some ⟨DB + 1, 2, none⟩), .int .i64 ((m : Int) + 1), .pointer (some ⟨KB, 2, none⟩), .int .i64 (m : Int), _, _, _], defers := _ } _
  refine alongK_read (.int .i64 ((m : Int) + 1)) rfl rfl (fun wx hS => ex_bin rfl rfl rfl wx (vt_add _ _ m Hm.out wx)) ?_
  change AlongK _ _ _ _ _ { tmps := #[.agg #[.int .i64 K, .int .i64 V, .int .i64 H, .string BS, .int .i64 T, .int .i64 (fn : Nat), .string S], .int .i64 next, .pointer (some ⟨AB, 0, none⟩), _, .bool false, .pointer (some ⟨KB, 0, none⟩), .pointer (some ⟨DB, 0, none⟩), .pointer (some ⟨DB + 1, 0, none⟩), .int .i64 0, .string ROOT, .int .i64 0, .slice (some ⟨RB, 0, none⟩) 7 7, _, .slice xa OCT.length xc, .int .i64 0, .pointer (some ⟨B7, 0, none⟩), _, _, _, _, _, _, _, _, _, _, _, _, _, _, _, _, _, _, _, _, _, _, _, _, _, _, _, _, _, _, _, _, _, _, _, _, _, _, _, _, _, _, _, _, _, _, _, _, _, _, _, _, _, _, _, _, _, _, _, _, _, _, .int .i64 0, .bool true, .bool true, .int .i64 0, .bool true, .bool true, .bool true, .int .i64 0, .bool true, .bool true, .bool true, .agg #[.int .i64 K, .int .i64 V, .int .i64 H, .string BS, .int .i64 T, .int .i64 (fn : Nat), .string ⟨#[]⟩], .agg #[.int .i64 K, .int .i64 V, .int .i64 H, .string BS, .int .i64 T, .int .i64 (fn : Nat), .string ⟨#[]⟩], .bool true, .bool true, .bool true, .agg #[.int .i64 K, .int .i64 V, .int .i64 H, .string BS, .int .i64 T, .int .i64 (fn : Nat), .string SIG], .slice (some ⟨RB, 0, none⟩) 7 7, .bool true, .bool true, .bool true, .slice xa OCT.length xc, .pointer (some ⟨g8, 0, none⟩), .agg #[.int .i64 K, .int .i64 V, .int .i64 H, .string BS, .int .i64 T, .int .i64 (fn : Nat), .string SIG], .agg #[.int .i64 K, .int .i64 V, .int .i64 H, .string BS, .int .i64 T, .int .i64 (fn : Nat), .string SIG], .bool true, .bool true, .bool true, .pointer (some ⟨DB + 1, 2, none⟩), .int .i64 ((m : Int) + 1), .pointer (some ⟨KB, 2, none⟩), .int .i64 (m : Int), .int .i64 ((m : Int) + 1), _, _], defers := _ } _
  refine alongK_read (.bool true) rfl rfl (fun wx hS => ex_eqi rfl (by rfl) (by rfl) (by simp) wx) ?_
  change AlongK _ _ _ _ _ { tmps := #[.agg #[.int .i64 K, .int .i64 V, .int .i64 H, .string BS, .int .i64 T, .int .i64 (fn : Nat), .string S], .int .i64 next, .pointer (some ⟨AB, 0, none⟩), _, .bool false, .pointer (some ⟨KB, 0, none⟩), .pointer (some ⟨DB, 0, none⟩), .pointer (some ⟨DB + 1, 0, none⟩), .int .i64 0, .string ROOT, .int .i64 0, .slice (some ⟨RB, 0, none⟩) 7 7, _, .slice xa OCT.length xc, .int .i64 0, .pointer (some ⟨B7, 0, none⟩), _, _, _, _, _, _, _, _, _, _, _, _, _, _, _, _, _, _, _, _, _, _, _, _, _, _, _, _, _, _, _, _, _, _, _, _, _, _, _, _, _, _, _, _, _, _, _, _, _, _, _, _, _, _, _, _, _, _, _, _, _, _, .int .i64 0, .bool true, .bool true, .int .i64 0, .bool true, .bool true, .bool true, .int .i64 0, .bool true, .bool true, .bool true, .agg #[.int .i64 K, .int .i64 V, .int .i64 H, .string BS, .int .i64 T, .int .i64 (fn : Nat), .string ⟨#[]⟩], .agg #[.int .i64 K, .int .i64 V, .int .i64 H, .string BS, .int .i64 T, .int .i64 (fn : Nat), .string ⟨#[]⟩], .bool true, .bool true, .bool true, .agg #[.int .i64 K, .int .i64 V, .int .i64 H, .string BS, .int .i64 T, .int .i64 (fn : Nat), .string SIG], .slice (some ⟨RB, 0, none⟩) 7 7, .bool true, .bool true, .bool true, .slice xa OCT.length xc, .pointer (some ⟨g8, 0, none⟩), .agg #[.int .i64 K, .int .i64 V, .int .i64 H, .string BS, .int .i64 T, .int .i64 (fn : Nat), .string SIG], .agg #[.int .i64 K, .int .i64 V, .int .i64 H, .string BS, .int .i64 T, .int .i64 (fn : Nat), .string SIG], .bool true, .bool true, .bool true, .pointer (some ⟨DB + 1, 2, none⟩), .int .i64 ((m : Int) + 1), .pointer (some ⟨KB, 2, none⟩), .int .i64 (m : Int), .int .i64 ((m : Int) + 1), .bool true, _], defers := _ } _
  refine alongK_read (.bool true) rfl rfl (fun wx hS => ex_pickt rfl (by rfl) (by rfl) wx) ?_
  change AlongK _ _ _ _ _ { tmps := #[.agg #[.int .i64 K, .int .i64 V, .int .i64 H, .string BS, .int .i64 T, .int .i64 (fn : Nat), .string S], .int .i64 next, .pointer (some ⟨AB, 0, none⟩), _, .bool false, .pointer (some ⟨KB, 0, none⟩), .pointer (some ⟨DB, 0, none⟩), .pointer (some ⟨DB + 1, 0, none⟩), .int .i64 0, .string ROOT, .int .i64 0, .slice (some ⟨RB, 0, none⟩) 7 7, _, .slice xa OCT.length xc, .int .i64 0, .pointer (some ⟨B7, 0, none⟩), _, _, _, _, _, _, _, _, _, _, _, _, _, _, _, _, _, _, _, _, _, _, _, _, _, _, _, _, _, _, _, _, _, _, _, _, _, _, _, _, _, _, _, _, _, _, _, _, _, _, _, _, _, _, _, _, _, _, _, _, _, _, .int .i64 0, .bool true, .bool true, .int .i64 0, .bool true, .bool true, .bool true, .int .i64 0, .bool true, .bool true, .bool true, .agg #[.int .i64 K, .int .i64 V, .int .i64 H, .string BS, .int .i64 T, .int .i64 (fn : Nat), .string ⟨#[]⟩], .agg #[.int .i64 K, .int .i64 V, .int .i64 H, .string BS, .int .i64 T, .int .i64 (fn : Nat), .string ⟨#[]⟩], .bool true, .bool true, .bool true, .agg #[.int .i64 K, .int .i64 V, .int .i64 H, .string BS, .int .i64 T, .int .i64 (fn : Nat), .string SIG], .slice (some ⟨RB, 0, none⟩) 7 7, .bool true, .bool true, .bool true, .slice xa OCT.length xc, .pointer (some ⟨g8, 0, none⟩), .agg #[.int .i64 K, .int .i64 V, .int .i64 H, .string BS, .int .i64 T, .int .i64 (fn : Nat), .string SIG], .agg #[.int .i64 K, .int .i64 V, .int .i64 H, .string BS, .int .i64 T, .int .i64 (fn : Nat), .string SIG], .bool true, .bool true, .bool true, .pointer (some ⟨DB + 1, 2, none⟩), .int .i64 ((m : Int) + 1), .pointer (some ⟨KB, 2, none⟩), .int .i64 (m : Int), .int .i64 ((m : Int) + 1), .bool true, .bool true], defers := _ } _
  refine alongK_read (.bool true) rfl rfl (fun wx hS => ex_assign (by rfl) (by rfl) wx) ?_
  change AlongK _ _ _ _ _ { tmps := #[.agg #[.int .i64 K, .int .i64 V, .int .i64 H, .string BS, .int .i64 T, .int .i64 (fn : Nat), .string S], .int .i64 next, .pointer (some ⟨AB, 0, none⟩), _, .bool true, .pointer (some ⟨KB, 0, none⟩), .pointer (some ⟨DB, 0, none⟩), .pointer (some ⟨DB + 1, 0, none⟩), .int .i64 0, .string ROOT, .int .i64 0, .slice (some ⟨RB, 0, none⟩) 7 7, _, .slice xa OCT.length xc, .int .i64 0, .pointer (some ⟨B7, 0, none⟩), _, _, _, _, _, _, _, _, _, _, _, _, _, _, _, _, _, _, _, _, _, _, _, _, _, _, _, _, _, _, _, _, _, _, _, _, _, _, _, _, _, _, _, _, _, _, _, _, _, _, _, _, _, _, _, _, _, _, _, _, _, _, .int .i64 0, .bool true, .bool true, .int .i64 0, .bool true, .bool true, .bool true, .int .i64 0, .bool true, .bool true, .bool true, .agg #[.int .i64 K, .int .i64 V, .int .i64 H, .string BS, .int .i64 T, .int .i64 (fn : Nat), .string ⟨#[]⟩], .agg #[.int .i64 K, .int .i64 V, .int .i64 H, .string BS, .int .i64 T, .int .i64 (fn : Nat), .string ⟨#[]⟩], .bool true, .bool true, .bool true, .agg #[.int .i64 K, .int .i64 V, .int .i64 H, .string BS, .int .i64 T, .int .i64 (fn : Nat), .string SIG], .slice (some ⟨RB, 0, none⟩) 7 7, .bool true, .bool true, .bool true, .slice xa OCT.length xc, .pointer (some ⟨g8, 0, none⟩), .agg #[.int .i64 K, .int .i64 V, .int .i64 H, .string BS, .int .i64 T, .int .i64 (fn : Nat), .string SIG], .agg #[.int .i64 K, .int .i64 V, .int .i64 H, .string BS, .int .i64 T, .int .i64 (fn : Nat), .string SIG], .bool true, .bool true, .bool true, .pointer (some ⟨DB + 1, 2, none⟩), .int .i64 ((m : Int) + 1), .pointer (some ⟨KB, 2, none⟩), .int .i64 (m : Int), .int .i64 ((m : Int) + 1), .bool true, .bool true], defers := _ } _
  refine alongK_done ?_
  clear hg9 hg8 hl8 hr8 hU8 hUv hA8 hAv
  have HUe := Lib.hid (Up.trans HUr.out (Up.trans HUz.out hA9))
  clear hA9
  go_wp2
  go_ret
  exact ⟨rfl, HUe.out⟩

theorem lawVoteBack_any (K V H : Int) (BL : List Int) (T G : Int) (S : ByteArray) (next : Int) (w : World) (hT : Tab64 w) (hbl : U8s BL) (hn : -9223372036854775808 ≤ next ∧ next ≤ 9223372036854775807) :
    Calls Tryd.prog 3 #[.agg (vtC ⟨K, V, H, BL, T, G⟩ S), .int .i64 next] w fun e w' => e = .returned (.bool true) ∧ Below w.heap.size w w' := by
  by_cases hf : G < 0 ∨ 6 < G
  · exact vtBack_none K V H BL T G S next w hf hn
  · by_cases hE : vtE ⟨K, V, H, BL, T, G⟩ ⟨#[]⟩ = 0
    · obtain ⟨fn, rfl⟩ : ∃ fn : Nat, G = fn := ⟨G.toNat, by omega⟩
      obtain ⟨q, hq⟩ : ∃ q, next.tmod 16 = q := ⟨_, rfl⟩
      have hq1 : -15 ≤ q ∧ q ≤ 15 := by
        have t1 := Int.lt_tmod_of_pos next (show (0 : Int) < 16 by omega)
        have t2 := Int.tmod_lt_of_pos next (show (0 : Int) < 16 by omega)
        omega
      obtain ⟨m, hm⟩ : ∃ m : Nat, (q + 16) % 16 = m := ⟨((q + 16) % 16).toNat, by omega⟩
      obtain ⟨_, _, _, _, _, _, hF⟩ := vbackFs w fn m K V H BL T hT (by omega) (by omega) hbl hE
      exact vtBack_good fn m K V H BL T S _ _ _ _ _ _ next q w hF (by omega) hq (by omega) hm (by omega) hn hq1.2
    · exact vtBack_bad K V H BL T G S next w ⟨by omega, by omega⟩ hE hn
end
end Go.Proofs.YtenhjjbbmmomaaaDoor
