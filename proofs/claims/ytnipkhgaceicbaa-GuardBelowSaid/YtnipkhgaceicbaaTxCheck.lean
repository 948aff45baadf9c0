import Derived.Test.YtnipkhgaceicbaaUps
import Derived.Test.YtnipkhgaceicbaaStrs
import Derived.Test.YtnipkhgaceicbaaPkWriter
namespace Go.Proofs.Ytnipkhgaceicbaa
/-
  tx: the numbers of a transaction; Check; the page's example.
-/
section
set_option maxRecDepth 100000
section
set_option linter.unusedVariables false
open Go.RowKit

/-- a transaction's cells -/
def txC (f t a n : Int) (S : ByteArray) : Array Value := #[.int .i64 f, .int .i64 t, .int .i64 a, .int .i64 n, .string S]
def numsC (f t a n : Int) : Array Value := #[.int .i64 f, .int .i64 0, .int .i64 3, .int .i64 t, .int .i64 0, .int .i64 3, .int .i64 a, .int .i64 1, .int .i64 1000, .int .i64 n, .int .i64 0, .int .i64 1099511627776]
theorem info_tx : (Try.prog.info? 90).map (·.size) = some 5 := by kernel_rfl
theorem numbers_any (f t a n : Int) (S : ByteArray) (w : World) :
    Calls Try.prog 87 #[.agg (txC f t a n S)] w fun e w' => e = .returned (.agg (numsC f t a n)) ∧ Up w w' := by
  unfold txC
  go_enter Try.func87, Try.ntmps87
  go_wp2
  exact bodyPost_ret (v := .agg (numsC f t a n)) (by simp [results, Try.results87, numsC, go_sem]) rfl ⟨rfl, Up.alloc (Up.alloc (Up.refl w) _) _⟩

/-- the k-th number, its least, its most -/
def txX (f t a n : Int) (k : Nat) : Int := match k with | 0 => f | 1 => t | 2 => a | _ => n
def txL (k : Nat) : Int := match k with | 2 => 1 | _ => 0
def txM (k : Nat) : Int := match k with | 0 => 3 | 1 => 3 | 2 => 1000 | _ => 1099511627776
theorem index_nums (f t a n : Int) (k : Nat) (hk : k < 4) (w : World) :
    (Instr.index 150 (.agg (numsC f t a n)) (.int .i64 k)).run Try.prog w = .ok (.agg #[.int .i64 (txX f t a n k), .int .i64 (txL k), .int .i64 (txM k)]) w := by
  have hc : k = 0 ∨ k = 1 ∨ k = 2 ∨ k = 3 := by omega
  rcases hc with rfl | rfl | rfl | rfl
  all_goals simp [Instr.index, numsC, txX, txL, txM, part, go_sem, Try.sizeOf149]

def numsOk (f t a n : Int) (k : Nat) : Prop := ∀ j, j < k → txL j ≤ txX f t a n j ∧ txX f t a n j ≤ txM j
def txE (f t a n : Int) (S : ByteArray) : Int := if ((0 ≤ f ∧ f ≤ 3) ∧ (0 ≤ t ∧ t ≤ 3) ∧ (1 ≤ a ∧ a ≤ 1000) ∧ (0 ≤ n ∧ n ≤ 1099511627776)) ∧ f ≠ t ∧ S.size ≤ 4096 then 0 else 9
theorem numsOk_four {f t a n : Int} : numsOk f t a n 4 ↔ ((0 ≤ f ∧ f ≤ 3) ∧ (0 ≤ t ∧ t ≤ 3) ∧ (1 ≤ a ∧ a ≤ 1000) ∧ (0 ≤ n ∧ n ≤ 1099511627776)) := by
  constructor
  · intro h
    exact ⟨h 0 (by omega), h 1 (by omega), h 2 (by omega), h 3 (by omega)⟩
  · intro ⟨h0, h1, h2, h3⟩ j hj
    have hc : j = 0 ∨ j = 1 ∨ j = 2 ∨ j = 3 := by omega
    rcases hc with rfl | rfl | rfl | rfl
    · exact h0
    · exact h1
    · exact h2
    · exact h3

set_option maxHeartbeats 1000000 in
theorem check_any (f t a n : Int) (S : ByteArray) (w : World) :
    Calls Try.prog 79 #[.agg (txC f t a n S)] w fun e w' => e = .returned (.int .i64 (txE f t a n S)) ∧ Up w w' := by
  have Hn : Hid (∀ wx, Calls Try.prog 87 #[.agg #[.int .i64 f, .int .i64 t, .int .i64 a, .int .i64 n, .string S]] wx fun e w' => e = .returned (.agg (numsC f t a n)) ∧ Up wx w') := fun wx => numbers_any f t a n S wx
  have Hix : Hid (∀ k, k < 4 → ∀ wx, (Instr.index 150 (.agg (numsC f t a n)) (.int .i64 (k : Nat))).run Try.prog wx = .ok (.agg #[.int .i64 (txX f t a n k), .int .i64 (txL k), .int .i64 (txM k)]) wx) := fun k hk wx => index_nums f t a n k hk wx
  have Hbad : Hid (∀ k, k < 4 → (txX f t a n k < txL k ∨ txM k < txX f t a n k) → txE f t a n S = 9) := by
    intro k hk hb
    refine if_neg fun ⟨h, _⟩ => ?_
    have := numsOk_four.2 h k hk
    omega
  have Hok : Hid (numsOk f t a n 4 → txE f t a n S = if f ≠ t ∧ S.size ≤ 4096 then 0 else 9) := by
    intro h
    unfold txE
    by_cases hc : f ≠ t ∧ S.size ≤ 4096
    · rw [if_pos hc, if_pos ⟨numsOk_four.1 h, hc⟩]
    · rw [if_neg hc, if_neg fun h2 => hc h2.2]
  obtain ⟨E, hE⟩ : ∃ E, txE f t a n S = E := ⟨_, rfl⟩
  rw [hE] at Hbad Hok ⊢
  clear hE
  unfold txC
  obtain ⟨X, hX⟩ : ∃ X, txX f t a n = X := ⟨_, rfl⟩
  have HN : Hid (∀ k, numsOk f t a n k ↔ ∀ j, j < k → txL j ≤ X j ∧ X j ≤ txM j) := by intro k; rw [← hX]; rfl
  simp only [hX] at Hix Hbad
  clear hX
  go_enter Try.func79, Try.ntmps79
  go_wp2_with fail
  with_reducible refine Calls.mono (Hn.out _) ?_
  rintro e w1 ⟨rfl, hU1⟩
  generalize numsC f t a n = NS at Hix ⊢
  have hbox := (hU1.block w.heap.size (by simp)).trans (heap_alloc_new w (.cells #[Value.int .i64 f, .int .i64 t, .int .i64 a, .int .i64 n, .string S] 90))
  have HU1 := Lib.hid (Up.trans (Up.alloc (Up.refl w) _) hU1)
  have Hbox := Lib.hid hbox
  clear hU1 hbox
  go_wp2
  go_loopw [7] (fun i wr => ∃ k : Nat, k ≤ 4 ∧ i = .int .i64 k ∧ Up w1 wr ∧ Hid (numsOk f t a n k)) (fun i _ => 4 - (intOf i).toNat)
  case atStart => exact ⟨0, by omega, rfl, Up.refl w1, fun j hj => by omega⟩
  case round =>
    obtain ⟨k, hk, rfl, hU, hok⟩ := hrel
    have HU := Lib.hid hU
    clear hU
    by_cases hlt : k < 4
    · have hix := Hix.out k hlt
      have hb := Lib.hid (Hbad.out k hlt)
      have Hs : Hid (txL k ≤ X k → X k ≤ txM k → numsOk f t a n (k + 1)) := by
        intro h1 h2
        refine (HN.out (k + 1)).2 fun j hj => ?_
        by_cases e : j = k
        · subst e; exact ⟨h1, h2⟩
        · exact (HN.out k).1 hok.out j (by omega)
      generalize txL k = l at hix hb Hs ⊢
      generalize txM k = m at hix hb Hs ⊢
      generalize X k = x at hix hb Hs ⊢
      by_cases h1 : x < l
      · have hb := Lib.hid (hb.out (.inl h1))
        go_wp2
        go_ret
        exact ⟨congrArg (fun x => Ending.returned (Value.int .i64 x)) hb.out.symm, Up.trans HU1.out (Up.alloc HU.out _)⟩
      · by_cases h2 : m < x
        · have hb := Lib.hid (hb.out (.inr h2))
          go_wp2
          go_ret
          exact ⟨congrArg (fun x => Ending.returned (Value.int .i64 x)) hb.out.symm, Up.trans HU1.out (Up.alloc HU.out _)⟩
        · have hok2 := Lib.hid (Hs.out (by omega) (by omega))
          go_wp2
          go_roundw
          case rel => exact ⟨k + 1, by omega, by go_num, Up.alloc HU.out _, hok2.out⟩
          case measure => simp [intOf]; omega
    · obtain rfl : k = 4 := by omega
      have hE := Lib.hid (Hok.out hok.out)
      have hbox := (HU.out.block w.heap.size (lt_of_block Hbox.out)).trans Hbox.out
      have hc0 := cell_of_row _ _ 0 _ _ _ hbox
      have hc1 := cell_of_row _ _ 1 _ _ _ hbox
      have hc4 := cell_of_row _ _ 4 _ _ _ hbox
      simp only [List.getElem?_toArray, List.getElem?_cons_zero, List.getElem?_cons_succ] at hc0 hc1 hc4
      clear hbox
      by_cases hft : f = t
      · have hE2 := Lib.hid (hE.out.trans (if_neg fun h => h.1 hft))
        subst hft
        go_wp2
        go_ret
        exact ⟨congrArg (fun x => Ending.returned (Value.int .i64 x)) hE2.out.symm, Up.trans HU1.out HU.out⟩
      · by_cases hs : S.size ≤ 4096
        · have hE2 := Lib.hid (hE.out.trans (if_pos ⟨hft, hs⟩))
          have hs1 : ¬ (4096 : Int) < (S.size : Int) := by omega
          go_wp2
          go_ret
          exact ⟨congrArg (fun x => Ending.returned (Value.int .i64 x)) hE2.out.symm, Up.trans HU1.out HU.out⟩
        · have hE2 := Lib.hid (hE.out.trans (if_neg fun h => hs h.2))
          have hs1 : (4096 : Int) < (S.size : Int) := by omega
          go_wp2
          go_ret
          exact ⟨congrArg (fun x => Ending.returned (Value.int .i64 x)) hE2.out.symm, Up.trans HU1.out HU.out⟩

end
end

/-
  tx: the text of a transaction, and its octets.
-/
section
set_option maxRecDepth 100000
section
set_option linter.unusedVariables false
open Go.RowKit

/-- a writer's error and octets behind a number, a text -/
def numS (p : Int × List Int) (n : Int) : Int × List Int := (wNumE p.1 n, wNumB p.1 p.2 n)
def textS (p : Int × List Int) (zs : List Int) : Int × List Int := (wTextE p.1 zs, wTextB p.1 p.2 zs)
theorem numS_le (p : Int × List Int) (n : Int) (h : p.2.length ≤ 20482) : (numS p n).2.length ≤ 20482 := wNumB_le _ _ _ h
theorem textS_le (p : Int × List Int) (zs : List Int) (h : p.2.length ≤ 20482) : (textS p zs).2.length ≤ 20482 := wTextB_le _ _ _ h
/-- .. behind the text and k numbers of a transaction -/
def txS (p : Int × List Int) (f t a n : Int) : Nat → Int × List Int
  | 0 => textS p [116, 120]
  | k + 1 => numS (txS p f t a n k) (txX f t a n k)
theorem txS_le (p : Int × List Int) (f t a n : Int) (h : p.2.length ≤ 20482) : ∀ k, (txS p f t a n k).2.length ≤ 20482
  | 0 => textS_le _ _ h
  | k + 1 => numS_le _ _ (txS_le p f t a n h k)
def I64 (n : Int) : Prop := -9223372036854775808 ≤ n ∧ n ≤ 9223372036854775807
theorem txX_i64 {f t a n : Int} (hf : I64 f) (ht : I64 t) (ha : I64 a) (hn : I64 n) (k : Nat) : I64 (txX f t a n k) := by
  unfold txX; split
  · exact hf
  · exact ht
  · exact ha
  · exact hn

theorem WrStep.size {g : Nat} {o o' : Value} {w w' : World} (hs : WrStep g o o' w w') : w.heap.size ≤ w'.heap.size := hs.1.size
theorem WrStep.keep {g : Nat} {o o' : Value} {w w' : World} (hs : WrStep g o o' w w') {B : Nat} {x : Obj} (hB : w.heap[B]? = some x) (hg : B ≠ g) (ho : o.ownBlock ≠ some B) : w'.heap[B]? = some x :=
  (hs.1.block B (lt_of_block hB) (fun e => by
    rcases e with e | e
    · exact hg e
    · exact ho e)).trans hB
set_option maxHeartbeats 1000000 in
theorem putText_any (base g : Nat) (o : Value) (E : Int) (bs : List Int) (f t a n : Int) (S : ByteArray) (w : World) (h : Wr w base g o E bs) (hf : I64 f) (ht : I64 t) (ha : I64 a) (hn : I64 n) (hb : bs.length ≤ 20482) (hbase : base ≤ w.heap.size) :
    Calls Try.prog 84 #[.pointer (some ⟨g, 0, none⟩), .agg (txC f t a n S)] w fun e w' => e = .returned (.tuple #[]) ∧ ∃ o', Wr w' base g o' (txS (E, bs) f t a n 4).1 (txS (E, bs) f t a n 4).2 ∧ WrStep g o o' w w' := by
  have Hn : Hid (∀ wx, Calls Try.prog 87 #[.agg #[.int .i64 f, .int .i64 t, .int .i64 a, .int .i64 n, .string S]] wx fun e w' => e = .returned (.agg (numsC f t a n)) ∧ Up wx w') := fun wx => numbers_any f t a n S wx
  have Hix : Hid (∀ k, k < 4 → ∀ wx, (Instr.index 150 (.agg (numsC f t a n)) (.int .i64 (k : Nat))).run Try.prog wx = .ok (.agg #[.int .i64 (txX f t a n k), .int .i64 (txL k), .int .i64 (txM k)]) wx) := fun k hk wx => index_nums f t a n k hk wx
  have Ht : Hid (∀ wx, Up w wx → Calls Try.prog 67 #[.pointer (some ⟨g, 0, none⟩), .string ⟨#[116, 120]⟩] wx fun e w' => e = .returned (.tuple #[]) ∧ ∃ o', Wr w' base g o' (txS (E, bs) f t a n 0).1 (txS (E, bs) f t a n 0).2 ∧ WrStep g o o' wx w') := fun wx hx =>
    wtext_any base g o E bs [116, 120] wx (h.up hx) (by intro j hj; have hc : j = 0 ∨ j = 1 := by simp at hj; omega
                                                        rcases hc with rfl | rfl <;> simp) (by simp) (by omega) (Nat.le_trans hbase hx.size)
  have Hw : Hid (∀ (k : Nat) (wx : World) (o' : Value), k < 4 → Wr wx base g o' (txS (E, bs) f t a n k).1 (txS (E, bs) f t a n k).2 → base ≤ wx.heap.size → Calls Try.prog 68 #[.pointer (some ⟨g, 0, none⟩), .int .i64 (txX f t a n k)] wx fun e w' => e = .returned (.tuple #[]) ∧ ∃ o'', Wr w' base g o'' (txS (E, bs) f t a n (k + 1)).1 (txS (E, bs) f t a n (k + 1)).2 ∧ WrStep g o' o'' wx w') :=
    fun k wx o' hk hw hbx => wnum_any base g o' _ _ _ wx hw (txX_i64 hf ht ha hn k) (by have := txS_le (E, bs) f t a n hb k; omega) hbx
  have Hg := Lib.hid h.lt
  have Ho : Hid (o.ownBlock ≠ some w.heap.size) := fun e => by have := (h.2.2.lt _ e).2; omega
  have Hbase := Lib.hid hbase
  have Hws : Hid (∀ (wx : World) (o' : Value) (wy : World), WrStep g o o' w wx → Up wx wy → WrStep g o o' w wy) := fun wx o' wy h1 h2 => h1.trans h.lt (WrStep.up h2)
  have Hle : Hid (∀ (wx : World) (o' : Value), WrStep g o o' w wx → base ≤ wx.heap.size) := fun wx o' h1 => Nat.le_trans hbase h1.1.size
  generalize txS (E, bs) f t a n = T at Ht Hw ⊢
  generalize txX f t a n = X at Hix Hw
  unfold txC
  clear h hf ht ha hn hb hbase
  go_enter Try.func84, Try.ntmps84
  go_wp2_with fail
  with_reducible refine Calls.mono (Ht.out _ (Up.alloc (Up.refl w) _)) ?_
  rintro e w1 ⟨rfl, o1, h1, h2⟩
  have hbox := h2.keep (heap_alloc_new w (.cells #[Value.int .i64 f, .int .i64 t, .int .i64 a, .int .i64 n, .string S] 90)) (by have := Hg.out; omega) Ho.out
  have H1 := Lib.hid h1
  have H2 := Lib.hid ((WrStep.up (g := g) (o := o) (Up.alloc (Up.refl w) (.cells #[Value.int .i64 f, .int .i64 t, .int .i64 a, .int .i64 n, .string S] 90))).trans Hg.out h2)
  clear h1 h2
  obtain ⟨hc0, hc1, hc2, hc3, hc4⟩ := tx_cells hbox
  clear hbox
  go_wp2_with fail
  with_reducible refine Calls.mono (Hn.out _) ?_
  rintro e w2 ⟨rfl, hU2⟩
  clear hc0 hc1 hc2 hc3 hc4
  have H3 := Lib.hid (H1.out.up hU2)
  have H4 := Lib.hid (Hws.out _ _ _ H2.out hU2)
  clear hU2
  generalize numsC f t a n = NS at Hix ⊢
  go_wp2
  go_loopw [10] (fun i wr => ∃ k : Nat, k ≤ 4 ∧ i = .int .i64 k ∧ Hid (∃ o', Wr wr base g o' (T k).1 (T k).2 ∧ WrStep g o o' w wr)) (fun i _ => 4 - (intOf i).toNat)
  case atStart => exact ⟨0, by omega, rfl, o1, H3.out, H4.out⟩
  case round =>
    obtain ⟨k, hk, rfl, hw⟩ := hrel
    by_cases hlt : k < 4
    · have hix := Hix.out k hlt
      have Hk := Lib.hid hlt
      clear hk
      have Hnum : Hid (∀ wx, Up wr wx → Calls Try.prog 68 #[.pointer (some ⟨g, 0, none⟩), .int .i64 (X k)] wx fun e w' => e = .returned (.tuple #[]) ∧ ∃ o'', Wr w' base g o'' (T (k + 1)).1 (T (k + 1)).2 ∧ WrStep g o o'' w w') := by
        intro wx hx
        obtain ⟨o', h5, h6⟩ := hw.out
        exact (Hw.out k wx o' hlt (h5.up hx) (Hle.out _ _ (Hws.out _ _ _ h6 hx))).mono fun e w' ⟨h7, o'', h8, h9⟩ => ⟨h7, o'', h8, (Hws.out _ _ _ h6 hx).trans Hg.out h9⟩
      generalize X k = x at hix Hnum
      generalize txL k = l at hix
      generalize txM k = m at hix
      go_wp2_with fail
      with_reducible refine Calls.mono (Hnum.out _ (Up.alloc (Up.refl wr) _)) ?_
      rintro e w5 ⟨rfl, o5, h5, h6⟩
      have H5 := Lib.hid h5
      have H6 := Lib.hid h6
      clear h5 h6
      go_wp2
      go_roundw
      case rel => exact ⟨k + 1, by omega, by go_num, o5, H5.out, H6.out⟩
      case measure => simp [intOf]; omega
    · obtain rfl : k = 4 := by omega
      go_wp2
      go_end0
      exact ⟨rfl, hw.out⟩

/-- the octets that are signed of a transaction that may be -/
def txT (f t a n : Int) : List Int := [0, 2, 116, 120] ++ octAll f 6 ++ octAll t 6 ++ octAll a 6 ++ octAll n 6
theorem txT_length (f t a n : Int) : (txT f t a n).length = 28 := by simp [txT, octAll_length]
theorem txT_u8s (f t a n : Int) : U8s (txT f t a n) := by
  unfold txT
  refine ((((?_ : U8s [0, 2, 116, 120]).append (octAll_u8s _ _)).append (octAll_u8s _ _)).append (octAll_u8s _ _)).append (octAll_u8s _ _)
  intro j hj
  have hc : j = 0 ∨ j = 1 ∨ j = 2 ∨ j = 3 := by simp at hj; omega
  rcases hc with rfl | rfl | rfl | rfl <;> simp
theorem numS_ok (bs : List Int) (n : Int) (h0 : 0 ≤ n ∧ n ≤ 1099511627776) (hb : bs.length ≤ 16384) : numS (0, bs) n = (0, bs ++ octAll n 6) := by
  have h1 : ¬ (n < 0 ∨ 1099511627776 < n) := by omega
  simp [numS, wNumE, wNumB, wPut, h1, hb]
theorem textS_ok (bs zs : List Int) (h0 : zs.length ≤ 4096) (hb : bs.length ≤ 16384) : textS (0, bs) zs = (0, bs ++ (octAll zs.length 2 ++ zs)) := by
  have h1 : ¬ 4096 < zs.length := by omega
  simp [textS, wTextE, wTextB, wPut, h1, hb]
theorem txS_ok (bs : List Int) (f t a n : Int) (hf : 0 ≤ f ∧ f ≤ 1099511627776) (ht : 0 ≤ t ∧ t ≤ 1099511627776) (ha : 0 ≤ a ∧ a ≤ 1099511627776) (hn : 0 ≤ n ∧ n ≤ 1099511627776) (hb : bs.length ≤ 16000) : txS (0, bs) f t a n 4 = (0, bs ++ txT f t a n) := by
  have e : octAll (2 : Int) 2 = [0, 2] := by decide
  simp only [txS, txX]
  rw [textS_ok _ _ (by simp) (by omega)]
  rw [show octAll ((([116, 120] : List Int).length : Nat) : Int) 2 = [0, 2] from e]
  rw [numS_ok _ _ hf (by simp; omega), numS_ok _ _ ht (by simp [octAll_length]; omega), numS_ok _ _ ha (by simp [octAll_length]; omega), numS_ok _ _ hn (by simp [octAll_length]; omega)]
  simp [txT]

set_option maxHeartbeats 1000000 in
theorem txPut_any (base g : Nat) (o : Value) (E : Int) (bs : List Int) (f t a n : Int) (sig : List Int) (w : World) (h : Wr w base g o E bs) (hf : I64 f) (ht : I64 t) (ha : I64 a) (hn : I64 n) (hu : U8s sig) (hs : sig.length ≤ 9223372036854775807) (hb : bs.length ≤ 20482) (hbase : base ≤ w.heap.size) :
    Calls Try.prog 70 #[.pointer (some ⟨g, 0, none⟩), .agg (txC f t a n (strOfNums sig))] w fun e w' => e = .returned (.tuple #[]) ∧ ∃ o', Wr w' base g o' (textS (txS (E, bs) f t a n 4) sig).1 (textS (txS (E, bs) f t a n 4) sig).2 ∧ WrStep g o o' w w' := by
  have Hp : Hid (∀ wx, Up w wx → Calls Try.prog 84 #[.pointer (some ⟨g, 0, none⟩), .agg #[.int .i64 f, .int .i64 t, .int .i64 a, .int .i64 n, .string (strOfNums sig)]] wx fun e w' => e = .returned (.tuple #[]) ∧ ∃ o', Wr w' base g o' (txS (E, bs) f t a n 4).1 (txS (E, bs) f t a n 4).2 ∧ WrStep g o o' wx w') := fun wx hx =>
    putText_any base g o E bs f t a n (strOfNums sig) wx (h.up hx) hf ht ha hn hb (Nat.le_trans hbase hx.size)
  have Ht : Hid (∀ (wx : World) (o' : Value), Wr wx base g o' (txS (E, bs) f t a n 4).1 (txS (E, bs) f t a n 4).2 → base ≤ wx.heap.size → Calls Try.prog 67 #[.pointer (some ⟨g, 0, none⟩), .string (strOfNums sig)] wx fun e w' => e = .returned (.tuple #[]) ∧ ∃ o'', Wr w' base g o'' (textS (txS (E, bs) f t a n 4) sig).1 (textS (txS (E, bs) f t a n 4) sig).2 ∧ WrStep g o' o'' wx w') :=
    fun wx o' hw hbx => wtext_any base g o' _ _ sig wx hw hu hs (by have := txS_le (E, bs) f t a n hb 4; omega) hbx
  have Hg := Lib.hid h.lt
  have Ho : Hid (o.ownBlock ≠ some w.heap.size) := fun e => by have := (h.2.2.lt _ e).2; omega
  have Hbase := Lib.hid hbase
  generalize txS (E, bs) f t a n 4 = T at Hp Ht ⊢
  generalize textS T sig = T2 at Ht ⊢
  generalize strOfNums sig = S at Hp Ht ⊢
  unfold txC
  clear h hf ht ha hn hb hbase hu hs
  go_enter Try.func70, Try.ntmps70
  have hbox0 := tx_cells (heap_alloc_new w (.cells #[Value.int .i64 f, .int .i64 t, .int .i64 a, .int .i64 n, .string S] 90))
  go_wp2_with fail
  with_reducible refine Calls.mono (Hp.out _ (Up.alloc (Up.refl w) _)) ?_
  rintro e w1 ⟨rfl, o1, h1, h2⟩
  have hbox := h2.keep (heap_alloc_new w (.cells #[Value.int .i64 f, .int .i64 t, .int .i64 a, .int .i64 n, .string S] 90)) (by have := Hg.out; omega) Ho.out
  have H1 := Lib.hid h1
  have H2 := Lib.hid ((WrStep.up (g := g) (o := o) (Up.alloc (Up.refl w) (.cells #[Value.int .i64 f, .int .i64 t, .int .i64 a, .int .i64 n, .string S] 90))).trans Hg.out h2)
  clear h1 h2 hbox0
  have hc4 := (tx_cells hbox).2.2.2.2
  clear hbox
  go_wp2_with fail
  with_reducible refine Calls.mono (Ht.out _ _ H1.out (Nat.le_trans Hbase.out (WrStep.size H2.out))) ?_
  rintro e w2 ⟨rfl, o2, h3, h4⟩
  have H3 := Lib.hid h3
  have H4 := Lib.hid (H2.out.trans Hg.out h4)
  clear h3 h4
  go_wp2
  go_end0
  exact ⟨rfl, o2, H3.out, H4.out⟩
end
end
end Go.Proofs.Ytnipkhgaceicbaa
