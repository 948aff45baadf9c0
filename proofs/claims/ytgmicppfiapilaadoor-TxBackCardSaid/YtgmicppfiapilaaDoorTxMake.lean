import Derived.Test.YtgmicppfiapilaaDoorTxRead
import Derived.Test.YtgmicppfiapilaaDoorSgGood
/-
  tx: Make with a key that has a leaf left; and of what may not be.
-/
namespace Go.Proofs.YtgmicppfiapilaaDoor
set_option maxRecDepth 100000
section
set_option linter.unusedVariables false
open Go.RowKit

theorem one_keyB (s : ByteArray) (v : Value) (k : Int) (hv : v.oneCell' = true) : (#[.string s, v, .int .i64 k] : Array Value).all (·.oneCell') = true := by
  have h1 : (Value.string s).oneCell' = true := by simp [Value.oneCell']
  have h2 : (Value.int .i64 k).oneCell' = true := by simp [Value.oneCell']
  simp [h1, h2, hv]
/-- three results: a transaction and a key in memory, and a number -/
theorem results_make {fn : Func} {p q s : Tmp} (h : fn.results = #[.cell p 23, .cell q 27, .tmp s]) (tmps : Array Value) (w : World) (A B : Nat) (cs ds : Array Value) (u : Value) (hp : tmps.getD p undef = .pointer (some ⟨A, 0, none⟩)) (hq : tmps.getD q undef = .pointer (some ⟨B, 0, none⟩)) (ht : tmps.getD s undef = u)
    (hA : w.heap[A]? = some (.cells cs 23 (0, 0))) (hcs : cs.size = 5) (hB : w.heap[B]? = some (.cells ds 27 (0, 0))) (hds : ds.size = 3) :
    (results fn tmps).run Tryd.prog w = .ok (.tuple #[.agg cs, .agg ds, u]) w := by
  have hp' : tmps[p]?.getD undef = .pointer (some ⟨A, 0, none⟩) := by simpa using hp
  have hq' : tmps[q]?.getD undef = .pointer (some ⟨B, 0, none⟩) := by simpa using hq
  have ht' : tmps[s]?.getD undef = u := by simpa using ht
  have hl := run_loadVar_row (P := Tryd.prog) w A 23 23 cs (0, 0) _ hA Tryd.underlying23 rfl (by rw [info_tx, hcs])
  have hk := run_loadVar_row (P := Tryd.prog) w B 27 27 ds (0, 0) _ hB Tryd.underlying27 rfl (by rw [info_key, hds])
  simp [results, h, hp', hq', ht', asAddr, hl, hk]

theorem alloc4 (w : World) (A B C D : Obj) : let W := (((w.alloc A).alloc B).alloc C).alloc D
    W.heap[w.heap.size]? = some A ∧ W.heap[w.heap.size + 1]? = some B ∧ W.heap[w.heap.size + 1 + 1]? = some C ∧ W.heap[w.heap.size + 1 + 1 + 1]? = some D ∧ Up w W := by
  intro W
  have h1 := heap_alloc_new w A
  have h2 := heap_alloc_new (w.alloc A) B
  have h3 := heap_alloc_new ((w.alloc A).alloc B) C
  have h4 := heap_alloc_new (((w.alloc A).alloc B).alloc C) D
  have s1 : (w.alloc A).heap.size = w.heap.size + 1 := by simp
  have s2 : ((w.alloc A).alloc B).heap.size = w.heap.size + 1 + 1 := by simp
  have s3 : (((w.alloc A).alloc B).alloc C).heap.size = w.heap.size + 1 + 1 + 1 := by simp
  rw [s1] at h2
  rw [s2] at h3
  rw [s3] at h4
  have u4 := Up.alloc (Up.refl (((w.alloc A).alloc B).alloc C)) D
  have u3 := Up.trans (Up.alloc (Up.refl ((w.alloc A).alloc B)) C) u4
  have u2 := Up.trans (Up.alloc (Up.refl (w.alloc A)) B) u3
  exact ⟨(u2.block _ (lt_of_block h1)).trans h1, (u3.block _ (lt_of_block h2)).trans h2, (u4.block _ (lt_of_block h3)).trans h3, h4, Up.trans (Up.alloc (Up.refl w) A) u2⟩

set_option maxHeartbeats 2000000 in
theorem txMake_bad (key : Array Value) (hkey : ∃ s v k, key = #[.string s, v, .int .i64 k] ∧ v.oneCell' = true) (f t a n : Int) (S : ByteArray) (w : World) (hE : txE f t a n S ≠ 0) :
    Calls Tryd.prog 6 #[.agg key, .agg (txC f t a n S)] w fun e w' => e = .returned (.tuple #[.agg noTx, .agg noKey, .int .i64 9]) ∧ Up w w' := by
  have hE9 : txE f t a n S = 9 := by
    unfold txE at hE ⊢
    split
    · rename_i h; rw [if_pos h] at hE; exact absurd rfl hE
    · rfl
  have Hc : Hid (∀ wx, Calls Tryd.prog 15 #[.agg #[.int .i64 f, .int .i64 t, .int .i64 a, .int .i64 n, .string S]] wx fun e w' => e = .returned (.int .i64 9) ∧ Up wx w') := fun wx => by have := check_any f t a n S wx; rw [hE9] at this; exact this
  obtain ⟨s, v, k, rfl, hv⟩ := hkey
  clear hE hE9
  unfold txC
  go_enter Tryd.func6, Tryd.ntmps6
  obtain ⟨_, _, h2, h3, hU0⟩ := alloc4 w (.cells #[.string s, v, .int .i64 k] 27) (.cells #[.int .i64 f, .int .i64 t, .int .i64 a, .int .i64 n, .string S] 23) (.cells #[.int .i64 0, .int .i64 0, .int .i64 0, .int .i64 0, .string ⟨#[]⟩] 23) (.cells #[.string ⟨#[]⟩, .slice none 0 0, .int .i64 0] 27)
  have H2 := Lib.hid h2
  have H3 := Lib.hid h3
  have HU0 := Lib.hid hU0
  clear h2 h3 hU0
  go_wp2_with fail
  with_reducible refine Calls.mono (Hc.out _) ?_
  rintro e w1 ⟨rfl, hU1⟩
  have H2b := Lib.hid ((hU1.block _ (lt_of_block H2.out)).trans H2.out)
  have H3b := Lib.hid ((hU1.block _ (lt_of_block H3.out)).trans H3.out)
  have HU1 := Lib.hid (Up.trans HU0.out hU1)
  clear hU1
  go_wp2_with (first
    | (refine wpList_store_agg rfl 23 (.tmp 4) (.tmp 15) rfl (w.heap.size + 1 + 1) _ #[.int .i64 0, .int .i64 0, .int .i64 0, .int .i64 0, .string ⟨#[]⟩] rfl rfl 23 H2b.out info_tx rfl (one_tx _ _ _ _ _) ?_; intro w2 hg2 hgr2)
    | (refine wpList_store_agg rfl 27 (.tmp 5) (.tmp 16) rfl (w.heap.size + 1 + 1 + 1) _ #[.string ⟨#[]⟩, .slice none 0 0, .int .i64 0] rfl rfl 27 ((hgr2.block _ (lt_of_block H3b.out) (fun e => by simp at e <;> omega)).trans H3b.out) info_key rfl (one_key [] _ 0 (by simp [Value.oneCell'])) ?_; intro w3 hg3 hgr3))
  have HU2 := Lib.hid (up_at HU1.out hgr2 (by omega))
  have H2d := (hgr3.block _ (lt_of_block hg2) (fun e => by simp at e <;> omega)).trans hg2
  refine bodyPost_ret (results_make rfl _ _ _ _ _ _ _ rfl rfl rfl H2d rfl hg3 rfl) rfl ⟨rfl, up_at HU2.out hgr3 (by omega)⟩

set_option maxHeartbeats 4000000 in
theorem txMake_ok (seed : List Int) (lv : Value) (ls : List (List Int)) (m K : Nat) (f t a nn : Int) (S : ByteArray) (w : World) (hs : Strs w lv ls) (hk : KeyOk seed ls m) (hf : Fits ls) (hu : U8s seed) (hK : ls.length = 2 ^ K) (hK4 : K ≤ 4) (hm : m < ls.length) (hT : Tab64 w) (hE : txE f t a nn S = 0) :
    Calls Tryd.prog 6 #[keyV seed lv m, .agg (txC f t a nn S)] w fun e w' => ∃ r, e = .returned (.tuple #[.agg (txC f t a nn (strOfNums (sigB seed ls m K (txT f t a nn)))), keyV seed r ((m + 1 : Nat) : Int), .int .i64 0]) ∧ w'.ownsRow w.heap.size 9 1 r ls.length (strVs ls) ∧ Up w w' := by
  have Hc : Hid (∀ wx, Calls Tryd.prog 15 #[.agg #[.int .i64 f, .int .i64 t, .int .i64 a, .int .i64 nn, .string S]] wx fun e w' => e = .returned (.int .i64 0) ∧ Up wx w') := fun wx => by have := check_any f t a nn S wx; rw [hE] at this; exact this
  have HTx : Hid (∀ wx, Calls Tryd.prog 18 #[.agg #[.int .i64 f, .int .i64 t, .int .i64 a, .int .i64 nn, .string S]] wx fun e w' => ∃ xa xc, e = .returned (.slice xa 28 xc) ∧ Ints .u8 w' (.slice xa 28 xc) (txT f t a nn) ∧ Up wx w') := by
    intro wx
    refine (txText_ok f t a nn S wx hE).mono fun e w' ⟨v, h1, h2, h3⟩ => ?_
    rw [txT_length] at h2
    obtain ⟨xa, xc, rfl⟩ := row_shape h2
    exact ⟨xa, xc, h1, Ints.of_row h2, h3⟩
  have HSg : Hid (∀ (wx : World) xa xc, Up w wx → Ints .u8 wx (.slice xa 28 xc) (txT f t a nn) → Calls Tryd.prog 17 #[keyV seed lv m, .slice xa 28 xc] wx fun e w' => ∃ ra rc, e = .returned (.tuple #[.string (strOfNums (sigB seed ls m K (txT f t a nn))), keyV seed (.slice ra ls.length rc) ((m + 1 : Nat) : Int), .int .i64 0]) ∧ w'.ownsRow wx.heap.size 9 1 (.slice ra ls.length rc) ls.length (strVs ls) ∧ Up wx w') := by
    intro wx xa xc hx hi
    refine (sgSign_ok seed lv ls m K _ _ wx (hs.up hx) hk hf hu hK hK4 hm hi (txT_u8s f t a nn) (by rw [txT_length]; omega) (hT.up hx)).mono fun e w' ⟨r, h1, h2, h3⟩ => ?_
    obtain ⟨ra, rc, rfl⟩ := row_shape h2
    exact ⟨ra, rc, h1, h2, h3⟩
  obtain ⟨ka, kc, rfl, _, _, _⟩ := hs
  have hone := one_key seed (.slice ka ls.length kc) m (by simp [Value.oneCell'])
  have hm16 : Hid (m ≤ 16) := by have := hk.pow; show m ≤ 16; omega
  generalize txT f t a nn = TT at HTx HSg ⊢
  generalize strOfNums (sigB seed ls m K TT) = SIG at HSg ⊢
  unfold keyV at HSg ⊢
  generalize strOfNums seed = SEED at HSg hone ⊢
  generalize hn : ls.length = n at HSg hone hm ⊢
  unfold txC
  clear hk hf hu hK hK4 hT hE hm
  go_enter Tryd.func6, Tryd.ntmps6
  obtain ⟨h0, h1, h2, h3, hU0⟩ := alloc4 w (.cells #[.string SEED, .slice ka n kc, .int .i64 m] 27) (.cells #[.int .i64 f, .int .i64 t, .int .i64 a, .int .i64 nn, .string S] 23) (.cells #[.int .i64 0, .int .i64 0, .int .i64 0, .int .i64 0, .string ⟨#[]⟩] 23) (.cells #[.string ⟨#[]⟩, .slice none 0 0, .int .i64 0] 27)
  have H0 := Lib.hid h0
  have H1 := Lib.hid h1
  have H2 := Lib.hid h2
  have H3 := Lib.hid h3
  have HU0 := Lib.hid hU0
  clear h0 h1 h2 h3 hU0
  go_wp2_with fail
  with_reducible refine Calls.mono (Hc.out _) ?_
  rintro e wr ⟨rfl, hU1⟩
  have HKb := Lib.hid ((hU1.block _ (lt_of_block H0.out)).trans H0.out)
  have HTb := Lib.hid ((hU1.block _ (lt_of_block H1.out)).trans H1.out)
  have H4b := Lib.hid ((hU1.block _ (lt_of_block H2.out)).trans H2.out)
  have H5b := Lib.hid ((hU1.block _ (lt_of_block H3.out)).trans H3.out)
  have HUr := Lib.hid (Up.trans HU0.out hU1)
  have HSg : Hid (∀ (wx : World) xa xc, Up wr wx → Ints .u8 wx (.slice xa 28 xc) TT → Calls Tryd.prog 17 #[.agg #[.string SEED, .slice ka n kc, .int .i64 m], .slice xa 28 xc] wx fun e w' => ∃ ra rc, e = .returned (.tuple #[.string SIG, .agg #[.string SEED, .slice ra n rc, .int .i64 ((m + 1 : Nat) : Int)], .int .i64 0]) ∧ w'.ownsRow wx.heap.size 9 1 (.slice ra n rc) n (strVs ls) ∧ Up wx w') := fun wx xa xc hx => HSg.out wx xa xc (Up.trans HUr.out hx)
  have HB := Lib.hid (lt_of_block H5b.out)
  clear hU1 H0 H1 H2 H3 HU0
  go_wp2
  generalize hBe : w.heap.size = B at HKb HTb H4b H5b HB ⊢
  subst hn
  refine region_alongK (fun x => Up wr x) (.read 0 (.read 1 (.fork 2 (.fork 3 (.read 4 (.read 5 (.read 6 (.read 7 (.step 8 (.read 9 (.step 10 (.read 11 (.nil))))))))) 8 (.step 3 (.read 4 (.read 5 (.read 6 (.read 7 (.read 9 (.step 10 (.read 11 (.nil)))))))))) 8 (.step 2 (.step 3 (.read 4 (.read 5 (.read 6 (.read 7 (.read 9 (.step 10 (.read 11 (.nil))))))))))))) (by kernel_rfl) rfl (by kernel_rfl) (by kernel_rfl) (fun c a d v w h => by cases d <;> exact h) (Up.drew1 wr) ?_
  refine alongK_read (.agg #[.string SEED, .slice ka ls.length kc, .int .i64 (m : Int)]) rfl rfl (fun wx hS => ex_loadrow rfl rfl wx 27 ((hS.block B (lt_of_block HKb.out)).trans HKb.out) Tryd.underlying27 rfl info_key) ?_
  change AlongK _ _ _ _ _ { tmps := #[.agg #[.string SEED, .slice ka ls.length kc, .int .i64 (m : Int)], .agg #[.int .i64 f, .int .i64 t, .int .i64 a, .int .i64 nn, .string S], .pointer (some ⟨B, 0, none⟩), .pointer (some ⟨B + 1, 0, none⟩), .pointer (some ⟨B + 1 + 1, 0, none⟩), .pointer (some ⟨B + 1 + 1 + 1, 0, none⟩), .int .i64 0, .int .i64 0, _, _, _, _, _, _, _, _, _, _, _, .agg #[.string SEED, .slice ka ls.length kc, .int .i64 (m : Int)], _, _, _, _, _, _, _, _, _, _, _, _, _, _, _], defers := _ } _
  refine alongK_read (.agg #[.int .i64 f, .int .i64 t, .int .i64 a, .int .i64 nn, .string S]) rfl rfl (fun wx hS => ex_loadrow rfl rfl wx 23 ((hS.block (B + 1) (lt_of_block HTb.out)).trans HTb.out) Tryd.underlying23 rfl info_tx) ?_
  change AlongK _ _ _ _ _ { tmps := #[.agg #[.string SEED, .slice ka ls.length kc, .int .i64 (m : Int)], .agg #[.int .i64 f, .int .i64 t, .int .i64 a, .int .i64 nn, .string S], .pointer (some ⟨B, 0, none⟩), .pointer (some ⟨B + 1, 0, none⟩), .pointer (some ⟨B + 1 + 1, 0, none⟩), .pointer (some ⟨B + 1 + 1 + 1, 0, none⟩), .int .i64 0, .int .i64 0, _, _, _, _, _, _, _, _, _, _, _, .agg #[.string SEED, .slice ka ls.length kc, .int .i64 (m : Int)], .agg #[.int .i64 f, .int .i64 t, .int .i64 a, .int .i64 nn, .string S], _, _, _, _, _, _, _, _, _, _, _, _, _, _], defers := _ } _
  refine alongK_fork ?_ ?_
  refine opK_call (vs := [.agg #[.int .i64 f, .int .i64 t, .int .i64 a, .int .i64 nn, .string S]]) rfl rfl rfl (enters_of Tryd.func18 (by kernel_rfl) rfl) rfl ?_
  with_reducible refine Calls.mono (HTx.out _) ?_
  rintro e w5 ⟨xa, xc, rfl, hI5, hU5⟩
  have hA5 : Up wr w5 := Up.trans (Up.drew1 wr) hU5
  refine ⟨_, rfl, (fun x => Up wr x), (fun x hx => hx), hA5, ?_⟩
  change AlongK _ _ _ _ _ { tmps := #[.agg #[.string SEED, .slice ka ls.length kc, .int .i64 (m : Int)], .agg #[.int .i64 f, .int .i64 t, .int .i64 a, .int .i64 nn, .string S], .pointer (some ⟨B, 0, none⟩), .pointer (some ⟨B + 1, 0, none⟩), .pointer (some ⟨B + 1 + 1, 0, none⟩), .pointer (some ⟨B + 1 + 1 + 1, 0, none⟩), .int .i64 0, .int .i64 0, _, _, _, _, _, _, _, _, _, _, _, .agg #[.string SEED, .slice ka ls.length kc, .int .i64 (m : Int)], .agg #[.int .i64 f, .int .i64 t, .int .i64 a, .int .i64 nn, .string S], .slice xa 28 xc, _, _, _, _, _, _, _, _, _, _, _, _, _], defers := _ } _
  refine alongK_fork ?_ ?_
  refine opK_call (vs := [.agg #[.string SEED, .slice ka ls.length kc, .int .i64 (m : Int)], .slice xa 28 xc]) rfl rfl rfl (enters_of Tryd.func17 (by kernel_rfl) rfl) rfl ?_
  with_reducible refine Calls.mono (HSg.out _ xa xc hA5 hI5) ?_
  rintro e w7 ⟨ra, rc, rfl, hr7, hU7⟩
  have hA7 : Up wr w7 := Up.trans hA5 hU7
  refine ⟨_, rfl, (fun x => Up wr x), (fun x hx => hx), hA7, ?_⟩
  change AlongK _ _ _ _ _ { tmps := #[.agg #[.string SEED, .slice ka ls.length kc, .int .i64 (m : Int)], .agg #[.int .i64 f, .int .i64 t, .int .i64 a, .int .i64 nn, .string S], .pointer (some ⟨B, 0, none⟩), .pointer (some ⟨B + 1, 0, none⟩), .pointer (some ⟨B + 1 + 1, 0, none⟩), .pointer (some ⟨B + 1 + 1 + 1, 0, none⟩), .int .i64 0, .int .i64 0, _, _, _, _, _, _, _, _, _, _, _, .agg #[.string SEED, .slice ka ls.length kc, .int .i64 (m : Int)], .agg #[.int .i64 f, .int .i64 t, .int .i64 a, .int .i64 nn, .string S], .slice xa 28 xc, .tuple #[.string SIG, .agg #[.string SEED, .slice ra ls.length rc, .int .i64 ((m + 1 : Nat) : Int)], .int .i64 0], _, _, _, _, _, _, _, _, _, _, _, _], defers := _ } _
  refine alongK_read (.tuple #[.string SIG, .agg #[.string SEED, .slice ra ls.length rc, .int .i64 ((m + 1 : Nat) : Int)], .int .i64 0]) rfl rfl (fun wx hS => ex_move (by rfl) (by rfl) wx) ?_
  change AlongK _ _ _ _ _ { tmps := #[.agg #[.string SEED, .slice ka ls.length kc, .int .i64 (m : Int)], .agg #[.int .i64 f, .int .i64 t, .int .i64 a, .int .i64 nn, .string S], .pointer (some ⟨B, 0, none⟩), .pointer (some ⟨B + 1, 0, none⟩), .pointer (some ⟨B + 1 + 1, 0, none⟩), .pointer (some ⟨B + 1 + 1 + 1, 0, none⟩), .int .i64 0, .int .i64 0, _, _, _, _, _, _, _, _, _, _, .tuple #[.string SIG, .agg #[.string SEED, .slice ra ls.length rc, .int .i64 ((m + 1 : Nat) : Int)], .int .i64 0], .agg #[.string SEED, .slice ka ls.length kc, .int .i64 (m : Int)], .agg #[.int .i64 f, .int .i64 t, .int .i64 a, .int .i64 nn, .string S], .slice xa 28 xc, .tuple #[.string SIG, .agg #[.string SEED, .slice ra ls.length rc, .int .i64 ((m + 1 : Nat) : Int)], .int .i64 0], _, _, _, _, _, _, _, _, _, _, _, _], defers := _ } _
  refine alongK_read (.string SIG) rfl rfl (fun wx hS => ex_extr (cs := #[.string SIG, .agg #[.string SEED, .slice ra ls.length rc, .int .i64 ((m + 1 : Nat) : Int)], .int .i64 0]) rfl rfl rfl wx) ?_
  change AlongK _ _ _ _ _ { tmps := #[.agg #[.string SEED, .slice ka ls.length kc, .int .i64 (m : Int)], .agg #[.int .i64 f, .int .i64 t, .int .i64 a, .int .i64 nn, .string S], .pointer (some ⟨B, 0, none⟩), .pointer (some ⟨B + 1, 0, none⟩), .pointer (some ⟨B + 1 + 1, 0, none⟩), .pointer (some ⟨B + 1 + 1 + 1, 0, none⟩), .int .i64 0, .int .i64 0, _, _, _, _, _, _, _, _, _, _, .tuple #[.string SIG, .agg #[.string SEED, .slice ra ls.length rc, .int .i64 ((m + 1 : Nat) : Int)], .int .i64 0], .agg #[.string SEED, .slice ka ls.length kc, .int .i64 (m : Int)], .agg #[.int .i64 f, .int .i64 t, .int .i64 a, .int .i64 nn, .string S], .slice xa 28 xc, .tuple #[.string SIG, .agg #[.string SEED, .slice ra ls.length rc, .int .i64 ((m + 1 : Nat) : Int)], .int .i64 0], .string SIG, _, _, _, _, _, _, _, _, _, _, _], defers := _ } _
  refine alongK_read (.agg #[.string SEED, .slice ra ls.length rc, .int .i64 ((m + 1 : Nat) : Int)]) rfl rfl (fun wx hS => ex_extr (cs := #[.string SIG, .agg #[.string SEED, .slice ra ls.length rc, .int .i64 ((m + 1 : Nat) : Int)], .int .i64 0]) rfl rfl rfl wx) ?_
  change AlongK _ _ _ _ _ { tmps := #[.agg #[.string SEED, .slice ka ls.length kc, .int .i64 (m : Int)], .agg #[.int .i64 f, .int .i64 t, .int .i64 a, .int .i64 nn, .string S], .pointer (some ⟨B, 0, none⟩), .pointer (some ⟨B + 1, 0, none⟩), .pointer (some ⟨B + 1 + 1, 0, none⟩), .pointer (some ⟨B + 1 + 1 + 1, 0, none⟩), .int .i64 0, .int .i64 0, _, _, _, _, _, _, _, _, _, _, .tuple #[.string SIG, .agg #[.string SEED, .slice ra ls.length rc, .int .i64 ((m + 1 : Nat) : Int)], .int .i64 0], .agg #[.string SEED, .slice ka ls.length kc, .int .i64 (m : Int)], .agg #[.int .i64 f, .int .i64 t, .int .i64 a, .int .i64 nn, .string S], .slice xa 28 xc, .tuple #[.string SIG, .agg #[.string SEED, .slice ra ls.length rc, .int .i64 ((m + 1 : Nat) : Int)], .int .i64 0], .string SIG, .agg #[.string SEED, .slice ra ls.length rc, .int .i64 ((m + 1 : Nat) : Int)], _, _, _, _, _, _, _, _, _, _], defers := _ } _
  refine alongK_read (.int .i64 0) rfl rfl (fun wx hS => ex_extr (cs := #[.string SIG, .agg #[.string SEED, .slice ra ls.length rc, .int .i64 ((m + 1 : Nat) : Int)], .int .i64 0]) rfl rfl rfl wx) ?_
  change AlongK _ _ _ _ _ { tmps := #[.agg #[.string SEED, .slice ka ls.length kc, .int .i64 (m : Int)], .agg #[.int .i64 f, .int .i64 t, .int .i64 a, .int .i64 nn, .string S], .pointer (some ⟨B, 0, none⟩), .pointer (some ⟨B + 1, 0, none⟩), .pointer (some ⟨B + 1 + 1, 0, none⟩), .pointer (some ⟨B + 1 + 1 + 1, 0, none⟩), .int .i64 0, .int .i64 0, _, _, _, _, _, _, _, _, _, _, .tuple #[.string SIG, .agg #[.string SEED, .slice ra ls.length rc, .int .i64 ((m + 1 : Nat) : Int)], .int .i64 0], .agg #[.string SEED, .slice ka ls.length kc, .int .i64 (m : Int)], .agg #[.int .i64 f, .int .i64 t, .int .i64 a, .int .i64 nn, .string S], .slice xa 28 xc, .tuple #[.string SIG, .agg #[.string SEED, .slice ra ls.length rc, .int .i64 ((m + 1 : Nat) : Int)], .int .i64 0], .string SIG, .agg #[.string SEED, .slice ra ls.length rc, .int .i64 ((m + 1 : Nat) : Int)], .int .i64 0, _, _, _, _, _, _, _, _, _], defers := _ } _
  refine alongK_step ?_
  refine opK_run (.pointer (some ⟨w7.heap.size, 0, none⟩)) _ rfl rfl (ex_alloc rfl _ _ (alloc_key w7)) (fun x => Up wr x) (fun x hx => hx) (Up.alloc hA7 _) ?_
  change AlongK _ _ _ _ _ { tmps := #[.agg #[.string SEED, .slice ka ls.length kc, .int .i64 (m : Int)], .agg #[.int .i64 f, .int .i64 t, .int .i64 a, .int .i64 nn, .string S], .pointer (some ⟨B, 0, none⟩), .pointer (some ⟨B + 1, 0, none⟩), .pointer (some ⟨B + 1 + 1, 0, none⟩), .pointer (some ⟨B + 1 + 1 + 1, 0, none⟩), .int .i64 0, .int .i64 0, _, .pointer (some ⟨w7.heap.size, 0, none⟩), _, _, _, _, _, _, _, _, .tuple #[.string SIG, .agg #[.string SEED, .slice ra ls.length rc, .int .i64 ((m + 1 : Nat) : Int)], .int .i64 0], .agg #[.string SEED, .slice ka ls.length kc, .int .i64 (m : Int)], .agg #[.int .i64 f, .int .i64 t, .int .i64 a, .int .i64 nn, .string S], .slice xa 28 xc, .tuple #[.string SIG, .agg #[.string SEED, .slice ra ls.length rc, .int .i64 ((m + 1 : Nat) : Int)], .int .i64 0], .string SIG, .agg #[.string SEED, .slice ra ls.length rc, .int .i64 ((m + 1 : Nat) : Int)], .int .i64 0, _, _, _, _, _, _, _, _, _], defers := _ } _
  refine alongK_read (.string SIG) rfl rfl (fun wx hS => ex_assign (by rfl) (by rfl) wx) ?_
  change AlongK _ _ _ _ _ { tmps := #[.agg #[.string SEED, .slice ka ls.length kc, .int .i64 (m : Int)], .agg #[.int .i64 f, .int .i64 t, .int .i64 a, .int .i64 nn, .string S], .pointer (some ⟨B, 0, none⟩), .pointer (some ⟨B + 1, 0, none⟩), .pointer (some ⟨B + 1 + 1, 0, none⟩), .pointer (some ⟨B + 1 + 1 + 1, 0, none⟩), .int .i64 0, .int .i64 0, .string SIG, .pointer (some ⟨w7.heap.size, 0, none⟩), _, _, _, _, _, _, _, _, .tuple #[.string SIG, .agg #[.string SEED, .slice ra ls.length rc, .int .i64 ((m + 1 : Nat) : Int)], .int .i64 0], .agg #[.string SEED, .slice ka ls.length kc, .int .i64 (m : Int)], .agg #[.int .i64 f, .int .i64 t, .int .i64 a, .int .i64 nn, .string S], .slice xa 28 xc, .tuple #[.string SIG, .agg #[.string SEED, .slice ra ls.length rc, .int .i64 ((m + 1 : Nat) : Int)], .int .i64 0], .string SIG, .agg #[.string SEED, .slice ra ls.length rc, .int .i64 ((m + 1 : Nat) : Int)], .int .i64 0, _, _, _, _, _, _, _, _, _], defers := _ } _
  refine alongK_step ?_
  have hone7 := one_keyB SEED _ ((m + 1 : Nat) : Int) (row_one hr7)
  refine opK_store _ rfl rfl (ex_storerow (c1 := #[.string SEED, .slice ra ls.length rc, .int .i64 ((m + 1 : Nat) : Int)]) rfl rfl rfl _ 27 (heap_alloc_new w7 _) info_key rfl hone7) (fun x => Up wr x) (fun x hx => hx) (up_at (Up.alloc hA7 _) (grownBy_setRow _ _ _) (hA7.size)) ?_
  change AlongK _ _ _ _ _ { tmps := #[.agg #[.string SEED, .slice ka ls.length kc, .int .i64 (m : Int)], .agg #[.int .i64 f, .int .i64 t, .int .i64 a, .int .i64 nn, .string S], .pointer (some ⟨B, 0, none⟩), .pointer (some ⟨B + 1, 0, none⟩), .pointer (some ⟨B + 1 + 1, 0, none⟩), .pointer (some ⟨B + 1 + 1 + 1, 0, none⟩), .int .i64 0, .int .i64 0, .string SIG, .pointer (some ⟨w7.heap.size, 0, none⟩), _, _, _, _, _, _, _, _, .tuple #[.string SIG, .agg #[.string SEED, .slice ra ls.length rc, .int .i64 ((m + 1 : Nat) : Int)], .int .i64 0], .agg #[.string SEED, .slice ka ls.length kc, .int .i64 (m : Int)], .agg #[.int .i64 f, .int .i64 t, .int .i64 a, .int .i64 nn, .string S], .slice xa 28 xc, .tuple #[.string SIG, .agg #[.string SEED, .slice ra ls.length rc, .int .i64 ((m + 1 : Nat) : Int)], .int .i64 0], .string SIG, .agg #[.string SEED, .slice ra ls.length rc, .int .i64 ((m + 1 : Nat) : Int)], .int .i64 0, _, _, _, _, _, _, _, _, _], defers := _ } _
  have HX := Lib.hid (after_clone (w := wr) (g := w7.heap.size) (Up.refl wr) (Nat.le_refl _) hr7 hA5 (Up.alloc (Up.refl w7) (.cells noKey 27)) (heap_alloc_new w7 _) hone7 (Nat.le_refl _) hU7)
  refine alongK_read (.int .i64 0) rfl rfl (fun wx hS => ex_assign (by rfl) (by rfl) wx) ?_
  change AlongK _ _ _ _ _ { tmps := #[.agg #[.string SEED, .slice ka ls.length kc, .int .i64 (m : Int)], .agg #[.int .i64 f, .int .i64 t, .int .i64 a, .int .i64 nn, .string S], .pointer (some ⟨B, 0, none⟩), .pointer (some ⟨B + 1, 0, none⟩), .pointer (some ⟨B + 1 + 1, 0, none⟩), .pointer (some ⟨B + 1 + 1 + 1, 0, none⟩), .int .i64 0, .int .i64 0, .string SIG, .pointer (some ⟨w7.heap.size, 0, none⟩), .int .i64 0, _, _, _, _, _, _, _, .tuple #[.string SIG, .agg #[.string SEED, .slice ra ls.length rc, .int .i64 ((m + 1 : Nat) : Int)], .int .i64 0], .agg #[.string SEED, .slice ka ls.length kc, .int .i64 (m : Int)], .agg #[.int .i64 f, .int .i64 t, .int .i64 a, .int .i64 nn, .string S], .slice xa 28 xc, .tuple #[.string SIG, .agg #[.string SEED, .slice ra ls.length rc, .int .i64 ((m + 1 : Nat) : Int)], .int .i64 0], .string SIG, .agg #[.string SEED, .slice ra ls.length rc, .int .i64 ((m + 1 : Nat) : Int)], .int .i64 0, _, _, _, _, _, _, _, _, _], defers := _ } _
  refine alongK_done ?_
  generalize (w7.alloc (.cells noKey 27)).setRow w7.heap.size #[.string SEED, .slice ra ls.length rc, .int .i64 ((m + 1 : Nat) : Int)] = w9 at HX ⊢
  generalize w7.heap.size = n9 at HX ⊢
  rotate_left
  refine opK_run (.pointer (some ⟨w5.heap.size, 0, none⟩)) _ rfl rfl (ex_alloc rfl _ _ (alloc_key w5)) (fun x => Up wr x) (fun x hx => hx) (Up.alloc hA5 _) ?_
  change AlongK _ _ _ _ _ { tmps := #[.agg #[.string SEED, .slice ka ls.length kc, .int .i64 (m : Int)], .agg #[.int .i64 f, .int .i64 t, .int .i64 a, .int .i64 nn, .string S], .pointer (some ⟨B, 0, none⟩), .pointer (some ⟨B + 1, 0, none⟩), .pointer (some ⟨B + 1 + 1, 0, none⟩), .pointer (some ⟨B + 1 + 1 + 1, 0, none⟩), .int .i64 0, .int .i64 0, _, .pointer (some ⟨w5.heap.size, 0, none⟩), _, _, _, _, _, _, _, _, _, .agg #[.string SEED, .slice ka ls.length kc, .int .i64 (m : Int)], .agg #[.int .i64 f, .int .i64 t, .int .i64 a, .int .i64 nn, .string S], .slice xa 28 xc, _, _, _, _, _, _, _, _, _, _, _, _, _], defers := _ } _
  refine alongK_step ?_
  refine opK_call (vs := [.agg #[.string SEED, .slice ka ls.length kc, .int .i64 (m : Int)], .slice xa 28 xc]) rfl rfl rfl (enters_of Tryd.func17 (by kernel_rfl) rfl) rfl ?_
  with_reducible refine Calls.mono (HSg.out _ xa xc (Up.alloc hA5 _) (hI5.up (Up.alloc (Up.refl w5) _))) ?_
  rintro e w7 ⟨ra, rc, rfl, hr7, hU7⟩
  have hA7 : Up wr w7 := Up.trans (Up.alloc hA5 _) hU7
  refine ⟨_, rfl, (fun x => Up wr x), (fun x hx => hx), hA7, ?_⟩
  change AlongK _ _ _ _ _ { tmps := #[.agg #[.string SEED, .slice ka ls.length kc, .int .i64 (m : Int)], .agg #[.int .i64 f, .int .i64 t, .int .i64 a, .int .i64 nn, .string S], .pointer (some ⟨B, 0, none⟩), .pointer (some ⟨B + 1, 0, none⟩), .pointer (some ⟨B + 1 + 1, 0, none⟩), .pointer (some ⟨B + 1 + 1 + 1, 0, none⟩), .int .i64 0, .int .i64 0, _, .pointer (some ⟨w5.heap.size, 0, none⟩), _, _, _, _, _, _, _, _, _, .agg #[.string SEED, .slice ka ls.length kc, .int .i64 (m : Int)], .agg #[.int .i64 f, .int .i64 t, .int .i64 a, .int .i64 nn, .string S], .slice xa 28 xc, .tuple #[.string SIG, .agg #[.string SEED, .slice ra ls.length rc, .int .i64 ((m + 1 : Nat) : Int)], .int .i64 0], _, _, _, _, _, _, _, _, _, _, _, _], defers := _ } _
  refine alongK_read (.tuple #[.string SIG, .agg #[.string SEED, .slice ra ls.length rc, .int .i64 ((m + 1 : Nat) : Int)], .int .i64 0]) rfl rfl (fun wx hS => ex_move (by rfl) (by rfl) wx) ?_
  change AlongK _ _ _ _ _ { tmps := #[.agg #[.string SEED, .slice ka ls.length kc, .int .i64 (m : Int)], .agg #[.int .i64 f, .int .i64 t, .int .i64 a, .int .i64 nn, .string S], .pointer (some ⟨B, 0, none⟩), .pointer (some ⟨B + 1, 0, none⟩), .pointer (some ⟨B + 1 + 1, 0, none⟩), .pointer (some ⟨B + 1 + 1 + 1, 0, none⟩), .int .i64 0, .int .i64 0, _, .pointer (some ⟨w5.heap.size, 0, none⟩), _, _, _, _, _, _, _, _, .tuple #[.string SIG, .agg #[.string SEED, .slice ra ls.length rc, .int .i64 ((m + 1 : Nat) : Int)], .int .i64 0], .agg #[.string SEED, .slice ka ls.length kc, .int .i64 (m : Int)], .agg #[.int .i64 f, .int .i64 t, .int .i64 a, .int .i64 nn, .string S], .slice xa 28 xc, .tuple #[.string SIG, .agg #[.string SEED, .slice ra ls.length rc, .int .i64 ((m + 1 : Nat) : Int)], .int .i64 0], _, _, _, _, _, _, _, _, _, _, _, _], defers := _ } _
  refine alongK_read (.string SIG) rfl rfl (fun wx hS => ex_extr (cs := #[.string SIG, .agg #[.string SEED, .slice ra ls.length rc, .int .i64 ((m + 1 : Nat) : Int)], .int .i64 0]) rfl rfl rfl wx) ?_
  change AlongK _ _ _ _ _ { tmps := #[.agg #[.string SEED, .slice ka ls.length kc, .int .i64 (m : Int)], .agg #[.int .i64 f, .int .i64 t, .int .i64 a, .int .i64 nn, .string S], .pointer (some ⟨B, 0, none⟩), .pointer (some ⟨B + 1, 0, none⟩), .pointer (some ⟨B + 1 + 1, 0, none⟩), .pointer (some ⟨B + 1 + 1 + 1, 0, none⟩), .int .i64 0, .int .i64 0, _, .pointer (some ⟨w5.heap.size, 0, none⟩), _, _, _, _, _, _, _, _, .tuple #[.string SIG, .agg #[.string SEED, .slice ra ls.length rc, .int .i64 ((m + 1 : Nat) : Int)], .int .i64 0], .agg #[.string SEED, .slice ka ls.length kc, .int .i64 (m : Int)], .agg #[.int .i64 f, .int .i64 t, .int .i64 a, .int .i64 nn, .string S], .slice xa 28 xc, .tuple #[.string SIG, .agg #[.string SEED, .slice ra ls.length rc, .int .i64 ((m + 1 : Nat) : Int)], .int .i64 0], .string SIG, _, _, _, _, _, _, _, _, _, _, _], defers := _ } _
  refine alongK_read (.agg #[.string SEED, .slice ra ls.length rc, .int .i64 ((m + 1 : Nat) : Int)]) rfl rfl (fun wx hS => ex_extr (cs := #[.string SIG, .agg #[.string SEED, .slice ra ls.length rc, .int .i64 ((m + 1 : Nat) : Int)], .int .i64 0]) rfl rfl rfl wx) ?_
  change AlongK _ _ _ _ _ { tmps := #[.agg #[.string SEED, .slice ka ls.length kc, .int .i64 (m : Int)], .agg #[.int .i64 f, .int .i64 t, .int .i64 a, .int .i64 nn, .string S], .pointer (some ⟨B, 0, none⟩), .pointer (some ⟨B + 1, 0, none⟩), .pointer (some ⟨B + 1 + 1, 0, none⟩), .pointer (some ⟨B + 1 + 1 + 1, 0, none⟩), .int .i64 0, .int .i64 0, _, .pointer (some ⟨w5.heap.size, 0, none⟩), _, _, _, _, _, _, _, _, .tuple #[.string SIG, .agg #[.string SEED, .slice ra ls.length rc, .int .i64 ((m + 1 : Nat) : Int)], .int .i64 0], .agg #[.string SEED, .slice ka ls.length kc, .int .i64 (m : Int)], .agg #[.int .i64 f, .int .i64 t, .int .i64 a, .int .i64 nn, .string S], .slice xa 28 xc, .tuple #[.string SIG, .agg #[.string SEED, .slice ra ls.length rc, .int .i64 ((m + 1 : Nat) : Int)], .int .i64 0], .string SIG, .agg #[.string SEED, .slice ra ls.length rc, .int .i64 ((m + 1 : Nat) : Int)], _, _, _, _, _, _, _, _, _, _], defers := _ } _
  refine alongK_read (.int .i64 0) rfl rfl (fun wx hS => ex_extr (cs := #[.string SIG, .agg #[.string SEED, .slice ra ls.length rc, .int .i64 ((m + 1 : Nat) : Int)], .int .i64 0]) rfl rfl rfl wx) ?_
  change AlongK _ _ _ _ _ { tmps := #[.agg #[.string SEED, .slice ka ls.length kc, .int .i64 (m : Int)], .agg #[.int .i64 f, .int .i64 t, .int .i64 a, .int .i64 nn, .string S], .pointer (some ⟨B, 0, none⟩), .pointer (some ⟨B + 1, 0, none⟩), .pointer (some ⟨B + 1 + 1, 0, none⟩), .pointer (some ⟨B + 1 + 1 + 1, 0, none⟩), .int .i64 0, .int .i64 0, _, .pointer (some ⟨w5.heap.size, 0, none⟩), _, _, _, _, _, _, _, _, .tuple #[.string SIG, .agg #[.string SEED, .slice ra ls.length rc, .int .i64 ((m + 1 : Nat) : Int)], .int .i64 0], .agg #[.string SEED, .slice ka ls.length kc, .int .i64 (m : Int)], .agg #[.int .i64 f, .int .i64 t, .int .i64 a, .int .i64 nn, .string S], .slice xa 28 xc, .tuple #[.string SIG, .agg #[.string SEED, .slice ra ls.length rc, .int .i64 ((m + 1 : Nat) : Int)], .int .i64 0], .string SIG, .agg #[.string SEED, .slice ra ls.length rc, .int .i64 ((m + 1 : Nat) : Int)], .int .i64 0, _, _, _, _, _, _, _, _, _], defers := _ } _
  refine alongK_read (.string SIG) rfl rfl (fun wx hS => ex_assign (by rfl) (by rfl) wx) ?_
  change AlongK _ _ _ _ _ { tmps := #[.agg #[.string SEED, .slice ka ls.length kc, .int .i64 (m : Int)], .agg #[.int .i64 f, .int .i64 t, .int .i64 a, .int .i64 nn, .string S], .pointer (some ⟨B, 0, none⟩), .pointer (some ⟨B + 1, 0, none⟩), .pointer (some ⟨B + 1 + 1, 0, none⟩), .pointer (some ⟨B + 1 + 1 + 1, 0, none⟩), .int .i64 0, .int .i64 0, .string SIG, .pointer (some ⟨w5.heap.size, 0, none⟩), _, _, _, _, _, _, _, _, .tuple #[.string SIG, .agg #[.string SEED, .slice ra ls.length rc, .int .i64 ((m + 1 : Nat) : Int)], .int .i64 0], .agg #[.string SEED, .slice ka ls.length kc, .int .i64 (m : Int)], .agg #[.int .i64 f, .int .i64 t, .int .i64 a, .int .i64 nn, .string S], .slice xa 28 xc, .tuple #[.string SIG, .agg #[.string SEED, .slice ra ls.length rc, .int .i64 ((m + 1 : Nat) : Int)], .int .i64 0], .string SIG, .agg #[.string SEED, .slice ra ls.length rc, .int .i64 ((m + 1 : Nat) : Int)], .int .i64 0, _, _, _, _, _, _, _, _, _], defers := _ } _
  refine alongK_step ?_
  have hone7 := one_keyB SEED _ ((m + 1 : Nat) : Int) (row_one hr7)
  have hC7 := (hU7.block w5.heap.size (by simp)).trans (heap_alloc_new w5 (.cells noKey 27))
  refine opK_store _ rfl rfl (ex_storerow (c1 := #[.string SEED, .slice ra ls.length rc, .int .i64 ((m + 1 : Nat) : Int)]) rfl rfl rfl _ 27 hC7 info_key rfl hone7) (fun x => Up wr x) (fun x hx => hx) (up_at hA7 (grownBy_setRow _ _ _) (hA5.size)) ?_
  change AlongK _ _ _ _ _ { tmps := #[.agg #[.string SEED, .slice ka ls.length kc, .int .i64 (m : Int)], .agg #[.int .i64 f, .int .i64 t, .int .i64 a, .int .i64 nn, .string S], .pointer (some ⟨B, 0, none⟩), .pointer (some ⟨B + 1, 0, none⟩), .pointer (some ⟨B + 1 + 1, 0, none⟩), .pointer (some ⟨B + 1 + 1 + 1, 0, none⟩), .int .i64 0, .int .i64 0, .string SIG, .pointer (some ⟨w5.heap.size, 0, none⟩), _, _, _, _, _, _, _, _, .tuple #[.string SIG, .agg #[.string SEED, .slice ra ls.length rc, .int .i64 ((m + 1 : Nat) : Int)], .int .i64 0], .agg #[.string SEED, .slice ka ls.length kc, .int .i64 (m : Int)], .agg #[.int .i64 f, .int .i64 t, .int .i64 a, .int .i64 nn, .string S], .slice xa 28 xc, .tuple #[.string SIG, .agg #[.string SEED, .slice ra ls.length rc, .int .i64 ((m + 1 : Nat) : Int)], .int .i64 0], .string SIG, .agg #[.string SEED, .slice ra ls.length rc, .int .i64 ((m + 1 : Nat) : Int)], .int .i64 0, _, _, _, _, _, _, _, _, _], defers := _ } _
  have HX := Lib.hid (after_clone2 (w := wr) (g := w5.heap.size) (Up.refl wr) (Nat.le_refl _) hr7 (by simp) hA7 hC7 hone7 hA5.size)
  refine alongK_read (.int .i64 0) rfl rfl (fun wx hS => ex_assign (by rfl) (by rfl) wx) ?_
  change AlongK _ _ _ _ _ { tmps := #[.agg #[.string SEED, .slice ka ls.length kc, .int .i64 (m : Int)], .agg #[.int .i64 f, .int .i64 t, .int .i64 a, .int .i64 nn, .string S], .pointer (some ⟨B, 0, none⟩), .pointer (some ⟨B + 1, 0, none⟩), .pointer (some ⟨B + 1 + 1, 0, none⟩), .pointer (some ⟨B + 1 + 1 + 1, 0, none⟩), .int .i64 0, .int .i64 0, .string SIG, .pointer (some ⟨w5.heap.size, 0, none⟩), .int .i64 0, _, _, _, _, _, _, _, .tuple #[.string SIG, .agg #[.string SEED, .slice ra ls.length rc, .int .i64 ((m + 1 : Nat) : Int)], .int .i64 0], .agg #[.string SEED, .slice ka ls.length kc, .int .i64 (m : Int)], .agg #[.int .i64 f, .int .i64 t, .int .i64 a, .int .i64 nn, .string S], .slice xa 28 xc, .tuple #[.string SIG, .agg #[.string SEED, .slice ra ls.length rc, .int .i64 ((m + 1 : Nat) : Int)], .int .i64 0], .string SIG, .agg #[.string SEED, .slice ra ls.length rc, .int .i64 ((m + 1 : Nat) : Int)], .int .i64 0, _, _, _, _, _, _, _, _, _], defers := _ } _
  refine alongK_done ?_
  generalize w7.setRow w5.heap.size #[.string SEED, .slice ra ls.length rc, .int .i64 ((m + 1 : Nat) : Int)] = w9 at HX ⊢
  generalize w5.heap.size = n9 at HX ⊢
  rotate_left
  refine opK_run (.pointer (some ⟨wr.heap.size, 0, none⟩)) _ rfl rfl (ex_alloc rfl _ _ (alloc_key wr.drew)) (fun x => Up wr x) (fun x hx => hx) (Up.alloc (Up.drew1 wr) _) ?_
  change AlongK _ _ _ _ _ { tmps := #[.agg #[.string SEED, .slice ka ls.length kc, .int .i64 (m : Int)], .agg #[.int .i64 f, .int .i64 t, .int .i64 a, .int .i64 nn, .string S], .pointer (some ⟨B, 0, none⟩), .pointer (some ⟨B + 1, 0, none⟩), .pointer (some ⟨B + 1 + 1, 0, none⟩), .pointer (some ⟨B + 1 + 1 + 1, 0, none⟩), .int .i64 0, .int .i64 0, _, .pointer (some ⟨wr.heap.size, 0, none⟩), _, _, _, _, _, _, _, _, _, .agg #[.string SEED, .slice ka ls.length kc, .int .i64 (m : Int)], .agg #[.int .i64 f, .int .i64 t, .int .i64 a, .int .i64 nn, .string S], _, _, _, _, _, _, _, _, _, _, _, _, _, _], defers := _ } _
  refine alongK_step ?_
  refine opK_call (vs := [.agg #[.int .i64 f, .int .i64 t, .int .i64 a, .int .i64 nn, .string S]]) rfl rfl rfl (enters_of Tryd.func18 (by kernel_rfl) rfl) rfl ?_
  with_reducible refine Calls.mono (HTx.out _) ?_
  rintro e w5 ⟨xa, xc, rfl, hI5, hU5⟩
  have hA5 : Up wr w5 := Up.trans (Up.alloc (Up.drew1 wr) _) hU5
  refine ⟨_, rfl, (fun x => Up wr x), (fun x hx => hx), hA5, ?_⟩
  change AlongK _ _ _ _ _ { tmps := #[.agg #[.string SEED, .slice ka ls.length kc, .int .i64 (m : Int)], .agg #[.int .i64 f, .int .i64 t, .int .i64 a, .int .i64 nn, .string S], .pointer (some ⟨B, 0, none⟩), .pointer (some ⟨B + 1, 0, none⟩), .pointer (some ⟨B + 1 + 1, 0, none⟩), .pointer (some ⟨B + 1 + 1 + 1, 0, none⟩), .int .i64 0, .int .i64 0, _, .pointer (some ⟨wr.heap.size, 0, none⟩), _, _, _, _, _, _, _, _, _, .agg #[.string SEED, .slice ka ls.length kc, .int .i64 (m : Int)], .agg #[.int .i64 f, .int .i64 t, .int .i64 a, .int .i64 nn, .string S], .slice xa 28 xc, _, _, _, _, _, _, _, _, _, _, _, _, _], defers := _ } _
  refine alongK_step ?_
  refine opK_call (vs := [.agg #[.string SEED, .slice ka ls.length kc, .int .i64 (m : Int)], .slice xa 28 xc]) rfl rfl rfl (enters_of Tryd.func17 (by kernel_rfl) rfl) rfl ?_
  with_reducible refine Calls.mono (HSg.out _ xa xc hA5 hI5) ?_
  rintro e w7 ⟨ra, rc, rfl, hr7, hU7⟩
  have hA7 : Up wr w7 := Up.trans hA5 hU7
  refine ⟨_, rfl, (fun x => Up wr x), (fun x hx => hx), hA7, ?_⟩
  change AlongK _ _ _ _ _ { tmps := #[.agg #[.string SEED, .slice ka ls.length kc, .int .i64 (m : Int)], .agg #[.int .i64 f, .int .i64 t, .int .i64 a, .int .i64 nn, .string S], .pointer (some ⟨B, 0, none⟩), .pointer (some ⟨B + 1, 0, none⟩), .pointer (some ⟨B + 1 + 1, 0, none⟩), .pointer (some ⟨B + 1 + 1 + 1, 0, none⟩), .int .i64 0, .int .i64 0, _, .pointer (some ⟨wr.heap.size, 0, none⟩), _, _, _, _, _, _, _, _, _, .agg #[.string SEED, .slice ka ls.length kc, .int .i64 (m : Int)], .agg #[.int .i64 f, .int .i64 t, .int .i64 a, .int .i64 nn, .string S], .slice xa 28 xc, .tuple #[.string SIG, .agg #[.string SEED, .slice ra ls.length rc, .int .i64 ((m + 1 : Nat) : Int)], .int .i64 0], _, _, _, _, _, _, _, _, _, _, _, _], defers := _ } _
  refine alongK_read (.tuple #[.string SIG, .agg #[.string SEED, .slice ra ls.length rc, .int .i64 ((m + 1 : Nat) : Int)], .int .i64 0]) rfl rfl (fun wx hS => ex_move (by rfl) (by rfl) wx) ?_
  change AlongK _ _ _ _ _ { tmps := #[.agg #[.string SEED, .slice ka ls.length kc, .int .i64 (m : Int)], .agg #[.int .i64 f, .int .i64 t, .int .i64 a, .int .i64 nn, .string S], .pointer (some ⟨B, 0, none⟩), .pointer (some ⟨B + 1, 0, none⟩), .pointer (some ⟨B + 1 + 1, 0, none⟩), .pointer (some ⟨B + 1 + 1 + 1, 0, none⟩), .int .i64 0, .int .i64 0, _, .pointer (some ⟨wr.heap.size, 0, none⟩), _, _, _, _, _, _, _, _, .tuple #[.string SIG, .agg #[.string SEED, .slice ra ls.length rc, .int .i64 ((m + 1 : Nat) : Int)], .int .i64 0], .agg #[.string SEED, .slice ka ls.length kc, .int .i64 (m : Int)], .agg #[.int .i64 f, .int .i64 t, .int .i64 a, .int .i64 nn, .string S], .slice xa 28 xc, .tuple #[.string SIG, .agg #[.string SEED, .slice ra ls.length rc, .int .i64 ((m + 1 : Nat) : Int)], .int .i64 0], _, _, _, _, _, _, _, _, _, _, _, _], defers := _ } _
  refine alongK_read (.string SIG) rfl rfl (fun wx hS => ex_extr (cs := #[.string SIG, .agg #[.string SEED, .slice ra ls.length rc, .int .i64 ((m + 1 : Nat) : Int)], .int .i64 0]) rfl rfl rfl wx) ?_
  change AlongK _ _ _ _ _ { tmps := #[.agg #[.string SEED, .slice ka ls.length kc, .int .i64 (m : Int)], .agg #[.int .i64 f, .int .i64 t, .int .i64 a, .int .i64 nn, .string S], .pointer (some ⟨B, 0, none⟩), .pointer (some ⟨B + 1, 0, none⟩), .pointer (some ⟨B + 1 + 1, 0, none⟩), .pointer (some ⟨B + 1 + 1 + 1, 0, none⟩), .int .i64 0, .int .i64 0, _, .pointer (some ⟨wr.heap.size, 0, none⟩), _, _, _, _, _, _, _, _, .tuple #[.string SIG, .agg #[.string SEED, .slice ra ls.length rc, .int .i64 ((m + 1 : Nat) : Int)], .int .i64 0], .agg #[.string SEED, .slice ka ls.length kc, .int .i64 (m : Int)], .agg #[.int .i64 f, .int .i64 t, .int .i64 a, .int .i64 nn, .string S], .slice xa 28 xc, .tuple #[.string SIG, .agg #[.string SEED, .slice ra ls.length rc, .int .i64 ((m + 1 : Nat) : Int)], .int .i64 0], .string SIG, _, _, _, _, _, _, _, _, _, _, _], defers := _ } _
  refine alongK_read (.agg #[.string SEED, .slice ra ls.length rc, .int .i64 ((m + 1 : Nat) : Int)]) rfl rfl (fun wx hS => ex_extr (cs := #[.string SIG, .agg #[.string SEED, .slice ra ls.length rc, .int .i64 ((m + 1 : Nat) : Int)], .int .i64 0]) rfl rfl rfl wx) ?_
  change AlongK _ _ _ _ _ { tmps := #[.agg #[.string SEED, .slice ka ls.length kc, .int .i64 (m : Int)], .agg #[.int .i64 f, .int .i64 t, .int .i64 a, .int .i64 nn, .string S], .pointer (some ⟨B, 0, none⟩), .pointer (some ⟨B + 1, 0, none⟩), .pointer (some ⟨B + 1 + 1, 0, none⟩), .pointer (some ⟨B + 1 + 1 + 1, 0, none⟩), .int .i64 0, .int .i64 0, _, .pointer (some ⟨wr.heap.size, 0, none⟩), _, _, _, _, _, _, _, _, .tuple #[.string SIG, .agg #[.string SEED, .slice ra ls.length rc, .int .i64 ((m + 1 : Nat) : Int)], .int .i64 0], .agg #[.string SEED, .slice ka ls.length kc, .int .i64 (m : Int)], .agg #[.int .i64 f, .int .i64 t, .int .i64 a, .int .i64 nn, .string S], .slice xa 28 xc, .tuple #[.string SIG, .agg #[.string SEED, .slice ra ls.length rc, .int .i64 ((m + 1 : Nat) : Int)], .int .i64 0], .string SIG, .agg #[.string SEED, .slice ra ls.length rc, .int .i64 ((m + 1 : Nat) : Int)], _, _, _, _, _, _, _, _, _, _], defers := _ } _
  refine alongK_read (.int .i64 0) rfl rfl (fun wx hS => ex_extr (cs := #[.string SIG, .agg #[.string SEED, .slice ra ls.length rc, .int .i64 ((m + 1 : Nat) : Int)], .int .i64 0]) rfl rfl rfl wx) ?_
  change AlongK _ _ _ _ _ { tmps := #[.agg #[.string SEED, .slice ka ls.length kc, .int .i64 (m : Int)], .agg #[.int .i64 f, .int .i64 t, .int .i64 a, .int .i64 nn, .string S], .pointer (some ⟨B, 0, none⟩), .pointer (some ⟨B + 1, 0, none⟩), .pointer (some ⟨B + 1 + 1, 0, none⟩), .pointer (some ⟨B + 1 + 1 + 1, 0, none⟩), .int .i64 0, .int .i64 0, _, .pointer (some ⟨wr.heap.size, 0, none⟩), _, _, _, _, _, _, _, _, .tuple #[.string SIG, .agg #[.string SEED, .slice ra ls.length rc, .int .i64 ((m + 1 : Nat) : Int)], .int .i64 0], .agg #[.string SEED, .slice ka ls.length kc, .int .i64 (m : Int)], .agg #[.int .i64 f, .int .i64 t, .int .i64 a, .int .i64 nn, .string S], .slice xa 28 xc, .tuple #[.string SIG, .agg #[.string SEED, .slice ra ls.length rc, .int .i64 ((m + 1 : Nat) : Int)], .int .i64 0], .string SIG, .agg #[.string SEED, .slice ra ls.length rc, .int .i64 ((m + 1 : Nat) : Int)], .int .i64 0, _, _, _, _, _, _, _, _, _], defers := _ } _
  refine alongK_read (.string SIG) rfl rfl (fun wx hS => ex_assign (by rfl) (by rfl) wx) ?_
  change AlongK _ _ _ _ _ { tmps := #[.agg #[.string SEED, .slice ka ls.length kc, .int .i64 (m : Int)], .agg #[.int .i64 f, .int .i64 t, .int .i64 a, .int .i64 nn, .string S], .pointer (some ⟨B, 0, none⟩), .pointer (some ⟨B + 1, 0, none⟩), .pointer (some ⟨B + 1 + 1, 0, none⟩), .pointer (some ⟨B + 1 + 1 + 1, 0, none⟩), .int .i64 0, .int .i64 0, .string SIG, .pointer (some ⟨wr.heap.size, 0, none⟩), _, _, _, _, _, _, _, _, .tuple #[.string SIG, .agg #[.string SEED, .slice ra ls.length rc, .int .i64 ((m + 1 : Nat) : Int)], .int .i64 0], .agg #[.string SEED, .slice ka ls.length kc, .int .i64 (m : Int)], .agg #[.int .i64 f, .int .i64 t, .int .i64 a, .int .i64 nn, .string S], .slice xa 28 xc, .tuple #[.string SIG, .agg #[.string SEED, .slice ra ls.length rc, .int .i64 ((m + 1 : Nat) : Int)], .int .i64 0], .string SIG, .agg #[.string SEED, .slice ra ls.length rc, .int .i64 ((m + 1 : Nat) : Int)], .int .i64 0, _, _, _, _, _, _, _, _, _], defers := _ } _
  refine alongK_step ?_
  have hone7 := one_keyB SEED _ ((m + 1 : Nat) : Int) (row_one hr7)
  have hC7 := (hU7.block wr.heap.size (Nat.lt_of_lt_of_le (lt_alloc1 wr _) hU5.size)).trans ((hU5.block wr.heap.size (lt_alloc1 wr _)).trans (heap_alloc_new wr.drew (.cells noKey 27)))
  refine opK_store _ rfl rfl (ex_storerow (c1 := #[.string SEED, .slice ra ls.length rc, .int .i64 ((m + 1 : Nat) : Int)]) rfl rfl rfl _ 27 hC7 info_key rfl hone7) (fun x => Up wr x) (fun x hx => hx) (up_at hA7 (grownBy_setRow _ _ _) (Nat.le_refl _)) ?_
  change AlongK _ _ _ _ _ { tmps := #[.agg #[.string SEED, .slice ka ls.length kc, .int .i64 (m : Int)], .agg #[.int .i64 f, .int .i64 t, .int .i64 a, .int .i64 nn, .string S], .pointer (some ⟨B, 0, none⟩), .pointer (some ⟨B + 1, 0, none⟩), .pointer (some ⟨B + 1 + 1, 0, none⟩), .pointer (some ⟨B + 1 + 1 + 1, 0, none⟩), .int .i64 0, .int .i64 0, .string SIG, .pointer (some ⟨wr.heap.size, 0, none⟩), _, _, _, _, _, _, _, _, .tuple #[.string SIG, .agg #[.string SEED, .slice ra ls.length rc, .int .i64 ((m + 1 : Nat) : Int)], .int .i64 0], .agg #[.string SEED, .slice ka ls.length kc, .int .i64 (m : Int)], .agg #[.int .i64 f, .int .i64 t, .int .i64 a, .int .i64 nn, .string S], .slice xa 28 xc, .tuple #[.string SIG, .agg #[.string SEED, .slice ra ls.length rc, .int .i64 ((m + 1 : Nat) : Int)], .int .i64 0], .string SIG, .agg #[.string SEED, .slice ra ls.length rc, .int .i64 ((m + 1 : Nat) : Int)], .int .i64 0, _, _, _, _, _, _, _, _, _], defers := _ } _
  have HX := Lib.hid (after_clone2 (w := wr) (g := wr.heap.size) (Up.refl wr) (Nat.le_refl _) hr7 (Nat.lt_of_lt_of_le (lt_alloc1 wr _) hU5.size) hA7 hC7 hone7 (Nat.le_refl _))
  refine alongK_read (.int .i64 0) rfl rfl (fun wx hS => ex_assign (by rfl) (by rfl) wx) ?_
  change AlongK _ _ _ _ _ { tmps := #[.agg #[.string SEED, .slice ka ls.length kc, .int .i64 (m : Int)], .agg #[.int .i64 f, .int .i64 t, .int .i64 a, .int .i64 nn, .string S], .pointer (some ⟨B, 0, none⟩), .pointer (some ⟨B + 1, 0, none⟩), .pointer (some ⟨B + 1 + 1, 0, none⟩), .pointer (some ⟨B + 1 + 1 + 1, 0, none⟩), .int .i64 0, .int .i64 0, .string SIG, .pointer (some ⟨wr.heap.size, 0, none⟩), .int .i64 0, _, _, _, _, _, _, _, .tuple #[.string SIG, .agg #[.string SEED, .slice ra ls.length rc, .int .i64 ((m + 1 : Nat) : Int)], .int .i64 0], .agg #[.string SEED, .slice ka ls.length kc, .int .i64 (m : Int)], .agg #[.int .i64 f, .int .i64 t, .int .i64 a, .int .i64 nn, .string S], .slice xa 28 xc, .tuple #[.string SIG, .agg #[.string SEED, .slice ra ls.length rc, .int .i64 ((m + 1 : Nat) : Int)], .int .i64 0], .string SIG, .agg #[.string SEED, .slice ra ls.length rc, .int .i64 ((m + 1 : Nat) : Int)], .int .i64 0, _, _, _, _, _, _, _, _, _], defers := _ } _
  refine alongK_done ?_
  generalize w7.setRow wr.heap.size #[.string SEED, .slice ra ls.length rc, .int .i64 ((m + 1 : Nat) : Int)] = w9 at HX ⊢
  generalize wr.heap.size = n9 at HX ⊢
  all_goals
    clear hr7 hU7 hA7 hU5 hA5 hI5
    have HUX := Lib.hid HX.out.1
    have HT9 := Lib.hid ((HUX.out.block _ (lt_of_block HTb.out)).trans HTb.out)
    have H49 := Lib.hid ((HUX.out.block _ (lt_of_block H4b.out)).trans H4b.out)
    have H59 := Lib.hid ((HUX.out.block _ (lt_of_block H5b.out)).trans H5b.out)
    have Hn9 : Hid (B + 1 + 1 + 1 < n9) := Nat.lt_of_lt_of_le HB.out HX.out.2.2.2.1
    have hcell := (tx_cells HT9.out).2.2.2.2
    have hfr := frozen_of_row _ _ 4 _ _ HT9.out
    go_wp2
    have HTs := Lib.hid (set_field HT9.out 4 (.string SIG) (cs' := #[.int .i64 f, .int .i64 t, .int .i64 a, .int .i64 nn, .string SIG]) rfl)
    have hgs := grownBy_setCell w9 ⟨B + 1, 4, none⟩ (.string SIG)
    have H4s := Lib.hid ((hgs.block _ (lt_of_block H49.out) (fun e => by simp at e <;> omega)).trans H49.out)
    have H5s := Lib.hid ((hgs.block _ (lt_of_block H59.out) (fun e => by simp at e <;> omega)).trans H59.out)
    have HKs := Lib.hid ((hgs.block _ (lt_of_block HX.out.2.1) (fun e => by have := Hn9.out; simp at e; omega)).trans HX.out.2.1)
    have Hrs := Lib.hid (HX.out.2.2.1.kept hgs (row_off HX.out.2.2.1 (fun q e => by cases e; have := HB.out; show B + 1 < _; omega)))
    have HUs : Hid (Up w (w9.setCell ⟨B + 1, 4, none⟩ (.string SIG))) := up_at (Up.trans HUr.out HUX.out) hgs (by show _ ≤ B + 1; omega)
    generalize w9.setCell ⟨B + 1, 4, none⟩ (.string SIG) = ws at HTs H4s H5s HKs Hrs HUs ⊢
    clear hgs hcell hfr
    refine region_alongK (fun x => x.heap[B + 1]? = some (.cells #[.int .i64 f, .int .i64 t, .int .i64 a, .int .i64 nn, .string SIG] 23 (0, 0)) ∧ x.heap[n9]? = some (.cells #[.string SEED, .slice ra ls.length rc, .int .i64 ((m + 1 : Nat) : Int)] 27 (0, 0))) (.read 0 (.read 1 (.step 2 (.step 3 (.read 4 (.nil)))))) (by kernel_rfl) rfl (by kernel_rfl) (by kernel_rfl) (fun c a d v w h => by cases d <;> exact h) (⟨HTs.out, HKs.out⟩) ?_
    refine alongK_read (.agg #[.int .i64 f, .int .i64 t, .int .i64 a, .int .i64 nn, .string SIG]) rfl rfl (fun wx hS => ex_loadrow rfl rfl wx 23 (hS.1) Tryd.underlying23 rfl info_tx) ?_
    change AlongK _ _ _ _ _ { tmps := #[.agg #[.string SEED, .slice ka ls.length kc, .int .i64 (m : Int)], .agg #[.int .i64 f, .int .i64 t, .int .i64 a, .int .i64 nn, .string S], .pointer (some ⟨B, 0, none⟩), .pointer (some ⟨B + 1, 0, none⟩), .pointer (some ⟨B + 1 + 1, 0, none⟩), .pointer (some ⟨B + 1 + 1 + 1, 0, none⟩), .int .i64 0, .int .i64 0, _, .pointer (some ⟨n9, 0, none⟩), _, _, _, _, _, _, _, _, _, _, _, _, _, _, _, _, _, _, _, _, _, _, _, .agg #[.int .i64 f, .int .i64 t, .int .i64 a, .int .i64 nn, .string SIG], _], defers := _ } _
    refine alongK_read (.agg #[.string SEED, .slice ra ls.length rc, .int .i64 ((m + 1 : Nat) : Int)]) rfl rfl (fun wx hS => ex_loadrow rfl rfl wx 27 (hS.2) Tryd.underlying27 rfl info_key) ?_
    change AlongK _ _ _ _ _ { tmps := #[.agg #[.string SEED, .slice ka ls.length kc, .int .i64 (m : Int)], .agg #[.int .i64 f, .int .i64 t, .int .i64 a, .int .i64 nn, .string S], .pointer (some ⟨B, 0, none⟩), .pointer (some ⟨B + 1, 0, none⟩), .pointer (some ⟨B + 1 + 1, 0, none⟩), .pointer (some ⟨B + 1 + 1 + 1, 0, none⟩), .int .i64 0, .int .i64 0, _, .pointer (some ⟨n9, 0, none⟩), _, _, _, _, _, _, _, _, _, _, _, _, _, _, _, _, _, _, _, _, _, _, _, .agg #[.int .i64 f, .int .i64 t, .int .i64 a, .int .i64 nn, .string SIG], .agg #[.string SEED, .slice ra ls.length rc, .int .i64 ((m + 1 : Nat) : Int)]], defers := _ } _
    refine alongK_step ?_
    refine opK_store _ rfl rfl (ex_storerow (c1 := #[.int .i64 f, .int .i64 t, .int .i64 a, .int .i64 nn, .string SIG]) rfl rfl rfl _ 23 H4s.out info_tx rfl (one_tx _ _ _ _ _)) (fun x => x.heap[B + 1]? = some (.cells #[.int .i64 f, .int .i64 t, .int .i64 a, .int .i64 nn, .string SIG] 23 (0, 0)) ∧ x.heap[n9]? = some (.cells #[.string SEED, .slice ra ls.length rc, .int .i64 ((m + 1 : Nat) : Int)] 27 (0, 0))) (fun x hx => hx) ⟨((grownBy_setRow ws.drew (B + 1 + 1) #[.int .i64 f, .int .i64 t, .int .i64 a, .int .i64 nn, .string SIG]).block _ (lt_of_block HTs.out) (fun e => by simp at e <;> omega)).trans HTs.out, ((grownBy_setRow ws.drew (B + 1 + 1) #[.int .i64 f, .int .i64 t, .int .i64 a, .int .i64 nn, .string SIG]).block _ (lt_of_block HKs.out) (fun e => by have := Hn9.out; simp at e; omega)).trans HKs.out⟩ ?_
    change AlongK _ _ _ _ _ { tmps := #[.agg #[.string SEED, .slice ka ls.length kc, .int .i64 (m : Int)], .agg #[.int .i64 f, .int .i64 t, .int .i64 a, .int .i64 nn, .string S], .pointer (some ⟨B, 0, none⟩), .pointer (some ⟨B + 1, 0, none⟩), .pointer (some ⟨B + 1 + 1, 0, none⟩), .pointer (some ⟨B + 1 + 1 + 1, 0, none⟩), .int .i64 0, .int .i64 0, _, .pointer (some ⟨n9, 0, none⟩), _, _, _, _, _, _, _, _, _, _, _, _, _, _, _, _, _, _, _, _, _, _, _, .agg #[.int .i64 f, .int .i64 t, .int .i64 a, .int .i64 nn, .string SIG], .agg #[.string SEED, .slice ra ls.length rc, .int .i64 ((m + 1 : Nat) : Int)]], defers := _ } _
    have H4t := setRow_heap ws.drew (B + 1 + 1) _ #[.int .i64 f, .int .i64 t, .int .i64 a, .int .i64 nn, .string SIG] _ _ H4s.out
    have hgt := grownBy_setRow ws.drew (B + 1 + 1) #[.int .i64 f, .int .i64 t, .int .i64 a, .int .i64 nn, .string SIG]
    have H5t := (hgt.block _ (lt_of_block H5s.out) (fun e => by simp at e <;> omega)).trans H5s.out
    have HTt := (hgt.block _ (lt_of_block HTs.out) (fun e => by simp at e <;> omega)).trans HTs.out
    have HKt := (hgt.block _ (lt_of_block HKs.out) (fun e => by have := Hn9.out; simp at e; omega)).trans HKs.out
    have HUt := up_at (Up.drew HUs.out) hgt (by omega)
    have Hrt := (ownsRow_up Hrs.out (Up.drew1 ws)).kept hgt (row_off (ownsRow_up Hrs.out (Up.drew1 ws)) (fun q e => by cases e; have := HB.out; omega))
    generalize ws.drew.setRow (B + 1 + 1) #[.int .i64 f, .int .i64 t, .int .i64 a, .int .i64 nn, .string SIG] = wt at H4t H5t HTt HKt HUt Hrt ⊢
    clear hgt
    refine alongK_step ?_
    refine opK_store _ rfl rfl (ex_storerow (c1 := #[.string SEED, .slice ra ls.length rc, .int .i64 ((m + 1 : Nat) : Int)]) rfl rfl rfl _ 27 H5t info_key rfl HX.out.2.2.2.2) (fun x => x.heap[B + 1]? = some (.cells #[.int .i64 f, .int .i64 t, .int .i64 a, .int .i64 nn, .string SIG] 23 (0, 0)) ∧ x.heap[n9]? = some (.cells #[.string SEED, .slice ra ls.length rc, .int .i64 ((m + 1 : Nat) : Int)] 27 (0, 0))) (fun x hx => hx) ⟨((grownBy_setRow wt (B + 1 + 1 + 1) #[.string SEED, .slice ra ls.length rc, .int .i64 ((m + 1 : Nat) : Int)]).block _ (lt_of_block HTt) (fun e => by simp at e <;> omega)).trans HTt, ((grownBy_setRow wt (B + 1 + 1 + 1) #[.string SEED, .slice ra ls.length rc, .int .i64 ((m + 1 : Nat) : Int)]).block _ (lt_of_block HKt) (fun e => by have := Hn9.out; simp at e; omega)).trans HKt⟩ ?_
    change AlongK _ _ _ _ _ { tmps := #[.agg #[.string SEED, .slice ka ls.length kc, .int .i64 (m : Int)], .agg #[.int .i64 f, .int .i64 t, .int .i64 a, .int .i64 nn, .string S], .pointer (some ⟨B, 0, none⟩), .pointer (some ⟨B + 1, 0, none⟩), .pointer (some ⟨B + 1 + 1, 0, none⟩), .pointer (some ⟨B + 1 + 1 + 1, 0, none⟩), .int .i64 0, .int .i64 0, _, .pointer (some ⟨n9, 0, none⟩), _, _, _, _, _, _, _, _, _, _, _, _, _, _, _, _, _, _, _, _, _, _, _, .agg #[.int .i64 f, .int .i64 t, .int .i64 a, .int .i64 nn, .string SIG], .agg #[.string SEED, .slice ra ls.length rc, .int .i64 ((m + 1 : Nat) : Int)]], defers := _ } _
    have H5u := setRow_heap wt (B + 1 + 1 + 1) _ #[.string SEED, .slice ra ls.length rc, .int .i64 ((m + 1 : Nat) : Int)] _ _ H5t
    have hgu := grownBy_setRow wt (B + 1 + 1 + 1) #[.string SEED, .slice ra ls.length rc, .int .i64 ((m + 1 : Nat) : Int)]
    have H4u := (hgu.block _ (lt_of_block H4t) (fun e => by simp at e <;> omega)).trans H4t
    have HUu := up_at HUt hgu (by omega)
    have Hru := Hrt.kept hgu (row_off Hrt (fun q e => by cases e; have := HB.out; omega))
    generalize wt.setRow (B + 1 + 1 + 1) #[.string SEED, .slice ra ls.length rc, .int .i64 ((m + 1 : Nat) : Int)] = wu at H4u H5u HUu Hru ⊢
    clear hgu
    refine alongK_read (.int .i64 0) rfl rfl (fun wx hS => ex_assign (by rfl) (by rfl) wx) ?_
    change AlongK _ _ _ _ _ { tmps := #[.agg #[.string SEED, .slice ka ls.length kc, .int .i64 (m : Int)], .agg #[.int .i64 f, .int .i64 t, .int .i64 a, .int .i64 nn, .string S], .pointer (some ⟨B, 0, none⟩), .pointer (some ⟨B + 1, 0, none⟩), .pointer (some ⟨B + 1 + 1, 0, none⟩), .pointer (some ⟨B + 1 + 1 + 1, 0, none⟩), .int .i64 0, .int .i64 0, _, .pointer (some ⟨n9, 0, none⟩), _, _, _, _, _, _, _, _, _, _, _, _, _, _, _, _, _, _, _, _, _, _, _, .agg #[.int .i64 f, .int .i64 t, .int .i64 a, .int .i64 nn, .string SIG], .agg #[.string SEED, .slice ra ls.length rc, .int .i64 ((m + 1 : Nat) : Int)]], defers := _ } _
    refine alongK_done ?_
    clear H5t HTt HKt HUt Hrt
    have H4x := Lib.hid H4u
    have H5x := Lib.hid H5u
    have HUx := Lib.hid HUu
    have Hrx := Lib.hid (ownsRow_base (base' := w.heap.size) Hru (by have := HB.out; omega))
    clear H4t H4u H5u HUu Hru
    go_wp2
    exact bodyPost_ret (results_make rfl _ _ _ _ _ _ _ rfl rfl rfl H4x.out rfl H5x.out rfl) rfl ⟨_, rfl, Hrx.out, HUx.out⟩
end
end Go.Proofs.YtgmicppfiapilaaDoor
