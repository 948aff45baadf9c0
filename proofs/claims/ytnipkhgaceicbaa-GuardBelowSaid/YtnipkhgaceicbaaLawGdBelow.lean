import Derived.Test.YtnipkhgaceicbaaGdAlive
import Derived.Test.YtnipkhgaceicbaaGdLaid
import Derived.Test.YtnipkhgaceicbaaGdOpen
/-
  mootlaw17.GuardBelow, of what MayVote and MayCommit answer.
-/
namespace Go.Proofs.Ytnipkhgaceicbaa
set_option maxRecDepth 100000
section
set_option linter.unusedVariables false
open Go.RowKit Go.Sort Go.Lib

/-- a tree as laid leaves it, all of it new -/
def Laid (w : World) (base g : Nat) : Prop := ∃ mb n T, TreeAt w g mb n T ∧ n ≤ 10 ∧ (∀ s x, T s = some x → TbFit x ∧ NewL base x) ∧ base ≤ g ∧ base ≤ mb
theorem Laid.up {w w' : World} {base g : Nat} (h : Laid w base g) (u : Up w w') : Laid w' base g := by
  obtain ⟨mb, n, T, h1, h2, h3⟩ := h
  exact ⟨mb, n, T, h1.up u, h2, h3⟩
theorem Laid.set {w w' : World} {base g A : Nat} (h : Laid w base g) (hg : w.grownBy w' (some A)) (hA : A < base) : Laid w' base g := by
  obtain ⟨mb, n, T, h1, h2, h3, h4, h5⟩ := h
  refine ⟨mb, n, T, h1.far hg (fun s x hs => ?_) (fun e => by cases e; omega) (fun e => by cases e; omega), h2, h3, h4, h5⟩
  exact ⟨fun b o e _ he => by cases he; have := (h3 s x hs).2 _ o (.inl e); omega, fun b o e _ he => by cases he; have := (h3 s x hs).2 _ o (.inr e); omega⟩
/-- nothing below the lock, nothing in a view that is spoilt -/
def VoteNo : Prop := ∀ (s : Gs) (base g : Nat) (x : Tb) (wx : World), Laid wx base g → TbIn wx x → TbFit x → TbOk x → (hiB s.c.V s.c.H x.JV x.JH = true ∨ s.sp = true) →
  Calls Try.prog 11 #[.agg (gsA s), .pointer (some ⟨g, 0, none⟩), .agg (tbA x)] wx fun e w' => e = .returned (.bool false) ∧ Up wx w'
def CommitNo : Prop := ∀ (s : Gs) (base g : Nat) (m : Mk) (wx : World), Laid wx base g → MkOk m → s.sp = true →
  Calls Try.prog 12 #[.agg (gsA s), .pointer (some ⟨g, 0, none⟩), .agg m.l.toArray] wx fun e w' => e = .returned (.bool false) ∧ Up wx w'
set_option maxHeartbeats 4000000 in
theorem guardBelow_of (HV : VoteNo) (HC : CommitNo) (s : Gs) (v1 : Value) (xs : List Tb) (x : Tb) (m : Mk) (w : World) (hx : TbArg w v1 xs) (hfit : ∀ (j : Nat) (x : Tb), xs[j]? = some x → TbFit x) (hl : xs.length < 4611686018427387904) (hxi : TbIn w x) (hxf : TbFit x) (hxo : TbOk x) (hmo : MkOk m) :
    Calls Try.prog 4 #[.agg (gsA s), v1, .agg (tbA x), .agg m.l.toArray] w fun e w' => e = .returned (.bool true) ∧ Up w w' := by
  have HAl := Lib.hid (fun wx => gdAlive_any wx)
  have HLd := Lib.hid (fun wx hu => laid_any v1 xs wx (hx.up hu) hfit hl)
  have HHi : Hid (∀ wx, Calls Try.prog 8 #[.agg s.c.l.toArray, .agg #[.int .i64 x.JV, .int .i64 x.JH, .string ⟨#[]⟩]] wx fun e w' => e = .returned (.bool (hiB s.c.V s.c.H x.JV x.JH)) ∧ Up wx w') := Lib.hid fun wx => refHi_any s.c ⟨x.JV, x.JH, ⟨#[]⟩⟩ wx
  have HV1 : Hid (∀ base g wx, Laid wx base g → Up w wx → hiB s.c.V s.c.H x.JV x.JH = true → Calls Try.prog 11 #[.agg (gsA s), .pointer (some ⟨g, 0, none⟩), .agg (tbA x)] wx fun e w' => e = .returned (.bool false) ∧ Up wx w') := Lib.hid fun base g wx hL hu h => HV s base g x wx hL (hxi.up hu) hxf hxo (.inl h)
  have HV2 : Hid (∀ base g wx, Laid wx base g → Up w wx → Calls Try.prog 11 #[.agg (gsA { s with sp := true }), .pointer (some ⟨g, 0, none⟩), .agg (tbA x)] wx fun e w' => e = .returned (.bool false) ∧ Up wx w') := Lib.hid fun base g wx hL hu => HV { s with sp := true } base g x wx hL (hxi.up hu) hxf hxo (.inr rfl)
  have HC2 : Hid (∀ base g wx, Laid wx base g → Calls Try.prog 12 #[.agg (gsA { s with sp := true }), .pointer (some ⟨g, 0, none⟩), .agg m.l.toArray] wx fun e w' => e = .returned (.bool false) ∧ Up wx w') := Lib.hid fun base g wx hL => HC { s with sp := true } base g m wx hL hmo rfl
  have hat := gs_lock s
  have hcl : s.c.l.length = 3 := rfl
  have hput : (gsA s).setIfInBounds 10 (.bool true) = gsA { s with sp := true } := rfl
  have hc10 : (gsA s)[10]? = some (.bool s.sp) := rfl
  have hsz : (gsA s).size = 11 := rfl
  have hszt : (gsA { s with sp := true }).size = 11 := rfl
  have hx3 : (tbA x)[3]? = some (.int .i64 x.JV) := rfl
  have hx4 : (tbA x)[4]? = some (.int .i64 x.JH) := rfl
  have hbz : (tbA x).size = 9 := rfl
  have hmz : m.l.toArray.size = 3 := rfl
  clear HV HC hx hfit hl hxi hxf hxo hmo
  generalize hiB s.c.V s.c.H x.JV x.JH = D at HHi HV1
  generalize gsA { s with sp := true } = ct at HV2 HC2 hput hszt
  generalize gsA s = cs at HV1 hat hput hc10 hsz ⊢
  generalize s.c.l = cl at HHi hat hcl
  generalize s.sp = SP at hc10
  generalize x.JV = JV at HHi hx3
  generalize x.JH = JH at HHi hx4
  generalize tbA x = bx at HV1 HV2 hx3 hx4 hbz ⊢
  generalize m.l.toArray = mx at HC2 hmz ⊢
  have ha := heap_alloc_new w (.cells cs 28)
  have hu1 := Up.alloc (Up.refl (w.alloc (.cells cs 28))) (.cells bx 41)
  have hb := heap_alloc_new (w.alloc (.cells cs 28)) (.cells bx 41)
  have hu2 := Up.alloc (Up.refl ((w.alloc (.cells cs 28)).alloc (.cells bx 41))) (.cells mx 26)
  have hc := heap_alloc_new ((w.alloc (.cells cs 28)).alloc (.cells bx 41)) (.cells mx 26)
  have HA := Lib.hid (((hu1.trans hu2).block _ (lt_of_block ha)).trans ha)
  have HB := Lib.hid ((hu2.block _ (lt_of_block hb)).trans hb)
  have HM := Lib.hid hc
  have HU := Lib.hid (((Up.alloc (Up.refl w) (.cells cs 28)).trans hu1).trans hu2)
  clear ha hb hc hu1 hu2
  rw [show (w.alloc (.cells cs 28)).heap.size = w.heap.size + 1 by simp] at HB
  rw [show ((w.alloc (.cells cs 28)).alloc (.cells bx 41)).heap.size = w.heap.size + 2 by simp] at HM
  go_enter Try.func4, Try.ntmps4
  go_upto_region 1 with fail
  generalize ((w.alloc (.cells cs 28)).alloc (.cells bx 41)).alloc (.cells mx 26) = w3 at HA HB HM HU ⊢
  obtain ⟨A, hA⟩ : ∃ A, w.heap.size = A := ⟨_, rfl⟩
  have HG : Hid (w.heap.size ≤ A) := Lib.hid (Nat.le_of_eq hA)
  rw [hA] at HA HB HM ⊢
  clear hA
  go_wp2_with fail
  with_reducible refine Calls.mono (HAl.out _) ?_
  rintro e w4 ⟨rfl, hU4⟩
  have HU4 := Lib.hid hU4
  clear hU4 HAl
  go_wp2_with fail
  with_reducible refine Calls.mono (HLd.out _ (HU.out.trans HU4.out)) ?_
  rintro e w5 ⟨g, mb, n, T, r, rfl, hT, hn, hf, hg4, hm4, hU5⟩
  have HT5 : Hid (Laid w5 w4.heap.size g) := Lib.hid ⟨mb, n, T, hT, hn, hf, hg4, hm4⟩
  have HAB : Hid (A < w4.heap.size) := Lib.hid (Nat.lt_of_lt_of_le (lt_of_block HA.out) HU4.out.size)
  generalize w4.heap.size = BS at HT5 HAB
  have hu5 := HU4.out.trans hU5
  have HA5 := Lib.hid ((hu5.block _ (lt_of_block HA.out)).trans HA.out)
  have hb5 := (hu5.block _ (lt_of_block HB.out)).trans HB.out
  have HB5 := Lib.hid hb5
  have HM5 := Lib.hid ((hu5.block _ (lt_of_block HM.out)).trans HM.out)
  have HU5 := Lib.hid (HU.out.trans hu5)
  have hl3 : w5.cell? ⟨A + 1, 3, none⟩ = some (.int .i64 JV) := by rw [cell_of_row _ _ 3 _ _ _ hb5]; exact hx3
  have hl4 : w5.cell? ⟨A + 1, 4, none⟩ = some (.int .i64 JH) := by rw [cell_of_row _ _ 4 _ _ _ hb5]; exact hx4
  clear hT hn hf hg4 hm4 hU5 hu5 HU4 HU HA HB HM HLd hb5
  go_upto_region 5 with (refine wpList_exs rfl (w5.alloc (.cells #[.int .i64 JV, .int .i64 JH, .string ⟨#[]⟩] 26)) (ex_fillG (x := .tmp 11) (y := .tmp 25) rfl rfl rfl info_mk rfl (one_mk _ _ _)) ?_)
  have hu6 := Up.alloc (Up.refl w5) (.cells #[.int .i64 JV, .int .i64 JH, .string ⟨#[]⟩] 26)
  have HJ6 := Lib.hid (heap_alloc_new w5 (.cells #[.int .i64 JV, .int .i64 JH, .string ⟨#[]⟩] 26))
  have HA6 := Lib.hid ((hu6.block _ (lt_of_block HA5.out)).trans HA5.out)
  have HB6 := Lib.hid ((hu6.block _ (lt_of_block HB5.out)).trans HB5.out)
  have HM6 := Lib.hid ((hu6.block _ (lt_of_block HM5.out)).trans HM5.out)
  have HT6 := Lib.hid (HT5.out.up hu6)
  have HU6 := Lib.hid (HU5.out.trans hu6)
  clear hu6 HA5 HB5 HM5 HT5 HU5 hl3 hl4
  generalize w5.alloc (.cells #[.int .i64 JV, .int .i64 JH, .string ⟨#[]⟩] 26) = w6 at HJ6 HA6 HB6 HM6 HT6 HU6 ⊢
  generalize w5.heap.size = J at HJ6 ⊢
  go_wp2_with (first | (refine wpList_ex rfl (.agg cl.toArray) _ (ex_loadpart (x := .tmp 26) 3 isAgg_mk sizeOf_mk rfl rfl _ HA6.out hat hcl) ?_) | (refine wpList_ex rfl (.agg #[.int .i64 JV, .int .i64 JH, .string ⟨#[]⟩]) _ (ex_loadrow (x := .tmp 11) rfl rfl _ 26 HJ6.out Try.underlying26 rfl info_mk) ?_))
  with_reducible refine Calls.mono (HHi.out _) ?_
  rintro e w7 ⟨rfl, hU7⟩
  have HA7 := Lib.hid ((hU7.block _ (lt_of_block HA6.out)).trans HA6.out)
  have HB7 := Lib.hid ((hU7.block _ (lt_of_block HB6.out)).trans HB6.out)
  have HM7 := Lib.hid ((hU7.block _ (lt_of_block HM6.out)).trans HM6.out)
  have HT7 := Lib.hid (HT6.out.up hU7)
  have HU7 := Lib.hid (HU6.out.trans hU7)
  clear hU7 HJ6 HA6 HB6 HM6 HT6 HU6 HHi
  cases D with
  | false =>
    clear HV1
    go_upto_region 7 with fail
    have hb7 := HB7.out
    have hl10 : w7.cell? ⟨A, 10, none⟩ = some (.bool SP) := by rw [cell_of_row _ _ 10 _ _ _ HA7.out]; exact hc10
    have hf10 : w7.frozen? ⟨A, 10, none⟩ = false := frozen_of_row w7 A 10 cs _ HA7.out
    have hg8 : w7.grownBy (w7.setCell ⟨A, 10, none⟩ (.bool true)) (some A) := grownBy_setCell w7 ⟨A, 10, none⟩ (.bool true)
    have HA8 : Hid ((w7.setCell ⟨A, 10, none⟩ (.bool true)).heap[A]? = some (.cells ct 28 (0, 0))) := Lib.hid (set_field HA7.out 10 _ hput)
    have HB8 := Lib.hid ((hg8.block _ (lt_of_block HB7.out) (fun e => by injection e with e; omega)).trans HB7.out)
    have HM8 := Lib.hid ((hg8.block _ (lt_of_block HM7.out) (fun e => by injection e with e; omega)).trans HM7.out)
    have HT8 := Lib.hid (HT7.out.set hg8 HAB.out)
    have HU8 := Lib.hid (up_at HU7.out hg8 HG.out)
    clear hg8 hb7 HT7 HU7 HA7 HB7 HM7 hc10
    go_upto_region 8 with fail
    generalize w7.setCell ⟨A, 10, none⟩ (.bool true) = w8 at HA8 HB8 HM8 HT8 HU8 ⊢
    clear hl10 hf10
    go_wp2_with (first | (refine wpList_ex rfl (.agg ct) _ (ex_loadrow (x := .tmp 4) rfl rfl _ 28 HA8.out Try.underlying28 rfl (by rw [info_gs, hszt])) ?_) | (refine wpList_ex rfl (.agg bx) _ (ex_loadrow (x := .tmp 6) rfl rfl _ 41 HB8.out Try.underlying41 rfl (by rw [info_bk, hbz])) ?_))
    with_reducible refine Calls.mono (HV2.out _ _ _ HT8.out HU8.out) ?_
    rintro e w9 ⟨rfl, hU9⟩
    have HA9 := Lib.hid ((hU9.block _ (lt_of_block HA8.out)).trans HA8.out)
    have HM9 := Lib.hid ((hU9.block _ (lt_of_block HM8.out)).trans HM8.out)
    have HT9 := Lib.hid (HT8.out.up hU9)
    have HU9 := Lib.hid (HU8.out.trans hU9)
    clear hU9 HA8 HB8 HM8 HT8 HU8 HV2
    go_wp2_with (first | (refine wpList_exw rfl (.agg ct) _ (ex_loadrow (x := .tmp 4) rfl rfl _ 28 HA9.out Try.underlying28 rfl (by rw [info_gs, hszt])) ?_) | (refine wpList_exw rfl (.agg mx) _ (ex_loadrow (x := .tmp 7) rfl rfl _ 26 HM9.out Try.underlying26 rfl (by rw [info_mk, hmz])) ?_))
    with_reducible refine Calls.mono (HC2.out _ _ _ HT9.out) ?_
    rintro e w10 ⟨rfl, hU10⟩
    have HU10 := Lib.hid (HU9.out.trans hU10)
    clear hU10
    go_wp2
    go_ret
    exact ⟨rfl, HU10.out⟩
  | true =>
    go_wp2_with (first | (refine wpList_exw rfl (.agg cs) _ (ex_loadrow (x := .tmp 4) rfl rfl _ 28 HA7.out Try.underlying28 rfl (by rw [info_gs, hsz])) ?_) | (refine wpList_exw rfl (.agg bx) _ (ex_loadrow (x := .tmp 6) rfl rfl _ 41 HB7.out Try.underlying41 rfl (by rw [info_bk, hbz])) ?_))
    with_reducible refine Calls.mono (HV1.out _ _ _ HT7.out HU7.out trivial) ?_
    rintro e w6 ⟨rfl, hU⟩
    have HA6 := Lib.hid ((hU.block _ (lt_of_block HA7.out)).trans HA7.out)
    have HB6 := Lib.hid ((hU.block _ (lt_of_block HB7.out)).trans HB7.out)
    have HM6 := Lib.hid ((hU.block _ (lt_of_block HM7.out)).trans HM7.out)
    have HT6 := Lib.hid (HT7.out.up hU)
    have HU6 := Lib.hid (HU7.out.trans hU)
    clear hU HA7 HB7 HM7 HT7 HU7 HV1
    go_upto_region 7 with fail
    have hb7 := HB6.out
    have hl10 : w6.cell? ⟨A, 10, none⟩ = some (.bool SP) := by rw [cell_of_row _ _ 10 _ _ _ HA6.out]; exact hc10
    have hf10 : w6.frozen? ⟨A, 10, none⟩ = false := frozen_of_row w6 A 10 cs _ HA6.out
    have hg8 : w6.grownBy (w6.setCell ⟨A, 10, none⟩ (.bool true)) (some A) := grownBy_setCell w6 ⟨A, 10, none⟩ (.bool true)
    have HA8 : Hid ((w6.setCell ⟨A, 10, none⟩ (.bool true)).heap[A]? = some (.cells ct 28 (0, 0))) := Lib.hid (set_field HA6.out 10 _ hput)
    have HB8 := Lib.hid ((hg8.block _ (lt_of_block HB6.out) (fun e => by injection e with e; omega)).trans HB6.out)
    have HM8 := Lib.hid ((hg8.block _ (lt_of_block HM6.out) (fun e => by injection e with e; omega)).trans HM6.out)
    have HT8 := Lib.hid (HT6.out.set hg8 HAB.out)
    have HU8 := Lib.hid (up_at HU6.out hg8 HG.out)
    clear hg8 hb7 HT6 HU6 HA6 HB6 HM6 hc10
    go_upto_region 8 with fail
    generalize w6.setCell ⟨A, 10, none⟩ (.bool true) = w8 at HA8 HB8 HM8 HT8 HU8 ⊢
    clear hl10 hf10
    go_wp2_with (first | (refine wpList_ex rfl (.agg ct) _ (ex_loadrow (x := .tmp 4) rfl rfl _ 28 HA8.out Try.underlying28 rfl (by rw [info_gs, hszt])) ?_) | (refine wpList_ex rfl (.agg bx) _ (ex_loadrow (x := .tmp 6) rfl rfl _ 41 HB8.out Try.underlying41 rfl (by rw [info_bk, hbz])) ?_))
    with_reducible refine Calls.mono (HV2.out _ _ _ HT8.out HU8.out) ?_
    rintro e w9 ⟨rfl, hU9⟩
    have HA9 := Lib.hid ((hU9.block _ (lt_of_block HA8.out)).trans HA8.out)
    have HM9 := Lib.hid ((hU9.block _ (lt_of_block HM8.out)).trans HM8.out)
    have HT9 := Lib.hid (HT8.out.up hU9)
    have HU9 := Lib.hid (HU8.out.trans hU9)
    clear hU9 HA8 HB8 HM8 HT8 HU8 HV2
    go_wp2_with (first | (refine wpList_exw rfl (.agg ct) _ (ex_loadrow (x := .tmp 4) rfl rfl _ 28 HA9.out Try.underlying28 rfl (by rw [info_gs, hszt])) ?_) | (refine wpList_exw rfl (.agg mx) _ (ex_loadrow (x := .tmp 7) rfl rfl _ 26 HM9.out Try.underlying26 rfl (by rw [info_mk, hmz])) ?_))
    with_reducible refine Calls.mono (HC2.out _ _ _ HT9.out) ?_
    rintro e w10 ⟨rfl, hU10⟩
    have HU10 := Lib.hid (HU9.out.trans hU10)
    clear hU10
    go_wp2
    go_ret
    exact ⟨rfl, HU10.out⟩
end
end Go.Proofs.Ytnipkhgaceicbaa
