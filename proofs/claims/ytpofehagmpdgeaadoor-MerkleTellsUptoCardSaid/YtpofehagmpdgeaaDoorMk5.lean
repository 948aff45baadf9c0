import Derived.Test.YtpofehagmpdgeaaDoorMk4
import Derived.Test.YtpofehagmpdgeaaDoorAlongF
import Derived.Test.YtpofehagmpdgeaaDoorPop
import Derived.Test.YtpofehagmpdgeaaDoorTz
/-
  Path.
-/
namespace Go.Proofs.YtpofehagmpdgeaaDoor
section
set_option linter.unusedVariables false
open Go.RowKit Go.Shelf
attribute [local go_sem] Oper.semAt_some

/-- how often a power of two can be halved -/
def isPow (n : Nat) : Prop := ∃ K, n = 2 ^ K
theorem isPow_log {n : Nat} : isPow n ↔ n = 2 ^ Nat.log2 n := by
  constructor
  · rintro ⟨K, rfl⟩; rw [Nat.log2_two_pow]
  · exact fun h => ⟨_, h⟩
instance (n : Nat) : Decidable (isPow n) := decidable_of_iff _ isPow_log.symm
/-- Path's two answers -/
def pathE (ls : List (List Int)) (at_ : Int) : Int := if at_ < 0 ∨ (ls.length : Int) ≤ at_ then 4 else if isPow ls.length then 0 else 3
def pathR (ls : List (List Int)) (at_ : Int) : List (List Int) := if at_ < 0 ∨ (ls.length : Int) ≤ at_ then [] else if isPow ls.length then pathB ls at_.toNat (Nat.log2 ls.length) else []

set_option maxHeartbeats 2000000 in
theorem path_out (v : Value) (ls : List (List Int)) (at_ : Int) (w : World) (hs : Strs w v ls) (hl : ls.length ≤ 8796093022208) (hat : -9223372036854775808 ≤ at_ ∧ at_ ≤ 9223372036854775807) (hout : at_ < 0 ∨ (ls.length : Int) ≤ at_) :
    Calls Tryd.prog 7 #[v, .int .i64 at_] w fun e w' => e = .returned (.tuple #[.slice none 0 0, .int .i64 4]) ∧ Up w w' := by
  obtain ⟨a, cap, rfl, hcap, _, _⟩ := hs
  have hU0 : Up w (w.alloc (.cells #[.int .i64 at_] 3)) := Up.alloc (Up.refl w) _
  have hc := (Boxed.new w 3 (.int .i64 at_)).cell
  by_cases h : at_ < 0
  · clear hout
    go_enter Tryd.func7, Tryd.ntmps7
    go_wp2
    go_ret2
    exact ⟨rfl, hU0⟩
  · have h2 : (ls.length : Int) ≤ at_ := by omega
    clear hout
    go_enter Tryd.func7, Tryd.ntmps7
    go_wp2
    go_ret2
    exact ⟨rfl, hU0⟩

set_option maxHeartbeats 2000000 in
theorem path_odd (v : Value) (ls : List (List Int)) (at_ : Int) (w : World) (hs : Strs w v ls) (hl : ls.length ≤ 8796093022208) (h1 : 0 ≤ at_) (h2 : at_ < ls.length) (hodd : ¬ isPow ls.length) :
    Calls Tryd.prog 7 #[v, .int .i64 at_] w fun e w' => e = .returned (.tuple #[.slice none 0 0, .int .i64 3]) ∧ Up w w' := by
  obtain ⟨a, cap, rfl, hcap, _, _⟩ := hs
  have hU0 : Up w (w.alloc (.cells #[.int .i64 at_] 3)) := Up.alloc (Up.refl w) _
  have hc := (Boxed.new w 3 (.int .i64 at_)).cell
  have hwu : IntKind.u64.wrap (ls.length : Int) = (ls.length : Int) := by rw [IntKind.wrap_u64]; omega
  have hcnt : ¬ (cnt ls.length : Int) = 1 := fun h => hodd ((cnt_one ls.length (by omega)).1 (by omega))
  have Ho := Lib.hid (ones_any ls.length (w.alloc (.cells #[.int .i64 at_] 3)) (by omega))
  have hm1 : ¬ at_ < 0 := by omega
  have hm2 : ¬ (ls.length : Int) ≤ at_ := by omega
  generalize cnt ls.length = c at hcnt Ho
  clear hodd
  go_enter Tryd.func7, Tryd.ntmps7
  go_wp2_with fail
  with_reducible refine Calls.mono Ho.out ?_
  rintro e w1 ⟨rfl, rfl⟩
  go_wp2
  go_ret2
  exact ⟨rfl, hU0⟩

/-- between two rounds of Path's loop -/
def PathI (n₀ Bp Ba : Nat) (ls : List (List Int)) (at_ : Nat) (w : World) (pre : List (Value × List (List Int))) (W : World) : Prop :=
  (∃ v, Boxed W Bp 22 v ∧ W.ownsRow n₀ 9 1 v pre.length (strVs (upTo (pathAt ls at_) pre.length)) ∧ True) ∧ Boxed W Ba 3 (.int .i64 ((at_ / 2 ^ pre.length : Nat) : Int)) ∧ Below n₀ w W ∧ ∀ j, j < pre.length → 1 < (upN ls j).length
/-- where the loop was left -/
def PathX (n₀ Bp : Nat) (ls : List (List Int)) (at_ K : Nat) (w : World) (c : Code) (pre : List (Value × List (List Int))) (W : World) : Prop :=
  c = .exit 0 ∧ (∃ v, Boxed W Bp 22 v ∧ W.ownsRow n₀ 9 1 v K (strVs (pathB ls at_ K)) ∧ True) ∧ Below n₀ w W
theorem PathI.own {n₀ Bp Ba D : Nat} {ls : List (List Int)} {at_ : Nat} {w : World} (h1 : n₀ ≤ w.heap.size) (h2 : n₀ ≤ D) : OwnFrom D (PathI n₀ Bp Ba ls at_ w) :=
  OwnFrom.and (Own.from (holdsRow_own n₀ Bp 22 9 1 (fun pre : List (Value × List (List Int)) => pre.length) (fun pre => strVs (upTo (pathAt ls at_) pre.length)) (fun _ _ => True)) _)
    (OwnFrom.and (Own.from (boxed_own _ _ (fun pre : List (Value × List (List Int)) => .int .i64 ((at_ / 2 ^ pre.length : Nat) : Int))) _) (OwnFrom.and (ownFrom_below h1 h2) (ownFrom_pure _ (fun pre : List (Value × List (List Int)) => ∀ j, j < pre.length → 1 < (upN ls j).length))))
theorem PathX.own {n₀ Bp D : Nat} {ls : List (List Int)} {at_ K : Nat} {w : World} (h1 : n₀ ≤ w.heap.size) (h2 : n₀ ≤ D) (c : Code) : OwnFrom D (PathX n₀ Bp ls at_ K w c) :=
  OwnFrom.and (ownFrom_pure _ (fun _ : List (Value × List (List Int)) => c = .exit 0))
    (OwnFrom.and (Own.from (holdsRow_own n₀ Bp 22 9 1 (fun _ : List (Value × List (List Int)) => K) (fun _ => strVs (pathB ls at_ K)) (fun _ _ => True)) _) (ownFrom_below h1 h2))

/-- a slice of strings reads on where its block is as it was -/
theorem strs_block {W X : World} {b off n c : Nat} {ls : List (List Int)} (h : Strs W (.slice (some ⟨b, off, none⟩) n c) ls) (hb : X.heap[b]? = W.heap[b]?) : Strs X (.slice (some ⟨b, off, none⟩) n c) ls := by
  obtain ⟨a, cap, he, h1, h2, h3⟩ := h
  refine ⟨a, cap, he, h1, h2, h3.imp id ?_⟩
  rintro ⟨b', off', rfl, hc⟩
  simp only [Value.slice.injEq, Option.some.injEq, Addr.mk.injEq, and_true] at he
  obtain ⟨⟨rfl, rfl⟩, _, _⟩ := he
  exact ⟨b, off, rfl, fun j hj => (World.cell?_of_block (a := ⟨b, off + j, none⟩) hb).trans (hc j hj)⟩
/-- what Path's append and store leave -/
theorem path_step {W X : World} {Bp Ba b n₀ k : Nat} {v v' : Value} {tmp : Obj} {xs ys : List Value} {u : Value} (hv : Boxed W Bp 22 v) (hrow : W.ownsRow n₀ 9 1 v k xs) (hn : n₀ ≤ W.heap.size) (hp : n₀ ≤ Bp)
    (hA : Boxed W Ba 3 u) (hne : Ba ≠ Bp) (hb1 : b ≠ Bp) (hb2 : some b ≠ v.ownBlock) (hbl : b < W.heap.size)
    (hown : X.ownsRow n₀ 9 1 v' (k + 1) ys) (hgrow : (W.drew.alloc tmp).grownBy X v.ownBlock) :
    Boxed X Bp 22 v ∧ Boxed (X.setCell ⟨Bp, 0, none⟩ v') Bp 22 v' ∧ (X.setCell ⟨Bp, 0, none⟩ v').ownsRow n₀ 9 1 v' (k + 1) ys ∧ KeepsOthers W (X.setCell ⟨Bp, 0, none⟩ v') ∧ Below n₀ W (X.setCell ⟨Bp, 0, none⟩ v') ∧
      Boxed X Ba 3 u ∧ Boxed (X.setCell ⟨Bp, 0, none⟩ v') Ba 3 u ∧ X.heap[b]? = W.heap[b]? ∧ (X.setCell ⟨Bp, 0, none⟩ v').heap[b]? = W.heap[b]? := by
  have hvd : Boxed W.drew Bp 22 v := hv
  have hrd : W.drew.ownsRow n₀ 9 1 v k xs := hrow
  have hAd : Boxed W.drew Ba 3 u := hA
  obtain ⟨h1, h2, h3, h4, h5⟩ := hvd.appended (by decide) hrd hn hp hown hgrow
  have hA1 : Boxed X Ba 3 u := (hAd.alloc tmp).kept hgrow (hAd.not_row (by decide) hrd)
  have e1 : X.heap[b]? = W.heap[b]? := (hgrow.block b (by simp; omega) hb2).trans (Below.heap_alloc W.drew tmp b hbl)
  exact ⟨h1, h2, h3, (KeepsOthers.drew W).trans h4, (Below.drew (Below.refl _ _)).trans h5, hA1, hA1.other hne v', e1, (Below.heap_setCell X ⟨Bp, 0, none⟩ v' b hb1).trans e1⟩

set_option maxRecDepth 100000 in
set_option maxHeartbeats 2000000 in
theorem path_pow (v : Value) (ls : List (List Int)) (at_ K : Nat) (w : World) (hs : Strs w v ls) (hf : Fits ls) (hl : ls.length ≤ 8796093022208) (hK : ls.length = 2 ^ K) (hat : at_ < ls.length) (hT : Tab64 w) :
    Calls Tryd.prog 7 #[v, .int .i64 at_] w fun e w' => ∃ r, e = .returned (.tuple #[r, .int .i64 0]) ∧ w'.ownsRow w.heap.size 9 1 r K (strVs (pathB ls at_ K)) ∧ Up w w' := by
  obtain ⟨i0, hi, hz0, hz1, hz2⟩ := info_parts info_strg
  refine (callsIn_wide (n := 3)).1 ?_
  obtain ⟨a, cap, rfl, hcap, _, _⟩ := id hs
  have HS := Lib.hid hs
  have HF := Lib.hid hf
  have HK := Lib.hid hK
  have hwu : IntKind.u64.wrap (ls.length : Int) = (ls.length : Int) := by rw [IntKind.wrap_u64]; omega
  have hcnt : cnt ls.length = 1 := (cnt_one ls.length (by omega)).2 ⟨K, hK⟩
  have Ho := ones_any ls.length (w.alloc (.cells #[.int .i64 at_] 3)) (by omega)
  rw [hcnt] at Ho
  have Ho := Lib.hid Ho
  have Ht := Lib.hid (tz_any ls.length (w.alloc (.cells #[.int .i64 at_] 3)) (by omega) (hT.up (Up.alloc (Up.refl w) _)))
  have hm1 : ¬ (at_ : Int) < 0 := by omega
  have hm2 : ¬ (ls.length : Int) ≤ (at_ : Int) := by omega
  have hatK : at_ < 2 ^ K := by rw [← hK]; exact hat
  have HatK := Lib.hid hatK
  clear hatK
  have hc0 := (Boxed.new w 3 (.int .i64 at_)).cell
  clear hs hf hcnt hK hT
  refine callsIn_of_wp_marks Tryd.func7 rfl trivial ?_ rfl
  simp only [Tryd.ntmps7, List.size_toArray, List.length_cons, List.length_nil, Nat.reduceAdd, Nat.reduceSub, Array.replicate_succ, Array.replicate_zero, List.push_toArray, List.append_toArray, List.nil_append, List.cons_append]
  gi_wp2_with (first
    | (refine ⟨trivial, ?_⟩; gi_at_call 18; refine CallsIn.mono (callsIn_wide.2 Ho.out) ?_; rintro e w1 ⟨rfl, rfl⟩)
    | (refine ⟨trivial, ?_⟩; gi_at_call 19; refine CallsIn.mono (callsIn_wide.2 Ht.out) ?_; rintro e w1 ⟨k, hk, rfl, rfl⟩; have hmk := make_strs (k : Int) k rfl (by omega))
    | (refine ⟨trivial, ?_⟩; gi_at_call 20; refine CallsIn.mono (callsIn_wide.2 (rows_any _ _ rfl)) ?_; rintro e w' ⟨rfl, rfl⟩))
  clear hmk hc0
  generalize hwd : (((w.alloc (.cells #[.int .i64 at_] 3)).alloc (.cells (madeCells #[.string ⟨#[]⟩] k) 9)).alloc (.cells #[.slice (some ⟨w.heap.size + 1, 0, none⟩) 0 k] 22)).alloc (.cells #[.slice a ls.length cap] 22) = w1
  have hU0 : Up w w1 := by rw [← hwd]; exact Up.alloc (Up.alloc (Up.alloc (Up.alloc (Up.refl w) _) _) _) _
  have hsz : w1.heap.size = w.heap.size + 4 := by rw [← hwd]; simp
  have bA : Boxed w1 w.heap.size 3 (.int .i64 at_) := by rw [← hwd]; exact (((Boxed.new w 3 (.int .i64 at_)).alloc _).alloc _).alloc _
  have bP : Boxed w1 (w.heap.size + 1 + 1) 22 (.slice (some ⟨w.heap.size + 1, 0, none⟩) 0 k) := by
    rw [← hwd]
    have := Boxed.new ((w.alloc (.cells #[.int .i64 at_] 3)).alloc (.cells (madeCells #[.string ⟨#[]⟩] k) 9)) 22 (.slice (some ⟨w.heap.size + 1, 0, none⟩) 0 k)
    simp only [World.size_alloc] at this
    exact this.alloc _
  have bL : Boxed w1 (w.heap.size + 1 + 1 + 1) 22 (.slice a ls.length cap) := by
    rw [← hwd]
    have := Boxed.new (((w.alloc (.cells #[.int .i64 at_] 3)).alloc (.cells (madeCells #[.string ⟨#[]⟩] k) 9)).alloc (.cells #[.slice (some ⟨w.heap.size + 1, 0, none⟩) 0 k] 22)) 22 (.slice a ls.length cap)
    simpa only [World.size_alloc] using this
  have r0 : w1.ownsRow w.heap.size 9 1 (.slice (some ⟨w.heap.size + 1, 0, none⟩) 0 k) 0 [] := by
    rw [← hwd]
    have := World.ownsRow_made (base := w.heap.size) (e := 9) (size := 1) (w.alloc (.cells #[.int .i64 at_] 3)) (madeCells #[.string ⟨#[]⟩] k) k (by simp) (by unfold maxLen; omega) (by first | (rw [size_madeCells]; done) | (rw [size_madeCells]; omega))
    simp only [World.size_alloc] at this
    exact (this.alloc _).alloc _
  have hGv := rows_gives (.slice a ls.length cap) ls (w.heap.size + 1 + 1 + 1) w.heap.size w1 ⟨bL, HS.out.up hU0⟩ HF.out hl (strs_below HS.out)
  have h0 : PathI w.heap.size (w.heap.size + 1 + 1) w.heap.size ls at_ w [] w1 := ⟨⟨_, bP, r0, trivial⟩, by simpa using bA, hU0, fun j hj => by simp at hj⟩
  clear hwd hU0 bA bP bL r0
  have hmx : Tryd.prog.follows .mixedOrders = true := by kernel_rfl
  refine wpIn_over (gf := 28) (lb := #[.pointer (some ⟨w.heap.size + 1 + 1 + 1, 0, none⟩)]) rfl (enters_of Tryd.func28 (by kernel_rfl) rfl) hGv rfl
    (fun pre x n => RowOk.own pre x n) (fun x => Own.from (strs_own _ _) _)
    (PathI w.heap.size (w.heap.size + 1 + 1) w.heap.size ls at_ w) (PathX w.heap.size (w.heap.size + 1 + 1) ls at_ K w)
    (PathI.own (Nat.le_refl _) (by omega)) (PathX.own (Nat.le_refl _) (by omega)) h0 ?act0 ?assign ?body ?done ?stop
  case assign =>
    intro l x W K hK
    gi_wp2
    exact hK
  case body =>
    rintro l pre ⟨rv, r⟩ W0 W hlw ⟨lo, hlo, hlc⟩ ⟨⟨v0, hv0, hr0, _⟩, hA0, _⟩ hgw ⟨⟨v, hv, hrow, _⟩, hA, hB, hI⟩ ⟨hr, h0, hall, hlies, hst⟩
    replace hr : r = upN ls pre.length := hr
    replace h0 : 0 < r.length := h0
    replace hst : Strs W rv r := hst
    replace hlies : Lies w.heap.size W0.heap.size rv := hlies
    have HS2 := Lib.hid hst
    obtain ⟨ra, rc, rfl, hrc, _, hrcell⟩ := hst
    rcases hrcell with hx | ⟨b, off, rfl, hc⟩
    · rw [hx] at h0; simp at h0
    have hkK : pre.length ≤ K := by
      rcases Nat.lt_or_ge K pre.length with h | h
      · have h1 := hI K h
        have h2 := upN_pow ls K HK.out K (Nat.le_refl _)
        rw [Nat.sub_self, Nat.pow_zero] at h2
        omega
      · exact h
    have hrl : r.length = 2 ^ (K - pre.length) := by rw [hr]; exact upN_pow ls K HK.out _ hkK
    have hbl : b < W.heap.size := World.block_lt_of_cell? W _ (hc 0 h0)
    have hlies := hlies b rfl
    -- where the consumer's own blocks lie
    have hv00 : Boxed W (w.heap.size + 1 + 1) 22 v0 := hv0.kept hgw (fun e => by
      have e' : w.heap.size + 1 + 1 = l := by simpa using e
      have := hv0
      rw [e'] at this
      have := this.symm.trans hlo
      simp only [Option.some.injEq] at this
      rw [← this] at hlc
      cases hlc)
    have hvv : v = v0 := by
      have := hv.symm.trans hv00
      simpa using this
    have hb1 : b ≠ w.heap.size + 1 + 1 := by have := hv0.lt; omega
    have hb2 : b ≠ w.heap.size := by have := hA0.lt; omega
    have hb3 : some b ≠ v.ownBlock := by
      intro e
      have := hr0.lt b (by rw [← hvv, e])
      omega
    clear hv00 hv0 hA0 hr0 hvv hgw hlo hlc hlies hall
    have HI := Lib.hid hI
    have Hr := Lib.hid hr
    have Hrl := Lib.hid hrl
    have hcA := hA.cell
    have hcv := hv.cell
    by_cases h1 : r.length = 1
    · have i1 : ((r.length : Int) == 1) = true := by rw [h1]; rfl
      have hKp : Hid (pre.length = K) := by
        show _ = _
        rcases Nat.lt_or_ge pre.length K with h | h
        · have := Nat.one_lt_two_pow (show K - pre.length ≠ 0 by omega)
          omega
        · omega
      clear hc hcA hcv hr hrl hI h1
      gi_wp2
      refine ⟨KeepsOthers.refl _, rfl, ⟨v, hv, ?_, trivial⟩, hB⟩
      rw [hKp.out] at hrow
      exact hrow
    · have hkK2 : pre.length < K := by
        rcases Nat.lt_or_ge pre.length K with h | h
        · exact h
        · rw [show K - pre.length = 0 from by omega] at hrl; exact absurd hrl h1
      obtain ⟨d, hd⟩ : ∃ d, K - pre.length = d + 1 := ⟨K - pre.length - 1, by omega⟩
      have hj := part_lt HatK.out hkK
      rw [hd] at hj hrl
      have hnb := nb_lt hj
      rw [← hrl] at hnb
      have hsmall : at_ / 2 ^ pre.length < 4611686018427387904 := by have := Nat.div_le_self at_ (2 ^ pre.length); omega
      have hxor := i64_xor1 (at_ / 2 ^ pre.length) hsmall
      have hcell := hc (nb (at_ / 2 ^ pre.length)) hnb
      have hT : Hid (r[nb (at_ / 2 ^ pre.length)]?.getD [] = pathAt ls at_ pre.length) := by show _ = _; rw [Hr.out]; rfl
      rw [hT.out] at hcell
      have hup : Hid (upTo (pathAt ls at_) (pre.length + 1) = upTo (pathAt ls at_) pre.length ++ [pathAt ls at_ pre.length]) := upTo_succ _ _
      have hhalf : Hid (at_ / 2 ^ pre.length / 2 = at_ / 2 ^ (pre.length + 1)) := half_step _ _
      have hnbd : (if at_ / 2 ^ pre.length % 2 = 1 then at_ / 2 ^ pre.length - 1 else at_ / 2 ^ pre.length + 1) = nb (at_ / 2 ^ pre.length) := rfl
      rw [hnbd] at hxor
      generalize pathAt ls at_ pre.length = T at hcell hup
      generalize at_ / 2 ^ pre.length = j at hj hnb hsmall hxor hcell hhalf hA hcA
      generalize nb j = m at hnb hxor hcell
      have hplen : pre.length < 8796093022208 := by
        have := Nat.lt_two_pow_self (n := pre.length)
        have h2 := Nat.pow_le_pow_right (show 0 < 2 by omega) hkK
        have h3 := HK.out
        omega
      have i1 : ((r.length : Int) == 1) = false := by simp; omega
      clear hc hr hrl hI hd hT hnbd hj
      gi_wp2
      have hrd : W.drew.ownsRow w.heap.size 9 1 v pre.length (strVs (upTo (pathAt ls at_) pre.length)) := hrow
      refine region_alongF (ro := some l) (n := 1) (fun X => X.cell? ⟨w.heap.size, 0, none⟩ = some (.int .i64 j) ∧ X.cell? ⟨b, off + m, none⟩ = some (.string (strOfNums T)))
        (.read 1 (.read 2 (.read 3 (.read 4 (.read 5 (.fork 0 (.step 6 (.step 7 (.step 8 .nil))) 6 (.step 0 (.step 7 (.step 8 .nil))))))))) hmx rfl (by kernel_rfl) (by kernel_rfl) (by kernel_rfl) (fun c a d v w h => by cases d <;> exact h) ⟨hcA, hcell⟩ ?_
      refine alongF_move (.slice (some ⟨b, off, none⟩) r.length rc) rfl rfl rfl rfl ?_
      change AlongF _ _ _ _ _ _ _ { tmps := #[_, _, _, .pointer (some ⟨w.heap.size, 0, none⟩), _, _, .pointer (some ⟨w.heap.size + 1 + 1, 0, none⟩), .slice (some ⟨b, off, none⟩) r.length rc, _, _, _, _, _, _, _, _, _, _, _, _, _, _, _, _, _, _, _, _, _, _, _, _, _, .slice (some ⟨b, off, none⟩) r.length rc, _, _, _, _, _, _, _, _, _], defers := _ } _
      refine alongF_load (.int .i64 j) Tryd.isAgg3 rfl rfl rfl (fun _ h => h.1) rfl ?_
      change AlongF _ _ _ _ _ _ _ { tmps := #[_, _, _, .pointer (some ⟨w.heap.size, 0, none⟩), _, _, .pointer (some ⟨w.heap.size + 1 + 1, 0, none⟩), .slice (some ⟨b, off, none⟩) r.length rc, _, _, _, _, _, _, _, _, _, _, _, _, _, _, _, _, _, _, _, _, _, _, _, _, _, .slice (some ⟨b, off, none⟩) r.length rc, .int .i64 j, _, _, _, _, _, _, _, _], defers := _ } _
      refine alongF_xor hxor rfl rfl rfl rfl rfl ?_
      change AlongF _ _ _ _ _ _ _ { tmps := #[_, _, _, .pointer (some ⟨w.heap.size, 0, none⟩), _, _, .pointer (some ⟨w.heap.size + 1 + 1, 0, none⟩), .slice (some ⟨b, off, none⟩) r.length rc, _, _, _, _, _, _, _, _, _, _, _, _, _, _, _, _, _, _, _, _, _, _, _, _, _, .slice (some ⟨b, off, none⟩) r.length rc, .int .i64 j, .int .i64 m, _, _, _, _, _, _, _], defers := _ } _
      refine alongF_index Tryd.underlying22 Tryd.sizeOf9 rfl rfl rfl rfl hnb rfl ?_
      change AlongF _ _ _ _ _ _ _ { tmps := #[_, _, _, .pointer (some ⟨w.heap.size, 0, none⟩), _, _, .pointer (some ⟨w.heap.size + 1 + 1, 0, none⟩), .slice (some ⟨b, off, none⟩) r.length rc, _, _, _, _, _, _, _, _, _, _, _, _, _, _, _, _, _, _, _, _, _, _, _, _, _, .slice (some ⟨b, off, none⟩) r.length rc, .int .i64 j, .int .i64 m, .pointer (some ⟨b, off + m, none⟩), _, _, _, _, _, _], defers := _ } _
      refine alongF_load (.string (strOfNums T)) Tryd.isAgg9 rfl rfl rfl (fun _ h => h.2) rfl ?_
      change AlongF _ _ _ _ _ _ _ { tmps := #[_, _, _, .pointer (some ⟨w.heap.size, 0, none⟩), _, _, .pointer (some ⟨w.heap.size + 1 + 1, 0, none⟩), .slice (some ⟨b, off, none⟩) r.length rc, _, _, _, _, _, _, _, _, _, _, _, _, _, _, _, _, _, _, _, _, _, _, _, _, _, .slice (some ⟨b, off, none⟩) r.length rc, .int .i64 j, .int .i64 m, .pointer (some ⟨b, off + m, none⟩), .string (strOfNums T), _, _, _, _, _], defers := _ } _
      have hS1 : (W.drew.alloc (.cells #[.string (strOfNums T)] 9)).cell? ⟨w.heap.size, 0, none⟩ = some (.int .i64 j) ∧ (W.drew.alloc (.cells #[.string (strOfNums T)] 9)).cell? ⟨b, off + m, none⟩ = some (.string (strOfNums T)) :=
        ⟨(hA.alloc (.cells #[.string (strOfNums T)] 9)).cell, (World.cell?_of_block (a := ⟨b, off + m, none⟩) (Below.heap_alloc W _ b hbl)).trans hcell⟩
      refine alongF_fork ?_ ?_
      · refine opF_load v Tryd.isAgg22 rfl rfl rfl hcv rfl ⟨hcA, hcell⟩ ?_
        change AlongF _ _ _ _ _ _ _ { tmps := #[_, _, _, .pointer (some ⟨w.heap.size, 0, none⟩), _, _, .pointer (some ⟨w.heap.size + 1 + 1, 0, none⟩), .slice (some ⟨b, off, none⟩) r.length rc, _, _, _, _, _, _, _, _, _, _, _, _, _, _, _, _, _, _, _, _, _, _, _, _, v, .slice (some ⟨b, off, none⟩) r.length rc, .int .i64 j, .int .i64 m, .pointer (some ⟨b, off + m, none⟩), .string (strOfNums T), _, _, _, _, _], defers := _ } _
        refine alongF_step (opF_one Tryd.underlying22 Tryd.sizeOf9 Tryd.zeroValue9 rfl rfl rfl rfl hS1 ?_)
        change AlongF _ _ _ _ _ _ _ { tmps := #[_, _, _, .pointer (some ⟨w.heap.size, 0, none⟩), _, _, .pointer (some ⟨w.heap.size + 1 + 1, 0, none⟩), .slice (some ⟨b, off, none⟩) r.length rc, _, _, _, _, _, _, _, _, _, _, _, _, _, _, _, _, _, _, _, _, _, _, _, _, v, .slice (some ⟨b, off, none⟩) r.length rc, .int .i64 j, .int .i64 m, .pointer (some ⟨b, off + m, none⟩), .string (strOfNums T), .slice (some ⟨W.drew.heap.size, 0, none⟩) 1 1, _, _, _, _], defers := _ } _
        refine alongF_step (opF_append rfl rfl rfl w.heap.size 9 i0 (.string ⟨#[]⟩) 1 16 Tryd.underlying22 hi hz0 hz1 hz2 rfl (by decide) v pre.length _ rfl (hrd.alloc _) ⟨W.drew.heap.size, 0, none⟩ 1 1 [.string (strOfNums T)] rfl rfl (cell_one_new _ _ _) (by simp [Value.oneCell']) (by unfold maxLen; omega) (by omega) (by have := hB.size; simp; omega) ?_)
        intro v' X hown' hgrow
        obtain ⟨g', cap', rfl⟩ := ownsRow_succ hown'
        obtain ⟨s1, s2, s3, s4, s5, s6, s7, s8, s9⟩ := path_step hv hrow hB.size (by omega) hA (by omega) hb1 hb3 hbl hown' hgrow
        refine ⟨⟨s6.cell, (World.cell?_of_block (a := ⟨b, off + m, none⟩) s8).trans hcell⟩, ?_⟩
        change AlongF _ _ _ _ _ _ _ { tmps := #[_, _, _, .pointer (some ⟨w.heap.size, 0, none⟩), _, _, .pointer (some ⟨w.heap.size + 1 + 1, 0, none⟩), .slice (some ⟨b, off, none⟩) r.length rc, _, _, _, _, _, _, _, _, _, _, _, _, _, _, _, _, _, _, _, _, _, _, _, _, v, .slice (some ⟨b, off, none⟩) r.length rc, .int .i64 j, .int .i64 m, .pointer (some ⟨b, off + m, none⟩), .string (strOfNums T), .slice (some ⟨W.drew.heap.size, 0, none⟩) 1 1, .slice (some ⟨g', 0, none⟩) (pre.length + 1) cap', _, _, _], defers := _ } _
        refine alongF_step (opF_store Tryd.sizeOf22 rfl rfl rfl rfl s1.cell s1.frozen rfl ⟨s7.cell, (World.cell?_of_block (a := ⟨b, off + m, none⟩) s9).trans hcell⟩ ?_)
        refine alongF_done ?_
        change Exit.then _ _ .normal { tmps := #[_, _, _, .pointer (some ⟨w.heap.size, 0, none⟩), _, _, .pointer (some ⟨w.heap.size + 1 + 1, 0, none⟩), .slice (some ⟨b, off, none⟩) r.length rc, _, _, _, _, _, _, _, _, _, _, _, _, _, _, _, _, _, _, _, _, _, _, _, _, v, .slice (some ⟨b, off, none⟩) r.length rc, .int .i64 j, .int .i64 m, .pointer (some ⟨b, off + m, none⟩), .string (strOfNums T), .slice (some ⟨W.drew.heap.size, 0, none⟩) 1 1, .slice (some ⟨g', 0, none⟩) (pre.length + 1) cap', _, _, _], defers := _ } _
        have hst3 := strs_block HS2.out s9
        have hB3 := hB.trans s5
        rw [← strVs_snoc, ← hup.out] at s3
        have hc3 := s7.cell
        have hf3 := s7.frozen
        clear s1 s6 s8 s9 hown' hgrow hcA hcv hcell hxor hS1
        gi_wp2
        refine ⟨s4.trans (KeepsOthers.setCell _ _ _), ?_, ⟨.slice (some ⟨g', 0, none⟩) (pre.length + 1) cap', ?_, ?_, trivial⟩, ?_, ?_, ?_⟩
        · exact strs_block hst3 (Below.heap_setCell _ _ _ b hb2)
        · exact s2.other (by omega) _
        · rw [List.length_append, List.length_singleton]
          exact s3.kept (grownBy_setCell' _ _ _) (.inr (fun e => (s7.not_row (by decide) s3) e.symm))
        · rw [List.length_append, List.length_singleton, ← hhalf.out]
          exact s7.set _
        · exact hB3.setCell (p := ⟨w.heap.size, 0, none⟩) (Nat.le_refl _) _
        · intro q hq
          rw [List.length_append, List.length_singleton] at hq
          by_cases e : q = pre.length
          · rw [e, ← Hr.out]; omega
          · exact HI.out q (by omega)
      · refine opF_one Tryd.underlying22 Tryd.sizeOf9 Tryd.zeroValue9 rfl rfl rfl rfl hS1 ?_
        change AlongF _ _ _ _ _ _ _ { tmps := #[_, _, _, .pointer (some ⟨w.heap.size, 0, none⟩), _, _, .pointer (some ⟨w.heap.size + 1 + 1, 0, none⟩), .slice (some ⟨b, off, none⟩) r.length rc, _, _, _, _, _, _, _, _, _, _, _, _, _, _, _, _, _, _, _, _, _, _, _, _, _, .slice (some ⟨b, off, none⟩) r.length rc, .int .i64 j, .int .i64 m, .pointer (some ⟨b, off + m, none⟩), .string (strOfNums T), .slice (some ⟨W.drew.heap.size, 0, none⟩) 1 1, _, _, _, _], defers := _ } _
        refine alongF_step (opF_load v Tryd.isAgg22 rfl rfl rfl (hv.alloc (.cells #[.string (strOfNums T)] 9)).cell rfl hS1 ?_)
        change AlongF _ _ _ _ _ _ _ { tmps := #[_, _, _, .pointer (some ⟨w.heap.size, 0, none⟩), _, _, .pointer (some ⟨w.heap.size + 1 + 1, 0, none⟩), .slice (some ⟨b, off, none⟩) r.length rc, _, _, _, _, _, _, _, _, _, _, _, _, _, _, _, _, _, _, _, _, _, _, _, _, v, .slice (some ⟨b, off, none⟩) r.length rc, .int .i64 j, .int .i64 m, .pointer (some ⟨b, off + m, none⟩), .string (strOfNums T), .slice (some ⟨W.drew.heap.size, 0, none⟩) 1 1, _, _, _, _], defers := _ } _
        refine alongF_step (opF_append rfl rfl rfl w.heap.size 9 i0 (.string ⟨#[]⟩) 1 16 Tryd.underlying22 hi hz0 hz1 hz2 rfl (by decide) v pre.length _ rfl (hrd.alloc _) ⟨W.drew.heap.size, 0, none⟩ 1 1 [.string (strOfNums T)] rfl rfl (cell_one_new _ _ _) (by simp [Value.oneCell']) (by unfold maxLen; omega) (by omega) (by have := hB.size; simp; omega) ?_)
        intro v' X hown' hgrow
        obtain ⟨g', cap', rfl⟩ := ownsRow_succ hown'
        obtain ⟨s1, s2, s3, s4, s5, s6, s7, s8, s9⟩ := path_step hv hrow hB.size (by omega) hA (by omega) hb1 hb3 hbl hown' hgrow
        refine ⟨⟨s6.cell, (World.cell?_of_block (a := ⟨b, off + m, none⟩) s8).trans hcell⟩, ?_⟩
        change AlongF _ _ _ _ _ _ _ { tmps := #[_, _, _, .pointer (some ⟨w.heap.size, 0, none⟩), _, _, .pointer (some ⟨w.heap.size + 1 + 1, 0, none⟩), .slice (some ⟨b, off, none⟩) r.length rc, _, _, _, _, _, _, _, _, _, _, _, _, _, _, _, _, _, _, _, _, _, _, _, _, v, .slice (some ⟨b, off, none⟩) r.length rc, .int .i64 j, .int .i64 m, .pointer (some ⟨b, off + m, none⟩), .string (strOfNums T), .slice (some ⟨W.drew.heap.size, 0, none⟩) 1 1, .slice (some ⟨g', 0, none⟩) (pre.length + 1) cap', _, _, _], defers := _ } _
        refine alongF_step (opF_store Tryd.sizeOf22 rfl rfl rfl rfl s1.cell s1.frozen rfl ⟨s7.cell, (World.cell?_of_block (a := ⟨b, off + m, none⟩) s9).trans hcell⟩ ?_)
        refine alongF_done ?_
        change Exit.then _ _ .normal { tmps := #[_, _, _, .pointer (some ⟨w.heap.size, 0, none⟩), _, _, .pointer (some ⟨w.heap.size + 1 + 1, 0, none⟩), .slice (some ⟨b, off, none⟩) r.length rc, _, _, _, _, _, _, _, _, _, _, _, _, _, _, _, _, _, _, _, _, _, _, _, _, v, .slice (some ⟨b, off, none⟩) r.length rc, .int .i64 j, .int .i64 m, .pointer (some ⟨b, off + m, none⟩), .string (strOfNums T), .slice (some ⟨W.drew.heap.size, 0, none⟩) 1 1, .slice (some ⟨g', 0, none⟩) (pre.length + 1) cap', _, _, _], defers := _ } _
        have hst3 := strs_block HS2.out s9
        have hB3 := hB.trans s5
        rw [← strVs_snoc, ← hup.out] at s3
        have hc3 := s7.cell
        have hf3 := s7.frozen
        clear s1 s6 s8 s9 hown' hgrow hcA hcv hcell hxor hS1
        gi_wp2
        refine ⟨s4.trans (KeepsOthers.setCell _ _ _), ?_, ⟨.slice (some ⟨g', 0, none⟩) (pre.length + 1) cap', ?_, ?_, trivial⟩, ?_, ?_, ?_⟩
        · exact strs_block hst3 (Below.heap_setCell _ _ _ b hb2)
        · exact s2.other (by omega) _
        · rw [List.length_append, List.length_singleton]
          exact s3.kept (grownBy_setCell' _ _ _) (.inr (fun e => (s7.not_row (by decide) s3) e.symm))
        · rw [List.length_append, List.length_singleton, ← hhalf.out]
          exact s7.set _
        · exact hB3.setCell (p := ⟨w.heap.size, 0, none⟩) (Nat.le_refl _) _
        · intro q hq
          rw [List.length_append, List.length_singleton] at hq
          by_cases e : q = pre.length
          · rw [e, ← Hr.out]; omega
          · exact HI.out q (by omega)
  case done =>
    rintro D ys W hD hall ⟨hv, hA, hB, hI⟩ hK
    exfalso
    rcases hall with ⟨h, _⟩ | ⟨K', h1, h2⟩
    · rw [h] at hat; simp at hat
    · have := hI K' (by omega); omega
  case stop =>
    rintro D c pre W hD ⟨rfl, ⟨v, hv, hrow, _⟩, hB⟩ hK
    have hc := hv.cell
    simp only [withMark]
    gi_wp2
    refine ⟨by simp, .inl ⟨_, _, rfl, run_takeDeferred hK, ?_⟩⟩
    refine ⟨_, results_tmp2 rfl _ _ _, v, rfl, ownsRow_putObj hrow (.deferred none) hK rfl, hB.trans (belowK_b (w := w) (Nat.le_refl _) W D _ _ (by omega) hK rfl rfl)⟩
end
end Go.Proofs.YtpofehagmpdgeaaDoor
