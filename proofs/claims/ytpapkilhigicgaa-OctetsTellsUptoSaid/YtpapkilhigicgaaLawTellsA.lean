import Derived.Test.YtpapkilhigicgaaGrow
import Derived.IntWalk
import Derived.Test.YtpapkilhigicgaaOctWord
import Derived.Test.YtpapkilhigicgaaOctWords
import Derived.Test.YtpapkilhigicgaaOctJoin
import Derived.Test.YtpapkilhigicgaaOctAlive
import Derived.Test.YtpapkilhigicgaaRefRest
/-
  OctetsTells: for every number, size, octets, place, words and parts the walk returns true.
-/
namespace Go.Proofs.Ytpapkilhigicgaa
set_option linter.unusedVariables false
open Go.RowKit

/-- Word: any place -/
theorem word_any (v : Value) (bs : List Int) (q : Int) (w : World) (hv : Ints .u8 w v bs) (hu : U8s bs) (hlen : bs.length ≤ 9223372036854775807) :
    Calls Try.prog 11 #[v, .int .i64 q] w fun e w' => e = .returned (.int .u32 (wordB bs q)) ∧ Below w.heap.size w w' := by
  by_cases h : q < 0 ∨ bs.length ≤ q
  · have e : wordB bs q = 0 := by
      unfold wordB
      by_cases h0 : q < 0
      · rw [if_pos h0]
      · rw [if_neg h0]; exact wordUp_out bs _ 4 (by omega)
    rw [e]
    exact (word_neg v bs q w hv hlen h).mono fun e w' ⟨he, hw⟩ => ⟨he, by subst hw; exact Below.refl _ _⟩
  · obtain ⟨p, hp⟩ : ∃ p : Nat, (p : Int) = q := ⟨q.toNat, by omega⟩
    have e : wordB bs q = wordUp bs p 4 := by unfold wordB; rw [if_neg (by omega)]; congr 1; omega
    rw [e]; subst hp; exact word_in v bs p w hv hu hlen (by omega)

/-- a slice that a call made, at each later world, as a string -/
def StrAt (W : World) (v : Value) (zs : List Int) : Prop := ∀ wx, Below W.heap.size W wx → (convert 22 9 v).run Try.prog wx = .ok (.string (strOfNums zs)) wx
theorem StrAt.of {W : World} {v : Value} {zs : List Int} (h : Ints .u8 W v zs) : StrAt W v zs := fun wx hb => (h.kept hb).str

/-- the cells of a row -/
theorem row_cells {W : World} {base : Nat} {e : TypeId} {g n cap : Nat} {xs : List Value} (h : W.ownsRow base e 1 (.slice (some ⟨g, 0, none⟩) n cap) n xs) : ∀ j u, xs[j]? = some u → W.cell? ((⟨g, 0, none⟩ : Addr).add j) = some u := by
  intro j u hj
  have hl : xs.length = n := by have := h.1; omega
  have hj' : j < n := by have := (List.getElem?_eq_some_iff.1 hj).1; omega
  have h2 : ((⟨g, 0, none⟩ : Addr).add j) = ⟨g, j, none⟩ := by unfold Addr.add; split <;> simp_all
  rw [h2, h.cellAt j (by omega)]
  exact hj

set_option maxRecDepth 100000 in
set_option maxHeartbeats 8000000 in
theorem tells_any (n sz q : Int) (vb vw vl : Value) (bs ws : List Int) (ls : List (List Int)) (w : World)
    (hn : -9223372036854775808 ≤ n ∧ n ≤ 9223372036854775807) (hsz : -9223372036854775808 ≤ sz ∧ sz ≤ 9223372036854775807) (hq : -9223372036854775808 ≤ q ∧ q ≤ 9223372036854775807)
    (hb : Ints .u8 w vb bs) (hbu : U8s bs) (hbl : bs.length ≤ 1048576)
    (hw : Ints .u32 w vw ws) (hwu : ∀ j, j < ws.length → 0 ≤ ws[j]?.getD 0 ∧ ws[j]?.getD 0 < 4294967296) (hwl : ws.length ≤ 1048576)
    (hl : Rows8 w vl ls) (hll : ls.length ≤ 1048576) (hls : ls.flatten.length ≤ 1048576) :
    Calls Try.prog 3 #[.int .i64 n, .int .i64 sz, vb, .int .i64 q, vw, vl] w fun e w' => e = .returned (.bool true) ∧ Below w.heap.size w w' := by
  obtain ⟨i0, hi, hz0, hz1, hz2⟩ := info_parts info_u8
  have Hb := Lib.hid hb
  have Hbu := Lib.hid hbu
  have Hw := Lib.hid hw
  have Hwu := Lib.hid hwu
  have Hl := Lib.hid hl
  obtain ⟨aw, cw, rfl, _⟩ := hw
  clear hb hbu hwu hl
  go_enter Try.func3, Try.ntmps3
  go_wp2
  go_loopw [13, 14] (fun o i wr => ∃ k : Nat, k ≤ ws.length ∧ i = .int .i64 k ∧ wr.ownsRow w.heap.size 5 1 o (4 * k) ((wordsB (ws.take k)).map (Value.int .u8)) ∧ Below w.heap.size w wr)
    (fun _ i _ => ws.length - (intOf i).toNat)
  case atStart => exact ⟨0, Nat.zero_le _, rfl, World.ownsRow_nil _ _ _ _, Below.refl _ _⟩
  case round =>
    obtain ⟨k, hk, rfl, hrow, hB⟩ := hrel
    by_cases hlt : k < ws.length
    · obtain ⟨a', c', he, hcap, hnil, hc⟩ := Hw.out.kept hB
      simp only [Value.slice.injEq, true_and] at he
      obtain ⟨rfl, rfl⟩ := he
      rcases hc with rfl | ⟨b, off, rfl, hc⟩
      · simp at hlt
      have hck := hc k hlt
      have huk := Hwu.out k hlt
      have hs : wordsB (ws.take (k + 1)) = wordsB (ws.take k) ++ octAll (ws[k]?.getD 0) 4 := by rw [take_snoc ws k hlt, wordsB_snoc]
      obtain ⟨o, ho⟩ : ∃ o, ws[k]?.getD 0 = o := ⟨_, rfl⟩
      rw [ho] at hck huk hs
      have Hs := Lib.hid hs
      have hwr : IntKind.u64.wrap o = o := by rw [IntKind.wrap_u64]; omega
      have Hone : Hid (∀ u ∈ (octAll o 4).map (Value.int .u8), u.oneCell' = true) := ints_oneCell .u8 _
      have Hput : Hid (∀ wx, Calls Try.prog 7 #[.int .i64 o, .int .i64 4] wx fun e w' => ∃ g cap, e = .returned (.slice (some ⟨g, 0, none⟩) 4 cap) ∧ w'.ownsRow wx.heap.size 5 1 (.slice (some ⟨g, 0, none⟩) 4 cap) 4 ((octAll o 4).map (Value.int .u8)) ∧ Below wx.heap.size wx w') := by
        intro wx
        refine (refPut_any o 4 (by omega) (by omega) 4 (by decide) wx).mono ?_
        rintro e w' ⟨v, rfl, hr, hb⟩
        rw [hwr] at hr
        obtain ⟨g, cap, rfl⟩ := ownsRow_succ hr
        exact ⟨g, cap, rfl, hr, hb⟩
      clear hc ho hs hwr hnil hcap
      go_wp2_with (first | (go_at_call 7; refine (Hput.out _).mono ?_; rintro e w2 ⟨g, cap, rfl, hr2, hb2⟩; have hrow2 := hrow.kept (row := none) ⟨hb2.os, hb2.tape, hb2.output, hb2.size, fun k hk _ => hb2.block k hk⟩ (Classical.em _); have Hcs := Lib.hid (row_cells hr2)) | (at_builtin; refine wpList_append_own _ rfl _ _ 22 rfl w.heap.size 5 i0 (.int .u8 0) 1 1 Try.underlying22 hi hz0 hz1 hz2 rfl (by decide) _ (4 * k) _ rfl hrow2 ⟨g, 0, none⟩ 4 cap ((octAll o 4).map (Value.int .u8)) rfl (by simp [octAll_length]) Hcs.out Hone.out (by unfold maxLen; omega) (by omega) (by have := hB.size; have := hb2.size; omega) ?_; intro v1 w1 hrow1 hgrow1 _))
      go_roundw
      case rel =>
        refine ⟨k + 1, by omega, by go_num, by rw [Hs.out, List.map_append]; exact hrow1, ?_⟩
        exact (hB.trans (hb2.mono hB.size)).grown hgrow1 (by have := hB.size; have := hb2.size; omega) (fun j e => (hrow.lt j e).1)
      case measure => simp [intOf]; omega
    · obtain rfl : k = ws.length := by omega
      have ht : ws.take ws.length = ws := List.take_length
      rw [ht] at hrow
      clear ht
      obtain ⟨kk, hkk⟩ : ∃ kk : Nat, (kk : Int) = max 0 (min sz 8) := ⟨(max 0 (min sz 8)).toNat, by omega⟩
      have hwu : wordsB ws = wordsB ws := rfl
      have S13 : Hid (StrAt wr _ (wordsB ws)) := StrAt.of (Ints.of_row hrow)
      have H8 : Hid (∀ wx, Calls Try.prog 8 #[.int .i64 n, .int .i64 sz] wx fun e w' => ∃ v, e = .returned v ∧ StrAt w' v (octAll (IntKind.u64.wrap n) kk) ∧ Below wx.heap.size wx w') :=
        fun wx => (put_any n sz hn hsz kk hkk wx).mono fun e w' ⟨v, he, hr, hb⟩ => ⟨v, he, StrAt.of (Ints.of_row hr), hb⟩
      have H7 : Hid (∀ wx, Calls Try.prog 7 #[.int .i64 n, .int .i64 sz] wx fun e w' => ∃ v, e = .returned v ∧ StrAt w' v (octAll (IntKind.u64.wrap n) kk) ∧ Below wx.heap.size wx w') :=
        fun wx => (refPut_any n sz hn hsz kk hkk wx).mono fun e w' ⟨v, he, hr, hb⟩ => ⟨v, he, StrAt.of (Ints.of_row hr), hb⟩
      have H9 : Hid (∀ wx, Below wr.heap.size wr wx → Calls Try.prog 9 #[vb] wx fun e w' => e = .returned (.int .i64 (getB bs)) ∧ wx = w') :=
        fun wx hx => get_any vb bs wx (Hb.out.kept (hB.trans (hx.mono hB.size))) Hbu.out (by omega)
      have H10 : Hid (∀ wx, Below wr.heap.size wr wx → Calls Try.prog 10 #[vb] wx fun e w' => e = .returned (.int .i64 (getB bs)) ∧ wx = w') :=
        fun wx hx => refGet_any vb bs wx (Hb.out.kept (hB.trans (hx.mono hB.size))) Hbu.out (by omega)
      have H11 : Hid (∀ wx, Below wr.heap.size wr wx → Calls Try.prog 11 #[vb, .int .i64 q] wx fun e w' => e = .returned (.int .u32 (wordB bs q)) ∧ Below wx.heap.size wx w') :=
        fun wx hx => word_any vb bs q wx (Hb.out.kept (hB.trans (hx.mono hB.size))) Hbu.out (by omega)
      have H12 : Hid (∀ wx, Below wr.heap.size wr wx → Calls Try.prog 12 #[vb, .int .i64 q] wx fun e w' => e = .returned (.int .u32 (wordB bs q)) ∧ wx = w') :=
        fun wx hx => refWord_any vb bs q wx (Hb.out.kept (hB.trans (hx.mono hB.size))) Hbu.out (by omega) hq
      have H13 : Hid (∀ wx, Below wr.heap.size wr wx → Calls Try.prog 13 #[.slice aw ws.length cw] wx fun e w' => ∃ v, e = .returned v ∧ StrAt w' v (wordsB ws) ∧ Below wx.heap.size wx w') :=
        fun wx hx => (words_any _ ws wx (Hw.out.kept (hB.trans (hx.mono hB.size))) Hwu.out (by omega)).mono fun e w' ⟨v, he, hr, hb⟩ => ⟨v, he, StrAt.of (Ints.of_row hr), hb⟩
      have H14 : Hid (∀ wx, Below wr.heap.size wr wx → Calls Try.prog 14 #[vl] wx fun e w' => ∃ v, e = .returned v ∧ StrAt w' v ls.flatten ∧ Below wx.heap.size wx w') :=
        fun wx hx => (join_any vl ls wx (Hl.out.kept (hB.trans (hx.mono hB.size))) (by omega) (by omega)).mono fun e w' ⟨he, hr, hb⟩ => ⟨_, he, StrAt.of (Ints.of_row hr), hb⟩
      have H15 : Hid (∀ wx, Below wr.heap.size wr wx → Calls Try.prog 15 #[vl] wx fun e w' => ∃ v, e = .returned v ∧ StrAt w' v ls.flatten ∧ Below wx.heap.size wx w') :=
        fun wx hx => (refJoin_any vl ls wx (Hl.out.kept (hB.trans (hx.mono hB.size))) (by omega) (by omega)).mono fun e w' ⟨v, he, hr, hb⟩ => ⟨v, he, StrAt.of (Ints.of_row hr), hb⟩
      have H16 : Hid (∀ wx, Calls Try.prog 16 #[] wx fun e w' => e = .returned (.bool true) ∧ Below wx.heap.size wx w') := fun wx => alive_any wx
      clear hrow hkk hi hz0 hz1 hz2 hn hsz hq hwu
      have B0 : Below wr.heap.size wr wr.drew := (Below.refl _ _).drew
      go_wp2
      refine region_along [(0, true), (1, true), (4, true), (5, true), (2, false), (3, true), (6, false), (7, true), (8, true), (9, true), (10, true), (12, true), (11, false), (13, false), (14, true), (15, true), (16, true), (17, true), (18, true), (20, true), (21, true), (19, false), (22, false), (23, true), (24, true), (25, true), (26, true), (29, true), (30, true), (27, false), (28, true), (31, true), (32, true), (33, true), (34, true), (37, true), (35, false), (36, true), (38, false), (39, true), (40, true), (41, true), (42, true), (43, false), (44, true), (45, true)] (by kernel_rfl) rfl (by kernel_rfl) (by kernel_rfl) (fun c a d v w h => by cases d <;> exact h) ?_
      refine along_move (v := .int .i64 n) rfl rfl rfl rfl ?_
      change Along _ _ _ _ { tmps := #[.int .i64 n, .int .i64 sz, vb, .int .i64 q, .slice aw ws.length cw, vl, _, _, _, _, _, _, .bool false, u13, .int .i64 ws.length, _, _, _, _, _, _, _, _, _, _, _, _, _, _, .int .i64 n, _, _, _, _, _, _, _, _, _, _, _, _, _, _, _, _, _, _, _, _, _, _, _, _, _, _, _, _, _, _, _, _, _, _, _, _, _, _, _, _, _, _, _, _], defers := [] } _
      refine along_move (v := .int .i64 sz) rfl rfl rfl rfl ?_
      change Along _ _ _ _ { tmps := #[.int .i64 n, .int .i64 sz, vb, .int .i64 q, .slice aw ws.length cw, vl, _, _, _, _, _, _, .bool false, u13, .int .i64 ws.length, _, _, _, _, _, _, _, _, _, _, _, _, _, _, .int .i64 n, .int .i64 sz, _, _, _, _, _, _, _, _, _, _, _, _, _, _, _, _, _, _, _, _, _, _, _, _, _, _, _, _, _, _, _, _, _, _, _, _, _, _, _, _, _, _, _], defers := [] } _
      refine along_move (v := .int .i64 n) rfl rfl rfl rfl ?_
      change Along _ _ _ _ { tmps := #[.int .i64 n, .int .i64 sz, vb, .int .i64 q, .slice aw ws.length cw, vl, _, _, _, _, _, _, .bool false, u13, .int .i64 ws.length, _, _, _, _, _, _, _, _, _, _, _, _, _, _, .int .i64 n, .int .i64 sz, _, _, .int .i64 n, _, _, _, _, _, _, _, _, _, _, _, _, _, _, _, _, _, _, _, _, _, _, _, _, _, _, _, _, _, _, _, _, _, _, _, _, _, _, _, _], defers := [] } _
      refine along_move (v := .int .i64 sz) rfl rfl rfl rfl ?_
      change Along _ _ _ _ { tmps := #[.int .i64 n, .int .i64 sz, vb, .int .i64 q, .slice aw ws.length cw, vl, _, _, _, _, _, _, .bool false, u13, .int .i64 ws.length, _, _, _, _, _, _, _, _, _, _, _, _, _, _, .int .i64 n, .int .i64 sz, _, _, .int .i64 n, .int .i64 sz, _, _, _, _, _, _, _, _, _, _, _, _, _, _, _, _, _, _, _, _, _, _, _, _, _, _, _, _, _, _, _, _, _, _, _, _, _, _, _], defers := [] } _
      refine along_call (vs := [.int .i64 n, .int .i64 sz]) rfl rfl rfl (enters_of Try.func8 (by kernel_rfl) rfl) rfl ?_
      refine (H8.out _).mono ?_
      rintro e w1 ⟨v1, rfl, S1, b1⟩
      have B1 : Below wr.heap.size wr w1 := B0.trans b1
      refine ⟨_, rfl, b1, ?_⟩
      change Along _ _ _ _ { tmps := #[.int .i64 n, .int .i64 sz, vb, .int .i64 q, .slice aw ws.length cw, vl, _, _, _, _, _, _, .bool false, u13, .int .i64 ws.length, _, _, _, _, _, _, _, _, _, _, _, _, _, _, .int .i64 n, .int .i64 sz, v1, _, .int .i64 n, .int .i64 sz, _, _, _, _, _, _, _, _, _, _, _, _, _, _, _, _, _, _, _, _, _, _, _, _, _, _, _, _, _, _, _, _, _, _, _, _, _, _, _], defers := [] } _
      refine along_conv (v := v1) (u := .string (strOfNums (octAll (IntKind.u64.wrap n) kk))) rfl rfl rfl rfl (S1) ?_
      change Along _ _ _ _ { tmps := #[.int .i64 n, .int .i64 sz, vb, .int .i64 q, .slice aw ws.length cw, vl, _, _, _, _, _, _, .bool false, u13, .int .i64 ws.length, _, _, _, _, _, _, _, _, _, _, _, _, _, _, .int .i64 n, .int .i64 sz, v1, .string (strOfNums (octAll (IntKind.u64.wrap n) kk)), .int .i64 n, .int .i64 sz, _, _, _, _, _, _, _, _, _, _, _, _, _, _, _, _, _, _, _, _, _, _, _, _, _, _, _, _, _, _, _, _, _, _, _, _, _, _, _], defers := [] } _
      refine along_call (vs := [.int .i64 n, .int .i64 sz]) rfl rfl rfl (enters_of Try.func7 (by kernel_rfl) rfl) rfl ?_
      refine (H7.out _).mono ?_
      rintro e w2 ⟨v2, rfl, S2, b2⟩
      have B2 := B1.trans (b2.mono B1.size)
      refine ⟨_, rfl, b2, ?_⟩
      change Along _ _ _ _ { tmps := #[.int .i64 n, .int .i64 sz, vb, .int .i64 q, .slice aw ws.length cw, vl, _, _, _, _, _, _, .bool false, u13, .int .i64 ws.length, _, _, _, _, _, _, _, _, _, _, _, _, _, _, .int .i64 n, .int .i64 sz, v1, .string (strOfNums (octAll (IntKind.u64.wrap n) kk)), .int .i64 n, .int .i64 sz, v2, _, _, _, _, _, _, _, _, _, _, _, _, _, _, _, _, _, _, _, _, _, _, _, _, _, _, _, _, _, _, _, _, _, _, _, _, _, _], defers := [] } _
      refine along_conv (v := v2) (u := .string (strOfNums (octAll (IntKind.u64.wrap n) kk))) rfl rfl rfl rfl (S2) ?_
      change Along _ _ _ _ { tmps := #[.int .i64 n, .int .i64 sz, vb, .int .i64 q, .slice aw ws.length cw, vl, _, _, _, _, _, _, .bool false, u13, .int .i64 ws.length, _, _, _, _, _, _, _, _, _, _, _, _, _, _, .int .i64 n, .int .i64 sz, v1, .string (strOfNums (octAll (IntKind.u64.wrap n) kk)), .int .i64 n, .int .i64 sz, v2, .string (strOfNums (octAll (IntKind.u64.wrap n) kk)), _, _, _, _, _, _, _, _, _, _, _, _, _, _, _, _, _, _, _, _, _, _, _, _, _, _, _, _, _, _, _, _, _, _, _, _, _], defers := [] } _
      refine along_eqs rfl rfl rfl rfl rfl ?_
      change Along _ _ _ _ { tmps := #[.int .i64 n, .int .i64 sz, vb, .int .i64 q, .slice aw ws.length cw, vl, _, _, _, _, _, _, .bool false, u13, .int .i64 ws.length, _, _, _, _, _, _, _, _, _, _, _, _, _, _, .int .i64 n, .int .i64 sz, v1, .string (strOfNums (octAll (IntKind.u64.wrap n) kk)), .int .i64 n, .int .i64 sz, v2, .string (strOfNums (octAll (IntKind.u64.wrap n) kk)), .bool true, _, _, _, _, _, _, _, _, _, _, _, _, _, _, _, _, _, _, _, _, _, _, _, _, _, _, _, _, _, _, _, _, _, _, _, _], defers := [] } _
      refine along_move (v := .bool true) rfl rfl rfl rfl ?_
      change Along _ _ _ _ { tmps := #[.int .i64 n, .int .i64 sz, vb, .int .i64 q, .slice aw ws.length cw, vl, _, _, _, _, _, _, .bool false, u13, .int .i64 ws.length, _, _, _, _, _, _, _, _, _, _, _, _, _, _, .int .i64 n, .int .i64 sz, v1, .string (strOfNums (octAll (IntKind.u64.wrap n) kk)), .int .i64 n, .int .i64 sz, v2, .string (strOfNums (octAll (IntKind.u64.wrap n) kk)), .bool true, .bool true, _, _, _, _, _, _, _, _, _, _, _, _, _, _, _, _, _, _, _, _, _, _, _, _, _, _, _, _, _, _, _, _, _, _, _], defers := [] } _
      refine along_move (v := vb) rfl rfl rfl rfl ?_
      change Along _ _ _ _ { tmps := #[.int .i64 n, .int .i64 sz, vb, .int .i64 q, .slice aw ws.length cw, vl, _, _, _, _, _, _, .bool false, u13, .int .i64 ws.length, _, _, _, _, _, _, _, _, _, _, _, _, _, _, .int .i64 n, .int .i64 sz, v1, .string (strOfNums (octAll (IntKind.u64.wrap n) kk)), .int .i64 n, .int .i64 sz, v2, .string (strOfNums (octAll (IntKind.u64.wrap n) kk)), .bool true, .bool true, vb, _, _, _, _, _, _, _, _, _, _, _, _, _, _, _, _, _, _, _, _, _, _, _, _, _, _, _, _, _, _, _, _, _, _], defers := [] } _
      refine along_move (v := vb) rfl rfl rfl rfl ?_
      change Along _ _ _ _ { tmps := #[.int .i64 n, .int .i64 sz, vb, .int .i64 q, .slice aw ws.length cw, vl, _, _, _, _, _, _, .bool false, u13, .int .i64 ws.length, _, _, _, _, _, _, _, _, _, _, _, _, _, _, .int .i64 n, .int .i64 sz, v1, .string (strOfNums (octAll (IntKind.u64.wrap n) kk)), .int .i64 n, .int .i64 sz, v2, .string (strOfNums (octAll (IntKind.u64.wrap n) kk)), .bool true, .bool true, vb, _, vb, _, _, _, _, _, _, _, _, _, _, _, _, _, _, _, _, _, _, _, _, _, _, _, _, _, _, _, _, _, _, _, _], defers := [] } _
      refine along_call (vs := [vb]) rfl rfl rfl (enters_of Try.func9 (by kernel_rfl) rfl) rfl ?_
      refine (H9.out _ B2).mono ?_
      rintro e w' ⟨rfl, rfl⟩
      refine ⟨_, rfl, Up.refl _, ?_⟩
      change Along _ _ _ _ { tmps := #[.int .i64 n, .int .i64 sz, vb, .int .i64 q, .slice aw ws.length cw, vl, _, _, _, _, _, _, .bool false, u13, .int .i64 ws.length, _, _, _, _, _, _, _, _, _, _, _, _, _, _, .int .i64 n, .int .i64 sz, v1, .string (strOfNums (octAll (IntKind.u64.wrap n) kk)), .int .i64 n, .int .i64 sz, v2, .string (strOfNums (octAll (IntKind.u64.wrap n) kk)), .bool true, .bool true, vb, .int .i64 (getB bs), vb, _, _, _, _, _, _, _, _, _, _, _, _, _, _, _, _, _, _, _, _, _, _, _, _, _, _, _, _, _, _, _, _], defers := [] } _
      refine along_call (vs := [vb]) rfl rfl rfl (enters_of Try.func10 (by kernel_rfl) rfl) rfl ?_
      refine (H10.out _ B2).mono ?_
      rintro e w' ⟨rfl, rfl⟩
      refine ⟨_, rfl, Up.refl _, ?_⟩
      change Along _ _ _ _ { tmps := #[.int .i64 n, .int .i64 sz, vb, .int .i64 q, .slice aw ws.length cw, vl, _, _, _, _, _, _, .bool false, u13, .int .i64 ws.length, _, _, _, _, _, _, _, _, _, _, _, _, _, _, .int .i64 n, .int .i64 sz, v1, .string (strOfNums (octAll (IntKind.u64.wrap n) kk)), .int .i64 n, .int .i64 sz, v2, .string (strOfNums (octAll (IntKind.u64.wrap n) kk)), .bool true, .bool true, vb, .int .i64 (getB bs), vb, .int .i64 (getB bs), _, _, _, _, _, _, _, _, _, _, _, _, _, _, _, _, _, _, _, _, _, _, _, _, _, _, _, _, _, _, _], defers := [] } _
      refine along_eqi rfl rfl rfl rfl rfl ?_
      change Along _ _ _ _ { tmps := #[.int .i64 n, .int .i64 sz, vb, .int .i64 q, .slice aw ws.length cw, vl, _, _, _, _, _, _, .bool false, u13, .int .i64 ws.length, _, _, _, _, _, _, _, _, _, _, _, _, _, _, .int .i64 n, .int .i64 sz, v1, .string (strOfNums (octAll (IntKind.u64.wrap n) kk)), .int .i64 n, .int .i64 sz, v2, .string (strOfNums (octAll (IntKind.u64.wrap n) kk)), .bool true, .bool true, vb, .int .i64 (getB bs), vb, .int .i64 (getB bs), .bool true, _, _, _, _, _, _, _, _, _, _, _, _, _, _, _, _, _, _, _, _, _, _, _, _, _, _, _, _, _, _], defers := [] } _
      refine along_pick (v := .bool true) rfl rfl rfl rfl rfl ?_
      change Along _ _ _ _ { tmps := #[.int .i64 n, .int .i64 sz, vb, .int .i64 q, .slice aw ws.length cw, vl, _, _, _, _, _, _, .bool false, u13, .int .i64 ws.length, _, _, _, _, _, _, _, _, _, _, _, _, _, _, .int .i64 n, .int .i64 sz, v1, .string (strOfNums (octAll (IntKind.u64.wrap n) kk)), .int .i64 n, .int .i64 sz, v2, .string (strOfNums (octAll (IntKind.u64.wrap n) kk)), .bool true, .bool true, vb, .int .i64 (getB bs), vb, .int .i64 (getB bs), .bool true, .bool true, _, _, _, _, _, _, _, _, _, _, _, _, _, _, _, _, _, _, _, _, _, _, _, _, _, _, _, _, _], defers := [] } _
      refine along_move (v := .bool true) rfl rfl rfl rfl ?_
      change Along _ _ _ _ { tmps := #[.int .i64 n, .int .i64 sz, vb, .int .i64 q, .slice aw ws.length cw, vl, _, _, _, _, _, _, .bool false, u13, .int .i64 ws.length, _, _, _, _, _, _, _, _, _, _, _, _, _, _, .int .i64 n, .int .i64 sz, v1, .string (strOfNums (octAll (IntKind.u64.wrap n) kk)), .int .i64 n, .int .i64 sz, v2, .string (strOfNums (octAll (IntKind.u64.wrap n) kk)), .bool true, .bool true, vb, .int .i64 (getB bs), vb, .int .i64 (getB bs), .bool true, .bool true, .bool true, _, _, _, _, _, _, _, _, _, _, _, _, _, _, _, _, _, _, _, _, _, _, _, _, _, _, _, _], defers := [] } _
      refine along_move (v := vb) rfl rfl rfl rfl ?_
      change Along _ _ _ _ { tmps := #[.int .i64 n, .int .i64 sz, vb, .int .i64 q, .slice aw ws.length cw, vl, _, _, _, _, _, _, .bool false, u13, .int .i64 ws.length, _, _, _, _, _, _, _, _, _, _, _, _, _, _, .int .i64 n, .int .i64 sz, v1, .string (strOfNums (octAll (IntKind.u64.wrap n) kk)), .int .i64 n, .int .i64 sz, v2, .string (strOfNums (octAll (IntKind.u64.wrap n) kk)), .bool true, .bool true, vb, .int .i64 (getB bs), vb, .int .i64 (getB bs), .bool true, .bool true, .bool true, vb, _, _, _, _, _, _, _, _, _, _, _, _, _, _, _, _, _, _, _, _, _, _, _, _, _, _, _], defers := [] } _
      refine along_move (v := .int .i64 q) rfl rfl rfl rfl ?_
      change Along _ _ _ _ { tmps := #[.int .i64 n, .int .i64 sz, vb, .int .i64 q, .slice aw ws.length cw, vl, _, _, _, _, _, _, .bool false, u13, .int .i64 ws.length, _, _, _, _, _, _, _, _, _, _, _, _, _, _, .int .i64 n, .int .i64 sz, v1, .string (strOfNums (octAll (IntKind.u64.wrap n) kk)), .int .i64 n, .int .i64 sz, v2, .string (strOfNums (octAll (IntKind.u64.wrap n) kk)), .bool true, .bool true, vb, .int .i64 (getB bs), vb, .int .i64 (getB bs), .bool true, .bool true, .bool true, vb, .int .i64 q, _, _, _, _, _, _, _, _, _, _, _, _, _, _, _, _, _, _, _, _, _, _, _, _, _, _], defers := [] } _
      refine along_move (v := vb) rfl rfl rfl rfl ?_
      change Along _ _ _ _ { tmps := #[.int .i64 n, .int .i64 sz, vb, .int .i64 q, .slice aw ws.length cw, vl, _, _, _, _, _, _, .bool false, u13, .int .i64 ws.length, _, _, _, _, _, _, _, _, _, _, _, _, _, _, .int .i64 n, .int .i64 sz, v1, .string (strOfNums (octAll (IntKind.u64.wrap n) kk)), .int .i64 n, .int .i64 sz, v2, .string (strOfNums (octAll (IntKind.u64.wrap n) kk)), .bool true, .bool true, vb, .int .i64 (getB bs), vb, .int .i64 (getB bs), .bool true, .bool true, .bool true, vb, .int .i64 q, _, vb, _, _, _, _, _, _, _, _, _, _, _, _, _, _, _, _, _, _, _, _, _, _, _, _], defers := [] } _
      refine along_move (v := .int .i64 q) rfl rfl rfl rfl ?_
      change Along _ _ _ _ { tmps := #[.int .i64 n, .int .i64 sz, vb, .int .i64 q, .slice aw ws.length cw, vl, _, _, _, _, _, _, .bool false, u13, .int .i64 ws.length, _, _, _, _, _, _, _, _, _, _, _, _, _, _, .int .i64 n, .int .i64 sz, v1, .string (strOfNums (octAll (IntKind.u64.wrap n) kk)), .int .i64 n, .int .i64 sz, v2, .string (strOfNums (octAll (IntKind.u64.wrap n) kk)), .bool true, .bool true, vb, .int .i64 (getB bs), vb, .int .i64 (getB bs), .bool true, .bool true, .bool true, vb, .int .i64 q, _, vb, .int .i64 q, _, _, _, _, _, _, _, _, _, _, _, _, _, _, _, _, _, _, _, _, _, _, _], defers := [] } _
      refine along_call (vs := [vb, .int .i64 q]) rfl rfl rfl (enters_of Try.func11 (by kernel_rfl) rfl) rfl ?_
      refine (H11.out _ B2).mono ?_
      rintro e w3 ⟨rfl, b3⟩
      have B3 := B2.trans (b3.mono B2.size)
      refine ⟨_, rfl, b3, ?_⟩
      change Along _ _ _ _ { tmps := #[.int .i64 n, .int .i64 sz, vb, .int .i64 q, .slice aw ws.length cw, vl, _, _, _, _, _, _, .bool false, u13, .int .i64 ws.length, _, _, _, _, _, _, _, _, _, _, _, _, _, _, .int .i64 n, .int .i64 sz, v1, .string (strOfNums (octAll (IntKind.u64.wrap n) kk)), .int .i64 n, .int .i64 sz, v2, .string (strOfNums (octAll (IntKind.u64.wrap n) kk)), .bool true, .bool true, vb, .int .i64 (getB bs), vb, .int .i64 (getB bs), .bool true, .bool true, .bool true, vb, .int .i64 q, .int .u32 (wordB bs q), vb, .int .i64 q, _, _, _, _, _, _, _, _, _, _, _, _, _, _, _, _, _, _, _, _, _, _, _], defers := [] } _
      refine along_call (vs := [vb, .int .i64 q]) rfl rfl rfl (enters_of Try.func12 (by kernel_rfl) rfl) rfl ?_
      refine (H12.out _ B3).mono ?_
      rintro e w' ⟨rfl, rfl⟩
      refine ⟨_, rfl, Up.refl _, ?_⟩
      change Along _ _ _ _ { tmps := #[.int .i64 n, .int .i64 sz, vb, .int .i64 q, .slice aw ws.length cw, vl, _, _, _, _, _, _, .bool false, u13, .int .i64 ws.length, _, _, _, _, _, _, _, _, _, _, _, _, _, _, .int .i64 n, .int .i64 sz, v1, .string (strOfNums (octAll (IntKind.u64.wrap n) kk)), .int .i64 n, .int .i64 sz, v2, .string (strOfNums (octAll (IntKind.u64.wrap n) kk)), .bool true, .bool true, vb, .int .i64 (getB bs), vb, .int .i64 (getB bs), .bool true, .bool true, .bool true, vb, .int .i64 q, .int .u32 (wordB bs q), vb, .int .i64 q, .int .u32 (wordB bs q), _, _, _, _, _, _, _, _, _, _, _, _, _, _, _, _, _, _, _, _, _, _], defers := [] } _
      refine along_eqi rfl rfl rfl rfl rfl ?_
      change Along _ _ _ _ { tmps := #[.int .i64 n, .int .i64 sz, vb, .int .i64 q, .slice aw ws.length cw, vl, _, _, _, _, _, _, .bool false, u13, .int .i64 ws.length, _, _, _, _, _, _, _, _, _, _, _, _, _, _, .int .i64 n, .int .i64 sz, v1, .string (strOfNums (octAll (IntKind.u64.wrap n) kk)), .int .i64 n, .int .i64 sz, v2, .string (strOfNums (octAll (IntKind.u64.wrap n) kk)), .bool true, .bool true, vb, .int .i64 (getB bs), vb, .int .i64 (getB bs), .bool true, .bool true, .bool true, vb, .int .i64 q, .int .u32 (wordB bs q), vb, .int .i64 q, .int .u32 (wordB bs q), .bool true, _, _, _, _, _, _, _, _, _, _, _, _, _, _, _, _, _, _, _, _, _], defers := [] } _
      refine along_pick (v := .bool true) rfl rfl rfl rfl rfl ?_
      change Along _ _ _ _ { tmps := #[.int .i64 n, .int .i64 sz, vb, .int .i64 q, .slice aw ws.length cw, vl, _, _, _, _, _, _, .bool false, u13, .int .i64 ws.length, _, _, _, _, _, _, _, _, _, _, _, _, _, _, .int .i64 n, .int .i64 sz, v1, .string (strOfNums (octAll (IntKind.u64.wrap n) kk)), .int .i64 n, .int .i64 sz, v2, .string (strOfNums (octAll (IntKind.u64.wrap n) kk)), .bool true, .bool true, vb, .int .i64 (getB bs), vb, .int .i64 (getB bs), .bool true, .bool true, .bool true, vb, .int .i64 q, .int .u32 (wordB bs q), vb, .int .i64 q, .int .u32 (wordB bs q), .bool true, .bool true, _, _, _, _, _, _, _, _, _, _, _, _, _, _, _, _, _, _, _, _], defers := [] } _
      refine along_move (v := .bool true) rfl rfl rfl rfl ?_
      change Along _ _ _ _ { tmps := #[.int .i64 n, .int .i64 sz, vb, .int .i64 q, .slice aw ws.length cw, vl, _, _, _, _, _, _, .bool false, u13, .int .i64 ws.length, _, _, _, _, _, _, _, _, _, _, _, _, _, _, .int .i64 n, .int .i64 sz, v1, .string (strOfNums (octAll (IntKind.u64.wrap n) kk)), .int .i64 n, .int .i64 sz, v2, .string (strOfNums (octAll (IntKind.u64.wrap n) kk)), .bool true, .bool true, vb, .int .i64 (getB bs), vb, .int .i64 (getB bs), .bool true, .bool true, .bool true, vb, .int .i64 q, .int .u32 (wordB bs q), vb, .int .i64 q, .int .u32 (wordB bs q), .bool true, .bool true, .bool true, _, _, _, _, _, _, _, _, _, _, _, _, _, _, _, _, _, _, _], defers := [] } _
      refine along_move (v := .slice aw ws.length cw) rfl rfl rfl rfl ?_
      change Along _ _ _ _ { tmps := #[.int .i64 n, .int .i64 sz, vb, .int .i64 q, .slice aw ws.length cw, vl, _, _, _, _, _, _, .bool false, u13, .int .i64 ws.length, _, _, _, _, _, _, _, _, _, _, _, _, _, _, .int .i64 n, .int .i64 sz, v1, .string (strOfNums (octAll (IntKind.u64.wrap n) kk)), .int .i64 n, .int .i64 sz, v2, .string (strOfNums (octAll (IntKind.u64.wrap n) kk)), .bool true, .bool true, vb, .int .i64 (getB bs), vb, .int .i64 (getB bs), .bool true, .bool true, .bool true, vb, .int .i64 q, .int .u32 (wordB bs q), vb, .int .i64 q, .int .u32 (wordB bs q), .bool true, .bool true, .bool true, .slice aw ws.length cw, _, _, _, _, _, _, _, _, _, _, _, _, _, _, _, _, _, _], defers := [] } _
      refine along_move (v := u13) rfl rfl rfl rfl ?_
      change Along _ _ _ _ { tmps := #[.int .i64 n, .int .i64 sz, vb, .int .i64 q, .slice aw ws.length cw, vl, _, _, _, _, _, _, .bool false, u13, .int .i64 ws.length, _, _, _, _, _, _, _, _, _, _, _, _, _, _, .int .i64 n, .int .i64 sz, v1, .string (strOfNums (octAll (IntKind.u64.wrap n) kk)), .int .i64 n, .int .i64 sz, v2, .string (strOfNums (octAll (IntKind.u64.wrap n) kk)), .bool true, .bool true, vb, .int .i64 (getB bs), vb, .int .i64 (getB bs), .bool true, .bool true, .bool true, vb, .int .i64 q, .int .u32 (wordB bs q), vb, .int .i64 q, .int .u32 (wordB bs q), .bool true, .bool true, .bool true, .slice aw ws.length cw, _, _, u13, _, _, _, _, _, _, _, _, _, _, _, _, _, _, _], defers := [] } _
      refine along_conv (v := u13) (u := .string (strOfNums (wordsB ws))) rfl rfl rfl rfl (fun wx hu => S13.out wx (B3.trans (Below.mono hu B3.size))) ?_
      change Along _ _ _ _ { tmps := #[.int .i64 n, .int .i64 sz, vb, .int .i64 q, .slice aw ws.length cw, vl, _, _, _, _, _, _, .bool false, u13, .int .i64 ws.length, _, _, _, _, _, _, _, _, _, _, _, _, _, _, .int .i64 n, .int .i64 sz, v1, .string (strOfNums (octAll (IntKind.u64.wrap n) kk)), .int .i64 n, .int .i64 sz, v2, .string (strOfNums (octAll (IntKind.u64.wrap n) kk)), .bool true, .bool true, vb, .int .i64 (getB bs), vb, .int .i64 (getB bs), .bool true, .bool true, .bool true, vb, .int .i64 q, .int .u32 (wordB bs q), vb, .int .i64 q, .int .u32 (wordB bs q), .bool true, .bool true, .bool true, .slice aw ws.length cw, _, _, u13, .string (strOfNums (wordsB ws)), _, _, _, _, _, _, _, _, _, _, _, _, _, _], defers := [] } _
      refine along_call (vs := [.slice aw ws.length cw]) rfl rfl rfl (enters_of Try.func13 (by kernel_rfl) rfl) rfl ?_
      refine (H13.out _ B3).mono ?_
      rintro e w4 ⟨v4, rfl, S4, b4⟩
      have B4 := B3.trans (b4.mono B3.size)
      refine ⟨_, rfl, b4, ?_⟩
      change Along _ _ _ _ { tmps := #[.int .i64 n, .int .i64 sz, vb, .int .i64 q, .slice aw ws.length cw, vl, _, _, _, _, _, _, .bool false, u13, .int .i64 ws.length, _, _, _, _, _, _, _, _, _, _, _, _, _, _, .int .i64 n, .int .i64 sz, v1, .string (strOfNums (octAll (IntKind.u64.wrap n) kk)), .int .i64 n, .int .i64 sz, v2, .string (strOfNums (octAll (IntKind.u64.wrap n) kk)), .bool true, .bool true, vb, .int .i64 (getB bs), vb, .int .i64 (getB bs), .bool true, .bool true, .bool true, vb, .int .i64 q, .int .u32 (wordB bs q), vb, .int .i64 q, .int .u32 (wordB bs q), .bool true, .bool true, .bool true, .slice aw ws.length cw, v4, _, u13, .string (strOfNums (wordsB ws)), _, _, _, _, _, _, _, _, _, _, _, _, _, _], defers := [] } _
      refine along_conv (v := v4) (u := .string (strOfNums (wordsB ws))) rfl rfl rfl rfl (S4) ?_
      change Along _ _ _ _ { tmps := #[.int .i64 n, .int .i64 sz, vb, .int .i64 q, .slice aw ws.length cw, vl, _, _, _, _, _, _, .bool false, u13, .int .i64 ws.length, _, _, _, _, _, _, _, _, _, _, _, _, _, _, .int .i64 n, .int .i64 sz, v1, .string (strOfNums (octAll (IntKind.u64.wrap n) kk)), .int .i64 n, .int .i64 sz, v2, .string (strOfNums (octAll (IntKind.u64.wrap n) kk)), .bool true, .bool true, vb, .int .i64 (getB bs), vb, .int .i64 (getB bs), .bool true, .bool true, .bool true, vb, .int .i64 q, .int .u32 (wordB bs q), vb, .int .i64 q, .int .u32 (wordB bs q), .bool true, .bool true, .bool true, .slice aw ws.length cw, v4, .string (strOfNums (wordsB ws)), u13, .string (strOfNums (wordsB ws)), _, _, _, _, _, _, _, _, _, _, _, _, _, _], defers := [] } _
      refine along_eqs rfl rfl rfl rfl rfl ?_
      change Along _ _ _ _ { tmps := #[.int .i64 n, .int .i64 sz, vb, .int .i64 q, .slice aw ws.length cw, vl, _, _, _, _, _, _, .bool false, u13, .int .i64 ws.length, _, _, _, _, _, _, _, _, _, _, _, _, _, _, .int .i64 n, .int .i64 sz, v1, .string (strOfNums (octAll (IntKind.u64.wrap n) kk)), .int .i64 n, .int .i64 sz, v2, .string (strOfNums (octAll (IntKind.u64.wrap n) kk)), .bool true, .bool true, vb, .int .i64 (getB bs), vb, .int .i64 (getB bs), .bool true, .bool true, .bool true, vb, .int .i64 q, .int .u32 (wordB bs q), vb, .int .i64 q, .int .u32 (wordB bs q), .bool true, .bool true, .bool true, .slice aw ws.length cw, v4, .string (strOfNums (wordsB ws)), u13, .string (strOfNums (wordsB ws)), .bool true, _, _, _, _, _, _, _, _, _, _, _, _, _], defers := [] } _
      refine along_pick (v := .bool true) rfl rfl rfl rfl rfl ?_
      change Along _ _ _ _ { tmps := #[.int .i64 n, .int .i64 sz, vb, .int .i64 q, .slice aw ws.length cw, vl, _, _, _, _, _, _, .bool false, u13, .int .i64 ws.length, _, _, _, _, _, _, _, _, _, _, _, _, _, _, .int .i64 n, .int .i64 sz, v1, .string (strOfNums (octAll (IntKind.u64.wrap n) kk)), .int .i64 n, .int .i64 sz, v2, .string (strOfNums (octAll (IntKind.u64.wrap n) kk)), .bool true, .bool true, vb, .int .i64 (getB bs), vb, .int .i64 (getB bs), .bool true, .bool true, .bool true, vb, .int .i64 q, .int .u32 (wordB bs q), vb, .int .i64 q, .int .u32 (wordB bs q), .bool true, .bool true, .bool true, .slice aw ws.length cw, v4, .string (strOfNums (wordsB ws)), u13, .string (strOfNums (wordsB ws)), .bool true, .bool true, _, _, _, _, _, _, _, _, _, _, _, _], defers := [] } _
      refine along_move (v := .bool true) rfl rfl rfl rfl ?_
      change Along _ _ _ _ { tmps := #[.int .i64 n, .int .i64 sz, vb, .int .i64 q, .slice aw ws.length cw, vl, _, _, _, _, _, _, .bool false, u13, .int .i64 ws.length, _, _, _, _, _, _, _, _, _, _, _, _, _, _, .int .i64 n, .int .i64 sz, v1, .string (strOfNums (octAll (IntKind.u64.wrap n) kk)), .int .i64 n, .int .i64 sz, v2, .string (strOfNums (octAll (IntKind.u64.wrap n) kk)), .bool true, .bool true, vb, .int .i64 (getB bs), vb, .int .i64 (getB bs), .bool true, .bool true, .bool true, vb, .int .i64 q, .int .u32 (wordB bs q), vb, .int .i64 q, .int .u32 (wordB bs q), .bool true, .bool true, .bool true, .slice aw ws.length cw, v4, .string (strOfNums (wordsB ws)), u13, .string (strOfNums (wordsB ws)), .bool true, .bool true, .bool true, _, _, _, _, _, _, _, _, _, _, _], defers := [] } _
      refine along_move (v := vl) rfl rfl rfl rfl ?_
      change Along _ _ _ _ { tmps := #[.int .i64 n, .int .i64 sz, vb, .int .i64 q, .slice aw ws.length cw, vl, _, _, _, _, _, _, .bool false, u13, .int .i64 ws.length, _, _, _, _, _, _, _, _, _, _, _, _, _, _, .int .i64 n, .int .i64 sz, v1, .string (strOfNums (octAll (IntKind.u64.wrap n) kk)), .int .i64 n, .int .i64 sz, v2, .string (strOfNums (octAll (IntKind.u64.wrap n) kk)), .bool true, .bool true, vb, .int .i64 (getB bs), vb, .int .i64 (getB bs), .bool true, .bool true, .bool true, vb, .int .i64 q, .int .u32 (wordB bs q), vb, .int .i64 q, .int .u32 (wordB bs q), .bool true, .bool true, .bool true, .slice aw ws.length cw, v4, .string (strOfNums (wordsB ws)), u13, .string (strOfNums (wordsB ws)), .bool true, .bool true, .bool true, vl, _, _, _, _, _, _, _, _, _, _], defers := [] } _
      refine along_move (v := vl) rfl rfl rfl rfl ?_
      change Along _ _ _ _ { tmps := #[.int .i64 n, .int .i64 sz, vb, .int .i64 q, .slice aw ws.length cw, vl, _, _, _, _, _, _, .bool false, u13, .int .i64 ws.length, _, _, _, _, _, _, _, _, _, _, _, _, _, _, .int .i64 n, .int .i64 sz, v1, .string (strOfNums (octAll (IntKind.u64.wrap n) kk)), .int .i64 n, .int .i64 sz, v2, .string (strOfNums (octAll (IntKind.u64.wrap n) kk)), .bool true, .bool true, vb, .int .i64 (getB bs), vb, .int .i64 (getB bs), .bool true, .bool true, .bool true, vb, .int .i64 q, .int .u32 (wordB bs q), vb, .int .i64 q, .int .u32 (wordB bs q), .bool true, .bool true, .bool true, .slice aw ws.length cw, v4, .string (strOfNums (wordsB ws)), u13, .string (strOfNums (wordsB ws)), .bool true, .bool true, .bool true, vl, _, _, vl, _, _, _, _, _, _, _], defers := [] } _
      refine along_call (vs := [vl]) rfl rfl rfl (enters_of Try.func14 (by kernel_rfl) rfl) rfl ?_
      refine (H14.out _ B4).mono ?_
      rintro e w5 ⟨v5, rfl, S5, b5⟩
      have B5 := B4.trans (b5.mono B4.size)
      refine ⟨_, rfl, b5, ?_⟩
      change Along _ _ _ _ { tmps := #[.int .i64 n, .int .i64 sz, vb, .int .i64 q, .slice aw ws.length cw, vl, _, _, _, _, _, _, .bool false, u13, .int .i64 ws.length, _, _, _, _, _, _, _, _, _, _, _, _, _, _, .int .i64 n, .int .i64 sz, v1, .string (strOfNums (octAll (IntKind.u64.wrap n) kk)), .int .i64 n, .int .i64 sz, v2, .string (strOfNums (octAll (IntKind.u64.wrap n) kk)), .bool true, .bool true, vb, .int .i64 (getB bs), vb, .int .i64 (getB bs), .bool true, .bool true, .bool true, vb, .int .i64 q, .int .u32 (wordB bs q), vb, .int .i64 q, .int .u32 (wordB bs q), .bool true, .bool true, .bool true, .slice aw ws.length cw, v4, .string (strOfNums (wordsB ws)), u13, .string (strOfNums (wordsB ws)), .bool true, .bool true, .bool true, vl, v5, _, vl, _, _, _, _, _, _, _], defers := [] } _
      refine along_conv (v := v5) (u := .string (strOfNums (ls.flatten))) rfl rfl rfl rfl (S5) ?_
      change Along _ _ _ _ { tmps := #[.int .i64 n, .int .i64 sz, vb, .int .i64 q, .slice aw ws.length cw, vl, _, _, _, _, _, _, .bool false, u13, .int .i64 ws.length, _, _, _, _, _, _, _, _, _, _, _, _, _, _, .int .i64 n, .int .i64 sz, v1, .string (strOfNums (octAll (IntKind.u64.wrap n) kk)), .int .i64 n, .int .i64 sz, v2, .string (strOfNums (octAll (IntKind.u64.wrap n) kk)), .bool true, .bool true, vb, .int .i64 (getB bs), vb, .int .i64 (getB bs), .bool true, .bool true, .bool true, vb, .int .i64 q, .int .u32 (wordB bs q), vb, .int .i64 q, .int .u32 (wordB bs q), .bool true, .bool true, .bool true, .slice aw ws.length cw, v4, .string (strOfNums (wordsB ws)), u13, .string (strOfNums (wordsB ws)), .bool true, .bool true, .bool true, vl, v5, .string (strOfNums (ls.flatten)), vl, _, _, _, _, _, _, _], defers := [] } _
      refine along_call (vs := [vl]) rfl rfl rfl (enters_of Try.func15 (by kernel_rfl) rfl) rfl ?_
      refine (H15.out _ B5).mono ?_
      rintro e w6 ⟨v6, rfl, S6, b6⟩
      have B6 := B5.trans (b6.mono B5.size)
      refine ⟨_, rfl, b6, ?_⟩
      change Along _ _ _ _ { tmps := #[.int .i64 n, .int .i64 sz, vb, .int .i64 q, .slice aw ws.length cw, vl, _, _, _, _, _, _, .bool false, u13, .int .i64 ws.length, _, _, _, _, _, _, _, _, _, _, _, _, _, _, .int .i64 n, .int .i64 sz, v1, .string (strOfNums (octAll (IntKind.u64.wrap n) kk)), .int .i64 n, .int .i64 sz, v2, .string (strOfNums (octAll (IntKind.u64.wrap n) kk)), .bool true, .bool true, vb, .int .i64 (getB bs), vb, .int .i64 (getB bs), .bool true, .bool true, .bool true, vb, .int .i64 q, .int .u32 (wordB bs q), vb, .int .i64 q, .int .u32 (wordB bs q), .bool true, .bool true, .bool true, .slice aw ws.length cw, v4, .string (strOfNums (wordsB ws)), u13, .string (strOfNums (wordsB ws)), .bool true, .bool true, .bool true, vl, v5, .string (strOfNums (ls.flatten)), vl, v6, _, _, _, _, _, _], defers := [] } _
      refine along_conv (v := v6) (u := .string (strOfNums (ls.flatten))) rfl rfl rfl rfl (S6) ?_
      change Along _ _ _ _ { tmps := #[.int .i64 n, .int .i64 sz, vb, .int .i64 q, .slice aw ws.length cw, vl, _, _, _, _, _, _, .bool false, u13, .int .i64 ws.length, _, _, _, _, _, _, _, _, _, _, _, _, _, _, .int .i64 n, .int .i64 sz, v1, .string (strOfNums (octAll (IntKind.u64.wrap n) kk)), .int .i64 n, .int .i64 sz, v2, .string (strOfNums (octAll (IntKind.u64.wrap n) kk)), .bool true, .bool true, vb, .int .i64 (getB bs), vb, .int .i64 (getB bs), .bool true, .bool true, .bool true, vb, .int .i64 q, .int .u32 (wordB bs q), vb, .int .i64 q, .int .u32 (wordB bs q), .bool true, .bool true, .bool true, .slice aw ws.length cw, v4, .string (strOfNums (wordsB ws)), u13, .string (strOfNums (wordsB ws)), .bool true, .bool true, .bool true, vl, v5, .string (strOfNums (ls.flatten)), vl, v6, .string (strOfNums (ls.flatten)), _, _, _, _, _], defers := [] } _
      refine along_eqs rfl rfl rfl rfl rfl ?_
      change Along _ _ _ _ { tmps := #[.int .i64 n, .int .i64 sz, vb, .int .i64 q, .slice aw ws.length cw, vl, _, _, _, _, _, _, .bool false, u13, .int .i64 ws.length, _, _, _, _, _, _, _, _, _, _, _, _, _, _, .int .i64 n, .int .i64 sz, v1, .string (strOfNums (octAll (IntKind.u64.wrap n) kk)), .int .i64 n, .int .i64 sz, v2, .string (strOfNums (octAll (IntKind.u64.wrap n) kk)), .bool true, .bool true, vb, .int .i64 (getB bs), vb, .int .i64 (getB bs), .bool true, .bool true, .bool true, vb, .int .i64 q, .int .u32 (wordB bs q), vb, .int .i64 q, .int .u32 (wordB bs q), .bool true, .bool true, .bool true, .slice aw ws.length cw, v4, .string (strOfNums (wordsB ws)), u13, .string (strOfNums (wordsB ws)), .bool true, .bool true, .bool true, vl, v5, .string (strOfNums (ls.flatten)), vl, v6, .string (strOfNums (ls.flatten)), .bool true, _, _, _, _], defers := [] } _
      refine along_pick (v := .bool true) rfl rfl rfl rfl rfl ?_
      change Along _ _ _ _ { tmps := #[.int .i64 n, .int .i64 sz, vb, .int .i64 q, .slice aw ws.length cw, vl, _, _, _, _, _, _, .bool false, u13, .int .i64 ws.length, _, _, _, _, _, _, _, _, _, _, _, _, _, _, .int .i64 n, .int .i64 sz, v1, .string (strOfNums (octAll (IntKind.u64.wrap n) kk)), .int .i64 n, .int .i64 sz, v2, .string (strOfNums (octAll (IntKind.u64.wrap n) kk)), .bool true, .bool true, vb, .int .i64 (getB bs), vb, .int .i64 (getB bs), .bool true, .bool true, .bool true, vb, .int .i64 q, .int .u32 (wordB bs q), vb, .int .i64 q, .int .u32 (wordB bs q), .bool true, .bool true, .bool true, .slice aw ws.length cw, v4, .string (strOfNums (wordsB ws)), u13, .string (strOfNums (wordsB ws)), .bool true, .bool true, .bool true, vl, v5, .string (strOfNums (ls.flatten)), vl, v6, .string (strOfNums (ls.flatten)), .bool true, .bool true, _, _, _], defers := [] } _
      refine along_move (v := .bool true) rfl rfl rfl rfl ?_
      change Along _ _ _ _ { tmps := #[.int .i64 n, .int .i64 sz, vb, .int .i64 q, .slice aw ws.length cw, vl, _, _, _, _, _, _, .bool false, u13, .int .i64 ws.length, _, _, _, _, _, _, _, _, _, _, _, _, _, _, .int .i64 n, .int .i64 sz, v1, .string (strOfNums (octAll (IntKind.u64.wrap n) kk)), .int .i64 n, .int .i64 sz, v2, .string (strOfNums (octAll (IntKind.u64.wrap n) kk)), .bool true, .bool true, vb, .int .i64 (getB bs), vb, .int .i64 (getB bs), .bool true, .bool true, .bool true, vb, .int .i64 q, .int .u32 (wordB bs q), vb, .int .i64 q, .int .u32 (wordB bs q), .bool true, .bool true, .bool true, .slice aw ws.length cw, v4, .string (strOfNums (wordsB ws)), u13, .string (strOfNums (wordsB ws)), .bool true, .bool true, .bool true, vl, v5, .string (strOfNums (ls.flatten)), vl, v6, .string (strOfNums (ls.flatten)), .bool true, .bool true, .bool true, _, _], defers := [] } _
      refine along_call (vs := []) rfl rfl rfl (enters_of Try.func16 (by kernel_rfl) rfl) rfl ?_
      refine (H16.out _).mono ?_
      rintro e w7 ⟨rfl, b7⟩
      have B7 := B6.trans (b7.mono B6.size)
      refine ⟨_, rfl, b7, ?_⟩
      change Along _ _ _ _ { tmps := #[.int .i64 n, .int .i64 sz, vb, .int .i64 q, .slice aw ws.length cw, vl, _, _, _, _, _, _, .bool false, u13, .int .i64 ws.length, _, _, _, _, _, _, _, _, _, _, _, _, _, _, .int .i64 n, .int .i64 sz, v1, .string (strOfNums (octAll (IntKind.u64.wrap n) kk)), .int .i64 n, .int .i64 sz, v2, .string (strOfNums (octAll (IntKind.u64.wrap n) kk)), .bool true, .bool true, vb, .int .i64 (getB bs), vb, .int .i64 (getB bs), .bool true, .bool true, .bool true, vb, .int .i64 q, .int .u32 (wordB bs q), vb, .int .i64 q, .int .u32 (wordB bs q), .bool true, .bool true, .bool true, .slice aw ws.length cw, v4, .string (strOfNums (wordsB ws)), u13, .string (strOfNums (wordsB ws)), .bool true, .bool true, .bool true, vl, v5, .string (strOfNums (ls.flatten)), vl, v6, .string (strOfNums (ls.flatten)), .bool true, .bool true, .bool true, .bool true, _], defers := [] } _
      refine along_pick (v := .bool true) rfl rfl rfl rfl rfl ?_
      change Along _ _ _ _ { tmps := #[.int .i64 n, .int .i64 sz, vb, .int .i64 q, .slice aw ws.length cw, vl, _, _, _, _, _, _, .bool false, u13, .int .i64 ws.length, _, _, _, _, _, _, _, _, _, _, _, _, _, _, .int .i64 n, .int .i64 sz, v1, .string (strOfNums (octAll (IntKind.u64.wrap n) kk)), .int .i64 n, .int .i64 sz, v2, .string (strOfNums (octAll (IntKind.u64.wrap n) kk)), .bool true, .bool true, vb, .int .i64 (getB bs), vb, .int .i64 (getB bs), .bool true, .bool true, .bool true, vb, .int .i64 q, .int .u32 (wordB bs q), vb, .int .i64 q, .int .u32 (wordB bs q), .bool true, .bool true, .bool true, .slice aw ws.length cw, v4, .string (strOfNums (wordsB ws)), u13, .string (strOfNums (wordsB ws)), .bool true, .bool true, .bool true, vl, v5, .string (strOfNums (ls.flatten)), vl, v6, .string (strOfNums (ls.flatten)), .bool true, .bool true, .bool true, .bool true, .bool true], defers := [] } _
      refine along_assign (v := .bool true) rfl rfl rfl rfl ?_
      change Along _ _ _ _ { tmps := #[.int .i64 n, .int .i64 sz, vb, .int .i64 q, .slice aw ws.length cw, vl, _, _, _, _, _, _, .bool true, u13, .int .i64 ws.length, _, _, _, _, _, _, _, _, _, _, _, _, _, _, .int .i64 n, .int .i64 sz, v1, .string (strOfNums (octAll (IntKind.u64.wrap n) kk)), .int .i64 n, .int .i64 sz, v2, .string (strOfNums (octAll (IntKind.u64.wrap n) kk)), .bool true, .bool true, vb, .int .i64 (getB bs), vb, .int .i64 (getB bs), .bool true, .bool true, .bool true, vb, .int .i64 q, .int .u32 (wordB bs q), vb, .int .i64 q, .int .u32 (wordB bs q), .bool true, .bool true, .bool true, .slice aw ws.length cw, v4, .string (strOfNums (wordsB ws)), u13, .string (strOfNums (wordsB ws)), .bool true, .bool true, .bool true, vl, v5, .string (strOfNums (ls.flatten)), vl, v6, .string (strOfNums (ls.flatten)), .bool true, .bool true, .bool true, .bool true, .bool true], defers := [] } _
      refine along_done ?_
      go_wp2
      go_ret
      exact ⟨rfl, hB.trans (B7.mono hB.size)⟩
end Go.Proofs.Ytpapkilhigicgaa
