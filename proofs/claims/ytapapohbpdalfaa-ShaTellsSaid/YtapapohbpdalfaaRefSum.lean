import Derived.BigRegion
import Derived.IntWalk
import Derived.Test.YtapapohbpdalfaaQuietTail1
import Derived.Test.YtapapohbpdalfaaShaFns
import Derived.Test.YtapapohbpdalfaaShaMix
import Derived.Test.YtapapohbpdalfaaShaWords
import Derived.Test.YtapapohbpdalfaaRefPad
import Derived.Test.YtapapohbpdalfaaRefRest
import Derived.Test.YtapapohbpdalfaaRefConst
import Derived.Test.YtapapohbpdalfaaRefEight
/-
  The reference's sum.
-/
namespace Go.Proofs.Ytapapohbpdalfaa
set_option linter.unusedVariables false
open Go.RowKit

set_option maxRecDepth 100000 in
set_option maxHeartbeats 4000000 in
theorem refSum_any (v vh vk : Value) (bs : List Int) (w : World) (hv : Ints .u8 w v bs) (hu : U8s bs) (hl : bs.length ≤ 140737488351232) (hh : Ints .u32 w vh hSt.list) (hk : Ints .u32 w vk kL) :
    Calls Try.prog 9 #[v, vh, vk] w fun e w' => ∃ r, e = .returned r ∧ w'.ownsRow w.heap.size 5 1 r 32 ((sumB bs).map (Value.int .u8)) ∧ Below w.heap.size w w' := by
  obtain ⟨i0, hi, hz0, hz1, hz2⟩ := info_parts info_u32
  obtain ⟨j0, hj, hy0, hy1, hy2⟩ := info_parts info_u8
  obtain ⟨ah, ch, rfl, hch, hnh, hcellh⟩ := hh
  obtain ⟨ak, ck, rfl, hck, hnk, hcellk⟩ := id hk
  have Hk := Lib.hid hk
  have Hv := Lib.hid hv
  have Hu := Lib.hid hu
  have Hnone : Hid (ah = none → hSt.list.length = 0 ∧ ch = 0) := fun h => ⟨by have := hnh h; omega, hnh h⟩
  have Hnews := Lib.hid (cells_all (k := .u32) hcellh)
  have Hone : Hid (∀ u ∈ hSt.list.map (Value.int .u32), u.oneCell' = true) := ints_oneCell .u32 _
  have h8 : hSt.list.length = 8 := rfl
  have h64 : kL.length = 64 := rfl
  rw [h8] at hch Hnone ⊢
  rw [h64] at hck Hk ⊢
  clear hk hv hu hcellh hnh hcellk hnk h8 h64
  go_enter Try.func9, Try.ntmps9
  go_wp2_with (at_builtin; refine wpList_append_own_src _ rfl (.tmp 23) (.tmp 24) 24 rfl w.heap.size 36 i0 (.int .u32 0) 1 4 Try.underlying24 hi hz0 hz1 hz2 rfl (by decide) (.slice (some ⟨w.heap.size, 0, none⟩) 0 0) 0 [] rfl (ownsRow_empty _ _) ah 8 ch (hSt.list.map (Value.int .u32)) rfl Hnone.out (by simp [St.len]) (fun ad h j u hj => World.cell?_alloc_other' (Hnews.out ad h j u hj)) Hone.out (by unfold maxLen; omega) (by omega) (by simp) ?_; intro v1 w1 hr1 hg1 hne1; obtain ⟨S, cs, rfl, hS1, hS2⟩ := ownsRow_addr hr1 (fun e => by simpa using hne1 e); clear hne1; simp only [Nat.zero_add, List.nil_append] at hr1 ⊢)
  have hU1 : Up w w1 := (((Below.refl _ w).alloc (Nat.le_refl _) _).grown hg1 (by simp) (fun k e => by cases e; exact Nat.le_refl _))
  have Hpad := Lib.hid (refPad_any v bs w1 (Hv.out.up hU1) hl)
  have Hp64 := Lib.hid (padB_64 bs)
  have Hpl := Lib.hid (padB_length bs)
  have Hpu := Lib.hid (padB_u8s bs Hu.out)
  have Hsum : Hid (sumB bs = wordsB (takeSt hSt (padB bs) ((padB bs).length / 64)).list) := rfl
  generalize padB bs = p at Hpad Hp64 Hpl Hpu Hsum
  clear hg1
  with_reducible refine Calls.mono Hpad.out ?_
  rintro e w2 ⟨vp, rfl, hrp, hB2⟩
  have hplt : p.length ≤ 140737488351500 := by have := Hpl.out; unfold zerosOf at this; omega
  obtain ⟨gp, cp, rfl, hcp⟩ := row_sl hrp (by have := Hpl.out; omega)
  have Hrp : Hid (IntsOff S .u8 w2 (.slice (some ⟨gp, 0, none⟩) p.length cp) p) := IntsOff.of_row hrp hS2
  have hr2 := hr1.kept (grown_of_below none hB2) (Classical.em _)
  have hU2 : Up w w2 := Up.trans hU1 hB2
  have HK : Hid (IntsOff S .u32 w2 (.slice ak 64 ck) kL) := IntsOff.of_old Hk.out hU2 hS1
  clear hr1 hrp hB2 hU1 Hpad
  have hN : p.length = 64 * (p.length / 64) := by have := Hp64.out; omega
  obtain ⟨N, hNN⟩ : ∃ N, p.length / 64 = N := ⟨_, rfl⟩
  rw [hNN] at hN
  have HN := Lib.hid hN
  have HNN := Lib.hid hNN
  clear hN hNN
  go_wp2
  go_loopw [9] (fun i wr => ∃ k q : Nat, k ≤ N ∧ q = 64 * k ∧ i = .int .i64 q ∧ wr.ownsRow w.heap.size 36 1 (.slice (some ⟨S, 0, none⟩) 8 cs) 8 ((takeSt hSt p k).list.map (Value.int .u32)) ∧ w2.grownBy wr (some S))
    (fun i _ => p.length - (intOf i).toNat)
  case atStart => exact ⟨0, 0, Nat.zero_le _, rfl, rfl, hr2, World.grownBy.refl _ _⟩
  case round =>
    clear hr2
    obtain ⟨k, q, hk, hq, rfl, hrow, hG⟩ := hrel
    by_cases hlt : q < p.length
    · have hq64 : q + 64 ≤ p.length := by have := HN.out; omega
      have hst := takeSt_ok hSt_ok p k
      have hnext : takeSt hSt p (k + 1) = addSt (takeSt hSt p k) (comp (allWords p q) kL (takeSt hSt p k) 64) := by rw [hq]; rfl
      obtain ⟨st, hstt⟩ : ∃ st, takeSt hSt p k = st := ⟨_, rfl⟩
      rw [hstt] at hst hnext hrow
      have Hlo : Hid (∀ t, t < 16 → (allWords p q)[t]?.getD 0 = wordUp p (q + 4 * t) 4) := aw_lo p q
      have Hhi : Hid (∀ t, 16 ≤ t → t < 64 → (allWords p q)[t]?.getD 0 = (sml ((allWords p q)[t - 2]?.getD 0) 17 19 10 + (allWords p q)[t - 7]?.getD 0 + sml ((allWords p q)[t - 15]?.getD 0) 7 18 3 + (allWords p q)[t - 16]?.getD 0) % 4294967296) := aw_hi p q
      have Hwu : Hid (U32s (allWords p q)) := aw_u32 p Hpu.out q
      have Hsnoc : Hid (∀ t, t < 64 → (allWords p q).take (t + 1) = (allWords p q).take t ++ [(allWords p q)[t]?.getD 0]) := aw_snoc p q
      have Hwl : Hid ((allWords p q).length = 64) := allWords_length p q
      generalize allWords p q = W at hnext Hlo Hhi Hwu Hsnoc Hwl
      obtain ⟨r64, hr64⟩ : ∃ r, comp W kL st 64 = r := ⟨_, rfl⟩
      rw [hr64] at hnext
      have Hr64 := Lib.hid hr64
      clear hr64
      have Hnext := Lib.hid hnext
      have Hq := Lib.hid hq
      have Hrow := Lib.hid hrow
      have HG := Lib.hid hG
      clear hnext hstt hq hrow hG
      obtain ⟨wo, rfl⟩ : ∃ wo : World, wo = wr := ⟨_, rfl⟩
      go_wp2
      go_loopw [10, 11] (fun vw i wr => ∃ (t : Nat) (aw : Option Addr) (cw : Nat), vw = .slice aw t cw ∧ t ≤ 64 ∧ i = .int .i64 t ∧ wr.ownsRow wo.heap.size 36 1 (.slice aw t cw) t ((W.take t).map (Value.int .u32)) ∧ Below wo.heap.size wo wr)
        (fun _ i _ => 64 - (intOf i).toNat)
      case atStart => exact ⟨0, none, 0, rfl, Nat.zero_le _, rfl, World.ownsRow_nil _ _ _ _, Below.refl _ _⟩
      case round =>
        obtain ⟨t, aw, cw, rfl, ht, rfl, hrw, hB⟩ := hrel
        by_cases htl : t < 64
        · have hsn := Hsnoc.out t htl
          have Hsn := Lib.hid hsn
          clear hsn
          by_cases h16 : t < 16
          · have hword := refWord_in (.slice (some ⟨gp, 0, none⟩) p.length cp) p (q + 4 * t) wr ((Hrp.out.grown HG.out).ints.up hB) Hpu.out (by omega) (by omega)
            rw [← Hlo.out t h16, show ((q + 4 * t : Nat) : Int) = (q : Int) + 4 * (t : Int) from by omega] at hword
            obtain ⟨x, hx⟩ : ∃ x, W[t]?.getD 0 = x := ⟨_, rfl⟩
            rw [hx] at Hsn hword
            have Hword := Lib.hid hword
            clear hword hx
            go_wp2_with fail
            with_reducible refine Calls.mono Hword.out ?_
            rintro e w3 ⟨rfl, rfl⟩
            go_wp2_with (at_builtin; go_loud (refine wpList_append_own _ rfl (.tmp 40) (.tmp 47) 24 rfl wo.heap.size 36 i0 (.int .u32 0) 1 4 Try.underlying24 hi hz0 hz1 hz2 rfl (by decide) _ t _ rfl (hrw.alloc _) ⟨wr.heap.size, 0, none⟩ 1 1 [.int .u32 x] rfl rfl (cell_one_new _ _ _) (by simp [Value.oneCell']) (by unfold maxLen; omega) (by omega) (by have := hB.size; simp; omega) ?_; intro v3 w3 hr3 hg3 _; obtain ⟨g3, c3, rfl⟩ := ownsRow_succ hr3))
            go_roundw
            case rel => exact ⟨t + 1, _, _, rfl, by omega, by go_num, by rw [Hsn.out, List.map_append]; exact hr3, (hB.alloc hB.size _).grown hg3 (by have := hB.size; simp; omega) (fun j e => (hrw.lt j e).1)⟩
            case measure => simp [intOf]; omega
          · have hhi := Hhi.out t (by omega) htl
            obtain ⟨g, c, he, htc⟩ := row_sl hrw (by omega)
            simp only [Value.slice.injEq, true_and] at he
            obtain ⟨rfl, rfl⟩ := he
            have hce : ∀ j, j < t → wr.cell? ⟨g, j, none⟩ = some (.int .u32 (W[j]?.getD 0)) := fun j hj => by rw [row_at hrw j hj, take_at W t j hj]
            have c2 := hce (t - 2) (by omega)
            have c7 := hce (t - 7) (by omega)
            have c15 := hce (t - 15) (by omega)
            have c16 := hce (t - 16) (by omega)
            have u2 := Hwu.out (t - 2)
            have u7 := Hwu.out (t - 7)
            have u15 := Hwu.out (t - 15)
            have u16 := Hwu.out (t - 16)
            obtain ⟨x2, e2⟩ : ∃ x, W[t - 2]?.getD 0 = x := ⟨_, rfl⟩
            obtain ⟨x7, e7⟩ : ∃ x, W[t - 7]?.getD 0 = x := ⟨_, rfl⟩
            obtain ⟨x15, e15⟩ : ∃ x, W[t - 15]?.getD 0 = x := ⟨_, rfl⟩
            obtain ⟨x16, e16⟩ : ∃ x, W[t - 16]?.getD 0 = x := ⟨_, rfl⟩
            rw [e2] at c2 u2 hhi
            rw [e7] at c7 u7 hhi
            rw [e15] at c15 u15 hhi
            rw [e16] at c16 u16 hhi
            obtain ⟨t2, f2⟩ : ∃ x, t - 2 = x := ⟨_, rfl⟩
            obtain ⟨t7, f7⟩ : ∃ x, t - 7 = x := ⟨_, rfl⟩
            obtain ⟨t15, f15⟩ : ∃ x, t - 15 = x := ⟨_, rfl⟩
            obtain ⟨t16, f16⟩ : ∃ x, t - 16 = x := ⟨_, rfl⟩
            rw [f2] at c2
            rw [f7] at c7
            rw [f15] at c15
            rw [f16] at c16
            have w2' : IntKind.i64.wrap ((t : Int) - 2) = t2 := by rw [IntWalk.i64_in _ (by omega)]; omega
            have w7' : IntKind.i64.wrap ((t : Int) - 7) = t7 := by rw [IntWalk.i64_in _ (by omega)]; omega
            have w15' : IntKind.i64.wrap ((t : Int) - 15) = t15 := by rw [IntWalk.i64_in _ (by omega)]; omega
            have w16' : IntKind.i64.wrap ((t : Int) - 16) = t16 := by rw [IntWalk.i64_in _ (by omega)]; omega
            have b2 : t2 < t ∧ t7 < t ∧ t15 < t ∧ t16 < t := by omega
            obtain ⟨m1, hm1⟩ : ∃ m1, bits .xor .u32 (bits .xor .u32 (rotr x2 17) (rotr x2 19)) (x2 / 1024) = m1 := ⟨_, rfl⟩
            obtain ⟨m2, hm2⟩ : ∃ m2, bits .xor .u32 (bits .xor .u32 (rotr x15 7) (rotr x15 18)) (x15 / 8) = m2 := ⟨_, rfl⟩
            have M1 := bits_u32 .xor (bits .xor .u32 (rotr x2 17) (rotr x2 19)) (x2 / 1024) (.inl rfl)
            have M2 := bits_u32 .xor (bits .xor .u32 (rotr x15 7) (rotr x15 18)) (x15 / 8) (.inl rfl)
            rw [hm1] at M1
            rw [hm2] at M2
            have hs1 : sml x2 17 19 10 = m1 := hm1
            have hs2 : sml x15 7 18 3 = m2 := hm2
            rw [hs1, hs2] at hhi
            have Hhi' := Lib.hid hhi
            have Hhrw := Lib.hid hrw
            have HBt := Lib.hid hB
            clear hhi hce e2 e7 e15 e16 f2 f7 f15 f16 hs1 hs2 hrw hB
            go_wp2
            go_quiet (fail)
            have hrn : (wr.drewN nq).ownsRow wo.heap.size 36 1 (.slice (some ⟨g, 0, none⟩) t cw) t ((W.take t).map (Value.int .u32)) := Hhrw.out
            have hBn : Below wo.heap.size wo (wr.drewN nq) := HBt.out.trans ⟨rfl, rfl, rfl, Nat.le_refl _, fun _ _ => rfl⟩
            have d2 : (wr.drewN nq).cell? ⟨g, t2, none⟩ = some (.int .u32 x2) := c2
            have d7 : (wr.drewN nq).cell? ⟨g, t7, none⟩ = some (.int .u32 x7) := c7
            have d16 : (wr.drewN nq).cell? ⟨g, t16, none⟩ = some (.int .u32 x16) := c16
            clear c2 c7 c15 c16 Hhrw HBt
            generalize wr.drewN nq = wn at hrn hBn d2 d7 d16 ⊢
            have T1 : Hid (∀ q, Calls Try.prog 26 #[.int .u32 x2, .int .u64 17] (wn.drewN q) fun e w'' => e = .returned (.int .u32 (rotr x2 17)) ∧ ∃ m, w'' = wn.drewN m) := fun q => turn_quiet x2 17 u2 (by omega) q
            have T2 : Hid (∀ q, Calls Try.prog 26 #[.int .u32 x2, .int .u64 19] (wn.drewN q) fun e w'' => e = .returned (.int .u32 (rotr x2 19)) ∧ ∃ m, w'' = wn.drewN m) := fun q => turn_quiet x2 19 u2 (by omega) q
            have T3 : Hid (∀ q, Calls Try.prog 26 #[.int .u32 x15, .int .u64 7] (wn.drewN q) fun e w'' => e = .returned (.int .u32 (rotr x15 7)) ∧ ∃ m, w'' = wn.drewN m) := fun q => turn_quiet x15 7 u15 (by omega) q
            have T4 : Hid (∀ q, Calls Try.prog 26 #[.int .u32 x15, .int .u64 18] (wn.drewN q) fun e w'' => e = .returned (.int .u32 (rotr x15 18)) ∧ ∃ m, w'' = wn.drewN m) := fun q => turn_quiet x15 18 u15 (by omega) q
            go_wp2
            refine region_quiet_tail1 30 (.tmp 10) rfl rfl (by kernel_rfl) (by kernel_rfl) (fun c a d v w h => by cases d <;> exact h) ?_
            simp only [Nat.reduceSub, List.take_succ_cons, List.take_zero, List.drop_succ_cons, List.drop_zero]
            go_simp
            repeat (any_goals (first | go_big_quiet_step ((with_reducible (first | exact T1.out _ | exact T2.out _ | exact T3.out _ | exact T4.out _))) | quiet_step ((with_reducible (first | exact T1.out _ | exact T2.out _ | exact T3.out _ | exact T4.out _)))))
            refine wpQuiet_nil ?_
            intro q2
            have hrq : (wn.drewN q2).ownsRow wo.heap.size 36 1 (.slice (some ⟨g, 0, none⟩) t cw) t ((W.take t).map (Value.int .u32)) := hrn
            have hBq : Below wo.heap.size wo (wn.drewN q2) := hBn.trans ⟨rfl, rfl, rfl, Nat.le_refl _, fun _ _ => rfl⟩
            change wpList _ _ _ _ _ _
            generalize wn.drewN q2 = wq at hrq hBq ⊢
            clear hrn hBn d2 d7 d16 T1 T2 T3 T4 w2' w7' w15' w16' hm1 hm2
            go_wp2_with (at_builtin; refine wpList_append_own _ rfl (.tmp 59) (.tmp 89) 24 rfl wo.heap.size 36 i0 (.int .u32 0) 1 4 Try.underlying24 hi hz0 hz1 hz2 rfl (by decide) _ t _ rfl (hrq.alloc _) ⟨wq.heap.size, 0, none⟩ 1 1 _ rfl rfl (cell_one_new _ _ _) (by simp [Value.oneCell']) (by unfold maxLen; omega) (by omega) (by have := hBq.size; simp; omega) ?_; intro v3 w3 hr3 hg3 _; obtain ⟨g3, c3, rfl⟩ := ownsRow_succ hr3)
            go_roundw
            case rel =>
              refine ⟨t + 1, _, _, rfl, by omega, by go_num, ?_, (hBq.alloc hBq.size _).grown hg3 (by have := hBq.size; simp; omega) (fun j e => (hrq.lt j e).1)⟩
              rw [Hsn.out, List.map_append, Hhi'.out]
              exact hr3
            case measure => simp [intOf]; omega
        · obtain rfl : t = 64 := by omega
          obtain ⟨gw, cw', he, hwc⟩ := row_sl hrw (by omega)
          simp only [Value.slice.injEq, true_and] at he
          obtain ⟨rfl, rfl⟩ := he
          have Hwce : Hid (∀ j, j < 64 → wr.cell? ⟨gw, j, none⟩ = some (.int .u32 (W[j]?.getD 0))) := fun j hj => by rw [row_at hrw j hj, take_at W 64 j hj]
          have hrs := Hrow.out.kept (grown_of_below none hB) (Classical.em _)
          have Hrcs := Lib.hid (row_cells hrs)
          have HGr : Hid (w2.grownBy wr (some S)) := grownBy_trans' HG.out (grown_of_below _ hB)
          have Hrs := Lib.hid hrs
          have hone8 : Hid (∀ u ∈ st.list.map (Value.int .u32), u.oneCell' = true) := ints_oneCell .u32 _
          have hSlt : S < wr.heap.size := (hrs.lt S rfl).2
          have Hst8 := Lib.hid (fun j (hj : j < 8) => row_at hrs j hj)
          clear hrw hB hrs
          obtain ⟨wa, rfl⟩ : ∃ wa : World, wa = wr := ⟨_, rfl⟩
          go_wp2_with (at_builtin; refine wpList_append_own _ rfl (.tmp 91) (.tmp 92) 24 rfl wa.heap.size 36 i0 (.int .u32 0) 1 4 Try.underlying24 hi hz0 hz1 hz2 rfl (by decide) (.slice (some ⟨wa.heap.size, 0, none⟩) 0 0) 0 [] rfl (ownsRow_empty _ _) ⟨S, 0, none⟩ 8 cs (st.list.map (Value.int .u32)) rfl (by simp [St.len]) (fun j u hj => World.cell?_alloc_other' (Hrcs.out j u hj)) hone8.out (by unfold maxLen; omega) (by omega) (by simp) ?_; intro v5 w5 hr5 hg5 hne5; obtain ⟨g5, c5, rfl, hS5, hS6⟩ := ownsRow_addr hr5 (fun e => by simpa using hne5.1 e); clear hne5; simp only [Nat.zero_add, List.nil_append] at hr5 ⊢)
          have hU5 : Up wa w5 := ((Below.refl _ wa).alloc (Nat.le_refl _) _).grown hg5 (by simp) (fun k e => by cases e; exact Nat.le_refl _)
          have hE5 : Eight w5 g5 (comp W kL st 0) := fun j hj => row_at hr5 j hj
          have hc5 : 8 ≤ c5 := by
            rcases hr5.2 with ⟨e, _⟩ | ⟨_, _, _, e, _, _, h, _⟩
            · cases e
            · simp only [Value.slice.injEq, true_and] at e; omega
          clear hr5 hg5
          go_wp2
          go_loopw [14, 15] (fun vv i wr => ∃ (t g c : Nat), vv = .slice (some ⟨g, 0, none⟩) 8 c ∧ 8 ≤ c ∧ wa.heap.size ≤ g ∧ t ≤ 64 ∧ i = .int .i64 t ∧ Eight wr g (comp W kL st t) ∧ Up wa wr)
            (fun _ i _ => 64 - (intOf i).toNat)
          case atStart => exact ⟨0, g5, c5, rfl, hc5, hS5, Nat.zero_le _, rfl, hE5, hU5⟩
          case round =>
            clear hE5 hU5
            obtain ⟨t, g, c, rfl, hc, hg, ht, rfl, hE, hU⟩ := hrel
            by_cases htl : t < 64
            · obtain ⟨ak', ck', he, _, _, hkc⟩ := HK.out.grown HGr.out
              rw [show kL.length = 64 from rfl] at he hkc
              simp only [Value.slice.injEq, true_and] at he
              obtain ⟨rfl, rfl⟩ := he
              rcases hkc with hkc | ⟨bk, ok, rfl, _, hkc⟩
              · exact absurd (congrArg List.length hkc) (by decide)
              have ck0 := (hU.cell (p := ⟨bk, ok + t, none⟩) (World.block_lt_of_cell? wa _ (hkc t htl))).trans (hkc t htl)
              have cw0 := (hU.cell (p := ⟨gw, t, none⟩) (World.block_lt_of_cell? wa _ (Hwce.out t htl))).trans (Hwce.out t htl)
              have uk := kL_u32 t
              have uw := Hwu.out t
              have hok : (comp W kL st t).Ok := comp_ok hst _ _ _
              have hs : comp W kL st (t + 1) = rnd (comp W kL st t) (kL[t]?.getD 0) (W[t]?.getD 0) := rfl
              obtain ⟨x, hx⟩ : ∃ x, kL[t]?.getD 0 = x := ⟨_, rfl⟩
              obtain ⟨y, hy⟩ : ∃ y, W[t]?.getD 0 = y := ⟨_, rfl⟩
              rw [hx] at ck0 uk hs
              rw [hy] at cw0 uw hs
              obtain ⟨r, hr⟩ : ∃ r, comp W kL st t = r := ⟨_, rfl⟩
              rw [hr] at hE hok hs
              clear hkc hx hy hr
              obtain ⟨a, b, c', d, e, f, g', h'⟩ := r
              obtain ⟨oa, ob, oc, od, oe, of, og, oh⟩ := hok
              have Hs := Lib.hid hs
              obtain ⟨c0, c1, c2, c3, c4, c5', c6, c7⟩ := hE.all
              simp only at c0 c1 c2 c3 c4 c5' c6 c7 oa ob oc od oe of og oh
              have HU := Lib.hid hU
              have HE := Lib.hid hE
              clear hs hE hU
              go_wp2
              go_quiet (fail)
              have hEn : Eight (wr.drewN nq) g ⟨a, b, c', d, e, f, g', h'⟩ := HE.out
              have hUn := Up.drewN HU.out nq
              have ckn : (wr.drewN nq).cell? ⟨bk, ok + t, none⟩ = some (.int .u32 x) := ck0
              have cwn : (wr.drewN nq).cell? ⟨gw, t, none⟩ = some (.int .u32 y) := cw0
              clear c0 c1 c2 c3 c4 c5' c6 c7 ck0 cw0 HU HE
              generalize wr.drewN nq = wn at hEn hUn ckn cwn ⊢
              have T1 : Hid (∀ q, Calls Try.prog 26 #[.int .u32 e, .int .u64 6] (wn.drewN q) fun e' w'' => e' = .returned (.int .u32 (rotr e 6)) ∧ ∃ m, w'' = wn.drewN m) := fun q => turn_quiet e 6 oe (by omega) q
              have T2 : Hid (∀ q, Calls Try.prog 26 #[.int .u32 e, .int .u64 11] (wn.drewN q) fun e' w'' => e' = .returned (.int .u32 (rotr e 11)) ∧ ∃ m, w'' = wn.drewN m) := fun q => turn_quiet e 11 oe (by omega) q
              have T3 : Hid (∀ q, Calls Try.prog 26 #[.int .u32 e, .int .u64 25] (wn.drewN q) fun e' w'' => e' = .returned (.int .u32 (rotr e 25)) ∧ ∃ m, w'' = wn.drewN m) := fun q => turn_quiet e 25 oe (by omega) q
              obtain ⟨c0, c1, c2, c3, c4, c5', c6, c7⟩ := hEn.all
              simp only at c0 c1 c2 c3 c4 c5' c6 c7
              have HEn := Lib.hid hEn
              have HUn := Lib.hid hUn
              clear hEn hUn
              go_wp2
              go_quiet ((with_reducible (first | exact T1.out _ | exact T2.out _ | exact T3.out _)))
              have hEm : Eight (wn.drewN nq) g ⟨a, b, c', d, e, f, g', h'⟩ := HEn.out
              have hUm := Up.drewN HUn.out nq
              clear c0 c1 c2 c3 c4 c5' c6 c7 HUn HEn T1 T2 T3 ckn cwn
              generalize wn.drewN nq = wm at hEm hUm ⊢
              have T1 : Hid (∀ q, Calls Try.prog 26 #[.int .u32 a, .int .u64 2] (wm.drewN q) fun e' w'' => e' = .returned (.int .u32 (rotr a 2)) ∧ ∃ m, w'' = wm.drewN m) := fun q => turn_quiet a 2 oa (by omega) q
              have T2 : Hid (∀ q, Calls Try.prog 26 #[.int .u32 a, .int .u64 13] (wm.drewN q) fun e' w'' => e' = .returned (.int .u32 (rotr a 13)) ∧ ∃ m, w'' = wm.drewN m) := fun q => turn_quiet a 13 oa (by omega) q
              have T3 : Hid (∀ q, Calls Try.prog 26 #[.int .u32 a, .int .u64 22] (wm.drewN q) fun e' w'' => e' = .returned (.int .u32 (rotr a 22)) ∧ ∃ m, w'' = wm.drewN m) := fun q => turn_quiet a 22 oa (by omega) q
              obtain ⟨c0, c1, c2, c3, c4, c5', c6, c7⟩ := hEm.all
              simp only at c0 c1 c2 c3 c4 c5' c6 c7
              have HEm := Lib.hid hEm
              have HUm := Lib.hid hUm
              clear hEm hUm
              go_wp2
              go_quiet ((with_reducible (first | exact T1.out _ | exact T2.out _ | exact T3.out _)))
              have hEl : Eight (wm.drewN nq) g ⟨a, b, c', d, e, f, g', h'⟩ := HEm.out
              have hUl := Up.drewN HUm.out nq
              clear c0 c1 c2 c3 c4 c5' c6 c7 HUm HEm T1 T2 T3
              generalize wm.drewN nq = wl at hEl hUl ⊢
              obtain ⟨c0, c1, c2, c3, c4, c5', c6, c7⟩ := hEl.all
              simp only at c0 c1 c2 c3 c4 c5' c6 c7
              have HUl := Lib.hid hUl
              clear hEl hUl
              go_wp2
              refine region_quiet_tail 26 (by kernel_rfl) (by kernel_rfl) ?_
              simp only [List.take_succ_cons, List.take_zero, List.drop_succ_cons, List.drop_zero]
              repeat (any_goals (first | go_big_quiet_step (fail) | quiet_step (fail)))
              refine wpQuiet_nil ?_
              intro q2
              have hUq := Up.drewN HUl.out q2
              change wpList _ _ _ _ _ _
              generalize wl.drewN q2 = wq at hUq ⊢
              clear c0 c1 c2 c3 c4 c5' c6 c7 HUl
              go_wp2
              go_roundw
              case rel =>
                exact ⟨t + 1, wq.heap.size, 8, rfl, Nat.le_refl _, hUq.size, by omega, by go_num, by rw [Hs.out]; exact Eight.of wq _ (rnd ⟨a, b, c', d, e, f, g', h'⟩ x y) _ _ (rnd_flat_a ⟨a, b, c', d, e, f, g', h'⟩ x y) (rnd_flat_e ⟨a, b, c', d, e, f, g', h'⟩ x y), Up.alloc hUq _⟩
              case measure => simp [intOf]; omega
            · obtain rfl : t = 64 := by omega
              rw [Hr64.out] at hE
              have hgS : g ≠ S := by omega
              have hS0 := Hrs.out.kept (grown_of_below none hU) (Classical.em _)
              have hG0 : w2.grownBy wr (some S) := grownBy_trans' HGr.out (grown_of_below _ hU)
              have hA0 : st.list = r64.list.take 0 ++ st.list.drop 0 := rfl
              have hrok : r64.Ok := by rw [← Hr64.out]; exact comp_ok hst _ _ _
              have Hok := Lib.hid hrok
              have HS0 := Lib.hid hS0
              have HG0 := Lib.hid hG0
              have HE0 := Lib.hid hE
              clear hU hE hS0 hG0 hA0 hrok
              obtain ⟨wb, rfl⟩ : ∃ wb : World, wb = wr := ⟨_, rfl⟩
              go_wp2
              go_loopw [20] (fun i wr => ∃ j : Nat, j ≤ 8 ∧ i = .int .i64 j ∧ wr.ownsRow w.heap.size 36 1 (.slice (some ⟨S, 0, none⟩) 8 cs) 8 (((addSt st r64).list.take j ++ st.list.drop j).map (Value.int .u32)) ∧ Eight wr g r64 ∧ w2.grownBy wr (some S))
                (fun i _ => 8 - (intOf i).toNat)
              case atStart => exact ⟨0, Nat.zero_le _, rfl, HS0.out, HE0.out, HG0.out⟩
              case round =>
                obtain ⟨j, hj8, rfl, hS8, hE8, hG8⟩ := hrel
                by_cases hjl : j < 8
                · have hadd := addSt_at st r64 j hjl
                  have cs0 := row_at hS8 j hjl
                  rw [over_at j (by rw [St.len, St.len]) (by rw [St.len]; exact hjl)] at cs0
                  have cv0 := hE8 j hjl
                  have us := St.list_u32 hst j
                  have uv := St.list_u32 Hok.out j
                  obtain ⟨x, hx⟩ : ∃ x, st.list[j]?.getD 0 = x := ⟨_, rfl⟩
                  obtain ⟨y, hy⟩ : ∃ y, r64.list[j]?.getD 0 = y := ⟨_, rfl⟩
                  rw [hx] at cs0 us hadd
                  rw [hy] at cv0 uv hadd
                  have Hadd := Lib.hid hadd
                  have HS8 := Lib.hid hS8
                  have HE8 := Lib.hid hE8
                  have HG8 := Lib.hid hG8
                  clear hadd hx hy hS8 hE8 hG8
                  go_wp2
                  refine region_quiet_tail 12 (by kernel_rfl) (by kernel_rfl) ?_
                  simp only [List.take_succ_cons, List.take_zero, List.drop_succ_cons, List.drop_zero]
                  repeat (any_goals (first | go_big_quiet_step (fail) | quiet_step (fail)))
                  refine wpQuiet_nil ?_
                  intro q2
                  have hS9 : (wr.drewN q2).ownsRow w.heap.size 36 1 (.slice (some ⟨S, 0, none⟩) 8 cs) 8 (((addSt st r64).list.take j ++ st.list.drop j).map (Value.int .u32)) := HS8.out
                  have hE9 : Eight (wr.drewN q2) g r64 := HE8.out
                  have hG9 : w2.grownBy (wr.drewN q2) (some S) := ⟨HG8.out.os, HG8.out.tape, HG8.out.output, HG8.out.size, HG8.out.block⟩
                  change wpList _ _ _ _ _ _
                  generalize wr.drewN q2 = wq at hS9 hE9 hG9 ⊢
                  clear cs0 cv0
                  have hck := hS9.cellAt j (by omega)
                  have hfr := hS9.frozenAt j
                  have Hst := Lib.hid (hS9.stored j (.int .u32 ((x + y) % 4294967296)))
                  have hck2 : wq.cell? ⟨S, j, none⟩ = some (.int .u32 (((addSt st r64).list.take j ++ st.list.drop j)[j]?.getD 0)) := row_at hS9 j hjl
                  clear hck
                  have HE9 := Lib.hid hE9
                  have HG9 := Lib.hid hG9
                  clear hS9 hE9 hG9
                  go_wp2
                  go_roundw
                  case rel =>
                    obtain ⟨g1, g2⟩ := Hst.out
                    refine ⟨j + 1, by omega, by go_num, ?_, HE9.out.other hgS _, grownBy_trans' HG9.out (grownBy_setCell _ _ _)⟩
                    rw [← over_set j (by rw [St.len, St.len]) (by rw [St.len]; exact hjl), List.map_set, Hadd.out]
                    exact g1
                  case measure => simp [intOf]; omega
                · obtain rfl : j = 8 := by omega
                  have hS9 : wr.ownsRow w.heap.size 36 1 (.slice (some ⟨S, 0, none⟩) 8 cs) 8 ((addSt st r64).list.map (Value.int .u32)) := hS8
                  rw [← Hnext.out] at hS9
                  have HS9 := Lib.hid hS9
                  have HG9 := Lib.hid hG8
                  clear hS8 hE8 hG8 hS9
                  go_wp2
                  go_roundw
                  case rel => exact ⟨k + 1, q + 64, by have := HN.out; have := Hq.out; omega, by have := Hq.out; omega, by go_num, HS9.out, HG9.out⟩
                  case measure => simp [intOf]; omega
    · obtain ⟨fin, hfin⟩ : ∃ fin, takeSt hSt p k = fin := ⟨_, rfl⟩
      have hkN : k = N := by have := HN.out; omega
      have hfo : fin.Ok := by rw [← hfin]; exact takeSt_ok hSt_ok _ _
      have hsum : sumB bs = wordsB fin.list := by rw [Hsum.out, HNN.out, ← hkN, hfin]
      have Hqq := Lib.hid hq
      have hq0 : ¬ ((q : Int) < p.length) := by omega
      rw [hfin] at hrow
      have hU3 : Up w wr := Below.grown hU2 hG hU2.size (fun j e => by cases e; exact hS1)
      have Hsm := Lib.hid hsum
      have Hce := Lib.hid (fun j (hj : j < 8) => row_at hrow j hj)
      have Hfu := Lib.hid (St.list_u32 hfo)
      have HU3 := Lib.hid hU3
      clear hfin hkN hfo hsum hrow hG hU3 hq
      obtain ⟨we, rfl⟩ : ∃ we : World, we = wr := ⟨_, rfl⟩
      go_wp2
      go_loopw [21, 22] (fun o i wr => ∃ j : Nat, j ≤ 8 ∧ i = .int .i64 j ∧ wr.ownsRow we.heap.size 5 1 o (4 * j) ((wordsB (fin.list.take j)).map (Value.int .u8)) ∧ Up we wr)
        (fun _ i _ => 8 - (intOf i).toNat)
      case atStart => exact ⟨0, Nat.zero_le _, rfl, World.ownsRow_nil _ _ _ _, Up.refl _⟩
      case round =>
        obtain ⟨j, hj8, rfl, hro, hU⟩ := hrel
        by_cases hjl : j < 8
        · have hck := (hU.cell (p := ⟨S, j, none⟩) (World.block_lt_of_cell? we _ (Hce.out j hjl))).trans (Hce.out j hjl)
          have huk := Hfu.out j
          have hs : wordsB (fin.list.take (j + 1)) = wordsB (fin.list.take j) ++ octAll (fin.list[j]?.getD 0) 4 := by rw [take_snoc fin.list j (by rw [St.len]; exact hjl), wordsB_snoc]
          obtain ⟨o, ho⟩ : ∃ o, fin.list[j]?.getD 0 = o := ⟨_, rfl⟩
          rw [ho] at hck huk hs
          have Hs := Lib.hid hs
          have hwr : IntKind.u64.wrap o = o := by rw [IntKind.wrap_u64]; omega
          have Hone4 : Hid (∀ u ∈ (octAll o 4).map (Value.int .u8), u.oneCell' = true) := ints_oneCell .u8 _
          have Hput : Hid (∀ wx, Calls Try.prog 27 #[.int .i64 o, .int .i64 4] wx fun e w' => ∃ g cap, e = .returned (.slice (some ⟨g, 0, none⟩) 4 cap) ∧ w'.ownsRow wx.heap.size 5 1 (.slice (some ⟨g, 0, none⟩) 4 cap) 4 ((octAll o 4).map (Value.int .u8)) ∧ Up wx w') := by
            intro wx
            refine (refPut_any o 4 (by omega) (by omega) 4 (by decide) wx).mono ?_
            rintro e w' ⟨v, rfl, hr, hb⟩
            rw [hwr] at hr
            obtain ⟨g, cap, rfl⟩ := ownsRow_succ hr
            exact ⟨g, cap, rfl, hr, hb⟩
          have HUj := Lib.hid hU
          have Hro := Lib.hid hro
          clear hs ho hwr hU hro
          go_wp2_with fail
          with_reducible refine Calls.mono (Hput.out _) ?_
          rintro e w3 ⟨g3, c3, rfl, hr3, hU3⟩
          have hro3 := Hro.out.kept (grown_of_below none hU3) (Classical.em _)
          have Hcs := Lib.hid (row_cells hr3)
          have hsz := Nat.le_trans HUj.out.size hU3.size
          clear hr3
          go_wp2_with (at_builtin; refine wpList_append_own _ rfl (.tmp 216) (.tmp 222) 22 rfl we.heap.size 5 j0 (.int .u8 0) 1 1 Try.underlying22 hj hy0 hy1 hy2 rfl (by decide) _ (4 * j) _ rfl hro3 ⟨g3, 0, none⟩ 4 c3 ((octAll o 4).map (Value.int .u8)) rfl (by simp [octAll_length]) Hcs.out Hone4.out (by unfold maxLen; omega) (by omega) hsz ?_; intro v4 w4 hr4 hg4 _)
          go_roundw
          case rel =>
            refine ⟨j + 1, by omega, by go_num, by rw [Hs.out, List.map_append]; exact hr4, ?_⟩
            exact Below.grown (Up.trans HUj.out hU3) hg4 hsz (fun i e => (hro3.lt i e).1)
          case measure => simp [intOf]; omega
        · obtain rfl : j = 8 := by omega
          have hro8 : wr.ownsRow we.heap.size 5 1 _ 32 ((wordsB fin.list).map (Value.int .u8)) := hro
          rw [← Hsm.out] at hro8
          have Hro8 := Lib.hid (ownsRow_base hro8 HU3.out.size)
          have hUf := Up.trans HU3.out hU
          clear hro hro8 hU
          go_wp2
          go_ret
          exact ⟨_, rfl, Hro8.out, hUf⟩
end Go.Proofs.Ytapapohbpdalfaa
