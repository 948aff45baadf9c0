import Derived.BigRegion
import Derived.Test.YtjjaefacfcjgiaaShaSched
/-
  The rounds of a block.
-/
namespace Go.Proofs.Ytjjaefacfcjgiaa
set_option linter.unusedVariables false
open Go.RowKit

theorem turned_quiet {W : World} (x : Int) (i j k : Nat) (hx : 0 ≤ x ∧ x < 4294967296) (hi : 0 < i ∧ i < 32) (hj : 0 < j ∧ j < 32) (hk : 0 < k ∧ k < 32) (q : Nat) :
    Calls Try.prog 51 #[.int .u32 x, .int .i64 i, .int .i64 j, .int .i64 k] (W.drewN q) fun e w'' => e = .returned (.int .u32 (big x i j k)) ∧ ∃ m, w'' = W.drewN m :=
  (turned_any x i j k hx hi hj hk (W.drewN q)).mono fun _ _ ⟨he, hm⟩ => ⟨he, q, hm.symm⟩

theorem Arr.st {W : World} {B : Nat} {t : TypeId} {s : St} (h : Arr W B t s.list) :
    W.cell? ⟨B, 0, none⟩ = some (.int .u32 s.a) ∧ W.cell? ⟨B, 1, none⟩ = some (.int .u32 s.b) ∧ W.cell? ⟨B, 2, none⟩ = some (.int .u32 s.c) ∧ W.cell? ⟨B, 3, none⟩ = some (.int .u32 s.d) ∧
    W.cell? ⟨B, 4, none⟩ = some (.int .u32 s.e) ∧ W.cell? ⟨B, 5, none⟩ = some (.int .u32 s.f) ∧ W.cell? ⟨B, 6, none⟩ = some (.int .u32 s.g) ∧ W.cell? ⟨B, 7, none⟩ = some (.int .u32 s.h) := by
  have e : s.list.length = 8 := rfl
  exact ⟨h.cell 0 (by omega), h.cell 1 (by omega), h.cell 2 (by omega), h.cell 3 (by omega), h.cell 4 (by omega), h.cell 5 (by omega), h.cell 6 (by omega), h.cell 7 (by omega)⟩

theorem index_st (r : St) (k : Nat) (hk : k < 8) (w : World) : (Instr.index 51 (.agg #[.int .u32 r.a, .int .u32 r.b, .int .u32 r.c, .int .u32 r.d, .int .u32 r.e, .int .u32 r.f, .int .u32 r.g, .int .u32 r.h]) (.int .i64 k)).run Try.prog w = .ok (.int .u32 (r.list[k]?.getD 0)) w := by
  obtain ⟨a, b, c, d, e, f, g, h⟩ := r
  match k, hk with
  | 0, _ => change _ = _; kernel_rfl
  | 1, _ => change _ = _; kernel_rfl
  | 2, _ => change _ = _; kernel_rfl
  | 3, _ => change _ = _; kernel_rfl
  | 4, _ => change _ = _; kernel_rfl
  | 5, _ => change _ = _; kernel_rfl
  | 6, _ => change _ = _; kernel_rfl
  | 7, _ => change _ = _; kernel_rfl

set_option maxRecDepth 100000 in
set_option maxHeartbeats 2000000 in
theorem mix_any (S Kb : Nat) (v : Value) (bs : List Int) (st : St) (w : World) (hst : st.Ok) (hv : Ints .u8 w v bs) (hu : U8s bs) (hlen : bs.length = 64) (hS : Arr w S 51 st.list) (hK : Arr w Kb 53 kL) :
    Calls Try.prog 45 #[.pointer (some ⟨S, 0, none⟩), v, .pointer (some ⟨Kb, 0, none⟩)] w fun e w' => e = .returned (.tuple #[]) ∧ Arr w' S 51 (blockSt st bs 0).list ∧ w.grownBy w' (some S) := by
  obtain ⟨sc, hsc⟩ : ∃ sc, allWords bs 0 = sc := ⟨_, rfl⟩
  have hscl : sc.length = 64 := by rw [← hsc]; exact allWords_length bs 0
  have hsu : U32s sc := by rw [← hsc]; exact sched_u32 _ (blkWords_u32 _ hu _ _) _
  have hbl : blockSt st bs 0 = addSt st (comp sc kL st 64) := by unfold blockSt; rw [hsc]
  have hsch := schedule_any v bs w hv hu hlen
  rw [hsc] at hsch
  rw [hbl]
  have Hl := Lib.hid hscl
  have Hsu := Lib.hid hsu
  have Hsch := Lib.hid hsch
  clear hscl hsu hsch hbl hsc hv hu hlen
  go_enter Try.func45, Try.ntmps45
  go_wp2_with fail
  refine Hsch.out.mono ?_
  rintro e w1 ⟨rfl, hB1⟩
  have hS1 := hS.below hB1
  have hK1 := hK.below hB1
  go_wp2_with (refine wpList_store_arr rfl 53 (.tmp 6) (.tmp 21) rfl w1.heap.size (List.replicate 64 0) sc rfl rfl 53 (Arr.new w1 53 (List.replicate 64 0)) (by rw [size_arr64, Hl.out]) (by rw [Hl.out]; rfl) ?_; intro w2 hW2 hg2)
  have hB2 : Below w1.heap.size w1 w2 := ((Below.refl _ w1).alloc (Nat.le_refl _) _).grown hg2 (by simp) (fun k e => by cases e; exact Nat.le_refl _)
  have hS2 := hS1.below hB2
  have hK2 := hK1.below hB2
  have hB : Below w.heap.size w w2 := hB1.trans (hB2.mono hB1.size)
  clear hS1 hK1 hB1 hB2 hg2 hS hK
  have HS := Lib.hid hS2
  obtain ⟨c0, c1, c2, c3, c4, c5, c6, c7⟩ := hS2.st
  clear hS2
  go_wp2
  go_quiet (fail)
  clear c0 c1 c2 c3 c4 c5 c6 c7
  go_wp2
  go_loopw [7, 8, 9, 10, 11, 12, 13, 14, 54] (fun a b c d e f g h i wr => ∃ (k n : Nat) (r : St), k ≤ 64 ∧ i = .int .i64 k ∧ r = comp sc kL st k ∧ wr = w2.drewN n ∧
      a = .int .u32 r.a ∧ b = .int .u32 r.b ∧ c = .int .u32 r.c ∧ d = .int .u32 r.d ∧ e = .int .u32 r.e ∧ f = .int .u32 r.f ∧ g = .int .u32 r.g ∧ h = .int .u32 r.h)
    (fun _ _ _ _ _ _ _ _ i _ => 64 - (intOf i).toNat)
  case atStart => exact ⟨0, nq, st, Nat.zero_le _, rfl, rfl, rfl, rfl, rfl, rfl, rfl, rfl, rfl, rfl, rfl⟩
  case round =>
    obtain ⟨k, n, r, hk, rfl, hr, rfl, rfl, rfl, rfl, rfl, rfl, rfl, rfl, rfl⟩ := hrel
    have hok : r.Ok := by rw [hr]; exact comp_ok hst _ _ _
    by_cases hlt : k < 64
    · have hs : comp sc kL st (k + 1) = rnd r (kL[k]?.getD 0) (sc[k]?.getD 0) := by rw [hr]; rfl
      have hKn := hK2.drewN n
      have hWn := hW2.drewN n
      generalize hwn : w2.drewN n = wn at hKn hWn ⊢
      have ck := hKn.cell k (by show k < 64; omega)
      have cw := hWn.cell k (by rw [Hl.out]; omega)
      have uk := kL_u32 k
      have uw := Hsu.out k
      obtain ⟨x, hx⟩ : ∃ x, kL[k]?.getD 0 = x := ⟨_, rfl⟩
      obtain ⟨y, hy⟩ : ∃ y, sc[k]?.getD 0 = y := ⟨_, rfl⟩
      rw [hx] at ck uk hs
      rw [hy] at cw uw hs
      obtain ⟨a, b, c, d, e, f, g, h'⟩ := r
      obtain ⟨oa, ob, oc, od, oe, of, og, oh⟩ := hok
      have Hs := Lib.hid hs
      have T1 : Hid (∀ q, Calls Try.prog 51 #[.int .u32 e, .int .i64 6, .int .i64 11, .int .i64 25] (wn.drewN q) fun e' w'' => e' = .returned (.int .u32 (big e 6 11 25)) ∧ ∃ m, w'' = wn.drewN m) :=
        fun q => turned_quiet e 6 11 25 oe (by omega) (by omega) (by omega) q
      have T2 : Hid (∀ wx, Calls Try.prog 51 #[.int .u32 a, .int .i64 2, .int .i64 13, .int .i64 22] wx fun e' w'' => e' = .returned (.int .u32 (big a 2 13 22)) ∧ wx = w'') :=
        fun wx => turned_any a 2 13 22 oa (by omega) (by omega) (by omega) wx
      have m1 := big_u32 e 6 11 25
      have m2 := big_u32 a 2 13 22
      have Hwn := Lib.hid hwn
      clear hs hx hy hr hwn hKn hWn
      go_wp2
      go_quiet ((with_reducible exact T1.out _))
      go_wp2_with fail
      refine (T2.out _).mono ?_
      rintro e' w'' ⟨rfl, rfl⟩
      go_wp2
      go_roundw
      case rel =>
        rw [chs_or]
        exact ⟨k + 1, n + nq, rnd ⟨a, b, c, d, e, f, g, h'⟩ x y, by omega, by go_num, Hs.out.symm, by rw [← Hwn.out, World.drewN_drewN], rfl, rfl, rfl, rfl, rfl, rfl, rfl, rfl⟩
      case measure => simp [intOf]; omega
    · obtain rfl : k = 64 := by omega
      have Hr := Lib.hid hr
      clear hr
      have hSn := HS.out.drewN n
      have hBn : Below w.heap.size w (w2.drewN n) := hB.trans ⟨rfl, rfl, rfl, Nat.le_refl _, fun _ _ => rfl⟩
      generalize w2.drewN n = wn at hSn hBn ⊢
      have hA0 : st.list = (addSt st r).list.take 0 ++ st.list.drop 0 := rfl
      rw [hA0] at hSn
      clear hA0 hW2 hK2 hB
      go_wp2
      go_loopw [116] (fun i wr => ∃ k : Nat, k ≤ 8 ∧ i = .int .i64 k ∧ Arr wr S 51 ((addSt st r).list.take k ++ st.list.drop k) ∧ w.grownBy wr (some S))
        (fun i _ => 8 - (intOf i).toNat)
      case atStart => exact ⟨0, Nat.zero_le _, rfl, hSn, grown_of_below _ hBn⟩
      case round =>
        clear hSn hBn
        obtain ⟨k, hk, rfl, hA, hG⟩ := hrel
        by_cases hlt : k < 8
        · have hidx := index_st r k hlt
          have hadd := addSt_at st r k hlt
          have hck := hA.cell k (by rw [over_length k (by rw [St.len, St.len]), St.len]; exact hlt)
          rw [over_at k (by rw [St.len, St.len]) (by rw [St.len]; exact hlt)] at hck
          have u1 := St.list_u32 hst k
          have u2 := St.list_u32 hok k
          obtain ⟨x, hx⟩ : ∃ x, st.list[k]?.getD 0 = x := ⟨_, rfl⟩
          obtain ⟨y, hy⟩ : ∃ y, r.list[k]?.getD 0 = y := ⟨_, rfl⟩
          rw [hx] at hck u1 hadd
          rw [hy] at hidx u2 hadd
          have Hadd := Lib.hid hadd
          clear hx hy hadd
          go_wp2
          refine region_quiet_tail 9 (by kernel_rfl) (by kernel_rfl) ?_
          simp only [List.take_succ_cons, List.take_zero, List.drop_succ_cons, List.drop_zero]
          repeat (any_goals (first | go_big_quiet_step (fail) | quiet_step (fail)))
          refine wpQuiet_nil ?_
          intro q
          have hA2 := hA.drewN q
          have hG2 : w.grownBy (wr.drewN q) (some S) := ⟨hG.os, hG.tape, hG.output, hG.size, hG.block⟩
          change wpList _ _ _ _ _ _
          generalize wr.drewN q = wq at hA2 hG2 ⊢
          have hfr := hA2.free k
          have hce := hA2.cell k (by rw [over_length k (by rw [St.len, St.len]), St.len]; exact hlt)
          clear hA hG hck hidx
          go_wp2
          go_roundw
          case rel =>
            refine ⟨k + 1, by omega, by go_num, ?_, grownBy_trans' hG2 (grownBy_setCell _ _ _)⟩
            have hset := hA2.set k ((x + y) % 4294967296)
            rw [← Hadd.out, over_set k (by rw [St.len, St.len]) (by rw [St.len]; exact hlt), Hadd.out] at hset
            exact hset
          case measure => simp [intOf]; omega
        · obtain rfl : k = 8 := by omega
          have hA : Arr wr S 51 (addSt st r).list := hA
          go_wp2
          go_end0
          rw [← Hr.out]
          exact ⟨rfl, hA, hG⟩
end Go.Proofs.Ytjjaefacfcjgiaa
