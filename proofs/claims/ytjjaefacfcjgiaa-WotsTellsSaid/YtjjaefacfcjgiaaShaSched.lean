import Derived.Laws.Rows
import Derived.Test.YtjjaefacfcjgiaaQuietTail
import Derived.Test.YtjjaefacfcjgiaaWordAny
import Derived.Test.YtjjaefacfcjgiaaShaTurn
import Derived.Test.YtjjaefacfcjgiaaArr
/-
  The words of a block.
-/
namespace Go.Proofs.Ytjjaefacfcjgiaa
set_option linter.unusedVariables false
open Go.RowKit

theorem size_arr64 : (Try.prog.info? 53).map (·.size) = some 64 := by kernel_rfl

theorem Calls.quiet_same {P : Program} {f : FuncId} {args : Array Value} {w : World} {n : Nat} {v : Value} (h : Calls P f args (w.drewN n) fun e w' => e = .returned v ∧ ∃ m, w' = (w.drewN n).drewN m) :
    Calls P f args (w.drewN n) fun e w'' => e = .returned v ∧ ∃ m, w'' = w.drewN m := Calls.quiet_of h

set_option maxRecDepth 100000 in
set_option maxHeartbeats 1000000 in
theorem schedule_any (v : Value) (bs : List Int) (w : World) (hv : Ints .u8 w v bs) (hu : U8s bs) (hlen : bs.length = 64) :
    Calls Try.prog 50 #[v] w fun e w' => e = .returned (.agg ((allWords bs 0).map (Value.int .u32)).toArray) ∧ Below w.heap.size w w' := by
  have Hlen := Lib.hid hlen
  have Hu := Lib.hid hu
  have Hv := Lib.hid hv
  clear hlen hu hv
  go_enter Try.func50, Try.ntmps50
  go_wp2
  go_loopw [4, 7] (fun _ i wr => ∃ k : Nat, k ≤ 16 ∧ i = .int .i64 k ∧ Arr wr (w.heap.size + 1) 53 (fill64 (blkWords bs 0 k)) ∧ Arr wr w.heap.size 53 (List.replicate 64 0) ∧ Below w.heap.size w wr)
    (fun _ i _ => 16 - (intOf i).toNat)
  case atStart =>
    exact ⟨0, Nat.zero_le _, rfl, heap_alloc2_new w _ _, heap_alloc2_old w _ _, ((Below.refl _ w).alloc (Nat.le_refl _) _).alloc (by simp) _⟩
  case round =>
    obtain ⟨k, hk, rfl, hA, hR, hB⟩ := hrel
    by_cases hlt : k < 16
    · have hword := word_in v bs (4 * k)
      have hs := blkWords_succ bs 0 k
      rw [Nat.zero_add] at hs
      have hl := blkWords_length bs 0 k
      have Hs := Lib.hid hs
      have Hl := Lib.hid hl
      have hi4 : ((4 * k : Nat) : Int) = 4 * (k : Int) := by omega
      rw [hi4] at hword
      have Hw := Lib.hid hword
      clear hword hs hl hi4
      go_wp2_with fail
      refine (Hw.out _ (Hv.out.kept hB) Hu.out (by have := Hlen.out; omega) (by have := Hlen.out; omega)).mono ?_
      rintro e w1 ⟨rfl, hB1⟩
      have hA1 := hA.below hB1
      have hR1 := hR.below hB1
      have hB2 := hB.trans (hB1.mono hB.size)
      have hfr := hA1.free k
      have hce := hA1.cell k (by rw [fill64_length _ (by have := Hl.out; omega)]; omega)
      go_wp2
      go_roundw
      case rel =>
        refine ⟨k + 1, by omega, by go_num, ?_, hR1.other (by simp) _, hB2.setCell (by simp) _⟩
        have := hA1.set k (wordUp bs (4 * k) 4)
        rw [Hs.out, ← fill64_set _ _ (by have := Hl.out; omega), Hl.out]
        exact this
      case measure => simp [intOf]; omega
    · obtain rfl : k = 16 := by omega
      have h16 : sched (blkWords bs 0 16) 0 = blkWords bs 0 16 := rfl
      rw [← h16] at hA
      clear h16
      have HB := Lib.hid hB
      clear hB
      go_wp2
      go_loopw [17] (fun i wr => ∃ k : Nat, k ≤ 48 ∧ i = .int .i64 k ∧ Arr wr (w.heap.size + 1) 53 (fill64 (sched (blkWords bs 0 16) k)) ∧ Arr wr w.heap.size 53 (List.replicate 64 0) ∧ Below w.heap.size w wr)
        (fun i _ => 48 - (intOf i).toNat)
      case atStart => exact ⟨0, Nat.zero_le _, rfl, hA, hR, HB.out⟩
      case round =>
        clear hA hR
        obtain ⟨k, hk, rfl, hA, hR, hB⟩ := hrel
        by_cases hlt : k < 48
        · obtain ⟨l, hl⟩ : ∃ l, sched (blkWords bs 0 16) k = l := ⟨_, rfl⟩
          have hll : l.length = 16 + k := by rw [← hl, sched_length, blkWords_length]
          have hu32 : U32s l := by rw [← hl]; exact sched_u32 _ (blkWords_u32 _ Hu.out _ _) _
          have hs : sched (blkWords bs 0 16) (k + 1) = l ++ [schedNext l] := by rw [← hl]; rfl
          rw [hl] at hA
          obtain ⟨t, ht⟩ : ∃ t : Nat, t = 16 + k := ⟨_, rfl⟩
          rw [← ht] at hll
          have hc : ∀ j, j < t → wr.cell? ⟨w.heap.size + 1, j, none⟩ = some (.int .u32 (l[j]?.getD 0)) := by
            intro j hj
            rw [hA.cell j (by rw [fill64_length _ (by omega)]; omega), fill64_at l j (by omega)]
          have hn : schedNext l = (sml (l[t - 2]?.getD 0) 17 19 10 + l[t - 7]?.getD 0 + sml (l[t - 15]?.getD 0) 7 18 3 + l[t - 16]?.getD 0) % 4294967296 := by unfold schedNext; rw [hll]
          have c2 := hc (t - 2) (by omega)
          have c7 := hc (t - 7) (by omega)
          have c15 := hc (t - 15) (by omega)
          have c16 := hc (t - 16) (by omega)
          have u2 := hu32 (t - 2)
          have u7 := hu32 (t - 7)
          have u15 := hu32 (t - 15)
          have u16 := hu32 (t - 16)
          obtain ⟨x2, e2⟩ : ∃ x, l[t - 2]?.getD 0 = x := ⟨_, rfl⟩
          obtain ⟨x7, e7⟩ : ∃ x, l[t - 7]?.getD 0 = x := ⟨_, rfl⟩
          obtain ⟨x15, e15⟩ : ∃ x, l[t - 15]?.getD 0 = x := ⟨_, rfl⟩
          obtain ⟨x16, e16⟩ : ∃ x, l[t - 16]?.getD 0 = x := ⟨_, rfl⟩
          rw [e2] at c2 u2 hn
          rw [e7] at c7 u7 hn
          rw [e15] at c15 u15 hn
          rw [e16] at c16 u16 hn
          obtain ⟨t2, f2⟩ : ∃ x, t - 2 = x := ⟨_, rfl⟩
          obtain ⟨t7, f7⟩ : ∃ x, t - 7 = x := ⟨_, rfl⟩
          obtain ⟨t15, f15⟩ : ∃ x, t - 15 = x := ⟨_, rfl⟩
          obtain ⟨t16, f16⟩ : ∃ x, t - 16 = x := ⟨_, rfl⟩
          rw [f2] at c2
          rw [f7] at c7
          rw [f15] at c15
          rw [f16] at c16
          have w2 : IntKind.i64.wrap ((t : Int) - 2) = t2 := by rw [IntWalk.i64_in _ (by omega)]; omega
          have w7 : IntKind.i64.wrap ((t : Int) - 7) = t7 := by rw [IntWalk.i64_in _ (by omega)]; omega
          have w15 : IntKind.i64.wrap ((t : Int) - 15) = t15 := by rw [IntWalk.i64_in _ (by omega)]; omega
          have w16 : IntKind.i64.wrap ((t : Int) - 16) = t16 := by rw [IntWalk.i64_in _ (by omega)]; omega
          have b2 : t2 < 64 ∧ t7 < 64 ∧ t15 < 64 ∧ t16 < 64 ∧ t < 64 := by omega
          have h16 : (16 : Int) + (k : Int) = (t : Int) := by omega
          have s1 : ∀ q, Calls Try.prog 55 #[.int .u32 x2, .int .i64 17, .int .i64 19, .int .i64 10] (wr.drewN q) fun e w'' => e = .returned (.int .u32 (sml x2 17 19 10)) ∧ ∃ m, w'' = wr.drewN m :=
            fun q => Calls.quiet_of (shifted_any x2 17 19 10 u2 (by omega) (by omega) (by omega) _)
          have s2 : ∀ q, Calls Try.prog 55 #[.int .u32 x15, .int .i64 7, .int .i64 18, .int .i64 3] (wr.drewN q) fun e w'' => e = .returned (.int .u32 (sml x15 7 18 3)) ∧ ∃ m, w'' = wr.drewN m :=
            fun q => Calls.quiet_of (shifted_any x15 7 18 3 u15 (by omega) (by omega) (by omega) _)
          have m1 := sml_u32 x2 17 19 10
          have m2 := sml_u32 x15 7 18 3
          have Hs := Lib.hid hs
          have Hn := Lib.hid hn
          have Hll := Lib.hid hll
          have S1 := Lib.hid s1
          have S2 := Lib.hid s2
          have Ht := Lib.hid ht
          clear hs hn hll s1 s2 ht hc hu32 e2 e7 e15 e16 f2 f7 f15 f16 hl
          go_wp2
          refine region_quiet_tail 23 (by kernel_rfl) (by kernel_rfl) ?_
          simp only [List.take_succ_cons, List.take_zero, List.drop_succ_cons, List.drop_zero]
          repeat (any_goals (first | go_big_quiet_step ((with_reducible (first | exact S1.out _ | exact S2.out _))) | quiet_step ((with_reducible (first | exact S1.out _ | exact S2.out _)))))
          refine wpQuiet_nil ?_
          intro q
          have hA2 := hA.drewN q
          have hR2 := hR.drewN q
          have hB2 : Below w.heap.size w (wr.drewN q) := hB.trans ⟨rfl, rfl, rfl, Nat.le_refl _, fun _ _ => rfl⟩
          change wpList _ _ _ _ _ _
          generalize wr.drewN q = wq at hA2 hR2 hB2 ⊢
          have hfr := hA2.free t
          have hce := hA2.cell t (by rw [fill64_length _ (by have := Hll.out; omega)]; omega)
          clear hA hR hB S1 S2 w2 w7 w15 w16 c2 c7 c15 c16
          go_wp2
          go_roundw
          case rel =>
            refine ⟨k + 1, by omega, by go_num, ?_, hR2.other (by simp) _, hB2.setCell (by simp) _⟩
            have hset := hA2.set t (schedNext l)
            rw [← Hll.out, fill64_set _ _ (by have := Hll.out; omega), ← Hs.out, Hll.out] at hset
            rw [← Hn.out]; exact hset
          case measure => simp [intOf]; omega
        · obtain rfl : k = 48 := by omega
          have hf : fill64 (sched (blkWords bs 0 16) 48) = allWords bs 0 := fill64_full _ (allWords_length bs 0)
          rw [hf] at hA
          clear hf
          have hl := allWords_length bs 0
          obtain ⟨l, hle⟩ : ∃ l, allWords bs 0 = l := ⟨_, rfl⟩
          rw [hle] at hA hl
          have Hle := Lib.hid hle
          clear hle
          have Hl := Lib.hid hl
          clear hl
          go_wp2_with (first | (refine wpList_load_row rfl 53 (.tmp 3) rfl _ rfl 53 _ (0, 0) _ hA Try.underlying53 rfl (by rw [size_arr64]; simp [Hl.out]) ?_) | (refine wpList_store_row rfl 53 (.tmp 2) (.tmp 46) rfl _ _ rfl rfl 53 _ hR (by rw [size_arr64]; simp [Hl.out]) (by simp [Hl.out]) (oneCell_words l) ?_))
          have hR2 := hR.setRow l
          exact bodyPost_ret (results_cell_row rfl _ _ w.heap.size 53 _ (0, 0) _ rfl hR2 Try.underlying53 rfl (by rw [size_arr64]; simp [Hl.out])) rfl ⟨by rw [Hle.out], hB.grown (grownBy_setRow _ _ _) hB.size (fun j e => by cases e; exact Nat.le_refl _)⟩
end Go.Proofs.Ytjjaefacfcjgiaa
