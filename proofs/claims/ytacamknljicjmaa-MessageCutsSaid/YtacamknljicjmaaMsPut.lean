import Derived.Test.YtacamknljicjmaaMsWrite
/-
  message: Put.
-/
namespace Go.Proofs.Ytacamknljicjmaa
set_option maxRecDepth 100000
section
set_option linter.unusedVariables false
open Go.RowKit Go.Sort Go.Lib

/-- the writer behind a message -/
def putQ (m : Mm) : Int × List Int := wrS m (numS (0, []) m.K)
noncomputable def putE (m : Mm) : Int := @ite _ (MayM m) (Classical.propDecidable _) (doneE (putQ m).1 (putQ m).2) 9
noncomputable def putB (m : Mm) : List Int := @ite _ (MayM m) (Classical.propDecidable _) (doneB (putQ m).1 (putQ m).2) []
theorem bkPS_len (V H : Int) (P : ByteArray) (JV JH : Int) (JB : ByteArray) (js : List Vs) (xs : List Ts) (S : ByteArray) (p : Int × List Int) (h : p.2.length ≤ 20482) : (bkPS V H P JV JH JB js xs S p).2.length ≤ 20482 :=
  textS_le _ _ (ctWS_len _ _ (numS_le _ _ (textS_le _ _ (numS_le _ _ (numS_le _ _ (runS_len _ (bkSs_len V H P JV xs) p h))))))
theorem wrS_len (m : Mm) (p : Int × List Int) (h : p.2.length ≤ 20482) : (wrS m p).2.length ≤ 20482 := by
  unfold wrS
  split
  · exact bkPS_len _ _ _ _ _ _ _ _ _ p h
  split
  · exact pvS_len _ h
  split
  · exact ctWS_len _ _ (numS_le _ _ (textS_le _ _ (numS_le _ _ (numS_le _ _ h))))
  split
  · exact ctWS_len _ _ (numS_le _ _ h)
  split
  · exact textS_le _ _ h
  split
  · exact tsS_len _ _ h
  exact h
theorem num6_len (K : Int) : (numS (0, []) K).2.length ≤ 6 := by
  unfold numS wNumB
  simp only
  split
  · simp [wCut]
  · unfold wPut
    split
    · rw [List.nil_append, octAll_length]; exact Nat.le_refl _
    · simp

set_option maxHeartbeats 2000000 in
theorem msPut_any (m : Mm) (p : Ps) (w : World) (h : MIn w m p) (o : MOk m) :
    Calls Try.prog 6 #[.agg (msA m p)] w fun e w' => ∃ r, e = .returned (.tuple #[r, .int .i64 (putE m)]) ∧ Ints .u8 w' r (putB m) ∧ Up w w' := by
  have hu := Up.alloc (Up.refl w) (.cells (msA m p) 33)
  have HB := Lib.hid (heap_alloc_new w (.cells (msA m p) 33))
  have HU := Lib.hid hu
  have HI : Hid ((Try.prog.info? 33).map (·.size) = some (msA m p).size) := info_ms
  have M := Lib.hid (mbox m p)
  have HIN := Lib.hid h
  have HOK := Lib.hid o
  have HK : Hid (I64 m.K) := o.k
  by_cases hm : MayM m
  · have HE : Hid (putE m = doneE (putQ m).1 (putQ m).2 ∧ putB m = doneB (putQ m).1 (putQ m).2) := by
      (have e : putE m = doneE (putQ m).1 (putQ m).2 ∧ putB m = doneB (putQ m).1 (putQ m).2 := by unfold putE putB; rw [if_pos hm, if_pos hm]; exact ⟨rfl, rfl⟩)
      exact e
    have HC : Hid (Calls Try.prog 10 #[.agg (msA m p)] (w.alloc (.cells (msA m p) 33)) fun e w' => e = .returned (.int .i64 0) ∧ Up (w.alloc (.cells (msA m p) 33)) w') := by
      (have c := msCheck_any m p (w.alloc (.cells (msA m p) 33)) (h.up hu) o)
      rw [msE_ok hm] at c
      exact c
    have HWR : Hid (∀ (base g : Nat) (oi : Value) (q : Int × List Int) (wx : World), Wr wx base g oi q.1 q.2 → q.2.length ≤ 20000 → base ≤ wx.heap.size → MIn wx m p → MLt base m p → Calls Try.prog 13 #[.pointer (some ⟨g, 0, none⟩), .agg (msA m p)] wx fun e w' => e = .returned (.tuple #[]) ∧ ∃ o', Wr w' base g o' (wrS m q).1 (wrS m q).2 ∧ WrStep g oi o' wx w') := fun base g oi q wx k1 k2 k3 k4 k5 => write_any base g oi q.1 q.2 m p wx k1 k2 k3 k4 k5 o hm.1
    have HQL : Hid ((putQ m).2.length ≤ 20482) := wrS_len m _ (Nat.le_trans (num6_len m.K) (by decide))
    have HQE : Hid (putQ m = wrS m (numS (0, []) m.K)) := rfl
    have HNL := Lib.hid (num6_len m.K)
    generalize putE m = PE at *
    generalize putB m = PB at *
    generalize putQ m = PQ at *
    obtain ⟨q0, hq0⟩ : ∃ q, numS (0, []) m.K = q := ⟨_, rfl⟩
    rw [hq0] at HQE HNL
    have HQ0 := Lib.hid hq0
    generalize hcs : msA m p = cs at *
    clear h o hu hm hcs hq0
    go_enter Try.func6, Try.ntmps6
    go_wp2_with (refine wpList_ex rfl (.agg cs) _ (ex_loadrow rfl rfl _ 33 HB.out Try.underlying33 rfl HI.out) ?_)
    generalize w.alloc (.cells cs 33) = w1 at *
    generalize w.heap.size = B at HB ⊢
    with_reducible refine Calls.mono HC.out ?_
    rintro e w2 ⟨rfl, u2⟩
    have HU2 := Lib.hid (Up.trans HU.out u2)
    have HB2 := Lib.hid ((u2.block _ (lt_of_block HB.out)).trans HB.out)
    clear u2 HC
    go_wp2_with fail
    with_reducible refine Calls.mono (new_any w2) ?_
    rintro e w3 ⟨rfl, hw3⟩
    have HW3 : Hid (Wr w3 w2.heap.size w2.heap.size (.slice none 0 0) 0 []) := by subst hw3; exact wr_new w2
    have HU3 : Hid (Up w2 w3) := by subst hw3; exact Up.alloc (Up.refl _) _
    clear hw3
    have HB3 := Lib.hid ((HU3.out.block _ (lt_of_block HB2.out)).trans HB2.out)
    have HML := Lib.hid (HIN.out.up HU2.out).lt
    have HM3 := Lib.hid ((HIN.out.up HU2.out).up HU3.out)
    have HS3 : Hid (w2.heap.size ≤ w3.heap.size) := Below.size HU3.out
    have HG3 : Hid (w.heap.size ≤ w2.heap.size) := Below.size HU2.out
    generalize w2.heap.size = g at *
    have HNU := Lib.hid (wnum_any g g (.slice none 0 0) 0 [] m.K w3 HW3.out HK.out (by decide) HS3.out)
    change Hid (Calls Try.prog 12 #[.pointer (some ⟨g, 0, none⟩), .int .i64 m.K] w3 fun e w' => e = .returned (.tuple #[]) ∧ ∃ o', Wr w' g g o' (numS (0, []) m.K).1 (numS (0, []) m.K).2 ∧ WrStep g (.slice none 0 0) o' w3 w') at HNU
    rw [HQ0.out] at HNU
    generalize m.K = K at *
    clear HQ0
    go_wp2_with (refine wpList_ex rfl (.int .i64 K) _ (ex_loadcell (cs := cs) Try.isAgg3 rfl rfl _ HB3.out M.out.k) ?_)
    with_reducible refine Calls.mono HNU.out ?_
    rintro e w4 ⟨rfl, o4, k1, k2⟩
    have HW4 := Lib.hid k1
    have HT4 := Lib.hid k2
    have HB4 := Lib.hid (wr_keep k2 HW3.out HB3.out (by decide) (by decide))
    have HM4 := Lib.hid (HM3.out.below HML.out (HW3.out.below k2 HS3.out))
    have HS4 := Lib.hid (Nat.le_trans HS3.out (WrStep.size k2))
    clear k1 k2 HNU
    go_wp2_with (refine wpList_ex rfl (.agg cs) _ (ex_loadrow rfl rfl _ 33 HB4.out Try.underlying33 rfl HI.out) ?_)
    with_reducible refine Calls.mono (HWR.out g g o4 q0 w4 HW4.out (by have := HNL.out; omega) HS4.out HM4.out HML.out) ?_
    rintro e w5 ⟨rfl, o5, k1, k2⟩
    rw [← HQE.out] at k1
    have HW5 := Lib.hid k1
    have HT5 := Lib.hid (HT4.out.trans HW3.out.lt k2)
    clear k1 k2
    have HDN := Lib.hid (wdone_any g g o5 PQ.1 PQ.2 w5 HW5.out (by have := HQL.out; omega))
    go_wp2_with fail
    with_reducible refine Calls.mono HDN.out ?_
    rintro e w6 ⟨r, rfl, k1, k2⟩
    have HR6 := Lib.hid k1
    have HU6 : Hid (Up w w6) := by
      (have u5 : Below w.heap.size w3 w5 := HT5.out.1.below (Nat.le_trans HG3.out HS3.out) (fun k hk => by
        rcases hk with rfl | e
        · exact HG3.out
        · simp [Value.ownBlock] at e))
      (have s : Up w w6 := Up.trans (Below.trans (Up.trans HU2.out HU3.out) u5) k2)
      exact s
    obtain ⟨ra, rc, rfl⟩ := row_shape k1
    clear k1 k2 HDN
    go_wp2
    go_ret2
    exact ⟨.slice ra (doneB PQ.1 PQ.2).length rc, by rw [HE.out.1]; rfl, by rw [HE.out.2]; exact Ints.of_row HR6.out, HU6.out⟩
  · have HE : Hid (putE m = 9 ∧ putB m = []) := by
      (have e : putE m = 9 ∧ putB m = [] := by unfold putE putB; rw [if_neg hm, if_neg hm]; exact ⟨rfl, rfl⟩)
      exact e
    have HC : Hid (Calls Try.prog 10 #[.agg (msA m p)] (w.alloc (.cells (msA m p) 33)) fun e w' => e = .returned (.int .i64 9) ∧ Up (w.alloc (.cells (msA m p) 33)) w') := by
      (have c := msCheck_any m p (w.alloc (.cells (msA m p) 33)) (h.up hu) o)
      rw [msE_no hm] at c
      exact c
    generalize putE m = PE at *
    generalize putB m = PB at *
    generalize hcs : msA m p = cs at *
    clear h o hu hm hcs HIN HOK HK
    go_enter Try.func6, Try.ntmps6
    go_wp2_with (refine wpList_ex rfl (.agg cs) _ (ex_loadrow rfl rfl _ 33 HB.out Try.underlying33 rfl HI.out) ?_)
    with_reducible refine Calls.mono HC.out ?_
    rintro e w2 ⟨rfl, u2⟩
    have HU2 := Lib.hid (Up.trans HU.out u2)
    clear u2 HC
    go_wp2
    go_ret2
    exact ⟨.slice none 0 0, by rw [HE.out.1]; rfl, by rw [HE.out.2]; exact Ints.empty (fun _ => rfl), HU2.out⟩
end
end Go.Proofs.Ytacamknljicjmaa
