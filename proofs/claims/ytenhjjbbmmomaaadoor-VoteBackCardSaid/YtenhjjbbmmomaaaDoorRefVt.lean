import Derived.Test.YtenhjjbbmmomaaaDoorVtCheck
/-
  The reference: whether a statement may be.
-/
namespace Go.Proofs.YtenhjjbbmmomaaaDoor
set_option maxRecDepth 100000
section
set_option linter.unusedVariables false
open Go.RowKit

set_option maxHeartbeats 4000000 in
theorem refVt_any (v : Vt) (S : ByteArray) (w : World) :
    Calls Tryd.prog 7 #[.agg (vtC v S)] w fun e w' => e = .returned (.int .i64 (vtE v S)) ∧ Up w w' := by
  obtain ⟨K, V, H, B, T, G⟩ := v
  have hM : (vtMay ⟨K, V, H, B, T, G⟩ ∧ S.size ≤ 4096) ↔ ((1 ≤ K ∧ K ≤ 4) ∧ (0 ≤ V ∧ V ≤ 1048576) ∧ (0 ≤ G ∧ G ≤ 6) ∧ ((K = 4 ∧ H = 0 ∧ B.length = 0) ∨ (K ≠ 4 ∧ (0 ≤ H ∧ H ≤ 1048576) ∧ B.length = 32)) ∧ ((K = 3 ∧ 1 ≤ T ∧ T ≤ 1048576) ∨ (K ≠ 3 ∧ T = 0))) ∧ S.size ≤ 4096 := by
    by_cases hk : K = 4 <;> by_cases hk3 : K = 3 <;> simp [vtMay, vtBlk, vtTck, hk, hk3]
  have bad : ¬ (((1 ≤ K ∧ K ≤ 4) ∧ (0 ≤ V ∧ V ≤ 1048576) ∧ (0 ≤ G ∧ G ≤ 6) ∧ ((K = 4 ∧ H = 0 ∧ B.length = 0) ∨ (K ≠ 4 ∧ (0 ≤ H ∧ H ≤ 1048576) ∧ B.length = 32)) ∧ ((K = 3 ∧ 1 ≤ T ∧ T ≤ 1048576) ∨ (K ≠ 3 ∧ T = 0))) ∧ S.size ≤ 4096) → vtE ⟨K, V, H, B, T, G⟩ S = 9 := fun h => if_neg (fun h2 => h (hM.1 h2))
  have good : ((1 ≤ K ∧ K ≤ 4) ∧ (0 ≤ V ∧ V ≤ 1048576) ∧ (0 ≤ G ∧ G ≤ 6) ∧ ((K = 4 ∧ H = 0 ∧ B.length = 0) ∨ (K ≠ 4 ∧ (0 ≤ H ∧ H ≤ 1048576) ∧ B.length = 32)) ∧ ((K = 3 ∧ 1 ≤ T ∧ T ≤ 1048576) ∨ (K ≠ 3 ∧ T = 0))) ∧ S.size ≤ 4096 → vtE ⟨K, V, H, B, T, G⟩ S = 0 := fun h => if_pos (hM.2 h)
  generalize vtE ⟨K, V, H, B, T, G⟩ S = E at bad good ⊢
  have hb : B.length = (strOfNums B).size := (strOfNums_size B).symm
  have hz : B.length = 0 → strOfNums B = ⟨#[]⟩ := fun h => strNil (List.eq_nil_of_length_eq_zero h)
  have hz2 : B.length ≠ 0 → ((strOfNums B).toList == []) = false := by
    intro hB
    rw [beq_eq_false_iff_ne]
    intro h
    refine hB ?_
    rw [hb, ← ByteArray.size_data, ← Array.length_toList, ← ByteArray.toList_eq, h]; rfl
  unfold vtC
  simp only
  clear hM
  generalize hBL : B.length = bl at bad good hz hz2 hb
  clear hBL
  generalize strOfNums B = BS at hz hz2 hb ⊢
  by_cases g0 : K < 1
  · skip
    rw [bad (by omega)]
    clear bad good hz hz2
    clear hb
    go_enter Tryd.func7, Tryd.ntmps7
    go_wp2
    go_ret
    exact ⟨rfl, Up.alloc (Up.refl w) _⟩
  by_cases g1 : 4 < K
  · skip
    rw [bad (by omega)]
    clear bad good hz hz2
    clear hb
    go_enter Tryd.func7, Tryd.ntmps7
    go_wp2
    go_ret
    exact ⟨rfl, Up.alloc (Up.refl w) _⟩
  by_cases g2 : V < 0
  · skip
    rw [bad (by omega)]
    clear bad good hz hz2
    clear hb
    go_enter Tryd.func7, Tryd.ntmps7
    go_wp2
    go_ret
    exact ⟨rfl, Up.alloc (Up.refl w) _⟩
  by_cases g3 : 1048576 < V
  · skip
    rw [bad (by omega)]
    clear bad good hz hz2
    clear hb
    go_enter Tryd.func7, Tryd.ntmps7
    go_wp2
    go_ret
    exact ⟨rfl, Up.alloc (Up.refl w) _⟩
  by_cases g4 : H < 0
  · skip
    rw [bad (by omega)]
    clear bad good hz hz2
    clear hb
    go_enter Tryd.func7, Tryd.ntmps7
    go_wp2
    go_ret
    exact ⟨rfl, Up.alloc (Up.refl w) _⟩
  by_cases g5 : 1048576 < H
  · skip
    rw [bad (by omega)]
    clear bad good hz hz2
    clear hb
    go_enter Tryd.func7, Tryd.ntmps7
    go_wp2
    go_ret
    exact ⟨rfl, Up.alloc (Up.refl w) _⟩
  by_cases g6 : G < 0
  · skip
    rw [bad (by omega)]
    clear bad good hz hz2
    clear hb
    go_enter Tryd.func7, Tryd.ntmps7
    go_wp2
    go_ret
    exact ⟨rfl, Up.alloc (Up.refl w) _⟩
  by_cases g7 : 6 < G
  · skip
    rw [bad (by omega)]
    clear bad good hz hz2
    clear hb
    go_enter Tryd.func7, Tryd.ntmps7
    go_wp2
    go_ret
    exact ⟨rfl, Up.alloc (Up.refl w) _⟩
  by_cases g8 : 4096 < S.size
  · have g8i : (4096 : Int) < (S.size : Int) := by omega
    rw [bad (by omega)]
    clear bad good hz hz2
    clear hb
    go_enter Tryd.func7, Tryd.ntmps7
    go_wp2
    go_ret
    exact ⟨rfl, Up.alloc (Up.refl w) _⟩
  have g8i : ¬ (4096 : Int) < (S.size : Int) := by omega
  by_cases hK4 : K = 4
  · by_cases hH : H = 0
    · by_cases hB : bl = 0
      · have hs := hz hB
        by_cases t1 : T = 0
        · skip
          rw [good (by omega)]
          clear bad good hz hz2
          subst hs
          subst hH
          subst hK4
          clear hB
          subst t1
          clear hb
          go_enter Tryd.func7, Tryd.ntmps7
          go_wp2
          go_ret
          exact ⟨rfl, Up.alloc (Up.refl w) _⟩
        · skip
          rw [bad (by omega)]
          clear bad good hz hz2
          subst hs
          subst hH
          subst hK4
          clear hB
          have et : (T == 0) = false := by rw [beq_eq_false_iff_ne]; exact t1
          have et2 : (T != 0) = true := by rw [bne, et]; rfl
          clear hb
          go_enter Tryd.func7, Tryd.ntmps7
          go_wp2
          go_ret
          exact ⟨rfl, Up.alloc (Up.refl w) _⟩
      · have hs := hz2 hB
        rw [bad (by omega)]
        clear bad good hz hz2
        subst hH
        subst hK4
        clear hB
        clear hb
        go_enter Tryd.func7, Tryd.ntmps7
        go_wp2
        go_ret
        exact ⟨rfl, Up.alloc (Up.refl w) _⟩
    · have eh : (H == 0) = false := by rw [beq_eq_false_iff_ne]; exact hH
      have eh2 : (H != 0) = true := by rw [bne, eh]; rfl
      rw [bad (by omega)]
      clear bad good hz hz2
      subst hK4
      clear hb
      go_enter Tryd.func7, Tryd.ntmps7
      go_wp2
      go_ret
      exact ⟨rfl, Up.alloc (Up.refl w) _⟩
  · have ek4 : (K == 4) = false := by rw [beq_eq_false_iff_ne]; exact hK4
    have ek42 : (K != 4) = true := by rw [bne, ek4]; rfl
    by_cases hB : bl = 32
    · have hs : (BS.size : Int) = 32 := by omega
      by_cases hK3 : K = 3
      · skip
        by_cases t1 : T < 1
        · skip
          rw [bad (by omega)]
          clear bad good hz hz2
          subst hK3
          clear hB
          clear hb
          go_enter Tryd.func7, Tryd.ntmps7
          go_wp2
          go_ret
          exact ⟨rfl, Up.alloc (Up.refl w) _⟩
        by_cases t2 : 1048576 < T
        · skip
          rw [bad (by omega)]
          clear bad good hz hz2
          subst hK3
          clear hB
          clear hb
          go_enter Tryd.func7, Tryd.ntmps7
          go_wp2
          go_ret
          exact ⟨rfl, Up.alloc (Up.refl w) _⟩
        rw [good (by omega)]
        clear bad good hz hz2
        subst hK3
        clear hB
        clear hb
        go_enter Tryd.func7, Tryd.ntmps7
        go_wp2
        go_ret
        exact ⟨rfl, Up.alloc (Up.refl w) _⟩
      · have ek3 : (K == 3) = false := by rw [beq_eq_false_iff_ne]; exact hK3
        have ek32 : (K != 3) = true := by rw [bne, ek3]; rfl
        by_cases t1 : T = 0
        · skip
          rw [good (by omega)]
          clear bad good hz hz2
          clear hB
          subst t1
          clear hb
          go_enter Tryd.func7, Tryd.ntmps7
          go_wp2
          go_ret
          exact ⟨rfl, Up.alloc (Up.refl w) _⟩
        · skip
          rw [bad (by omega)]
          clear bad good hz hz2
          clear hB
          have et : (T == 0) = false := by rw [beq_eq_false_iff_ne]; exact t1
          have et2 : (T != 0) = true := by rw [bne, et]; rfl
          clear hb
          go_enter Tryd.func7, Tryd.ntmps7
          go_wp2
          go_ret
          exact ⟨rfl, Up.alloc (Up.refl w) _⟩
    · have hs : ((BS.size : Int) == 32) = false := by rw [beq_eq_false_iff_ne]; omega
      rw [bad (by omega)]
      clear bad good hz hz2
      clear hB
      clear hb
      go_enter Tryd.func7, Tryd.ntmps7
      go_wp2
      go_ret
      exact ⟨rfl, Up.alloc (Up.refl w) _⟩
end
end Go.Proofs.YtenhjjbbmmomaaaDoor
