import Derived.Test.YtkelbilcjgndmaaTxCheck
/-
  The reference: whether a transaction may be.
-/
namespace Go.Proofs.Ytkelbilcjgndmaa
set_option maxRecDepth 100000
section
set_option linter.unusedVariables false
open Go.RowKit

set_option maxHeartbeats 1000000 in
theorem refTx_any (f t a n : Int) (S : ByteArray) (w : World) :
    Calls Try.prog 18 #[.agg (txC f t a n S)] w fun e w' => e = .returned (.int .i64 (txE f t a n S)) ∧ Up w w' := by
  obtain ⟨E, hE⟩ : ∃ E, txE f t a n S = E := ⟨_, rfl⟩
  rw [hE]
  unfold txC
  have bad : ∀ (W : World), Up w W → (¬ (((0 ≤ f ∧ f ≤ 3) ∧ (0 ≤ t ∧ t ≤ 3) ∧ (1 ≤ a ∧ a ≤ 1000) ∧ (0 ≤ n ∧ n ≤ 1099511627776)) ∧ f ≠ t ∧ S.size ≤ 4096)) → Ending.returned (Value.int .i64 9) = Ending.returned (.int .i64 E) ∧ Up w W := by
    intro W hU hn
    rw [← hE, show txE f t a n S = 9 from if_neg hn]
    exact ⟨rfl, hU⟩
  have good : ∀ (W : World), Up w W → ((((0 ≤ f ∧ f ≤ 3) ∧ (0 ≤ t ∧ t ≤ 3) ∧ (1 ≤ a ∧ a ≤ 1000) ∧ (0 ≤ n ∧ n ≤ 1099511627776)) ∧ f ≠ t ∧ S.size ≤ 4096)) → Ending.returned (Value.int .i64 0) = Ending.returned (.int .i64 E) ∧ Up w W := by
    intro W hU hn
    rw [← hE, show txE f t a n S = 0 from if_pos hn]
    exact ⟨rfl, hU⟩
  have Bad := Lib.hid bad
  have Good := Lib.hid good
  clear bad good hE
  by_cases h1 : f < 0
  · go_enter Try.func18, Try.ntmps18
    go_wp2
    go_ret
    exact Bad.out _ (Up.alloc (Up.refl w) _) (by omega)
  by_cases h2 : 3 < f
  · go_enter Try.func18, Try.ntmps18
    go_wp2
    go_ret
    exact Bad.out _ (Up.alloc (Up.refl w) _) (by omega)
  by_cases h3 : t < 0
  · go_enter Try.func18, Try.ntmps18
    go_wp2
    go_ret
    exact Bad.out _ (Up.alloc (Up.refl w) _) (by omega)
  by_cases h4 : 3 < t
  · go_enter Try.func18, Try.ntmps18
    go_wp2
    go_ret
    exact Bad.out _ (Up.alloc (Up.refl w) _) (by omega)
  by_cases h5 : f = t
  · have Hft := Lib.hid h5
    have e1 : (f == t) = true := by rw [beq_iff_eq]; exact h5
    clear h5
    go_enter Try.func18, Try.ntmps18
    go_wp2
    go_ret
    exact Bad.out _ (Up.alloc (Up.refl w) _) (fun h => h.2.1 Hft.out)
  have e1 : (f == t) = false := by rw [beq_eq_false_iff_ne]; exact h5
  by_cases h6 : a < 1
  · go_enter Try.func18, Try.ntmps18
    go_wp2
    go_ret
    exact Bad.out _ (Up.alloc (Up.refl w) _) (by omega)
  by_cases h7 : 1000 < a
  · go_enter Try.func18, Try.ntmps18
    go_wp2
    go_ret
    exact Bad.out _ (Up.alloc (Up.refl w) _) (by omega)
  by_cases h8 : n < 0
  · go_enter Try.func18, Try.ntmps18
    go_wp2
    go_ret
    exact Bad.out _ (Up.alloc (Up.refl w) _) (by omega)
  by_cases h9 : 1099511627776 < n
  · go_enter Try.func18, Try.ntmps18
    go_wp2
    go_ret
    exact Bad.out _ (Up.alloc (Up.refl w) _) (by omega)
  by_cases h10 : S.size ≤ 4096
  · have h11 : ¬ (4096 : Int) < (S.size : Int) := by omega
    have Hft := Lib.hid h5
    clear h5
    go_enter Try.func18, Try.ntmps18
    go_wp2
    go_ret
    exact Good.out _ (Up.alloc (Up.refl w) _) ⟨by omega, Hft.out, h10⟩
  · have h11 : (4096 : Int) < (S.size : Int) := by omega
    have Hft := Lib.hid h5
    clear h5
    go_enter Try.func18, Try.ntmps18
    go_wp2
    go_ret
    exact Bad.out _ (Up.alloc (Up.refl w) _) (fun h => h10 h.2.2)
end
end Go.Proofs.Ytkelbilcjgndmaa
