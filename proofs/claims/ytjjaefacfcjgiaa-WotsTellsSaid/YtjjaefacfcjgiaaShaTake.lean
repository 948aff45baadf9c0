import Derived.Test.YtjjaefacfcjgiaaShaMix
/-
  The state goes through blocks.
-/
namespace Go.Proofs.Ytjjaefacfcjgiaa
set_option linter.unusedVariables false
open Go.RowKit

set_option maxRecDepth 100000 in
set_option maxHeartbeats 1000000 in
theorem take_any (S Kb : Nat) (v : Value) (xs : List Int) (st : St) (w : World) (hst : st.Ok) (hv : IntsOff S .u8 w v xs) (hu : U8s xs) (hlen : xs.length ≤ 281474976710656) (hS : Arr w S 51 st.list) (hK : Arr w Kb 53 kL) (hne : Kb ≠ S) :
    Calls Try.prog 36 #[.pointer (some ⟨S, 0, none⟩), v, .pointer (some ⟨Kb, 0, none⟩)] w fun e w' => e = .returned (.tuple #[]) ∧ Arr w' S 51 (takeSt st xs (xs.length / 64)).list ∧ w.grownBy w' (some S) := by
  have hv0 := hv
  obtain ⟨a, cap, rfl, hcap, _⟩ := hv0
  have Hv := Lib.hid hv
  have Hu := Lib.hid hu
  clear hv hu
  go_enter Try.func36, Try.ntmps36
  go_wp2
  go_loopw [10] (fun i wr => ∃ k : Nat, k ≤ xs.length / 64 ∧ i = .int .i64 k ∧ Arr wr S 51 (takeSt st xs k).list ∧ w.grownBy wr (some S))
    (fun i _ => xs.length / 64 - (intOf i).toNat)
  case atStart => exact ⟨0, Nat.zero_le _, rfl, hS, World.grownBy.refl _ _⟩
  case round =>
    clear hS
    obtain ⟨k, hk, rfl, hA, hG⟩ := hrel
    by_cases hlt : k < xs.length / 64
    · have hvr := Hv.out.grown hG
      obtain ⟨a', cap', he, _, _, hc⟩ := hvr
      simp only [Value.slice.injEq, true_and] at he
      obtain ⟨rfl, rfl⟩ := he
      rcases hc with rfl | ⟨b, off, rfl, hb, hc⟩
      · simp at hlt
      have hsc := takeSt_succ st xs k
      have hI : Ints .u8 wr (.slice (some ⟨b, off + k * 64, none⟩) ((k + 1) * 64 - k * 64) (cap - k * 64)) (blockOf xs (64 * k)) := by
        have hl := blockOf_length xs (64 * k) (by omega)
        have e1 : (k + 1) * 64 - k * 64 = (blockOf xs (64 * k)).length := by rw [hl]; omega
        refine ⟨_, cap - k * 64, by rw [e1], by rw [hl]; omega, by simp, .inr ⟨b, off + k * 64, rfl, fun j hj => ?_⟩⟩
        rw [hl] at hj
        rw [blockOf_at xs _ j hj, show off + k * 64 + j = off + (64 * k + j) from by omega]
        exact hc _ (by omega)
      have hm := mix_any S Kb _ (blockOf xs (64 * k)) (takeSt st xs k) wr (takeSt_ok hst _ _) hI (blockOf_u8s xs Hu.out _) (blockOf_length xs (64 * k) (by omega)) hA (hK.grown hG (fun e => hne (Option.some.inj e)))
      rw [← hsc] at hm
      have Hm := Lib.hid hm
      have hnc : ¬ cap = k * 64 := by omega
      have hk1 : k * 64 ≤ (k + 1) * 64 := by omega
      have hk2 : (k + 1) * 64 ≤ xs.length := by omega
      clear hm hI hsc hc
      go_wp2_with fail
      refine Hm.out.mono ?_
      rintro e w2 ⟨rfl, hA2, hG2⟩
      have hG3 := grownBy_trans' hG hG2
      clear hA hG hG2
      go_wp2
      go_roundw
      case rel => exact ⟨k + 1, by omega, by go_num, hA2, hG3⟩
      case measure => simp [intOf]; omega
    · obtain rfl : k = xs.length / 64 := by omega
      go_wp2
      go_end0
      exact ⟨rfl, hA, hG⟩
end Go.Proofs.Ytjjaefacfcjgiaa
