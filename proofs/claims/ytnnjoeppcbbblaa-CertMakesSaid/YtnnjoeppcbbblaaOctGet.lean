import Derived.Test.YtnnjoeppcbbblaaBase
namespace Go.Proofs.Ytnnjoeppcbbblaa
open Go.RowKit
set_option linter.unusedVariables false

set_option maxHeartbeats 400000 in
theorem get_any (v : Value) (bs : List Int) (w : World) (hv : Ints .u8 w v bs) (hu : U8s bs) (hlen : bs.length ≤ 9223372036854775807) :
    Calls Try.prog 60 #[v] w fun e w' => e = .returned (.int .i64 (getB bs)) ∧ w = w' := by
  obtain ⟨a, cap, rfl, hcap, hnil, hcell⟩ := hv
  go_enter Try.func60, Try.ntmps60
  go_wp2
  go_loop [3, 8] (fun n i => ∃ k : Nat, k ≤ bs.length ∧ i = .int .i64 k ∧ n = .int .u64 (getB (bs.take k))) (fun _ i => bs.length - (intOf i).toNat)
  case atStart => exact ⟨0, Nat.zero_le _, rfl, rfl⟩
  case round =>
    obtain ⟨k, hk, rfl, rfl⟩ := hrel
    by_cases hlt : k < bs.length
    · rcases hcell with rfl | ⟨b, off, rfl, hc⟩
      · simp at hlt
      have hck := hc k hlt
      have huk := hu k hlt
      have hg := getB_range (bs.take k)
      have hs : getB (bs.take (k + 1)) = getStep (getB (bs.take k)) (bs[k]?.getD 0) := by rw [take_snoc bs k hlt, getB_snoc]
      have hr := get_round (getB (bs.take k)) (bs[k]?.getD 0) hg.1 huk.1 huk.2
      rw [← hs] at hr
      obtain ⟨o, ho⟩ : ∃ o, bs[k]?.getD 0 = o := ⟨_, rfl⟩
      rw [ho] at hck huk hr
      have Hr := Lib.hid hr
      clear hc hu hs ho hr
      go_wp2
      go_round
      case rel => exact ⟨k + 1, by omega, by go_num, by rw [← Hr.out]⟩
      case measure => simp [intOf]; omega
    · obtain rfl : k = bs.length := by omega
      have hg := getB_range bs
      have ht : bs.take bs.length = bs := List.take_length
      rw [ht]
      clear ht
      go_wp2
      go_ret
      exact ⟨rfl, rfl⟩
/-- Get in a statement that leaves its order open -/
theorem get_quiet (v : Value) (bs : List Int) (w : World) (hv : Ints .u8 w v bs) (hu : U8s bs) (hlen : bs.length ≤ 9223372036854775807) (G : Int) (hG : getB bs = G) (n : Nat) :
    Calls Try.prog 60 #[v] (w.drewN n) fun e w'' => e = .returned (.int .i64 G) ∧ ∃ m, w'' = w.drewN m :=
  (get_any v bs (w.drewN n) (hv.drewN n) hu hlen).mono fun _ _ ⟨he, hm⟩ => ⟨by rw [he, hG], n, hm.symm⟩
end Go.Proofs.Ytnnjoeppcbbblaa
