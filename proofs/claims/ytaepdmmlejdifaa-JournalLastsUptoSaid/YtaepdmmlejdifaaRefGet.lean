import Derived.Test.YtaepdmmlejdifaaOct
namespace Go.Proofs.Ytaepdmmlejdifaa
set_option linter.unusedVariables false
open Go.RowKit

set_option maxHeartbeats 400000 in
theorem refGet_any (v : Value) (bs : List Int) (w : World) (hv : Ints .u8 w v bs) (hu : U8s bs) (hlen : bs.length ≤ 9223372036854775807) :
    Calls Try.prog 25 #[v] w fun e w' => e = .returned (.int .i64 (getB bs)) ∧ w = w' := by
  obtain ⟨a, cap, rfl, hcap, hnil, hcell⟩ := hv
  go_enter Try.func25, Try.ntmps25
  go_wp2
  go_loop [3, 4] (fun n i => ∃ k : Nat, k ≤ bs.length ∧ i = .int .i64 k ∧ n = .int .u64 (getB (bs.take k))) (fun _ i => bs.length - (intOf i).toNat)
  case atStart => exact ⟨0, Nat.zero_le _, rfl, rfl⟩
  case round =>
    obtain ⟨k, hk, rfl, rfl⟩ := hrel
    by_cases hlt : k < bs.length
    · rcases hcell with rfl | ⟨b, off, rfl, hc⟩
      · simp at hlt
      have hck := hc k hlt
      have huk := hu k hlt
      have hg := getB_range (bs.take k)
      have hs : getB (bs.take (k + 1)) = getStep (getB (bs.take k)) (bs[k]?.getD 0) := by rw [take_snoc bs k hlt, getB_snoc]
      have hr := get_round' (getB (bs.take k)) (bs[k]?.getD 0) hg.1 huk.1 huk.2
      rw [← hs] at hr
      obtain ⟨o, ho⟩ : ∃ o, bs[k]?.getD 0 = o := ⟨_, rfl⟩
      rw [ho] at hck huk hr
      have Hr := Lib.hid hr
      clear hc hu hs ho hr
      go_wp2
      go_round
      case rel => exact ⟨k + 1, by omega, by go_num, by rw [← Hr.out]⟩
      case measure => simp [intOf]; omega
    · obtain rfl : k = bs.length := by omega
      have hg := getB_range bs
      have ht : bs.take bs.length = bs := List.take_length
      rw [ht]
      clear ht
      go_wp2
      go_ret
      exact ⟨rfl, rfl⟩
end Go.Proofs.Ytaepdmmlejdifaa
