import Derived.Test.YtjjaefacfcjgiaaWotsChain
import Derived.Test.YtjjaefacfcjgiaaStrJoin
/-
  formed and joined.
-/
namespace Go.Proofs.Ytjjaefacfcjgiaa
set_option linter.unusedVariables false
open Go.RowKit

theorem join_none (l : List (List UInt8)) : Lib.join l [] = l.flatten := by
  cases l with
  | nil => rfl
  | cons x r =>
    rw [Lib.join_cons, List.flatten_cons]
    congr 1
    unfold Lib.joinTail
    congr 1
    simp
theorem join_strs (ls : List (List Int)) : (⟨(Lib.join ((ls.map strOfNums).map (·.data.toList)) (ByteArray.mk #[]).data.toList).toArray⟩ : ByteArray) = strOfNums ls.flatten := by
  show (⟨(Lib.join _ []).toArray⟩ : ByteArray) = _
  rw [join_none]
  unfold strOfNums
  congr 2
  rw [List.map_map, List.map_flatten]
  congr 1
theorem strJoin_any (ls : List (List Int)) (b off c : Nat) (w : World) (hc : ∀ j, j < ls.length → w.cell? ⟨b, off + j, none⟩ = some (.string (strOfNums (ls[j]?.getD [])))) (h0 : 0 < ls.length) (hl : ls.length ≤ 100) (hcap : ls.length ≤ c) (hx : ls.flatten.length ≤ 140737488355328) :
    Calls Try.prog 44 #[.slice (some ⟨b, off, none⟩) ls.length c, .string ⟨#[]⟩] w fun e w' => e = .returned (.string (strOfNums ls.flatten)) ∧ Up w w' := by
  have hlen : (Lib.join ((ls.map strOfNums).map (·.data.toList)) (ByteArray.mk #[]).data.toList).length = ls.flatten.length := by
    have h := congrArg ByteArray.size (join_strs ls)
    rw [strOfNums_size] at h
    simpa [ByteArray.size] using h
  have h := strJoin_many b off c (ls.map strOfNums) ⟨#[]⟩ w (fun j x hj => by
    have hj' : j < ls.length := by have := (List.getElem?_eq_some_iff.1 hj).1; simpa using this
    rw [hc j hj']
    simp [hj'] at hj ⊢
    exact hj) (World.block_lt_of_cell? w _ (hc 0 h0)) (by rw [List.length_map]; omega) (by rw [List.length_map]; exact hcap) (by rw [hlen]; exact hx)
  rw [List.length_map, join_strs] at h
  exact h

set_option maxHeartbeats 1000000 in
theorem joined_any (v : Value) (ls : List (List Int)) (w : World) (hv : Strs w v ls) (hu : U8s ls.flatten) (h0 : 0 < ls.length) (hl : ls.length ≤ 100) (hx : ls.flatten.length ≤ 140737488355328) :
    Calls Try.prog 32 #[v] w fun e w' => e = .returned (.string (strOfNums (shortB ls.flatten))) ∧ Up w w' := by
  obtain ⟨a, cap, rfl, hcap, hnil, hcell⟩ := hv
  rcases hcell with rfl | ⟨b, off, rfl, hc⟩
  · simp at h0
  have Hj := Lib.hid (strJoin_any ls b off cap w hc h0 hl hcap hx)
  have Hu := Lib.hid hu
  have Hx := Lib.hid hx
  clear hc hnil hcap hu hx h0
  generalize ls.flatten = X at Hj Hu Hx ⊢
  go_enter Try.func32, Try.ntmps32
  go_wp2_with fail
  with_reducible refine Calls.mono Hj.out ?_
  rintro e w1 ⟨rfl, hU1⟩
  obtain ⟨a2, c2, w2, hconv, hI2, hU2⟩ := conv_str X Hu.out w1
  have HI2 := Lib.hid hI2
  have hU02 := Up.trans hU1 hU2
  clear hI2 hU1 hU2
  go_wp2_with fail
  with_reducible refine Calls.mono (short_flat _ [X] X (by simp) (by simp) _ (Rows8.new1 w2 _ _ X _ rfl HI2.out) Hu.out Hx.out) ?_
  rintro e w3 ⟨rfl, hU3⟩
  have hU03 := Up.trans (Up.alloc hU02 _) hU3
  go_wp2
  go_ret
  exact ⟨rfl, hU03⟩

theorem formed_false_len {ls : List (List Int)} (h : ls.length ≠ 11) : formedB ls = false := by simp [formedB, h]
theorem formed_false_at {ls : List (List Int)} (k : Nat) (hk : k < ls.length) (h : (ls[k]?.getD []).length ≠ 8) : formedB ls = false := by
  unfold formedB
  rw [Bool.and_eq_false_iff]
  right
  rw [List.all_eq_false]
  refine ⟨ls[k], List.getElem_mem hk, ?_⟩
  simp [hk] at h
  simpa using h
theorem formed_true {ls : List (List Int)} (h : ls.length = 11) (h8 : ∀ k, k < ls.length → (ls[k]?.getD []).length = 8) : formedB ls = true := by
  unfold formedB
  simp only [h, beq_self_eq_true, Bool.true_and, List.all_eq_true]
  intro p hp
  obtain ⟨k, hk, rfl⟩ := List.getElem_of_mem hp
  have := h8 k hk
  simp [hk] at this
  simpa using this

set_option maxHeartbeats 1000000 in
theorem formed_any (v : Value) (ls : List (List Int)) (w : World) (hv : Strs w v ls) (hl : ls.length ≤ 9223372036854775807) :
    Calls Try.prog 33 #[v] w fun e w' => e = .returned (.bool (formedB ls)) ∧ w = w' := by
  obtain ⟨a, cap, rfl, hcap, hnil, hcell⟩ := hv
  clear hcap hnil
  by_cases h11 : ls.length = 11
  · have hd : ((ls.length : Int) != 11) = false := by simp; omega
    go_enter Try.func33, Try.ntmps33
    go_wp2
    go_loop [10] (fun i => ∃ k : Nat, k ≤ ls.length ∧ i = .int .i64 k ∧ ∀ j, j < k → (ls[j]?.getD []).length = 8) (fun i => ls.length - (intOf i).toNat)
    case atStart => exact ⟨0, Nat.zero_le _, rfl, fun j hj => by omega⟩
    case round =>
      obtain ⟨k, hk, rfl, h8⟩ := hrel
      have H8 := Lib.hid h8
      clear h8
      by_cases hlt : k < ls.length
      · rcases hcell with rfl | ⟨b, off, rfl, hc⟩
        · simp at hlt
        have hck := hc k hlt
        obtain ⟨x, hx⟩ : ∃ x, ls[k]?.getD [] = x := ⟨_, rfl⟩
        rw [hx] at hck
        have hsz := strOfNums_size x
        have Hx := Lib.hid hx
        clear hc hx
        by_cases hx8 : x.length = 8
        · have hd2 : ((x.length : Int) != 8) = false := by simp; omega
          have Hx8 := Lib.hid hx8
          clear hx8
          go_wp2
          go_round
          case rel => exact ⟨k + 1, by omega, by go_num, fun j hj => by
            rcases Nat.lt_or_ge j k with h | h
            · exact H8.out j h
            · obtain rfl : j = k := by omega
              rw [Hx.out, Hx8.out]⟩
          case measure => simp [intOf]; omega
        · have hd2 : ((x.length : Int) != 8) = true := by simp; omega
          have hff := formed_false_at k hlt (by rw [Hx.out]; exact hx8)
          have Hff := Lib.hid hff
          clear hff hx8
          go_wp2
          go_ret
          exact ⟨by rw [Hff.out]; rfl, rfl⟩
      · obtain rfl : k = ls.length := by omega
        have hft := formed_true h11 H8.out
        have Hft := Lib.hid hft
        clear hft
        go_wp2
        go_ret
        exact ⟨by rw [Hft.out]; rfl, rfl⟩
  · have hd : ((ls.length : Int) != 11) = true := by simp; omega
    have hff := formed_false_len h11
    have Hff := Lib.hid hff
    clear hff h11
    go_enter Try.func33, Try.ntmps33
    go_wp2
    go_ret
    exact ⟨by rw [Hff.out]; rfl, rfl⟩
end Go.Proofs.Ytjjaefacfcjgiaa
