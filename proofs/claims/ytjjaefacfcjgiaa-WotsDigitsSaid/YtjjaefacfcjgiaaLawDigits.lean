import Derived.Test.YtjjaefacfcjgiaaWotsAlive
import Derived.Test.YtjjaefacfcjgiaaWotsSign
/-
  WotsDigits: the walk returns true.
-/
namespace Go.Proofs.Ytjjaefacfcjgiaa
set_option linter.unusedVariables false
open Go.RowKit

def sumTo (D : List Int) (k : Nat) : Int := ((D.take 8).take k).sum
def tailTo (D : List Int) (k : Nat) : Int := ((D.drop 8).take (k - 8)).foldl (fun t d => 4 * t + d) 0
theorem sumTo_lt (D : List Int) (k : Nat) (h : D.length = 11) (hk : k < 8) : sumTo D (k + 1) = sumTo D k + D[k]?.getD 0 := by
  unfold sumTo
  rw [take_snoc _ k (by rw [List.length_take]; omega), List.sum_append, List.getElem?_take, if_pos hk]
  simp
theorem sumTo_ge (D : List Int) (k : Nat) (hk : 8 ≤ k) : sumTo D (k + 1) = sumTo D k := by
  unfold sumTo
  rw [List.take_take, List.take_take, Nat.min_eq_right (by omega), Nat.min_eq_right (by omega)]
theorem tailTo_lt (D : List Int) (k : Nat) (hk : k < 8) : tailTo D (k + 1) = tailTo D k := by
  unfold tailTo
  rw [show k + 1 - 8 = 0 from by omega, show k - 8 = 0 from by omega]
theorem tailTo_ge (D : List Int) (k : Nat) (h : D.length = 11) (hk : 8 ≤ k) (hk2 : k < 11) : tailTo D (k + 1) = 4 * tailTo D k + D[k]?.getD 0 := by
  unfold tailTo
  rw [show k + 1 - 8 = (k - 8) + 1 from by omega, take_snoc _ (k - 8) (by rw [List.length_drop]; omega), List.foldl_append, List.getElem?_drop, show 8 + (k - 8) = k from by omega]
  rfl
theorem sumTo_range (D : List Int) (h : D.length = 11) (hd : ∀ j : Nat, 0 ≤ D[j]?.getD 0 ∧ D[j]?.getD 0 ≤ 3) : ∀ k : Nat, k ≤ 11 → 0 ≤ sumTo D k ∧ sumTo D k ≤ 3 * k
  | 0, _ => by simp [sumTo]
  | k + 1, hk => by
    have h1 := sumTo_range D h hd k (by omega)
    have h2 := hd k
    by_cases h8 : k < 8
    · rw [sumTo_lt D k h h8]; omega
    · rw [sumTo_ge D k (by omega)]; omega
theorem tailTo_range (D : List Int) (h : D.length = 11) (hd : ∀ j : Nat, 0 ≤ D[j]?.getD 0 ∧ D[j]?.getD 0 ≤ 3) : ∀ k : Nat, k ≤ 11 → 0 ≤ tailTo D k ∧ tailTo D k < 4 ^ (k - 8)
  | 0, _ => by simp [tailTo]
  | k + 1, hk => by
    have h1 := tailTo_range D h hd k (by omega)
    have h2 := hd k
    by_cases h8 : k < 8
    · rw [tailTo_lt D k h8, show k + 1 - 8 = k - 8 from by omega]; exact h1
    · rw [tailTo_ge D k h (by omega) (by omega), show k + 1 - 8 = (k - 8) + 1 from by omega, Int.pow_succ]; omega
theorem tail_small (D : List Int) (h : D.length = 11) (hd : ∀ j : Nat, 0 ≤ D[j]?.getD 0 ∧ D[j]?.getD 0 ≤ 3) (k : Nat) (hk : k ≤ 11) : 0 ≤ tailTo D k ∧ tailTo D k < 64 := by
  have h1 := tailTo_range D h hd k hk
  have h2 : k - 8 = 0 ∨ k - 8 = 1 ∨ k - 8 = 2 ∨ k - 8 = 3 := by omega
  rcases h2 with h2 | h2 | h2 | h2 <;> rw [h2] at h1 <;> omega
theorem parts_24 (bs : List Int) : sumTo (partsB bs) 11 + tailTo (partsB bs) 11 = 24 := by
  have h := digits_24 (numB bs)
  have e1 : (partsB bs).take 8 = digsB (numB bs) 8 := by
    unfold partsB; rw [List.take_append_of_le_length (by rw [digsB_length]; omega), List.take_of_length_le (by rw [digsB_length]; omega)]
  have e2 : (partsB bs).drop 8 = digsB (leftB (digsB (numB bs) 8)) 3 := by
    unfold partsB; rw [List.drop_append_of_le_length (by rw [digsB_length]; omega), List.drop_of_length_le (by rw [digsB_length]; omega)]; rfl
  unfold sumTo tailTo
  rw [e1, e2, List.take_of_length_le (by rw [digsB_length]; omega)]
  generalize leftB (digsB (numB bs) 8) = L at h ⊢
  have e3 : digsB L 3 = [L / 16 % 4, L / 4 % 4, L / 1 % 4] := rfl
  rw [e3]
  simp only [Nat.reduceSub, List.take_succ_cons, List.take_zero, List.foldl_cons, List.foldl_nil]
  omega

set_option maxHeartbeats 1000000 in
theorem lawDigits_any (v : Value) (bs : List Int) (w : World) (hv : Ints .u8 w v bs) (hub : U8s bs) (hlb : bs.length ≤ 140737488355328) :
    Calls Try.prog 6 #[v] w fun e w' => e = .returned (.bool true) ∧ Below w.heap.size w w' := by
  have Hpa : Hid (∀ wx, Up w wx → Calls Try.prog 9 #[v] wx fun e w' => ∃ r, e = .returned r ∧ w'.ownsRow wx.heap.size 3 1 r 11 ((partsB bs).map (Value.int .i64)) ∧ Up wx w') := fun wx hux => parts_any v bs wx (hv.up hux) hub hlb
  have Hpl := Lib.hid (partsB_length bs)
  have Hpr := Lib.hid (partsB_range bs)
  have H24 := Lib.hid (parts_24 bs)
  obtain ⟨a, cap, rfl, _, _, _⟩ := hv
  clear hub hlb
  generalize partsB bs = D at Hpa Hpl Hpr H24
  go_enter Try.func6, Try.ntmps6
  go_wp2_with fail
  with_reducible refine Calls.mono (alive_any _) ?_
  rintro e w1 ⟨rfl, hU1⟩
  go_wp2_with fail
  with_reducible refine Calls.mono (Hpa.out _ hU1) ?_
  rintro e w2 ⟨r2, rfl, hr2, hU2⟩
  have hU2 : Up w w2 := Up.trans hU1 hU2
  obtain ⟨g2, c2, rfl, hc2⟩ := row_slice hr2 (by omega)
  have HI := Lib.hid (Ints.of_row hr2)
  clear hr2 hU1
  go_wp2
  go_loop [4, 5, 6] (fun s t i => ∃ k : Nat, k ≤ 11 ∧ i = .int .i64 k ∧ s = .int .i64 (sumTo D k) ∧ t = .int .i64 (tailTo D k)) (fun _ _ i => 11 - (intOf i).toNat)
  case atStart => exact ⟨0, Nat.zero_le _, rfl, rfl, rfl⟩
  case round =>
    obtain ⟨k, hk, rfl, rfl, rfl⟩ := hrel
    have hsr := sumTo_range D Hpl.out Hpr.out k hk
    have htr := tail_small D Hpl.out Hpr.out k hk
    by_cases hlt : k < 11
    · have hck := HI.out.at0 k (by rw [Hpl.out]; exact hlt)
      have hdr := Hpr.out k
      by_cases h8 : k < 8
      · have hs := sumTo_lt D k Hpl.out h8
        have ht := tailTo_lt D k h8
        generalize D[k]?.getD 0 = d at hck hdr hs
        generalize sumTo D k = s at hsr hs ⊢
        generalize tailTo D k = t at htr ht ⊢
        have Hs := Lib.hid hs
        have Ht := Lib.hid ht
        clear hs ht
        go_wp2
        go_round
        case rel => exact ⟨k + 1, by omega, by go_num, by rw [Hs.out], by rw [Ht.out]⟩
        case measure => simp [intOf]; omega
      · have hs := sumTo_ge D k (by omega)
        have ht := tailTo_ge D k Hpl.out (by omega) hlt
        generalize D[k]?.getD 0 = d at hck hdr ht
        generalize sumTo D k = s at hsr hs ⊢
        generalize tailTo D k = t at htr ht ⊢
        have Hs := Lib.hid hs
        have Ht := Lib.hid ht
        clear hs ht
        go_wp2
        go_round
        case rel => exact ⟨k + 1, by omega, by go_num, by rw [Hs.out], by rw [Ht.out]⟩
        case measure => simp [intOf]; omega
    · obtain rfl : k = 11 := by omega
      have h24 := H24.out
      generalize sumTo D 11 = s at hsr h24 ⊢
      generalize tailTo D 11 = t at htr h24 ⊢
      go_wp2
      go_ret
      exact ⟨rfl, hU2⟩
end Go.Proofs.Ytjjaefacfcjgiaa
