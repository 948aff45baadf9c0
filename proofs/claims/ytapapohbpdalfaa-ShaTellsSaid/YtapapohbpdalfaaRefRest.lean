import Derived.Test.YtapapohbpdalfaaRefPut
/-
  Word and Join of the reference.
-/
namespace Go.Proofs.Ytapapohbpdalfaa
set_option linter.unusedVariables false
open Go.RowKit

set_option maxHeartbeats 400000 in
theorem refWord_neg (v : Value) (bs : List Int) (q : Int) (w : World) (hv : Ints .u8 w v bs) (hlen : bs.length ≤ 9223372036854775807) (hq : q < 0) (hq0 : -9223372036854775808 ≤ q) :
    Calls Try.prog 25 #[v, .int .i64 q] w fun e w' => e = .returned (.int .u32 0) ∧ w = w' := by
  obtain ⟨a, cap, rfl, hcap, hnil, hcell⟩ := hv
  clear hcell hnil
  have hd : decide ((0 : Int) ≤ q) = false := by simp; omega
  go_enter Try.func25, Try.ntmps25
  go_wp2
  go_loop [5, 6] (fun n i => ∃ k : Nat, k ≤ 4 ∧ i = .int .i64 k ∧ n = .int .u32 0) (fun _ i => 4 - (intOf i).toNat)
  case atStart => exact ⟨0, Nat.zero_le _, rfl, rfl⟩
  case round =>
    obtain ⟨k, hk, rfl, rfl⟩ := hrel
    by_cases hlt : k < 4
    · go_wp2
      go_round
      case rel => exact ⟨k + 1, by omega, by go_num, rfl⟩
      case measure => simp [intOf]; omega
    · obtain rfl : k = 4 := by omega
      go_wp2
      go_ret
      exact ⟨rfl, rfl⟩

set_option maxHeartbeats 400000 in
theorem refWord_in (v : Value) (bs : List Int) (p : Nat) (w : World) (hv : Ints .u8 w v bs) (hu : U8s bs) (hlen : bs.length ≤ 9223372036854775807) (hp : p ≤ 9223372036854775807) :
    Calls Try.prog 25 #[v, .int .i64 p] w fun e w' => e = .returned (.int .u32 (wordUp bs p 4)) ∧ w = w' := by
  obtain ⟨a, cap, rfl, hcap, hnil, hcell⟩ := hv
  clear hnil
  have Hcell := Lib.hid hcell
  have Hu := Lib.hid hu
  clear hcell hu
  go_enter Try.func25, Try.ntmps25
  go_wp2
  go_loop [5, 6] (fun n i => ∃ k : Nat, k ≤ 4 ∧ i = .int .i64 k ∧ n = .int .u32 (wordUp bs p k)) (fun _ i => 4 - (intOf i).toNat)
  case atStart => exact ⟨0, Nat.zero_le _, rfl, rfl⟩
  case round =>
    obtain ⟨k, hk, rfl, rfl⟩ := hrel
    by_cases hlt : k < 4
    · have hg := wordUp_small bs Hu.out p k hlt
      have huk := U8s.at bs Hu.out (p + k)
      have hs : wordUp bs p (k + 1) = wordUp bs p k * 256 + bs[p + k]?.getD 0 := rfl
      obtain ⟨m, hm⟩ : ∃ m, wordUp bs p k = m := ⟨_, rfl⟩
      by_cases hin : p + k < bs.length
      · rcases Hcell.out with rfl | ⟨b, off, rfl, hc⟩
        · simp at hin
        have hck := hc (p + k) hin
        obtain ⟨o, ho⟩ : ∃ o, bs[p + k]?.getD 0 = o := ⟨_, rfl⟩
        rw [hm] at hg hs ⊢
        rw [ho] at hck huk hs
        have Hs := Lib.hid hs
        have hd : decide ((p : Int) < (bs.length : Int) - (k : Int)) = true := by simp; omega
        clear hc hs ho hm
        go_wp2
        go_round
        case rel => exact ⟨k + 1, by omega, by go_num, by rw [Hs.out]⟩
        case measure => simp [intOf]; omega
      · have hz : bs[p + k]?.getD 0 = 0 := by rw [List.getElem?_eq_none (by omega)]; rfl
        rw [hm] at hg hs ⊢
        rw [hz] at hs
        have Hs := Lib.hid hs
        have hd : decide ((p : Int) < (bs.length : Int) - (k : Int)) = false := by simp; omega
        clear hs hz hm huk
        go_wp2
        go_round
        case rel => exact ⟨k + 1, by omega, by go_num, by rw [Hs.out]; simp⟩
        case measure => simp [intOf]; omega
    · obtain rfl : k = 4 := by omega
      go_wp2
      go_ret
      exact ⟨rfl, rfl⟩

/-- Word of the reference: any place -/
theorem refWord_any (v : Value) (bs : List Int) (q : Int) (w : World) (hv : Ints .u8 w v bs) (hu : U8s bs) (hlen : bs.length ≤ 9223372036854775807) (hq : -9223372036854775808 ≤ q ∧ q ≤ 9223372036854775807) :
    Calls Try.prog 25 #[v, .int .i64 q] w fun e w' => e = .returned (.int .u32 (wordB bs q)) ∧ w = w' := by
  by_cases h : q < 0
  · have e : wordB bs q = 0 := by unfold wordB; rw [if_pos h]
    rw [e]; exact refWord_neg v bs q w hv hlen h hq.1
  · obtain ⟨p, hp⟩ : ∃ p : Nat, (p : Int) = q := ⟨q.toNat, by omega⟩
    have e : wordB bs q = wordUp bs p 4 := by unfold wordB; rw [if_neg h]; congr 1; omega
    rw [e]; subst hp; exact refWord_in v bs p w hv hu hlen (by omega)

set_option maxHeartbeats 1000000 in
theorem refJoin_any (v : Value) (ls : List (List Int)) (w : World) (hv : Rows8 w v ls) (hlen : ls.length ≤ 9223372036854775807) (hsum : ls.flatten.length ≤ 140737488355328) :
    Calls Try.prog 13 #[v] w fun e w' => ∃ r, e = .returned r ∧ w'.ownsRow w.heap.size 5 1 r ls.flatten.length (ls.flatten.map (Value.int .u8)) ∧ Below w.heap.size w w' := by
  obtain ⟨i0, hi, hz0, hz1, hz2⟩ := info_parts info_u8
  obtain ⟨a, cap, rfl, hcap, hnil, hcell⟩ := hv
  clear hnil
  have Hcell := Lib.hid hcell
  clear hcell
  go_enter Try.func13, Try.ntmps13
  go_wp2
  go_loopw [3, 4] (fun o i wr => ∃ k m : Nat, k ≤ ls.length ∧ i = .int .i64 k ∧ m = (ls.take k).flatten.length ∧ wr.ownsRow w.heap.size 5 1 o m ((ls.take k).flatten.map (Value.int .u8)) ∧ Below w.heap.size w wr)
    (fun _ i _ => ls.length - (intOf i).toNat)
  case atStart => exact ⟨0, 0, Nat.zero_le _, rfl, rfl, World.ownsRow_nil _ _ _ _, Below.refl _ _⟩
  case round =>
    obtain ⟨k, m, hk, rfl, hm, hrow, hB⟩ := hrel
    by_cases hlt : k < ls.length
    · rcases Hcell.out with rfl | ⟨b, off, rfl, hc⟩
      · simp at hlt
      obtain ⟨u, hu, hi8⟩ := hc k hlt
      have hu := (hB.cell (p := ⟨b, off + k, none⟩) (World.block_lt_of_cell? w _ hu)).trans hu
      obtain ⟨a1, c1, rfl, hc1, hn1, hcs⟩ := hi8.kept hB
      have hs := flat_snoc ls k hlt
      have hle := flat_le ls (k + 1)
      obtain ⟨x, hx⟩ : ∃ x, ls[k]?.getD [] = x := ⟨_, rfl⟩
      rw [hx] at hu hs hcs hc1
      have e1 : (ls.take (k + 1)).flatten.length = (ls.take k).flatten.length + x.length := by rw [hs, List.length_append]
      have hle2 : m + x.length ≤ 140737488355328 := by rw [hm]; omega
      have hnews := cells_all (k := .u8) hcs
      have Hx : Hid (∀ u ∈ x.map (Value.int .u8), u.oneCell' = true) := ints_oneCell .u8 x
      have Hs := Lib.hid hs
      have Hm := Lib.hid hm
      have He := Lib.hid e1
      have Hn1 : Hid (a1 = none → x.length = 0 ∧ c1 = 0) := fun h => ⟨by have := hn1 h; omega, hn1 h⟩
      have Hnews := Lib.hid hnews
      clear hc hs hx e1 hm hcs hnews hn1 hle
      go_wp2_with (at_builtin; refine wpList_append_own_src _ rfl _ _ 22 rfl w.heap.size 5 i0 (.int .u8 0) 1 1 Try.underlying22 hi hz0 hz1 hz2 rfl (by decide) _ m _ rfl hrow a1 x.length c1 (x.map (Value.int .u8)) rfl Hn1.out (by simp) Hnews.out Hx.out (by unfold maxLen; omega) (by omega) hB.size ?_; intro v1 w1 hrow1 hgrow1 _)
      go_roundw
      case rel => exact ⟨k + 1, m + x.length, by omega, by go_num, by rw [He.out, ← Hm.out], by rw [Hs.out, List.map_append]; exact hrow1, hB.grown hgrow1 hB.size (fun j e => (hrow.lt j e).1)⟩
      case measure => simp [intOf]; omega
    · obtain rfl : k = ls.length := by omega
      have ht : ls.take ls.length = ls := List.take_length
      rw [ht] at hrow hm
      have Hm := Lib.hid hm
      clear ht hm
      go_wp2
      go_ret
      exact ⟨_, rfl, by rw [← Hm.out]; exact hrow, hB⟩
end Go.Proofs.Ytapapohbpdalfaa
