import Derived.IntWalk
import Derived.Test.YtjjaefacfcjgiaaShaPlain
import Derived.Test.YtjjaefacfcjgiaaRefPut
import Derived.Test.YtjjaefacfcjgiaaWordAny
/-
  The reference's padding.
-/
namespace Go.Proofs.Ytjjaefacfcjgiaa
set_option linter.unusedVariables false
open Go.RowKit

def sliceLen : Value → Nat
  | .slice _ n _ => n
  | _ => 0

theorem row_sl {W : World} {base : Nat} {e : TypeId} {v : Value} {n : Nat} {xs : List Value} (h : W.ownsRow base e 1 v n xs) (hn : 0 < n) : ∃ g cap, v = .slice (some ⟨g, 0, none⟩) n cap ∧ n ≤ cap := by
  rcases h.2 with ⟨_, h0⟩ | ⟨g, cap, cur, rfl, _, _, hle, _⟩
  · omega
  · exact ⟨g, cap, rfl, hle⟩
theorem pad_so_far (bs : List Int) (z : Nat) (h : zerosOf bs.length = z) : bs ++ [128] ++ List.replicate z 0 ++ octAll (8 * bs.length) 8 = padB bs := by
  unfold padB padTail; rw [h]; simp

set_option maxHeartbeats 1000000 in
theorem refPad_any (v : Value) (bs : List Int) (w : World) (hv : Ints .u8 w v bs) (hl : bs.length ≤ 140737488355200) :
    Calls Try.prog 41 #[v] w fun e w' => ∃ r, e = .returned r ∧ w'.ownsRow w.heap.size 5 1 r (padB bs).length ((padB bs).map (Value.int .u8)) ∧ Below w.heap.size w w' := by
  obtain ⟨i0, hi, hz0, hz1, hz2⟩ := info_parts info_u8
  obtain ⟨z, hz⟩ : ∃ z, zerosOf bs.length = z := ⟨_, rfl⟩
  have hzl : z < 64 ∧ (bs.length + 1 + z) % 64 = 56 ∧ ∀ k, k < z → (bs.length + 1 + k) % 64 ≠ 56 := by
    rw [← hz]; unfold zerosOf; exact ⟨by omega, by omega, fun k hk => by omega⟩
  have Hpad := Lib.hid (pad_so_far bs z hz)
  have Hlen : Hid ((padB bs).length = bs.length + 1 + z + 8) := by show _ = _; rw [padB_length, hz]; omega
  obtain ⟨a, cap, rfl, hcap, hnil, hcell⟩ := hv
  have Hnone : Hid (a = none → bs.length = 0 ∧ cap = 0) := fun h => ⟨by have := hnil h; omega, hnil h⟩
  have Hnews := Lib.hid (cells_all (k := .u8) hcell)
  have Hone : Hid (∀ u ∈ bs.map (Value.int .u8), u.oneCell' = true) := ints_oneCell .u8 bs
  have Hput : Hid (∀ wx, Calls Try.prog 31 #[.int .i64 (8 * (bs.length : Int)), .int .i64 8] wx fun e w' => ∃ g c, e = .returned (.slice (some ⟨g, 0, none⟩) 8 c) ∧ w'.ownsRow wx.heap.size 5 1 (.slice (some ⟨g, 0, none⟩) 8 c) 8 ((octAll (8 * bs.length) 8).map (Value.int .u8)) ∧ Below wx.heap.size wx w') := by
    intro wx
    refine (refPut_any (8 * bs.length) 8 (by omega) (by omega) 8 (by decide) wx).mono ?_
    rintro e w' ⟨v, rfl, hr, hb⟩
    have e8 : IntKind.u64.wrap (8 * (bs.length : Int)) = 8 * bs.length := by rw [IntKind.wrap_u64]; omega
    rw [e8] at hr
    obtain ⟨g, cap, rfl⟩ := ownsRow_succ hr
    exact ⟨g, cap, rfl, hr, hb⟩
  obtain ⟨hz1', hz2', hz3'⟩ := hzl
  have Hz2 := Lib.hid hz2'
  have Hz3 := Lib.hid hz3'
  clear hcell hnil hz hz2' hz3'
  go_enter Try.func41, Try.ntmps41
  go_wp2_with (first | (at_builtin; refine wpList_append_own_src _ rfl (.tmp 4) (.tmp 5) 22 rfl w.heap.size 5 i0 (.int .u8 0) 1 1 Try.underlying22 hi hz0 hz1 hz2 rfl (by decide) (.slice none 0 0) 0 [] rfl (World.ownsRow_nil _ _ _ _) a bs.length cap (bs.map (Value.int .u8)) rfl Hnone.out (by simp) Hnews.out Hone.out (by unfold maxLen; omega) (by omega) (Nat.le_refl _) ?_; intro v1 w1 hr1 hg1 _; simp only [Nat.zero_add, List.nil_append] at hr1) | (at_builtin; refine wpList_append_own _ rfl (.tmp 6) (.tmp 7) 22 rfl w.heap.size 5 i0 (.int .u8 0) 1 1 Try.underlying22 hi hz0 hz1 hz2 rfl (by decide) v1 bs.length _ rfl (hr1.alloc _) ⟨w1.heap.size, 0, none⟩ 1 1 [.int .u8 128] rfl rfl (cell_one_new _ _ _) (by simp [Value.oneCell']) (by unfold maxLen; omega) (by omega) (by have := hg1.size; simp; omega) ?_; intro v2 w2 hr2 hg2 _))
  have hB1 : Below w.heap.size w w1 := (Below.refl _ w).grown hg1 (Nat.le_refl _) (fun k e => by simp [Value.ownBlock] at e)
  have hB2 : Below w.heap.size w w2 := (hB1.alloc hB1.size _).grown hg2 (by have := hB1.size; simp; omega) (fun k e => (hr1.lt k e).1)
  have hr2' : w2.ownsRow w.heap.size 5 1 v2 (bs.length + 1) ((bs ++ [128] ++ List.replicate 0 0).map (Value.int .u8)) := by simpa using hr2
  clear hr1 hg1 hr2 hg2 hB1
  go_loopw [3] (fun v wr => ∃ k n g c : Nat, v = .slice (some ⟨g, 0, none⟩) n c ∧ n ≤ c ∧ k ≤ z ∧ n = bs.length + 1 + k ∧ wr.ownsRow w.heap.size 5 1 v n ((bs ++ [128] ++ List.replicate k 0).map (Value.int .u8)) ∧ Below w.heap.size w wr)
    (fun v _ => bs.length + 1 + z - sliceLen v)
  case atStart =>
    obtain ⟨g, c, rfl, hc⟩ := row_sl hr2' (by omega)
    exact ⟨0, _, g, c, rfl, hc, Nat.zero_le _, rfl, hr2', hB2⟩
  case round =>
    clear hr2' hB2
    obtain ⟨k, n, g, c, rfl, hc, hk, hn, hrow, hB⟩ := hrel
    by_cases hlt : k < z
    · have hne : (n % 64 : Nat) ≠ 56 := by rw [hn]; exact Hz3.out k hlt
      have hd : ((n : Int) % 64 != 56) = true := by simp; omega
      have hrep : bs ++ [128] ++ List.replicate (k + 1) 0 = (bs ++ [128] ++ List.replicate k 0) ++ [(0 : Int)] := by rw [List.replicate_succ']; simp
      have Hrep := Lib.hid hrep
      have Hn := Lib.hid hn
      have hn2 : n ≤ 140737488355270 := by omega
      clear hn hrep
      go_wp2_with (at_builtin; refine wpList_append_own _ rfl (.tmp 13) (.tmp 14) 22 rfl w.heap.size 5 i0 (.int .u8 0) 1 1 Try.underlying22 hi hz0 hz1 hz2 rfl (by decide) _ n _ rfl (hrow.alloc _) ⟨wr.heap.size, 0, none⟩ 1 1 [.int .u8 0] rfl rfl (cell_one_new _ _ _) (by simp [Value.oneCell']) (by unfold maxLen; omega) (by omega) (by have := hB.size; simp; omega) ?_; intro v3 w3 hr3 hg3 _; obtain ⟨g3, c3, rfl, hc3⟩ := row_sl hr3 (by omega))
      go_roundw
      case rel => exact ⟨k + 1, n + 1, g3, c3, rfl, hc3, by omega, by have := Hn.out; omega, by rw [Hrep.out, List.map_append]; exact hr3, (hB.alloc hB.size _).grown hg3 (by have := hB.size; simp; omega) (fun q e => (hrow.lt q e).1)⟩
      case measure =>
        have := Hn.out
        simp [sliceLen]; omega
    · obtain rfl : k = z := by omega
      have heq : (n % 64 : Nat) = 56 := by rw [hn]; exact Hz2.out
      have hd : ((n : Int) % 64 != 56) = false := by simp; omega
      have Hn := Lib.hid hn
      have hn2 : n ≤ 140737488355270 := by omega
      clear hn
      have Hone8 : Hid (∀ u ∈ (octAll (8 * bs.length) 8).map (Value.int .u8), u.oneCell' = true) := ints_oneCell .u8 _
      go_wp2_with (first | (go_at_call 31; (with_reducible refine Calls.mono (Hput.out _) ?_); rintro e w3 ⟨g3, c3, rfl, hr3, hB3⟩; have hrow3 := hrow.kept (row := none) ⟨hB3.os, hB3.tape, hB3.output, hB3.size, fun k hk _ => hB3.block k hk⟩ (Classical.em _); have Hcs := Lib.hid (row_cells hr3)) | (at_builtin; refine wpList_append_own _ rfl (.tmp 16) (.tmp 20) 22 rfl w.heap.size 5 i0 (.int .u8 0) 1 1 Try.underlying22 hi hz0 hz1 hz2 rfl (by decide) _ n _ rfl hrow3 ⟨g3, 0, none⟩ 8 c3 ((octAll (8 * bs.length) 8).map (Value.int .u8)) rfl (by simp [octAll_length]) Hcs.out Hone8.out (by unfold maxLen; omega) (by omega) (by have := hB.size; have := hB3.size; omega) ?_; intro v4 w4 hr4 hg4 _))
      have hB4 : Below w.heap.size w w4 := (hB.trans (hB3.mono hB.size)).grown hg4 (by have := hB.size; have := hB3.size; omega) (fun q e => (hrow.lt q e).1)
      go_ret
      refine ⟨_, rfl, ?_, hB4⟩
      rw [← List.map_append, Hpad.out, Hn.out, ← Hlen.out] at hr4
      exact hr4
end Go.Proofs.Ytjjaefacfcjgiaa
