import Derived.Deep.RegionWith
import Derived.IntWalk
import Derived.Test.YtpapkilhigicgaaOctWord
import Derived.Test.YtpapkilhigicgaaOctWords
import Derived.Test.YtpapkilhigicgaaOctAlive
/-
  OctetsWords: for every words the walk returns true.
-/
namespace Go.Proofs.Ytpapkilhigicgaa
set_option linter.unusedVariables false
open Go.RowKit

set_option maxHeartbeats 1000000 in
theorem lawWords_any (v : Value) (ws : List Int) (w : World) (hv : Ints .u32 w v ws) (hu : ∀ j, j < ws.length → 0 ≤ ws[j]?.getD 0 ∧ ws[j]?.getD 0 < 4294967296) (hlen : ws.length * 4 ≤ 140737488351232) :
    Calls Try.prog 6 #[v] w fun e w' => e = .returned (.bool true) ∧ Below w.heap.size w w' := by
  have hv0 := hv
  obtain ⟨a, cap, rfl, _⟩ := hv0
  have Hu := Lib.hid hu
  clear hu
  go_enter Try.func6, Try.ntmps6
  go_wp2_with fail
  refine (alive_any w).mono ?_
  rintro e w1 ⟨rfl, hB1⟩
  have hv1 := hv.kept hB1
  go_wp2_with fail
  refine (words_any _ ws _ hv1 Hu.out hlen).mono ?_
  rintro e w2 ⟨r, rfl, hrow, hB2⟩
  have hv2 := hv1.kept hB2
  have hr2 := Ints.of_row hrow
  have hB : Below w.heap.size w w2 := hB1.trans (hB2.mono hB1.size)
  have hr3 := hr2
  obtain ⟨ar, capr, hr, _⟩ := hr3
  rw [wordsB_length] at hr
  subst hr
  clear hv hv1 hB1 hB2 hrow
  have Hv2 := Lib.hid hv2
  have Hr2 := Lib.hid hr2
  clear hv2 hr2
  go_wp2
  go_loopw [4] (fun i wr => ∃ k : Nat, k ≤ ws.length ∧ i = .int .i64 k ∧ Below w2.heap.size w2 wr) (fun i _ => ws.length - (intOf i).toNat)
  case atStart => exact ⟨0, Nat.zero_le _, rfl, Below.refl _ _⟩
  case round =>
    obtain ⟨k, hk, rfl, hBr⟩ := hrel
    by_cases hlt : k < ws.length
    · have hvr := Hv2.out.kept hBr
      have hrr := Hr2.out.kept hBr
      obtain ⟨a', c', he, hcap, hnil, hc⟩ := hvr
      simp only [Value.slice.injEq, true_and] at he
      obtain ⟨rfl, rfl⟩ := he
      rcases hc with rfl | ⟨b, off, rfl, hc⟩
      · simp at hlt
      have hck := hc k hlt
      have huk := Hu.out k hlt
      have hw := word_back ws k hlt huk.1 huk.2
      obtain ⟨o, ho⟩ : ∃ o, ws[k]?.getD 0 = o := ⟨_, rfl⟩
      rw [ho] at hck hw huk
      have Hword : Hid (∀ wx, Below wr.heap.size wr wx → Calls Try.prog 11 #[.slice ar (4 * ws.length) capr, .int .i64 (4 * (k : Int))] wx fun e w' => e = .returned (.int .u32 o) ∧ Below wr.heap.size wr w') := by
        intro wx hbx
        have := word_in _ (wordsB ws) (4 * k) wx (hrr.kept hbx) (wordsB_u8s ws) (by rw [wordsB_length]; omega) (by rw [wordsB_length]; omega)
        rw [hw] at this
        have e4 : ((4 * k : Nat) : Int) = 4 * (k : Int) := by omega
        rw [e4] at this
        exact this.mono fun e w3 ⟨he, hb⟩ => ⟨he, hbx.trans (hb.mono hbx.size)⟩
      have Hc : Hid (∀ wx, Below wr.heap.size wr wx → wx.cell? ⟨b, off + k, none⟩ = some (.int .u32 o)) := fun wx hbx => (hbx.cell (p := ⟨b, off + k, none⟩) (World.block_lt_of_cell? wr _ hck)).trans hck
      clear hc ho hw hrr
      have hwk : IntKind.i64.wrap (4 * (k : Int)) = 4 * (k : Int) := IntWalk.i64_in _ (by omega)
      go_wp2
      go_region_with ((go_at_call 11; refine (Hword.out _ (by exact (Below.refl _ _).drew)).mono ?_; rintro e w3 ⟨rfl, hb3⟩; have hck3 := Hc.out _ hb3))
      all_goals
        clear hwk
        go_wp2
        go_roundw
        case rel => exact ⟨k + 1, by omega, by go_num, hBr.trans (hb3.mono hBr.size)⟩
        case measure => simp [intOf]; omega
    · obtain rfl : k = ws.length := by omega
      go_wp2
      go_ret
      exact ⟨rfl, hB.trans (hBr.mono hB.size)⟩
end Go.Proofs.Ytpapkilhigicgaa
