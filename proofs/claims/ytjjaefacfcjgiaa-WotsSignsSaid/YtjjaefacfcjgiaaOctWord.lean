import Derived.Deep.RegionLaw
import Derived.Laws.CopyOwn
import Derived.Test.YtjjaefacfcjgiaaPreds
namespace Go.Proofs.Ytjjaefacfcjgiaa
set_option linter.unusedVariables false
open Go.RowKit

theorem size_u8 : (Try.prog.info? 5).map (·.size) = some 1 := by kernel_rfl

/-- the array behind the copy -/
theorem splice_at (bs : List Int) (p i : Nat) (hi : i < 4) :
    (splice [Value.int .u8 0, .int .u8 0, .int .u8 0, .int .u8 0] 0 (((bs.drop p).take 4).map (Value.int .u8)))[i]? = some (.int .u8 (bs[p + i]?.getD 0)) := by
  simp only [splice, List.take_zero, List.nil_append, Nat.zero_add]
  by_cases h : i < (((bs.drop p).take 4).map (Value.int .u8)).length
  · rw [List.getElem?_append_left h]
    simp only [List.getElem?_map, List.getElem?_take, List.getElem?_drop]
    simp at h
    rw [if_pos hi, List.getElem?_eq_getElem (by omega)]
    simp
  · rw [List.getElem?_append_right (by omega)]
    simp only [List.length_map, List.length_take, List.length_drop] at h ⊢
    rw [List.getElem?_drop, List.getElem?_eq_none (l := bs) (by omega)]
    have e : min 4 (bs.length - p) + (i - min 4 (bs.length - p)) = i := by omega
    rw [e]
    have h2 : i = 0 ∨ i = 1 ∨ i = 2 ∨ i = 3 := by omega
    rcases h2 with rfl | rfl | rfl | rfl <;> rfl

set_option maxHeartbeats 400000 in
theorem word_neg (v : Value) (bs : List Int) (q : Int) (w : World) (hv : Ints .u8 w v bs) (hlen : bs.length ≤ 9223372036854775807) (hq : q < 0 ∨ bs.length ≤ q) :
    Calls Try.prog 54 #[v, .int .i64 q] w fun e w' => e = .returned (.int .u32 0) ∧ w = w' := by
  obtain ⟨a, cap, rfl, hcap, hnil, hcell⟩ := hv
  clear hnil
  clear hcell
  rcases hq with hq | hq
  · go_enter Try.func54, Try.ntmps54
    go_wp2
    go_ret
    exact ⟨rfl, rfl⟩
  · by_cases h0 : q < 0
    · go_enter Try.func54, Try.ntmps54
      go_wp2
      go_ret
      exact ⟨rfl, rfl⟩
    · go_enter Try.func54, Try.ntmps54
      go_wp2
      go_ret
      exact ⟨rfl, rfl⟩

set_option maxHeartbeats 400000 in
theorem word_in (v : Value) (bs : List Int) (p : Nat) (w : World) (hv : Ints .u8 w v bs) (hu : U8s bs) (hlen : bs.length ≤ 9223372036854775807) (hp : p < bs.length) :
    Calls Try.prog 54 #[v, .int .i64 p] w fun e w' => e = .returned (.int .u32 (wordUp bs p 4)) ∧ Below w.heap.size w w' := by
  obtain ⟨a, cap, rfl, hcap, hnil, hcell⟩ := hv
  clear hnil
  rcases hcell with rfl | ⟨b, off, rfl, hc⟩
  · simp at hp
  have Hc := Lib.hid hc
  clear hc
  obtain ⟨cs, hcs⟩ : ∃ cs, cs = ((bs.drop p).take 4).map (Value.int .u8) := ⟨_, rfl⟩
  have hcl : cs.length = min 4 (bs.length - p) := by rw [hcs]; simp
  have hci : ∀ j u, cs[j]? = some u → ∀ wx : World, Below w.heap.size w wx → wx.cell? ((⟨b, off + p, none⟩ : Addr).add j) = some u := by
    intro j u hj wx hb
    have hj' : j < cs.length := (List.getElem?_eq_some_iff.1 hj).1
    have h1 := Hc.out (p + j) (by omega)
    have h2 : ((⟨b, off + p, none⟩ : Addr).add j) = ⟨b, off + (p + j), none⟩ := by unfold Addr.add; split <;> simp_all [Nat.add_assoc]
    rw [h2, (hb.cell (p := ⟨b, off + (p + j), none⟩) (World.block_lt_of_cell? w _ h1)), h1]
    rw [hcs] at hj
    simp only [List.getElem?_map, List.getElem?_take, List.getElem?_drop] at hj
    rw [if_pos (by omega)] at hj
    simp [List.getElem?_eq_getElem (show p + j < bs.length by omega)] at hj ⊢
    exact hj
  have hc1 : ∀ u ∈ cs, u.oneCell' = true := by rw [hcs]; intro u hu; obtain ⟨z, _, rfl⟩ := List.mem_map.1 hu; rfl
  have Hci := Lib.hid hci
  have Hcs := Lib.hid hcs
  have Hcl := Lib.hid hcl
  have Hc1 := Lib.hid hc1
  clear hci hcs hcl hc1
  have Hu := Lib.hid hu
  clear hu
  have hle : p ≤ bs.length := by omega
  have hne : ¬ cap = p := by omega
  go_enter Try.func54, Try.ntmps54
  go_wp2
  go_region_law (refine step_copy_splice rfl (.tmp 16) (.tmp 19) 22 22 rfl 5 Try.underlying22 size_u8 _ _ _ _ _ _ rfl rfl w.heap.size 0 [.int .u8 0, .int .u8 0, .int .u8 0, .int .u8 0] 85 (heap_alloc_new w _) cs (Hcl.out.trans (Nat.min_comm _ _)) (fun _ => ⟨rfl, _, rfl, fun j v hj => Hci.out j v hj _ (((Below.refl _ _).alloc (Nat.le_refl _) _).drew)⟩) (by have := Hcl.out; simp; omega) Hc1.out w.heap.size w (((Below.refl _ _).alloc (Nat.le_refl _) _).drew) (Nat.le_refl _) ?_; intro w4 hg4 hb4)
  have hcell : ∀ i, i < 4 → w4.cell? ⟨w.heap.size, i, none⟩ = some (.int .u8 (bs[p + i]?.getD 0)) := by
    intro i hi
    have h1 := splice_at bs p i hi
    rw [← Hcs.out] at h1
    have h2 := hg4.out
    simp only [World.cell?, h2]
    simpa using h1
  have Hcell := Lib.hid hcell
  clear hcell hg4
  go_wp2
  go_loop [6, 21] (fun n i => ∃ k : Nat, k ≤ 4 ∧ i = .int .i64 k ∧ n = .int .u32 (wordUp bs p k)) (fun _ i => 4 - (intOf i).toNat)
  case atStart => exact ⟨0, Nat.zero_le _, rfl, rfl⟩
  case round =>
    obtain ⟨k, hk, rfl, rfl⟩ := hrel
    by_cases hlt : k < 4
    · have hck := Hcell.out k hlt
      have huk := U8s.at bs Hu.out (p + k)
      have hg := wordUp_small bs Hu.out p k hlt
      have hr := word_round (wordUp bs p k) (bs[p + k]?.getD 0) hg.1 hg.2 huk.1 huk.2
      have Hr := Lib.hid hr
      clear hr
      obtain ⟨o, ho⟩ : ∃ o, bs[p + k]?.getD 0 = o := ⟨_, rfl⟩
      rw [ho] at hck huk Hr
      have Ho := Lib.hid ho
      clear ho
      go_wp2
      go_round
      case rel => exact ⟨k + 1, by omega, by go_num, by rw [wordUp, Ho.out, ← Hr.out]⟩
      case measure => simp [intOf]; omega
    · obtain rfl : k = 4 := by omega
      go_wp2
      go_ret
      exact ⟨rfl, hb4⟩
end Go.Proofs.Ytjjaefacfcjgiaa
