import Derived.Test.YtjjaefacfcjgiaaShaPad
import Derived.Test.YtjjaefacfcjgiaaOctWords
/-
  Pad and Sum.
-/
namespace Go.Proofs.Ytjjaefacfcjgiaa
set_option linter.unusedVariables false
open Go.RowKit

theorem padTail_u8s (n : Nat) : U8s (padTail n) := U8s.cons (by omega) ((U8s.replicate _).append (octAll_u8s _ _))
/-- the sum's state, in two parts -/
theorem sumSt_parts (bs : List Int) (M : Nat) (hM : M = 64 * (bs.length / 64)) : sumSt bs = takeSt (takeSt hSt (bs.take M) (M / 64)) (bs.drop M ++ padTail bs.length) ((bs.drop M ++ padTail bs.length).length / 64) := by
  have hl : (bs.take M).length = 64 * (M / 64) := by rw [List.length_take]; omega
  rw [takeSt_append hSt _ _ (M / 64) hl, ← List.append_assoc, List.take_append_drop]
  unfold sumSt
  have h2 : (padB bs).length = M + (bs.drop M ++ padTail bs.length).length := by
    rw [padB_length, List.length_append, List.length_drop, padTail_length]; omega
  show takeSt hSt (bs ++ padTail bs.length) _ = _
  rw [h2]
  congr 1
  omega
set_option maxRecDepth 100000 in
set_option maxHeartbeats 4000000 in
/-- V: what lies behind the whole blocks, as the walk spells it -/
theorem sum_case (a : Option Addr) (cap : Nat) (bs : List Int) (M : Nat) (X : List Int) (V : Value) (w : World) (hl : bs.length ≤ 140737488355328) (hm64 : M ≤ bs.length) (hmM : (bs.length : Int) - (bs.length : Int) % 64 = (M : Int))
    (Hsum : Hid (sumSt bs = takeSt (takeSt hSt (bs.take M) (M / 64)) X (X.length / 64))) (HlM : Hid ((bs.take M).length = M))
    (Hxl : Hid (X.length ≤ 281474976710656)) (Hxu : Hid (U8s X)) (Hv : Hid (Ints .u8 w (.slice a bs.length cap) bs)) (Hu : Hid (U8s bs))
    (Hp : Hid (∀ wx, Calls Try.prog 38 #[.int .i64 bs.length] wx fun e w' => ∃ g c, e = .returned (.slice (some ⟨g, 0, none⟩) (padTail bs.length).length c) ∧ Ints .u8 w' (.slice (some ⟨g, 0, none⟩) (padTail bs.length).length c) (padTail bs.length) ∧ Up wx w'))
    (hV : (M = cap ∧ bs.length ≤ cap ∧ V = .slice a 0 0) ∨ (¬ cap = M ∧ ∃ ad, a = some ad ∧ V = .slice (some (ad.add M)) (bs.length - M) (cap - M)) ∨ (¬ cap = M ∧ ∃ b off, a = some ⟨b, off, none⟩ ∧ V = .slice (some ⟨b, off + M, none⟩) (bs.length - M) (cap - M)))
    (HX : Hid ([bs.drop M, padTail bs.length].flatten = X)) (HT : Hid (∀ wx, Up w wx → Ints .u8 wx V (bs.drop M))) :
    Calls Try.prog 25 #[.slice a bs.length cap] w fun e w' => ∃ r, e = .returned r ∧ w'.ownsRow w.heap.size 5 1 r 32 ((sumB bs).map (Value.int .u8)) ∧ Below w.heap.size w w' := by
  have hcap : bs.length ≤ cap := by obtain ⟨_, _, he, h, _⟩ := Hv.out; simp only [Value.slice.injEq, true_and] at he; omega
  rcases hV with ⟨rfl, hle, rfl⟩ | ⟨hcM, ad, rfl, rfl⟩ | ⟨hcM, b, off, rfl, rfl⟩
  all_goals
    go_enter Try.func25, Try.ntmps25
    go_wp2_with fail
    generalize hq : (bs.length : Int) - (bs.length : Int) % 64 = q
    obtain rfl : q = (M : Int) := hq.symm.trans hmM
    clear hq
    refine (start_any _).mono ?_
    rintro e w1 ⟨rfl, hU1⟩
    go_wp2_with fail
    refine (constants_any _).mono ?_
    rintro e w2 ⟨rfl, hU2⟩
    have hU2 : Up w w2 := Up.trans hU1 hU2
    go_wp2_with (first | (go_at_call 36; fail) | (refine wpList_store_arr rfl 51 (.tmp 4) (.tmp 12) rfl w2.heap.size (List.replicate 8 0) hSt.list rfl rfl 51 (heap_alloc2_old w2 _ _) (by rw [size_state]; rfl) rfl ?_; intro w3 hS3 hG3; have hK3 : Arr w3 (w2.heap.size + 1) 53 (List.replicate 64 0) := Arr.grown (heap_alloc2_new w2 _ _) hG3 (by simp)) | (refine wpList_store_arr rfl 53 (.tmp 5) (.tmp 13) rfl (w2.heap.size + 1) (List.replicate 64 0) kL rfl rfl 53 hK3 (by rw [size_arr64]; rfl) rfl ?_; intro w4 hK4 hG4))
    have hU4 : Up w w4 := (((Below.alloc hU2 hU2.size _).alloc (Up.alloc hU2 _).size _).grown hG3 (by have := (Up.alloc (Up.alloc hU2 (.cells #[] 0)) (.cells #[] 0)).size; simp at this ⊢; omega) (fun k e => by cases e; exact hU2.size)).grown hG4 (by have := hU2.size; have := hG3.size; simp at this; omega) (fun k e => by cases e; have := hU2.size; omega)
    have hS4 := hS3.grown hG4 (by simp)
    have hv4 : IntsOff w2.heap.size .u8 w4 _ (bs.take M) := IntsOff.of_old (Hv.out.pre M hm64) hU4 hU2.size
    have hb4 : IntsOff w2.heap.size .u8 w4 _ bs := IntsOff.of_old Hv.out hU4 hU2.size
    with_reducible refine Calls.mono (take_any w2.heap.size (w2.heap.size + 1) _ (bs.take M) hSt w4 hSt_ok hv4 (Hu.out.take M) (by have := HlM.out; omega) hS4 hK4 (by omega)) ?_
    rintro e w5 ⟨rfl, hS5, hG5⟩
    rw [HlM.out] at hS5
    have hU5 : Up w w5 := Below.grown hU4 hG5 hU4.size (fun k e => by cases e; exact hU2.size)
    have hK5 := hK4.grown hG5 (by simp)
    have hb5 := (hb4.grown hG5).ints
    have hS5l := hU2.size
    have Hjoin : Hid (∀ wx vs, Rows8 wx vs [bs.drop M, padTail bs.length] → Up w5 wx → Calls Try.prog 37 #[vs] wx fun e w' => ∃ g, e = .returned (.slice (some ⟨g, 0, none⟩) X.length X.length) ∧ IntsOff w2.heap.size .u8 w' (.slice (some ⟨g, 0, none⟩) X.length X.length) X ∧ Up w5 w') := by
      intro wx vs hr hu
      refine (join_own (w := w5) X hr hu HX.out (by simp) Hxl.out).mono ?_
      rintro e w' ⟨g, rfl, hrow, hU', hg⟩
      exact ⟨g, rfl, IntsOff.of_row hrow hS5.lt, hU'⟩
    have Htake : Hid (∀ wx g, IntsOff w2.heap.size .u8 wx (.slice (some ⟨g, 0, none⟩) X.length X.length) X → Up w5 wx →
        Calls Try.prog 36 #[.pointer (some ⟨w2.heap.size, 0, none⟩), .slice (some ⟨g, 0, none⟩) X.length X.length, .pointer (some ⟨w2.heap.size + 1, 0, none⟩)] wx fun e w' => e = .returned (.tuple #[]) ∧ Arr w' w2.heap.size 51 (sumSt bs).list ∧ Up w w') := by
      intro wx g hi hu
      refine (take_any w2.heap.size (w2.heap.size + 1) _ X (takeSt hSt (bs.take M) (M / 64)) wx (takeSt_ok hSt_ok _ _) hi Hxu.out Hxl.out (hS5.below hu) (hK5.below hu) (by omega)).mono ?_
      rintro e w' ⟨rfl, hS', hG'⟩
      refine ⟨rfl, ?_, Below.grown (Up.trans hU5 hu) hG' (Up.trans hU5 hu).size (fun k e => by cases e; exact hU2.size)⟩
      rw [Hsum.out]; exact hS'
    have HU2 := Lib.hid hU2.size
    have HU5 : Up w w5 := hU5
    clear hU5 hK5 hv4 hb4 hS4 hG3 hG4 hG5 hS3 hK3 hK4 hS5l hU4 hU1 hU2 hS5
    have Hb5 := Lib.hid hb5
    clear hb5
    go_wp2
    go_region_with ((first | (go_at_call 38; (with_reducible refine Calls.mono (Hp.out _) ?_); rintro e w6 ⟨g6, c6, rfl, hI6, hB6⟩) | (go_at_call 37; (with_reducible refine Calls.mono (Hjoin.out _ _ (Rows8.new2 _ _ _ _ _ _ _ rfl (HT.out _ (Up.trans (Up.drew HU5) hB6)) hI6) (Up.alloc (Up.trans (Up.drew1 w5) hB6) _)) ?_); rintro e w7 ⟨g7, rfl, hI7, hB7⟩) | (go_at_call 36; (with_reducible refine Calls.mono (Htake.out _ g7 hI7 hB7) ?_); rintro e w8 ⟨rfl, hA8, hB8⟩)))
    have hI8 := hA8.ints
    have hw := words_any _ (sumSt bs).list w8 hI8 (fun j _ => St.list_u32 (takeSt_ok hSt_ok _ _) j) (by rw [St.len]; omega)
    rw [St.len] at hw
    have Hw := Lib.hid hw
    clear hA8 hI8 hw hI7 hI6 hB6 hB7
    go_wp2_with fail
    refine Hw.out.mono ?_
    rintro e w9 ⟨r, rfl, hr, hB9⟩
    have Hr := Lib.hid (ownsRow_base hr hB8.size)
    have hU9 := Up.trans hB8 hB9
    clear hr hB8 hB9
    go_wp2
    go_ret
    exact ⟨_, rfl, Hr.out, hU9⟩

set_option maxRecDepth 100000 in
set_option maxHeartbeats 2000000 in
theorem sum_any (v : Value) (bs : List Int) (w : World) (hv : Ints .u8 w v bs) (hu : U8s bs) (hl : bs.length ≤ 140737488355328) :
    Calls Try.prog 25 #[v] w fun e w' => ∃ r, e = .returned r ∧ w'.ownsRow w.heap.size 5 1 r 32 ((sumB bs).map (Value.int .u8)) ∧ Below w.heap.size w w' := by
  have hv0 := hv
  obtain ⟨a, cap, rfl, hcap, h3, h4⟩ := hv0
  obtain ⟨M, hM⟩ : ∃ M, 64 * (bs.length / 64) = M := ⟨_, rfl⟩
  have hm64 : M ≤ bs.length := by omega
  have hmM : (bs.length : Int) - (bs.length : Int) % 64 = (M : Int) := by omega
  have Hsum := Lib.hid (sumSt_parts bs M hM.symm)
  have hlM : (bs.take M).length = M := by rw [List.length_take]; omega
  have HlM := Lib.hid hlM
  have hxl : (bs.drop M ++ padTail bs.length).length ≤ 281474976710656 := by rw [List.length_append, List.length_drop, padTail_length]; unfold zerosOf; omega
  have Hxl := Lib.hid hxl
  have Hfl : Hid ([bs.drop M, padTail bs.length].flatten = bs.drop M ++ padTail bs.length) := by show _ = _; simp
  have Hxu := Lib.hid ((hu.drop M).append (padTail_u8s bs.length))
  have Hv := Lib.hid hv
  have Hu := Lib.hid hu
  have Hp : Hid (∀ wx, Calls Try.prog 38 #[.int .i64 bs.length] wx fun e w' => ∃ g c, e = .returned (.slice (some ⟨g, 0, none⟩) (padTail bs.length).length c) ∧ Ints .u8 w' (.slice (some ⟨g, 0, none⟩) (padTail bs.length).length c) (padTail bs.length) ∧ Up wx w') := by
    intro wx
    refine (padding_any bs.length (by omega) wx).mono ?_
    rintro e w' ⟨v, rfl, hr, hb⟩
    have hi := Ints.of_row hr
    have hh := hr
    rw [show (padTail bs.length).length = (zerosOf bs.length + 8) + 1 from padTail_length _] at hh
    obtain ⟨g, c, e⟩ := ownsRow_succ hh
    rw [← show (padTail bs.length).length = (zerosOf bs.length + 8) + 1 from padTail_length _] at e
    subst e
    exact ⟨g, c, rfl, hi, hb⟩
  have hrest : (M = cap ∧ Hid (bs.length = M ∧ (a = none → cap = 0))) ∨ (¬ cap = M ∧ Hid (bs = []) ∧ ∃ ad, a = some ad) ∨ (¬ cap = M ∧ ∃ b off, a = some ⟨b, off, none⟩) := by
    by_cases hc : cap = M
    · exact .inl ⟨hc.symm, ⟨by omega, h3⟩⟩
    · rcases h4 with h4 | ⟨b, off, h4, _⟩
      · refine .inr (.inl ⟨hc, h4, ?_⟩)
        cases a with
        | none => exact absurd (h3 rfl) (by rw [h4] at hm64; simp at hm64; omega)
        | some ad => exact ⟨ad, rfl⟩
      · exact .inr (.inr ⟨hc, b, off, h4⟩)
  clear hv hu h3 h4 hM hxl hlM
  rcases hrest with ⟨rfl, hrest⟩ | ⟨hcM, hrest, ad, rfl⟩ | ⟨hcM, b, off, rfl⟩
  · have HT : Hid (∀ wx, Up w wx → Ints .u8 wx (.slice a 0 0) (bs.drop M)) := by
      intro wx _
      rw [List.drop_eq_nil_of_le (by have := hrest.out.1; omega)]
      exact Ints.empty fun _ => rfl
    exact sum_case a M bs M _ _ w hl hm64 hmM Hsum HlM Hxl Hxu Hv Hu Hp (.inl ⟨rfl, hcap, rfl⟩) Hfl HT
  · have HT : Hid (∀ wx, Up w wx → Ints .u8 wx (.slice (some (ad.add M)) (bs.length - M) (cap - M)) (bs.drop M)) := by
      intro wx _
      have hb := hrest.out
      subst hb
      simp only [List.drop_nil, List.length_nil, Nat.zero_sub]
      exact Ints.empty (by simp)
    exact sum_case (some ad) cap bs M _ _ w hl hm64 hmM Hsum HlM Hxl Hxu Hv Hu Hp (.inr (.inl ⟨hcM, ad, rfl, rfl⟩)) Hfl HT
  · have HT : Hid (∀ wx, Up w wx → Ints .u8 wx (.slice (some ⟨b, off + M, none⟩) (bs.length - M) (cap - M)) (bs.drop M)) := by
      intro wx hu
      exact (Hv.out.up hu).suf M hm64
    exact sum_case (some ⟨b, off, none⟩) cap bs M _ _ w hl hm64 hmM Hsum HlM Hxl Hxu Hv Hu Hp (.inr (.inr ⟨hcM, b, off, rfl, rfl⟩)) Hfl HT
end Go.Proofs.Ytjjaefacfcjgiaa
