import Derived.Test.YtbdjbmgeelleiaaDoorSameKey
import Derived.Test.YtbdjbmgeelleiaaDoorSgGood
import Derived.Test.YtbdjbmgeelleiaaDoorRefSign
import Derived.Test.YtbdjbmgeelleiaaDoorRefPath
/-
  The reference: Sig.
-/
namespace Go.Proofs.YtbdjbmgeelleiaaDoor
set_option maxRecDepth 100000
section
set_option linter.unusedVariables false
open Go.RowKit

theorem take_flat_snoc (L : List (List Int)) (k : Nat) (h : k < L.length) : (L.take (k + 1)).flatten = (L.take k).flatten ++ L[k]?.getD [] := flat_snoc L k h

set_option maxHeartbeats 4000000 in
theorem refSig_ok (seed : List Int) (lv : Value) (ls : List (List Int)) (m K : Nat) (v : Value) (text : List Int) (w : World) (hs : Strs w lv ls) (hk : KeyOk seed ls m) (hf : Fits ls) (hu : U8s seed) (hK : ls.length = 2 ^ K) (hm : m < ls.length) (hv : Ints .u8 w v text) (hut : U8s text) (hlt : text.length ≤ 140737488355200) :
    Calls Tryd.prog 6 #[keyV seed lv m, v] w fun e w' => e = .returned (.tuple #[.string (strOfNums (sigB seed ls m K text)), .int .i64 0]) ∧ Up w w' := by
  have hl16 : ls.length ≤ 16 := by have := hk.pow; omega
  have hseed := hk.seed
  have hK4 : K ≤ 4 := by
    rcases Nat.lt_or_ge 4 K with h5 | h5
    · have := Nat.pow_le_pow_right (n := 2) (by omega) h5; omega
    · exact h5
  have htiny : Tiny ls := fun k => ⟨(hf k).1, by have := le8_of hk.eight k; omega⟩
  have Hck : Hid (∀ wx, Up w wx → Calls Tryd.prog 10 #[keyV seed lv m] wx fun e w' => e = .returned (.int .i64 0) ∧ Up wx w') := fun wx hx => by
    have h := refKey_any seed lv ls m wx (hs.up hx) (by omega) (by omega) (fun k => by have := (hf k).2; omega)
    rw [keyE_ok hk] at h
    exact h
  have Hpa : Hid (∀ wx, Up w wx → Calls Tryd.prog 24 #[lv, .int .i64 m] wx fun e w' => ∃ r, e = .returned (.tuple #[r, .int .i64 0]) ∧ Strs w' r (pathB ls m K) ∧ Up wx w') := fun wx hx => (refPath_pow lv ls m K wx (hs.up hx) htiny (by omega) hm hK).mono fun e w' ⟨r, h1, h2, h3⟩ => ⟨r, h1, Strs.of_row h2, h3⟩
  have Hput : Hid (∀ wx, Calls Tryd.prog 25 #[.int .i64 m, .int .i64 2] wx fun e w' => ∃ a c, e = .returned (.slice a 2 c) ∧ Ints .u8 w' (.slice a 2 c) (octAll (IntKind.u64.wrap m) 2) ∧ Up wx w') := fun wx => by
    refine (refPut_any m 2 (by omega) (by omega) 2 (by omega) wx).mono ?_
    rintro e w' ⟨v', h1, h2, h3⟩
    obtain ⟨g, c, rfl, _⟩ := row_slice h2 (by omega)
    exact ⟨_, _, h1, Ints.of_row h2, h3⟩
  have Hsg : Hid (∀ wx, Up w wx → Calls Tryd.prog 26 #[.string (strOfNums seed), .int .i64 m, v] wx fun e w' => ∃ g c, e = .returned (.slice (some ⟨g, 0, none⟩) 11 c) ∧ Strs w' (.slice (some ⟨g, 0, none⟩) 11 c) (signB seed m text) ∧ Up wx w') := fun wx hx => by
    refine (refSign_any seed m v text wx hu (by omega) (by omega) (hv.up hx) hut hlt).mono ?_
    rintro e w' ⟨r, h1, h2, h3⟩
    obtain ⟨g, c, rfl, _⟩ := row_slice h2 (by omega)
    exact ⟨g, c, h1, Strs.of_row h2, h3⟩
  have hsl : (signB seed m text).length = 11 := endsB_length _ _ _
  have Hpl : Hid ((pathB ls m K).length = K) := pathB_length _ _ _
  have hs8 := sign_all8 seed m text
  have hp8 := path_all8 ls hk.eight m K hK (by omega)
  have HF1 : Hid (∀ k, k ≤ 11 → (octAll (IntKind.u64.wrap m) 2 ++ ((signB seed m text).take k).flatten).length ≤ 200) := fun k hk => by
    have h1 := flat_le (signB seed m text) k
    have h2 := flat_all8 _ hs8
    rw [List.length_append, octAll_length]
    omega
  have HF2 : Hid (∀ k, k ≤ K → (octAll (IntKind.u64.wrap m) 2 ++ (signB seed m text).flatten ++ ((pathB ls m K).take k).flatten).length ≤ 400) := fun k hk => by
    have h1 := flat_le (pathB ls m K) k
    have h2 := flat_all8 _ hs8
    have h3 := flat_all8 _ hp8
    rw [pathB_length] at h3
    rw [List.length_append, List.length_append, octAll_length]
    omega
  have HS1 : Hid (∀ k, k < 11 → octAll (IntKind.u64.wrap m) 2 ++ ((signB seed m text).take (k + 1)).flatten = (octAll (IntKind.u64.wrap m) 2 ++ ((signB seed m text).take k).flatten) ++ (signB seed m text)[k]?.getD []) := fun k hk => by
    rw [flat_snoc _ k (by omega), List.append_assoc]
  have HS2 : Hid (∀ k, k < K → octAll (IntKind.u64.wrap m) 2 ++ (signB seed m text).flatten ++ ((pathB ls m K).take (k + 1)).flatten = (octAll (IntKind.u64.wrap m) 2 ++ (signB seed m text).flatten ++ ((pathB ls m K).take k).flatten) ++ (pathB ls m K)[k]?.getD []) := fun k hk => by
    rw [flat_snoc _ k (by rw [pathB_length]; exact hk), List.append_assoc, List.append_assoc, List.append_assoc]
  have HE1 : Hid ((signB seed m text).take 11 = signB seed m text) := List.take_of_length_le (by omega)
  have HE2 : Hid ((pathB ls m K).take K = pathB ls m K) := List.take_of_length_le (by rw [pathB_length]; omega)
  have Hsig : Hid (octAll (IntKind.u64.wrap m) 2 ++ (signB seed m text).flatten ++ (pathB ls m K).flatten = sigB seed ls m K text) := by show _ = _; rw [sigB_split, List.append_assoc]
  obtain ⟨a, cap, rfl, _, _, _⟩ := hs
  obtain ⟨ta, tc, rfl, _, _, _⟩ := hv
  have hne : ((m : Int) == (ls.length : Int)) = false := by rw [beq_eq_false_iff_ne]; omega
  have hne2 : ¬ m = ls.length := by omega
  generalize signB seed m text = SG at *
  generalize pathB ls m K = PA at *
  generalize octAll (IntKind.u64.wrap m) 2 = NU at *
  unfold keyV at Hck ⊢
  have Hsl := Lib.hid hsl
  clear hk hf hu hK hm hut hlt hl16 hseed htiny hs8 hp8 hsl
  go_enter Tryd.func6, Tryd.ntmps6
  go_wp2_with fail
  with_reducible refine Calls.mono (Hck.out _ (Up.alloc (Up.refl w) _)) ?_
  rintro e w1 ⟨rfl, hU1⟩
  have hk1 := (hU1.block w.heap.size (by simp)).trans (heap_alloc_new w _)
  have HU1 := Lib.hid (Up.trans (Up.alloc (Up.refl w) _) hU1)
  have HK1 := Lib.hid hk1
  have hc0 := cell_of_row _ _ 0 _ _ _ hk1
  have hc1 := cell_of_row _ _ 1 _ _ _ hk1
  have hc2 := cell_of_row _ _ 2 _ _ _ hk1
  simp only [List.getElem?_toArray, List.getElem?_cons_zero, List.getElem?_cons_succ] at hc0 hc1 hc2
  clear hk1 hU1 Hck
  go_wp2_with fail
  with_reducible refine Calls.mono (Hpa.out _ HU1.out) ?_
  rintro e w2 ⟨r2, rfl, hP2, hU2⟩
  obtain ⟨pa, pc, rfl, _, _, _⟩ := id hP2
  have HP2 := Lib.hid hP2
  have HU2 := Lib.hid (Up.trans HU1.out hU2)
  have HK2 := Lib.hid ((hU2.block _ (lt_of_block HK1.out)).trans HK1.out)
  clear hc0 hc1 hc2
  have hc0 : w2.cell? ⟨w.heap.size, 0, none⟩ = _ := cell_of_row _ _ 0 _ _ _ HK2.out
  have hc2 : w2.cell? ⟨w.heap.size, 2, none⟩ = _ := cell_of_row _ _ 2 _ _ _ HK2.out
  simp only [List.getElem?_toArray, List.getElem?_cons_zero, List.getElem?_cons_succ] at hc0 hc2
  clear hP2 hU2 Hpa
  go_wp2_with fail
  with_reducible refine Calls.mono (Hput.out _) ?_
  rintro e w3 ⟨pua, puc, rfl, hI3, hU3⟩
  have hcv := hI3.str
  have HU3 := Lib.hid (Up.trans HU2.out hU3)
  have HP3 := Lib.hid (HP2.out.up hU3)
  have HK3 := Lib.hid ((hU3.block _ (lt_of_block HK2.out)).trans HK2.out)
  clear hc0 hc2
  have hc0 : w3.cell? ⟨w.heap.size, 0, none⟩ = _ := cell_of_row _ _ 0 _ _ _ HK3.out
  have hc2 : w3.cell? ⟨w.heap.size, 2, none⟩ = _ := cell_of_row _ _ 2 _ _ _ HK3.out
  simp only [List.getElem?_toArray, List.getElem?_cons_zero, List.getElem?_cons_succ] at hc0 hc2
  clear hI3 hU3 Hput
  go_wp2_with fail
  with_reducible refine Calls.mono (Hsg.out _ HU3.out) ?_
  rintro e w4 ⟨sg, sc, rfl, hS4, hU4⟩
  have HU4 := Lib.hid (Up.trans HU3.out hU4)
  have HP4 := Lib.hid (HP3.out.up hU4)
  have HS4 := Lib.hid hS4
  clear hcv hc0 hc2 hS4 hU4 Hsg
  go_wp2
  go_loop [8, 10] (fun s i => ∃ k : Nat, k ≤ 11 ∧ i = .int .i64 k ∧ s = .string (strOfNums (NU ++ (SG.take k).flatten))) (fun _ i => 11 - (intOf i).toNat)
  case atStart => exact ⟨0, Nat.zero_le _, rfl, by simp⟩
  case round =>
    obtain ⟨k, hk, rfl, rfl⟩ := hrel
    by_cases hlt : k < 11
    · obtain ⟨_, _, he, _, _, hcs⟩ := HS4.out
      simp only [Value.slice.injEq] at he
      rcases hcs with h0 | ⟨b, off, hb, hcs⟩
      · have := Hsl.out; rw [h0] at this; simp at this
      obtain ⟨rfl, _, rfl⟩ := he
      simp only [Option.some.injEq, Addr.mk.injEq, and_true] at hb
      obtain ⟨rfl, rfl⟩ := hb
      have hck := hcs k (by have := Hsl.out; omega)
      rw [Nat.zero_add] at hck
      have h1 := HS1.out k hlt
      have hB := HF1.out (k + 1) (by omega)
      rw [h1, List.length_append] at hB
      have Hs := Lib.hid h1
      generalize SG[k]?.getD [] = X at hck Hs hB
      generalize NU ++ (SG.take k).flatten = Y at Hs hB ⊢
      have hsz : ((strOfNums Y).size : Int) + ((strOfNums X).size : Int) ≤ 400 := by rw [strOfNums_size, strOfNums_size]; omega
      have Hcat := Lib.hid (strOfNums_append Y X)
      clear hcs h1 hB
      go_wp2
      go_round
      case rel => exact ⟨k + 1, by omega, by go_num, by rw [Hs.out, ← Hcat.out]⟩
      case measure => simp [intOf]; omega
    · obtain rfl : k = 11 := by omega
      rw [HE1.out]
      go_wp2
      go_loop [8, 11] (fun s i => ∃ k : Nat, k ≤ PA.length ∧ i = .int .i64 k ∧ s = .string (strOfNums (NU ++ SG.flatten ++ (PA.take k).flatten))) (fun _ i => PA.length - (intOf i).toNat)
      case atStart => exact ⟨0, Nat.zero_le _, rfl, by simp⟩
      case round =>
        obtain ⟨k, hk, rfl, rfl⟩ := hrel
        by_cases hlt : k < PA.length
        · have hK := Hpl.out
          have hPA : PA.length ≤ 4 := by omega
          obtain ⟨_, _, he, _, _, hcs⟩ := HP4.out
          simp only [Value.slice.injEq] at he
          rcases hcs with h0 | ⟨b, off, hb, hcs⟩
          · rw [h0] at hlt; simp at hlt
          obtain ⟨rfl, _, rfl⟩ := he
          subst hb
          have hck := hcs k hlt
          have h1 := HS2.out k (by omega)
          have hB := HF2.out (k + 1) (by omega)
          rw [h1, List.length_append] at hB
          have Hs := Lib.hid h1
          generalize PA[k]?.getD [] = X at hck Hs hB
          generalize NU ++ SG.flatten ++ (PA.take k).flatten = Y at Hs hB ⊢
          have hsz : ((strOfNums Y).size : Int) + ((strOfNums X).size : Int) ≤ 400 := by rw [strOfNums_size, strOfNums_size]; omega
          have Hcat := Lib.hid (strOfNums_append Y X)
          clear hcs h1 hB hK
          go_wp2
          go_round
          case rel => exact ⟨k + 1, by omega, by go_num, by rw [Hs.out, ← Hcat.out]⟩
          case measure => simp [intOf]; omega
        · obtain rfl : k = PA.length := by omega
          rw [List.take_length, Hsig.out]
          go_wp2
          go_ret2
          exact ⟨rfl, HU4.out⟩

set_option maxHeartbeats 1000000 in
theorem refSig_full (seed : List Int) (lv : Value) (ls : List (List Int)) (v : Value) (text : List Int) (w : World) (hs : Strs w lv ls) (hk : KeyOk seed ls ls.length) (hf : Fits ls) (hv : Ints .u8 w v text) :
    Calls Tryd.prog 6 #[keyV seed lv ls.length, v] w fun e w' => e = .returned (.tuple #[.string ⟨#[]⟩, .int .i64 17]) ∧ Up w w' := by
  have hl16 : ls.length ≤ 16 := by have := hk.pow; omega
  have hseed := hk.seed
  have Hck : Hid (∀ wx, Up w wx → Calls Tryd.prog 10 #[keyV seed lv ls.length] wx fun e w' => e = .returned (.int .i64 0) ∧ Up wx w') := fun wx hx => by
    have h := refKey_any seed lv ls ls.length wx (hs.up hx) (by omega) (by omega) (fun k => by have := (hf k).2; omega)
    rw [keyE_ok hk] at h
    exact h
  obtain ⟨a, cap, rfl, _, _, _⟩ := hs
  obtain ⟨ta, tc, rfl, _, _, _⟩ := hv
  clear hk hf hseed
  unfold keyV at Hck ⊢
  go_enter Tryd.func6, Tryd.ntmps6
  go_wp2_with fail
  with_reducible refine Calls.mono (Hck.out _ (Up.alloc (Up.refl w) _)) ?_
  rintro e w1 ⟨rfl, hU1⟩
  have hk1 := (hU1.block w.heap.size (by simp)).trans (heap_alloc_new w _)
  have HU1 := Lib.hid (Up.trans (Up.alloc (Up.refl w) _) hU1)
  have hc1 := cell_of_row _ _ 1 _ _ _ hk1
  have hc2 := cell_of_row _ _ 2 _ _ _ hk1
  simp only [List.getElem?_toArray, List.getElem?_cons_zero, List.getElem?_cons_succ] at hc1 hc2
  clear hk1 hU1 Hck
  go_wp2
  go_ret2
  exact ⟨rfl, HU1.out⟩

set_option maxHeartbeats 1000000 in
theorem refSig_bad (seed : List Int) (lv : Value) (ls : List (List Int)) (next : Int) (v : Value) (text : List Int) (w : World) (hs : Strs w lv ls) (hl : ls.length ≤ 9223372036854775807) (h8x : ∀ k : Nat, (ls[k]?.getD []).length ≤ 9223372036854775807) (hsl : seed.length ≤ 9223372036854775807) (hk : ¬ KeyOk seed ls next) (hv : Ints .u8 w v text) :
    Calls Tryd.prog 6 #[keyV seed lv next, v] w fun e w' => e = .returned (.tuple #[.string ⟨#[]⟩, .int .i64 9]) ∧ Up w w' := by
  have Hck : Hid (∀ wx, Up w wx → Calls Tryd.prog 10 #[keyV seed lv next] wx fun e w' => e = .returned (.int .i64 9) ∧ Up wx w') := fun wx hx => by
    have h := refKey_any seed lv ls next wx (hs.up hx) hl hsl h8x
    rw [keyE_bad hk] at h
    exact h
  obtain ⟨a, cap, rfl, _, _, _⟩ := hs
  obtain ⟨ta, tc, rfl, _, _, _⟩ := hv
  clear hk h8x
  unfold keyV at Hck ⊢
  go_enter Tryd.func6, Tryd.ntmps6
  go_wp2_with fail
  with_reducible refine Calls.mono (Hck.out _ (Up.alloc (Up.refl w) _)) ?_
  rintro e w1 ⟨rfl, hU1⟩
  have HU1 := Lib.hid (Up.trans (Up.alloc (Up.refl w) _) hU1)
  clear hU1 Hck
  go_wp2
  go_ret2
  exact ⟨rfl, HU1.out⟩
end
end Go.Proofs.YtbdjbmgeelleiaaDoor
