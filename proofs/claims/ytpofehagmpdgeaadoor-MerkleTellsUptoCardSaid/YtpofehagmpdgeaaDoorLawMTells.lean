import Derived.Deep.QuietTactic
import Derived.BigQuiet
import Derived.Test.YtpofehagmpdgeaaDoorLawRows
import Derived.Test.YtpofehagmpdgeaaDoorRefMk2
/-
  MerkleTells: the walk returns true.
-/
namespace Go.Proofs.YtpofehagmpdgeaaDoor
section
set_option linter.unusedVariables false
open Go.RowKit

theorem Strs.allW {W : World} {v : Value} {ls : List (List Int)} (h : Strs W v ls) (h0 : 0 < ls.length) : ∃ b off c, v = .slice (some ⟨b, off, none⟩) ls.length c ∧ ∀ W', Up W W' → ∀ j, j < ls.length → W'.cell? ⟨b, off + j, none⟩ = some (.string (strOfNums (ls[j]?.getD []))) := by
  obtain ⟨a, c, rfl, hc, hn, hcell⟩ := id h
  rcases hcell with rfl | ⟨b, off, rfl, hcs⟩
  · simp at h0
  · refine ⟨b, off, c, rfl, fun W' hu j hj => ?_⟩
    exact (hu.cell (p := ⟨b, off + j, none⟩) (World.block_lt_of_cell? W _ (hcs j hj))).trans (hcs j hj)

set_option maxHeartbeats 1000000 in
theorem texts_any (v u : Value) (ls : List (List Int)) (w : World) (hv : Strs w v ls) (hu : Strs w u ls) (hl : ls.length ≤ 1048576) :
    Calls Tryd.prog 9 #[v, u] w fun e w' => e = .returned (.bool true) ∧ Up w w' := by
  rcases Nat.eq_zero_or_pos ls.length with h0 | h0
  · obtain ⟨a1, c1, rfl, _⟩ := hv
    obtain ⟨a2, c2, rfl, _⟩ := hu
    rw [h0]
    clear h0 hl
    go_enter Tryd.func9, Tryd.ntmps9
    go_wp2
    refine wp_loop_once ?_
    go_wp2
    go_ret
    exact ⟨rfl, Up.refl _⟩
  · obtain ⟨b1, o1, c1, rfl, H1⟩ := hv.allW h0
    obtain ⟨b2, o2, c2, rfl, H2⟩ := hu.allW h0
    have H1 := Lib.hid H1
    have H2 := Lib.hid H2
    clear hv hu h0
    go_enter Tryd.func9, Tryd.ntmps9
    go_wp2
    go_loopw [5] (fun i wr => ∃ k : Nat, k ≤ ls.length ∧ i = .int .i64 k ∧ Up w wr) (fun i _ => ls.length - (intOf i).toNat)
    case atStart => exact ⟨0, Nat.zero_le _, rfl, Up.refl w⟩
    case round =>
      obtain ⟨k, hk, rfl, hB⟩ := hrel
      by_cases hlt : k < ls.length
      · have c1 := H1.out wr hB k hlt
        have c2 := H2.out wr hB k hlt
        generalize strOfNums (ls[k]?.getD []) = d at c1 c2
        go_wp2
        go_quiet (fail)
        have hB2 := Up.drewN hB nq
        generalize wr.drewN nq = w2 at hB2 ⊢
        clear c1 c2
        go_wp2
        go_roundw
        case rel => exact ⟨k + 1, by omega, by go_num, hB2⟩
        case measure => simp [intOf]; omega
      · obtain rfl : k = ls.length := by omega
        go_wp2
        go_ret
        exact ⟨rfl, hB⟩

theorem pathR_length (ls : List (List Int)) (at_ : Int) (hl : ls.length ≤ 1048576) : (pathR ls at_).length ≤ 1048576 := by
  unfold pathR
  split
  · simp
  · split
    · rename_i h
      rw [pathB_length]
      have h1 := isPow_log.1 h
      have := Nat.lt_two_pow_self (n := Nat.log2 ls.length)
      omega
    · simp

set_option maxHeartbeats 2000000 in
theorem lawMTells_any (v : Value) (ls : List (List Int)) (at_ : Int) (leaf : List Int) (pv : Value) (path : List (List Int)) (w : World) (hs : Strs w v ls) (hf : Tiny ls) (hl : ls.length ≤ 1048576) (hat : -9223372036854775808 ≤ at_ ∧ at_ ≤ 9223372036854775807)
    (hle : U8s leaf ∧ leaf.length ≤ 1048576) (hp : Strs w pv path) (hfp : Tiny path) (hlp : path.length ≤ 1048576) (hT : Tab64 w) :
    Calls Tryd.prog 3 #[v, .int .i64 at_, .string (strOfNums leaf), pv] w fun e w' => e = .returned (.bool true) ∧ Up w w' := by
  have Ha : Hid (∀ wx, Up w wx → Calls Tryd.prog 17 #[] wx fun e w' => e = .returned (.bool true) ∧ Up wx w') := fun wx hx => mkAlive_any wx (hT.up hx)
  have Hp1 := Lib.hid (path_any v ls at_ w hs hf.fits (by omega) hat hT)
  have Hp2 : Hid (∀ wx, Up w wx → Calls Tryd.prog 8 #[v, .int .i64 at_] wx fun e w' => ∃ r, e = .returned (.tuple #[r, .int .i64 (pathE ls at_)]) ∧ Strs w' r (pathR ls at_) ∧ Up wx w') := fun wx hx => refPath_any v ls at_ wx (hs.up hx) hf hl
  have Hu1 : Hid (∀ wx, Up w wx → Calls Tryd.prog 10 #[v] wx fun e w' => ∃ r, e = .returned r ∧ Strs w' r (upB ls) ∧ Up wx w') := fun wx hx => (up_any v ls wx (hs.up hx) hf.fits (by omega)).mono fun e w' ⟨r, h1, h2, h3⟩ => ⟨r, h1, Strs.of_row h2, h3⟩
  have Hu2 : Hid (∀ wx, Up w wx → Calls Tryd.prog 11 #[v] wx fun e w' => ∃ r, e = .returned r ∧ Strs w' r (upB ls) ∧ Up wx w') := fun wx hx => (refUp_any v ls wx (hs.up hx) hf hl).mono fun e w' ⟨r, h1, h2, h3⟩ => ⟨r, h1, Strs.of_row h2, h3⟩
  have Hr1 : Hid (∀ wx, Up w wx → Calls Tryd.prog 12 #[v] wx fun e w' => e = .returned (.string (strOfNums (rootB ls))) ∧ Up wx w') := fun wx hx => root_any v ls wx (hs.up hx) hf.fits (by omega)
  have Hr2 : Hid (∀ wx, Up w wx → Calls Tryd.prog 13 #[v] wx fun e w' => e = .returned (.string (strOfNums (rootB ls))) ∧ Up wx w') := fun wx hx => refRoot_any v ls wx (hs.up hx) hf hl
  have Hc1 : Hid (∀ wx, Up w wx → Calls Tryd.prog 15 #[.string (strOfNums leaf), .int .i64 at_, pv] wx fun e w' => e = .returned (.string (strOfNums (climbB leaf at_.toNat path))) ∧ Up wx w') := fun wx hx => climb_any leaf at_ pv path wx ⟨hle.1, by have := hle.2; omega⟩ (hp.up hx) hfp.fits (by omega) hat
  have Hc2 : Hid (∀ wx, Up w wx → Calls Tryd.prog 16 #[.string (strOfNums leaf), .int .i64 at_, pv] wx fun e w' => e = .returned (.string (strOfNums (climbB leaf at_.toNat path))) ∧ Up wx w') := fun wx hx => refClimb_from leaf at_ at_.toNat pv path wx hle (hp.up hx) hfp hlp (by omega) (by omega)
  have Hul : Hid ((upB ls).length ≤ 1048576) := by show _ ≤ _; rw [upB_length]; omega
  have Hpl := Lib.hid (pathR_length ls at_ hl)
  obtain ⟨a, cap, rfl, _, _, _⟩ := hs
  obtain ⟨pa, pcap, rfl, _, _, _⟩ := hp
  clear hf hat hle hfp hT
  generalize strOfNums (climbB leaf at_.toNat path) = C at Hc1 Hc2
  generalize strOfNums (rootB ls) = R at Hr1 Hr2
  generalize upB ls = us at Hu1 Hu2 Hul
  generalize pathR ls at_ = pr at Hp1 Hp2 Hpl
  generalize pathE ls at_ = E at Hp1 Hp2
  go_enter Tryd.func3, Tryd.ntmps3
  go_wp2_with fail
  with_reducible refine Calls.mono Hp1.out ?_
  rintro e w1 ⟨r1, rfl, hr1, hU1⟩
  have HR1 := Lib.hid hr1
  obtain ⟨a1, c1, rfl, _, _, _⟩ := hr1
  clear Hp1
  go_wp2_with fail
  with_reducible refine Calls.mono (Hp2.out _ hU1) ?_
  rintro e w2 ⟨r2, rfl, hr2, hU2⟩
  have HR2 := Lib.hid hr2
  obtain ⟨a2, c2, rfl, _, _, _⟩ := hr2
  have HR1 := Lib.hid (HR1.out.up hU2)
  have hU2 := Up.trans hU1 hU2
  clear Hp2 hU1
  go_wp2_with fail
  with_reducible refine Calls.mono (Hu1.out _ hU2) ?_
  rintro e w3 ⟨r3, rfl, hr3, hU3⟩
  have HR3 := Lib.hid hr3
  obtain ⟨a3, c3, rfl, _, _, _⟩ := hr3
  have HR1 := Lib.hid (HR1.out.up hU3)
  have HR2 := Lib.hid (HR2.out.up hU3)
  have hU3 := Up.trans hU2 hU3
  clear Hu1 hU2
  go_wp2_with fail
  with_reducible refine Calls.mono (Hu2.out _ hU3) ?_
  rintro e w4 ⟨r4, rfl, hr4, hU4⟩
  have HR4 := Lib.hid hr4
  obtain ⟨a4, c4, rfl, _, _, _⟩ := hr4
  have HR1 := Lib.hid (HR1.out.up hU4)
  have HR2 := Lib.hid (HR2.out.up hU4)
  have HR3 := Lib.hid (HR3.out.up hU4)
  have hU4 := Up.trans hU3 hU4
  clear Hu2 hU3
  go_wp2_with fail
  with_reducible refine Calls.mono (texts_any _ _ us w4 HR3.out HR4.out Hul.out) ?_
  rintro e w5 ⟨rfl, hU5⟩
  have HR1 := Lib.hid (HR1.out.up hU5)
  have HR2 := Lib.hid (HR2.out.up hU5)
  have hU5 := Up.trans hU4 hU5
  clear hU4 HR3 HR4
  go_wp2_with fail
  with_reducible refine Calls.mono (Hr1.out _ hU5) ?_
  rintro e w6 ⟨rfl, hU6⟩
  have HR1 := Lib.hid (HR1.out.up hU6)
  have HR2 := Lib.hid (HR2.out.up hU6)
  have hU6 := Up.trans hU5 hU6
  go_wp2_with fail
  with_reducible refine Calls.mono (Hr2.out _ hU6) ?_
  rintro e w7 ⟨rfl, hU7⟩
  have HR1 := Lib.hid (HR1.out.up hU7)
  have HR2 := Lib.hid (HR2.out.up hU7)
  have hU7 := Up.trans hU6 hU7
  clear hU5 hU6
  go_wp2_with fail
  with_reducible refine Calls.mono (texts_any _ _ pr w7 HR1.out HR2.out Hpl.out) ?_
  rintro e w8 ⟨rfl, hU8⟩
  have hU8 := Up.trans hU7 hU8
  clear HR1 HR2
  go_wp2_with fail
  with_reducible refine Calls.mono (num_any E _) ?_
  rintro e w9 ⟨rfl, rfl⟩
  go_wp2_with fail
  with_reducible refine Calls.mono (Hc1.out _ hU8) ?_
  rintro e w10 ⟨rfl, hU10⟩
  have hU10 := Up.trans hU8 hU10
  go_wp2_with fail
  with_reducible refine Calls.mono (Hc2.out _ hU10) ?_
  rintro e w11 ⟨rfl, hU11⟩
  have hU11 := Up.trans hU10 hU11
  go_wp2_with fail
  with_reducible refine Calls.mono (Ha.out _ hU11) ?_
  rintro e w12 ⟨rfl, hU12⟩
  have hU12 := Up.trans hU11 hU12
  go_wp2
  go_ret
  exact ⟨rfl, hU12⟩

theorem flat_at (ls : List (List Int)) (k : Nat) : (ls[k]?.getD []).length ≤ ls.flatten.length := by
  by_cases hk : k < ls.length
  · simp only [List.getElem?_eq_getElem hk, Option.getD_some]
    obtain ⟨a, b, hab⟩ := List.append_of_mem (List.getElem_mem hk)
    rw [show ls.flatten = (a ++ ls[k] :: b).flatten from by rw [← hab], List.flatten_append, List.flatten_cons]
    simp only [List.length_append]
    omega
  · rw [List.getElem?_eq_none (by omega)]; simp
theorem tiny_of {ls : List (List Int)} (h1 : ∀ k : Nat, U8s (ls[k]?.getD [])) (h2 : ls.length + ls.flatten.length + 1 ≤ 1048576) : Tiny ls := fun k => ⟨h1 k, by have := flat_at ls k; omega⟩
theorem lawMTells_str (v : Value) (ls : List (List Int)) (at_ : Int) (s : ByteArray) (pv : Value) (path : List (List Int)) (w : World) (hs : Strs w v ls) (hf : Tiny ls) (hl : ls.length ≤ 1048576) (hat : -9223372036854775808 ≤ at_ ∧ at_ ≤ 9223372036854775807)
    (hle : s.data.toList.length + 1 ≤ 1048576) (hp : Strs w pv path) (hfp : Tiny path) (hlp : path.length ≤ 1048576) (hT : Tab64 w) :
    Calls Tryd.prog 3 #[v, .int .i64 at_, .string s, pv] w fun e w' => e = .returned (.bool true) ∧ Up w w' := by
  have h := lawMTells_any v ls at_ (octsOf s) pv path w hs hf hl hat ⟨octsOf_u8s s, by rw [octsOf_length]; have e : s.data.toList.length = s.size := rfl; omega⟩ hp hfp hlp hT
  rwa [strOf_octs] at h
end
end Go.Proofs.YtpofehagmpdgeaaDoor
