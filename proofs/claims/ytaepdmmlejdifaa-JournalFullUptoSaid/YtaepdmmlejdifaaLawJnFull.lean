import Derived.Test.YtaepdmmlejdifaaJnRef
import Derived.Test.YtaepdmmlejdifaaJnWrite
/-
  JournalFull: the walk.
-/
namespace Go.Proofs.Ytaepdmmlejdifaa
set_option maxRecDepth 100000
section
set_option linter.unusedVariables false
open Go.RowKit

theorem dkMod60 (x : Int) : ∃ A B : Int, wrap64 (x.tmod 60 + 60) = A ∧ A.tmod 60 = B ∧ 0 ≤ B ∧ B < 60 := dkMod x 60 (by decide) (by decide)
theorem frames_snocAt (ls : List (List Int)) (k : Nat) (h : k < ls.length) : (frames (ls.take (k + 1))).length = (frames (ls.take k)).length + 3 + (ls[k]?.getD []).length := by
  rw [take_snocL ls k h, frames_snoc, List.length_append, frame_length]
  omega
set_option maxHeartbeats 2000000 in
theorem lawJnFull_any (v : Value) (ls : List (List Int)) (n : Int) (w : World) (hv : Rows8 w v ls) (hn : ls.length ≤ 1048576) (hl : ls.flatten.length ≤ 1048576) :
    Calls Try.prog 5 #[v, .int .i64 n] w fun e w' => e = .returned (.bool true) ∧ Up w w' := by
  have Hal := Lib.hid (jnAlive_any w)
  obtain ⟨a, cap, rfl, hcap, _, hcell⟩ := id hv
  have Hc : Hid (∀ k, k < ls.length → ∃ b off, a = some ⟨b, off, none⟩ ∧ ∃ a1 c1, w.cell? ⟨b, off + k, none⟩ = some (.slice a1 (ls[k]?.getD []).length c1)) := by
    intro k hk
    rcases hcell with rfl | ⟨b, off, rfl, hc⟩
    · simp at hk
    · obtain ⟨u, h1, a1, c1, rfl, _⟩ := hc k hk
      exact ⟨b, off, rfl, a1, c1, h1⟩
  have Hv := Lib.hid hv
  obtain ⟨A, B, m1, m2, mB0, mB1⟩ := dkMod60 n
  obtain ⟨R, rfl⟩ : ∃ R : Nat, B = R := ⟨B.toNat, by omega⟩
  have hroom : dkRoom R = R := by unfold dkRoom; omega
  have hx : ∀ k : Nat, (ls[k]?.getD []).length ≤ 9223372036854775807 := fun k => by
    by_cases hk : k < ls.length
    · have h1 := flat_le ls (k + 1)
      rw [flat_snoc ls k hk, List.length_append] at h1
      omega
    · rw [List.getElem?_eq_none (by omega)]; simp
  have Hx := Lib.hid hx
  have Hl := Lib.hid hl
  have hfl := frames_length ls
  have Hfl : Hid ((frames ls).length ≤ 4194304) := Lib.hid (by omega)
  have Hroom := Lib.hid hroom
  clear hv hcell hroom hx hfl
  go_enter Try.func5, Try.ntmps5
  go_wp2_with fail
  with_reducible refine Calls.mono Hal.out ?_
  rintro e w1 ⟨rfl, u1⟩
  have U1 := Lib.hid u1
  have Hn := Lib.hid (dkNew_any R w1)
  clear u1
  go_wp2_with fail
  with_reducible refine Calls.mono Hn.out ?_
  rintro e w2 ⟨rfl, hw2⟩
  have H2 := Lib.hid (show Dk w2 w.heap.size w1.heap.size (.slice none 0 0) R 0 [] by rw [← hw2]; have := dk_new0 R w1 w.heap.size U1.out.size; rw [Hroom.out] at this; rw [Hroom.out]; exact this)
  have U2 := Lib.hid (show Up w w2 by rw [← hw2]; exact Up.alloc U1.out _)
  have HvF : Hid (RowsF (fun b => ¬ WrS w1.heap.size (.slice none 0 0) b) w2 (.slice a ls.length cap) ls) := Lib.hid (((RowsF.of Hv.out (fun b hb => hb)).up U2.out).old H2.out)
  clear hw2 Hn m1 m2
  go_wp2
  go_loop [6, 7] (fun s i => ∃ k : Nat, k ≤ ls.length ∧ i = .int .i64 k ∧ s = .int .i64 (frames (ls.take k)).length ∧ (∀ j, j < k → (ls[j]?.getD []).length ≤ 16384)) (fun _ i => ls.length - (intOf i).toNat)
  case atStart => exact ⟨0, Nat.zero_le _, rfl, rfl, fun j hj => by omega⟩
  case round =>
    obtain ⟨k, hk, rfl, rfl, h8⟩ := hrel
    have H8 := Lib.hid h8
    clear h8
    by_cases hlt : k < ls.length
    · obtain ⟨b, off, rfl, a1, c1, hcw⟩ := Hc.out k hlt
      have hc2 := later_cell hcw U2.out
      have hsn := frames_snocAt ls k hlt
      have hxk := Hx.out k
      have hb1 : (frames (ls.take k)).length ≤ 4194304 := by
        have h1 := frames_mono ls hk
        rw [List.take_length] at h1
        have := Hfl.out
        omega
      have hb2 : (frames (ls.take (k + 1))).length ≤ 4194304 := by
        have h1 := frames_mono ls (show k + 1 ≤ ls.length by omega)
        rw [List.take_length] at h1
        have := Hfl.out
        omega
      by_cases he : (ls[k]?.getD []).length ≤ 16384
      · have He := Lib.hid he
        have Hsn := Lib.hid hsn
        clear hsn hxk
        generalize (ls[k]?.getD []).length = X at hc2 he Hsn
        generalize (frames (ls.take k)).length = F at hb1 Hsn
        clear hcw
        go_wp2
        go_round
        case rel => exact ⟨k + 1, by omega, by go_num, by rw [Hsn.out]; go_num, fun j hj => by
          by_cases e : j = k
          · rw [e]; exact He.out
          · exact H8.out j (by omega)⟩
        case measure => simp [intOf]; omega
      · have hns : ¬ Shorts ls := fun h => he (shortAt_iff.2 h k hlt)
        have Hw := Lib.hid (jnWrite_long _ ls w2 H2.out U2.out.size HvF.out (by omega) Hx.out hns)
        clear hns hsn
        generalize (ls[k]?.getD []).length = X at hc2 he hxk
        generalize (frames (ls.take k)).length = F at hb1
        clear hcw
        go_wp2_with fail
        with_reducible refine Calls.mono Hw.out ?_
        rintro e w3 ⟨rfl, o3, h3, s3⟩
        have Hsz := Lib.hid (dkSize_any w3 h3)
        have U3 := Lib.hid (H2.out.next s3 U2.out)
        clear h3 s3
        go_wp2_with fail
        with_reducible refine Calls.mono Hsz.out ?_
        rintro e w4 ⟨rfl, rfl⟩
        go_wp2
        go_ret
        exact ⟨rfl, U3.out⟩
    · obtain rfl : k = ls.length := by omega
      rw [List.take_length]
      have hs : Shorts ls := shortAt_iff.1 H8.out
      have Hw := Lib.hid (jnWrite_any _ ls w2 H2.out U2.out.size HvF.out (by omega) (by have := Hl.out; omega) hs)
      have hfb := Hfl.out
      have Hfs := Lib.hid (show ([] : List Int) ++ frames ls = frames ls from rfl)
      by_cases hle : (frames ls).length ≤ R
      · have hE : dkAppE R [] (frames ls) = 0 := if_pos (by simpa using hle)
        have hB : dkApp R [] (frames ls) = frames ls := if_pos (by simpa using hle)
        rw [hE, hB] at Hw
        clear hs hE hB
        go_wp2_with fail
        with_reducible refine Calls.mono Hw.out ?_
        rintro e w3 ⟨rfl, o3, h3, s3⟩
        have Hsz : Hid (∀ w4, Up w3 w4 → Calls Try.prog 18 #[.pointer (some ⟨w1.heap.size, 0, none⟩)] w4 fun e w' => e = .returned (.int .i64 ((frames ls).length : Int)) ∧ w4 = w') := Lib.hid fun w4 u4 => dkSize_any w4 (h3.up u4)
        have Hlo : Hid (∀ w4, Up w3 w4 → Calls Try.prog 19 #[.pointer (some ⟨w1.heap.size, 0, none⟩)] w4 fun e w' => e = .returned (.int .i64 ((frames ls).length : Int)) ∧ Up w4 w') := Lib.hid fun w4 u4 => by
          have := dkLoose_any w4 (h3.up u4)
          simpa using this
        have U3 := Lib.hid (H2.out.next s3 U2.out)
        have Hrc := Lib.hid (noRecover (.pointer none) w3 ⟨.inl rfl⟩)
        clear h3 s3
        generalize (frames ls).length = F at hfb hle Hsz Hlo ⊢
        go_wp2_with fail
        with_reducible refine Calls.mono Hrc.out ?_
        rintro e w4 ⟨rfl, u4⟩
        have Hsz4 := Lib.hid (Hsz.out w4 u4)
        have Hlo4 := Lib.hid (Hlo.out w4 u4)
        have U4 := Lib.hid (Up.trans U3.out u4)
        clear u4
        go_wp2_with fail
        with_reducible refine Calls.mono Hsz4.out ?_
        rintro e w5 ⟨rfl, rfl⟩
        go_wp2_with fail
        with_reducible refine Calls.mono Hlo4.out ?_
        rintro e w6 ⟨rfl, u6⟩
        have Hnw := Lib.hid (noWrite (.pointer none) (.slice a ls.length cap) w6 ⟨.inl rfl⟩ ⟨_, _, _, rfl⟩)
        have U6 := Lib.hid (Up.trans U4.out u6)
        clear u6
        go_wp2_with fail
        with_reducible refine Calls.mono Hnw.out ?_
        rintro e w7 ⟨rfl, rfl⟩
        go_wp2
        go_ret
        exact ⟨rfl, U6.out⟩
      · have hE : dkAppE R [] (frames ls) = 17 := if_neg (by simpa using hle)
        have hB : dkApp R [] (frames ls) = [] := if_neg (by simpa using hle)
        rw [hE, hB] at Hw
        clear hs hE hB
        generalize (frames ls).length = F at hfb hle ⊢
        go_wp2_with fail
        with_reducible refine Calls.mono Hw.out ?_
        rintro e w3 ⟨rfl, o3, h3, s3⟩
        have Hsz := Lib.hid (dkSize_any w3 h3)
        have U3 := Lib.hid (H2.out.next s3 U2.out)
        clear h3 s3
        go_wp2_with fail
        with_reducible refine Calls.mono Hsz.out ?_
        rintro e w4 ⟨rfl, rfl⟩
        go_wp2
        go_ret
        exact ⟨rfl, U3.out⟩
end
end Go.Proofs.Ytaepdmmlejdifaa
