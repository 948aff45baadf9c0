import Derived.Test.YtpofehagmpdgeaaDoorLawRows
/-
  MerkleWidths: the walk returns true.
-/
namespace Go.Proofs.YtpofehagmpdgeaaDoor
section
set_option linter.unusedVariables false
open Go.RowKit

theorem made_strs (k : Nat) (hk : k ≤ 1048576) (u : World) : (Instr.makeSlice 22 (.int .i64 k) (.int .i64 k)).run Tryd.prog u =
      .ok (.slice (some ⟨u.heap.size, 0, none⟩) k k) (u.alloc (.cells (madeCells #[.string ⟨#[]⟩] k) 9)) := by
  obtain ⟨i0, hi, hz0, hz1, hz2⟩ := info_parts info_strg
  have h := run_make (P := Tryd.prog) u 22 9 i0 (.string ⟨#[]⟩) Tryd.underlying22 hi hz0 .i64 .i64 (k : Int) (k : Int) (by omega) (by omega) (by rw [hz2]; omega) (by omega)
  simpa [hz1, Value.cells] using h
theorem madeCells_strs (k : Nat) : (madeCells #[Value.string ⟨#[]⟩] k).toList = strVs (List.replicate k []) := by
  apply List.ext_getElem
  · simp [madeCells, strVs]
  · intro i h1 h2
    simp [madeCells, strVs, strOfNums, Nat.mod_one]
theorem fits_none (k : Nat) : Fits (List.replicate k []) := by
  intro j
  have h : (List.replicate k ([] : List Int))[j]?.getD [] = [] := by
    by_cases hj : j < k
    · simp [hj]
    · simp [hj]
  rw [h]
  exact ⟨U8s.nil, by simp⟩

theorem halved {a h K : Nat} (e : a * 2 ^ h = 2 ^ K) (ho : ¬ (1 < a ∧ a % 2 = 0)) : a = 1 ∧ h = K := by
  have hp := Nat.two_pow_pos h
  have hq := Nat.two_pow_pos K
  have ha : 0 < a := by
    rcases Nat.eq_zero_or_pos a with z | z
    · rw [z] at e; omega
    · exact z
  have hle : h ≤ K := by
    rcases Nat.lt_or_ge K h with z | z
    · have h1 := Nat.pow_lt_pow_right (show 1 < 2 by omega) z
      have h2 : 2 ^ h ≤ a * 2 ^ h := Nat.le_mul_of_pos_left _ ha
      omega
    · exact z
  have e2 : a = 2 ^ (K - h) := by
    have h1 : 2 ^ K = 2 ^ (K - h) * 2 ^ h := by rw [← Nat.pow_add]; congr 1; omega
    rw [h1] at e
    exact Nat.eq_of_mul_eq_mul_right hp e
  rcases Nat.eq_zero_or_pos (K - h) with z | z
  · rw [z] at e2; exact ⟨by simpa using e2, by omega⟩
  · exfalso
    obtain ⟨d, hd⟩ : ∃ d, K - h = d + 1 := ⟨K - h - 1, by omega⟩
    rw [hd, Nat.pow_succ] at e2
    have := Nat.two_pow_pos d
    exact ho ⟨by omega, by omega⟩

/-- what Path tells of so many empty texts -/
theorem widths_case (N : Nat) (at_ : Int) : ∃ E c, (pathE (List.replicate N []) at_ = E ∧ (pathR (List.replicate N []) at_).length = c) ∧ (((at_ < 0 ∨ (N : Int) ≤ at_) ∧ E = 4 ∧ c = 0) ∨ (¬ at_ < 0 ∧ ¬ (N : Int) ≤ at_ ∧ (∃ K, N = 2 ^ K ∧ c = K) ∧ E = 0) ∨ (¬ at_ < 0 ∧ ¬ (N : Int) ≤ at_ ∧ ¬ isPow N ∧ E = 3 ∧ c = 0)) := by
  refine ⟨_, _, ⟨rfl, rfl⟩, ?_⟩
  unfold pathE pathR
  rw [List.length_replicate]
  by_cases hout : at_ < 0 ∨ (N : Int) ≤ at_
  · rw [if_pos hout, if_pos hout]; exact .inl ⟨hout, rfl, rfl⟩
  · rw [if_neg hout, if_neg hout]
    by_cases hp : isPow N
    · rw [if_pos hp, if_pos hp]
      exact .inr (.inl ⟨by omega, by omega, ⟨Nat.log2 N, isPow_log.1 hp, pathB_length _ _ _⟩, rfl⟩)
    · rw [if_neg hp, if_neg hp]
      exact .inr (.inr ⟨by omega, by omega, hp, rfl, rfl⟩)

set_option maxHeartbeats 2000000 in
theorem lawWidths_any (m : Nat) (at_ : Int) (w : World) (hm : m < 256) (hat : -9223372036854775808 ≤ at_ ∧ at_ ≤ 9223372036854775807) (hT : Tab64 w) :
    Calls Tryd.prog 6 #[.int .u8 (m : Int), .int .i64 at_] w fun e w' => e = .returned (.bool true) ∧ Up w w' := by
  have Ha := Lib.hid (mkAlive_any w hT)
  obtain ⟨N, hN⟩ : ∃ N, m % 40 = N := ⟨_, rfl⟩
  have hN40 : N < 40 := by omega
  have hmN : (m : Int) % 40 = (N : Int) := by omega
  have hwm : IntKind.i64.wrap (m : Int) = (m : Int) := IntWalk.i64_in _ (by omega)
  have hmk := made_strs N (by omega)
  obtain ⟨E, c, ⟨hE, hc⟩, hcase⟩ := widths_case N at_
  have Hcase := Lib.hid hcase
  have Hp : Hid (∀ wx : World, Up w wx → Calls Tryd.prog 7 #[.slice (some ⟨wx.heap.size, 0, none⟩) N N, .int .i64 at_] (wx.alloc (.cells (madeCells #[.string ⟨#[]⟩] N) 9)) fun e w' => ∃ a cp, e = .returned (.tuple #[.slice a c cp, .int .i64 E]) ∧ Up (wx.alloc (.cells (madeCells #[.string ⟨#[]⟩] N) 9)) w') := fun wx hx => by
    have hS := strs_new wx 9 (madeCells #[.string ⟨#[]⟩] N) (List.replicate N []) wx.heap.size N rfl (by simp) (madeCells_strs N)
    refine (path_any _ _ at_ _ hS (fits_none N) (by simp; omega) hat (hT.up (Up.alloc hx _))).mono ?_
    rintro e w' ⟨r, rfl, hr, hU⟩
    obtain ⟨a, cp, rfl, _⟩ := hr
    exact ⟨a, cp, by rw [hc, hE], hU⟩
  have hc40 : c < 64 := by
    rcases hcase with ⟨_, _, rfl⟩ | ⟨_, _, ⟨K, h1, rfl⟩, _⟩ | ⟨_, _, _, _, rfl⟩
    · omega
    · have := Nat.lt_two_pow_self (n := c); omega
    · omega
  clear hT hat hE hc hcase hN
  go_enter Tryd.func6, Tryd.ntmps6
  go_wp2_with fail
  with_reducible refine Calls.mono Ha.out ?_
  rintro e w1 ⟨rfl, hU1⟩
  go_wp2_with fail
  with_reducible refine Calls.mono (Hp.out _ hU1) ?_
  rintro e w2 ⟨a2, c2, rfl, hU2⟩
  have HU := Lib.hid (Up.trans (Up.alloc hU1 _) hU2)
  clear hmk hU1 hU2 hmN hwm
  go_wp2
  go_loopw [8, 9] (fun n h wr => ∃ a k : Nat, n = .int .i64 a ∧ h = .int .i64 k ∧ a * 2 ^ k = N ∧ k ≤ N ∧ Up w wr) (fun n _ _ => (intOf n).toNat)
  case atStart => exact ⟨N, 0, rfl, rfl, by simp, Nat.zero_le _, HU.out⟩
  case round =>
    obtain ⟨a, k, rfl, rfl, hak, hkN, hB⟩ := hrel
    have Hak := Lib.hid hak
    have HB := Lib.hid hB
    have haN : a ≤ N := by
      rw [← hak]; exact Nat.le_mul_of_pos_right _ (Nat.two_pow_pos k)
    clear hak hB
    by_cases h1 : 1 < a
    · by_cases h2 : a % 2 = 0
      · have i1 : (1 : Int) < a := by omega
        have i2 : (a : Int) % 2 = 0 := by omega
        have Hak2 : Hid (a / 2 * 2 ^ (k + 1) = N ∧ k + 1 ≤ N) := by
          have e : a / 2 * 2 ^ (k + 1) = a * 2 ^ k := by
            rw [Nat.pow_succ, Nat.mul_comm (2 ^ k) 2, ← Nat.mul_assoc, show a / 2 * 2 = a from by omega]
          refine ⟨e.trans Hak.out, ?_⟩
          have h3 := Nat.lt_two_pow_self (n := k + 1)
          have h4 : 2 ^ (k + 1) ≤ a / 2 * 2 ^ (k + 1) := Nat.le_mul_of_pos_left _ (by omega)
          rw [e, Hak.out] at h4
          omega
        go_wp2
        go_roundw
        case rel => exact ⟨a / 2, k + 1, by go_num, by go_num, Hak2.out.1, Hak2.out.2, HB.out⟩
        case measure => simp [intOf]; omega
      · have i1 : (1 : Int) < a := by omega
        have i2 : ¬ (a : Int) % 2 = 0 := by omega
        have i3 : ((a : Int) == 1) = false := by simp; omega
        rcases Hcase.out with ⟨hout | hout, rfl, rfl⟩ | ⟨o1, o2, ⟨K, hK, _⟩, rfl⟩ | ⟨o1, o2, hp, rfl, rfl⟩
        · clear Hcase
          go_wp2
          go_ret
          exact ⟨rfl, HB.out⟩
        · by_cases hneg : at_ < 0
          · clear Hcase hout
            go_wp2
            go_ret
            exact ⟨rfl, HB.out⟩
          · clear Hcase
            go_wp2
            go_ret
            exact ⟨rfl, HB.out⟩
        · exact absurd (halved (Hak.out.trans hK) (fun h => h2 h.2)).1 (by omega)
        · clear Hcase hp
          go_wp2
          go_ret
          exact ⟨rfl, HB.out⟩
    · have i1 : ¬ (1 : Int) < a := by omega
      rcases Hcase.out with ⟨hout | hout, rfl, rfl⟩ | ⟨o1, o2, ⟨K, hK, hcK⟩, rfl⟩ | ⟨o1, o2, hp, rfl, rfl⟩
      · clear Hcase
        go_wp2
        go_ret
        exact ⟨rfl, HB.out⟩
      · by_cases hneg : at_ < 0
        · clear Hcase hout
          go_wp2
          go_ret
          exact ⟨rfl, HB.out⟩
        · clear Hcase
          go_wp2
          go_ret
          exact ⟨rfl, HB.out⟩
      · obtain ⟨rfl, rfl⟩ := halved (Hak.out.trans hK) (fun h => h1 h.1)
        subst hcK
        clear Hcase hK
        go_wp2
        go_ret
        exact ⟨rfl, HB.out⟩
      · have ha0 : a = 0 := by
          rcases Nat.eq_zero_or_pos a with z | z
          · exact z
          · exact absurd ⟨k, by rw [← Hak.out, show a = 1 from by omega, Nat.one_mul]⟩ hp
        subst ha0
        clear Hcase hp
        go_wp2
        go_ret
        exact ⟨rfl, HB.out⟩
theorem u8_of_wf {a : Int} (h : (Lit.int .u8 a).wf = true) : 0 ≤ a ∧ a < 256 := by
  simp [Lit.wf, IntKind.min, IntKind.max, IntKind.signed, IntKind.bits] at h
  constructor <;> omega
theorem lawWidths_u8 (m : Int) (at_ : Int) (w : World) (hm : 0 ≤ m ∧ m < 256) (hat : -9223372036854775808 ≤ at_ ∧ at_ ≤ 9223372036854775807) (hT : Tab64 w) :
    Calls Tryd.prog 6 #[.int .u8 m, .int .i64 at_] w fun e w' => e = .returned (.bool true) ∧ Up w w' := by
  obtain ⟨n, rfl⟩ : ∃ n : Nat, m = n := ⟨m.toNat, by omega⟩
  exact lawWidths_any n at_ w (by omega) hat hT
end
end Go.Proofs.YtpofehagmpdgeaaDoor
