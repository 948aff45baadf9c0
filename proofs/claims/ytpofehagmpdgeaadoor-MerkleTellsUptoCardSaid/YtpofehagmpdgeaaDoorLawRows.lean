import Derived.Test.YtpofehagmpdgeaaDoorMkAlive
/-
  MerkleRows, MerkleBack: the walks return true.
-/
namespace Go.Proofs.YtpofehagmpdgeaaDoor
section
set_option linter.unusedVariables false
open Go.RowKit

theorem num_any (x : Int) (w : World) : Calls Tryd.prog 14 #[.int .i64 x] w fun e w' => e = .returned (.int .i64 x) ∧ w = w' := by
  go_enter Tryd.func14, Tryd.ntmps14
  go_wp2
  go_ret
  exact ⟨rfl, rfl⟩

set_option maxHeartbeats 1000000 in
theorem lawRows_any (v : Value) (ls : List (List Int)) (w : World) (hs : Strs w v ls) (hf : Fits ls) (hl : ls.length ≤ 8796093022208) (hT : Tab64 w) :
    Calls Tryd.prog 5 #[v] w fun e w' => e = .returned (.bool true) ∧ Up w w' := by
  have Ha := Lib.hid (mkAlive_any w hT)
  have Hup : Hid (∀ wx, Up w wx → Calls Tryd.prog 10 #[v] wx fun e w' => ∃ r, e = .returned r ∧ w'.ownsRow wx.heap.size 9 1 r (upB ls).length (strVs (upB ls)) ∧ Up wx w') := fun wx hx => up_any v ls wx (hs.up hx) hf hl
  have Hr1 : Hid (∀ wx r, Strs wx r (upB ls) → Calls Tryd.prog 12 #[r] wx fun e w' => e = .returned (.string (strOfNums (rootB ls))) ∧ Up wx w') := fun wx r hr => by
    have := root_any r (upB ls) wx hr hf.up (by rw [upB_length]; omega)
    rwa [root_up] at this
  have Hr2 : Hid (∀ wx, Up w wx → Calls Tryd.prog 12 #[v] wx fun e w' => e = .returned (.string (strOfNums (rootB ls))) ∧ Up wx w') := fun wx hx => root_any v ls wx (hs.up hx) hf hl
  have hul := upB_length ls
  have hlen : Hid (((upB ls).length : Int) = (ls.length : Int) / 2 + (ls.length : Int) % 2) := by show _ = _; rw [hul]; omega
  obtain ⟨a, cap, rfl, hcap, _, _⟩ := hs
  clear hf hT hul
  generalize strOfNums (rootB ls) = R at Hr1 Hr2
  generalize upB ls = us at Hup Hr1 hlen
  go_enter Tryd.func5, Tryd.ntmps5
  go_wp2_with fail
  with_reducible refine Calls.mono Ha.out ?_
  rintro e w1 ⟨rfl, hU1⟩
  go_wp2_with fail
  with_reducible refine Calls.mono (Hup.out _ hU1) ?_
  rintro e w2 ⟨r2, rfl, hr2, hU2⟩
  have HS2 := Lib.hid (Strs.of_row hr2)
  obtain ⟨a2, c2, rfl, hc2, _, _⟩ := HS2.out
  have hU2 := Up.trans hU1 hU2
  have HU2 := Lib.hid hU2
  clear hr2 hU1 hU2
  obtain ⟨n, hn⟩ : ∃ n, us.length = n := ⟨_, rfl⟩
  rw [hn] at hlen hc2 HS2 ⊢
  clear hn
  have hnn : n ≤ ls.length := by have := hlen.out; omega
  have hq : (ls.length : Int) / 2 + (ls.length : Int) % 2 = (n : Int) := hlen.out.symm
  go_wp2_with fail
  with_reducible refine Calls.mono (Hr1.out _ _ HS2.out) ?_
  rintro e w3 ⟨rfl, hU3⟩
  have hU3 := Up.trans HU2.out hU3
  go_wp2_with fail
  with_reducible refine Calls.mono (Hr2.out _ hU3) ?_
  rintro e w4 ⟨rfl, hU4⟩
  have hU4 := Up.trans hU3 hU4
  go_wp2
  go_ret
  exact ⟨rfl, hU4⟩

theorem path_bad (ls : List (List Int)) (at_ : Int) (h : ¬ (0 ≤ at_ ∧ at_ < ls.length ∧ isPow ls.length)) : (pathE ls at_ = 3 ∨ pathE ls at_ = 4) ∧ pathR ls at_ = [] := by
  unfold pathE pathR
  by_cases hout : at_ < 0 ∨ (ls.length : Int) ≤ at_
  · rw [if_pos hout, if_pos hout]; exact ⟨.inr rfl, rfl⟩
  · rw [if_neg hout, if_neg hout]
    by_cases hp : isPow ls.length
    · exact absurd ⟨by omega, by omega, hp⟩ h
    · rw [if_neg hp, if_neg hp]; exact ⟨.inl rfl, rfl⟩

set_option maxHeartbeats 1000000 in
theorem lawBack_any (v : Value) (ls : List (List Int)) (at_ : Int) (w : World) (hs : Strs w v ls) (hf : Fits ls) (hl : ls.length ≤ 8796093022208) (hat : -9223372036854775808 ≤ at_ ∧ at_ ≤ 9223372036854775807) (hT : Tab64 w) :
    Calls Tryd.prog 4 #[v, .int .i64 at_] w fun e w' => e = .returned (.bool true) ∧ Up w w' := by
  have Ha := Lib.hid (mkAlive_any w hT)
  by_cases hok : 0 ≤ at_ ∧ at_ < ls.length ∧ isPow ls.length
  · obtain ⟨h1, h2, K, hK⟩ := hok
    obtain ⟨n, rfl⟩ : ∃ n : Nat, at_ = n := ⟨at_.toNat, by omega⟩
    have hn : n < ls.length := by omega
    have Hp : Hid (∀ wx, Up w wx → Calls Tryd.prog 7 #[v, .int .i64 (n : Int)] wx fun e w' => ∃ r, e = .returned (.tuple #[r, .int .i64 0]) ∧ w'.ownsRow wx.heap.size 9 1 r K (strVs (pathB ls n K)) ∧ Up wx w') := fun wx hx => path_pow v ls n K wx (hs.up hx) hf hl hK hn (hT.up hx)
    have Hc : Hid (∀ wx r, Strs wx r (pathB ls n K) → Calls Tryd.prog 15 #[.string (strOfNums (ls[n]?.getD [])), .int .i64 (n : Int), r] wx fun e w' => e = .returned (.string (strOfNums (rootB ls))) ∧ Up wx w') := fun wx r hr => by
      have := climb_from (ls[n]?.getD []) n n r (pathB ls n K) wx (hf n) hr (pathB_fits ls hf n K) (by rw [pathB_length]; have := Nat.lt_two_pow_self (n := K); omega) (.inr rfl) (by omega)
      rwa [climb_path ls n K hK (by omega)] at this
    have Hr : Hid (∀ wx, Up w wx → Calls Tryd.prog 12 #[v] wx fun e w' => e = .returned (.string (strOfNums (rootB ls))) ∧ Up wx w') := fun wx hx => root_any v ls wx (hs.up hx) hf hl
    have HS := Lib.hid hs
    have hpl := pathB_length ls n K
    obtain ⟨a, cap, rfl, hcap, _, hcell⟩ := hs
    rcases hcell with hx | ⟨b, off, rfl, hc⟩
    · rw [hx] at hn; simp at hn
    have hcn := hc n hn
    have hbl := World.block_lt_of_cell? w _ hcn
    clear hf hT hat h1 h2 hK hc
    generalize strOfNums (rootB ls) = R at Hc Hr
    generalize ls[n]?.getD [] = T at hcn Hc
    generalize pathB ls n K = pb at Hp Hc hpl
    have Hpl := Lib.hid hpl
    clear hpl
    go_enter Tryd.func4, Tryd.ntmps4
    go_wp2_with fail
    with_reducible refine Calls.mono Ha.out ?_
    rintro e w1 ⟨rfl, hU1⟩
    go_wp2_with fail
    with_reducible refine Calls.mono (Hp.out _ hU1) ?_
    rintro e w2 ⟨r2, rfl, hr2, hU2⟩
    have HS2 := Lib.hid (Strs.of_row hr2)
    obtain ⟨a2, c2, rfl, hc2, _, _⟩ := HS2.out
    have hU2 := Up.trans hU1 hU2
    have hcn2 := (hU2.cell (p := ⟨b, off + n, none⟩) hbl).trans hcn
    clear hr2 hU1
    go_wp2_with fail
    with_reducible refine Calls.mono (num_any 0 _) ?_
    rintro e w3 ⟨rfl, rfl⟩
    go_wp2_with fail
    with_reducible refine Calls.mono (Hc.out _ _ HS2.out) ?_
    rintro e w4 ⟨rfl, hU4⟩
    have hU4 := Up.trans hU2 hU4
    go_wp2_with fail
    with_reducible refine Calls.mono (Hr.out _ hU4) ?_
    rintro e w5 ⟨rfl, hU5⟩
    have hU5 := Up.trans hU4 hU5
    go_wp2
    go_ret
    exact ⟨rfl, hU5⟩
  · obtain ⟨hE, hR⟩ := path_bad ls at_ hok
    have Hp : Hid (∀ wx, Up w wx → Calls Tryd.prog 7 #[v, .int .i64 at_] wx fun e w' => ∃ a c, e = .returned (.tuple #[.slice a 0 c, .int .i64 (pathE ls at_)]) ∧ Up wx w') := fun wx hx => by
      refine (path_any v ls at_ wx (hs.up hx) hf hl hat (hT.up hx)).mono ?_
      rintro e w' ⟨r, rfl, hr, hU⟩
      rw [hR] at hr
      obtain ⟨a, c, rfl, _⟩ := hr
      exact ⟨a, c, rfl, hU⟩
    obtain ⟨a, cap, rfl, hcap, _, _⟩ := hs
    clear hf hT hat hok hR
    generalize pathE ls at_ = E at hE Hp
    rcases hE with rfl | rfl
    all_goals
      go_enter Tryd.func4, Tryd.ntmps4
      go_wp2_with fail
      with_reducible refine Calls.mono Ha.out ?_
      rintro e w1 ⟨rfl, hU1⟩
      go_wp2_with fail
      with_reducible refine Calls.mono (Hp.out _ hU1) ?_
      rintro e w2 ⟨a2, c2, rfl, hU2⟩
      have hU2 := Up.trans hU1 hU2
      go_wp2_with fail
      with_reducible refine Calls.mono (num_any _ _) ?_
      rintro e w3 ⟨rfl, rfl⟩
      go_wp2
      go_ret
      exact ⟨rfl, hU2⟩
end
end Go.Proofs.YtpofehagmpdgeaaDoor
