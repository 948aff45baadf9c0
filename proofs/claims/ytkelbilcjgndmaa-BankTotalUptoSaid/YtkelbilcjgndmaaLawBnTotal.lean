import Derived.Test.YtkelbilcjgndmaaBnGood
/-
  BankTotal: the walk.
-/
namespace Go.Proofs.Ytkelbilcjgndmaa
set_option maxRecDepth 100000
section
set_option linter.unusedVariables false
open Go.RowKit Go.Sort Go.Lib

set_option maxHeartbeats 1000000 in
theorem lawBnTotal_any (v : Value) (bs : List Bb) (w : World) (hb : BArg w v bs) (hk : bs.length + (allTx bs).length ≤ 1048577) :
    Calls Try.prog 4 #[v] w fun e w' => e = .returned (.bool true) ∧ Up w w' := by
  obtain ⟨a, cap, rfl, _⟩ := id hb
  have HF := Lib.hid (bnFold_any _ bs w hb hk)
  have HGd := Lib.hid (Good.genesis.fold (allTx bs))
  have HK := Lib.hid hk
  obtain ⟨n, hn⟩ : ∃ n, bs.length = n := ⟨_, rfl⟩
  have hnk : n ≤ 1048577 := by omega
  rw [hn] at hb HF ⊢
  have HB := Lib.hid hb
  have HN := Lib.hid hn
  have HEL := Lib.hid (errA_length acG (allTx bs))
  clear hb hn hk
  go_enter Try.func4, Try.ntmps4
  go_wp2_with fail
  with_reducible refine Calls.mono HF.out ?_
  rintro e1 w1 ⟨g, r, rfl, hR1, hg1, hI1, hU1⟩
  obtain ⟨ra, rc, rfl, _⟩ := id hI1
  obtain ⟨m, hm⟩ : ∃ m, (allTx bs).length = m := ⟨_, rfl⟩
  rw [HEL.out, hm]
  have HM := Lib.hid hm
  have hmk : m ≤ 1048577 := by have := HK.out; omega
  have HR1 := Lib.hid hR1
  have HU1 := Lib.hid hU1
  clear hR1 hg1 hI1 hU1 HF hm
  go_wp2
  go_loopw [5, 6] (fun vn vi wr => ∃ (i s : Nat), vi = .int .i64 (i : Nat) ∧ vn = .int .i64 (s : Nat) ∧ i ≤ n ∧ s ≤ 1048577 ∧ Hid (s = (allTx (bs.take i)).length) ∧ Hid (Up w1 wr)) (fun _ vi _ => n - (intOf vi).toNat)
  case atStart => exact ⟨0, 0, rfl, rfl, Nat.zero_le _, Nat.zero_le _, Lib.hid rfl, Lib.hid (Up.refl _)⟩
  case round =>
    obtain ⟨i, s, rfl, rfl, hi, hs9, HS, HU⟩ := hrel
    by_cases hlt : i < n
    · have hz : (i : Int) < (n : Int) := by omega
      obtain ⟨x, hx⟩ : ∃ x, bs[i]? = some x := ⟨bs[i]'(by have := HN.out; omega), List.getElem?_eq_getElem _⟩
      obtain ⟨b, off, rfl⟩ := HB.out.ptr (by have := HN.out; omega)
      have c7 : wr.cell? ⟨b, off + i * 9 + 7, none⟩ = some (.slice x.a x.tx.length x.c) := by
        have h := (HB.out.up (HU1.out.trans HU.out)).cell hx 7 (by decide)
        rwa [← Nat.add_assoc] at h
      have hle : s + x.tx.length ≤ 1048577 := by
        have h1 := allTx_le bs (i + 1)
        rw [allTx_take bs i x hx, List.length_append, ← HS.out] at h1
        have := HM.out
        omega
      have HS2 : Hid (s + x.tx.length = (allTx (bs.take (i + 1))).length) := Lib.hid (by rw [allTx_take bs i x hx, List.length_append, ← HS.out])
      generalize x.tx.length = t at c7 hle HS2
      clear hx
      go_wp2
      go_roundw
      case rel => exact ⟨i + 1, s + t, by go_num, by go_num, hlt, hle, HS2, HU⟩
      case measure => simp [intOf]; omega
    · obtain rfl : i = n := by omega
      have hs : s = m := by
        have := HS.out
        rw [List.take_of_length_le (by rw [HN.out]; exact Nat.le_refl _), HM.out] at this
        exact this
      subst hs
      go_wp2
      go_loopw [7] (fun vi wr => ∃ (i : Nat), vi = .int .i64 (i : Nat) ∧ i ≤ 4 ∧ Hid (Up w1 wr)) (fun vi _ => 4 - (intOf vi).toNat)
      case atStart => exact ⟨0, rfl, Nat.zero_le _, HU⟩
      case round =>
        obtain ⟨j, rfl, hj, HU⟩ := hrel
        by_cases hlj : j < 4
        · have hzj : (j : Int) < 4 := by omega
          obtain ⟨x, hx⟩ : ∃ x, (foldA acG (allTx bs))[j]? = some x := ⟨(foldA acG (allTx bs))[j]'(by rw [HGd.out.four]; exact hlj), List.getElem?_eq_getElem _⟩
          obtain ⟨c0, c1⟩ := (HR1.out.up HU.out).cell hx
          have e1 := HGd.out.each x (List.mem_of_getElem? hx)
          have e2 := HGd.out.le x (List.mem_of_getElem? hx)
          obtain ⟨B, M⟩ := x
          simp only at c0 c1 e1 e2
          obtain ⟨e3, e4, e5⟩ := e1
          clear hx
          have d1 : decide (B < 0) = false := decide_eq_false (by omega)
          have d2 : decide (1000 < B) = false := decide_eq_false (by omega)
          have d3 : decide (M < 0) = false := decide_eq_false (by omega)
          go_wp2
          go_roundw
          case rel => exact ⟨j + 1, by go_num, hlj, HU⟩
          case measure => simp [intOf]; omega
        · obtain rfl : j = 4 := by omega
          have Ht := Lib.hid (bnTotal_any (.slice (some ⟨g, 0, none⟩) 4 4) (foldA acG (allTx bs)) wr (by have := (HR1.out.up HU.out).arg (cap := 4) (by rw [HGd.out.four]; exact Nat.le_refl _); rwa [HGd.out.four] at this) (by rw [HGd.out.four]; decide))
          rw [HGd.out.sum] at Ht
          have Hal := Lib.hid (fun wx => bnAlive_any wx)
          go_wp2_with fail
          with_reducible refine Calls.mono Ht.out ?_
          rintro e2 w2 ⟨rfl, hU2⟩
          have HU2 := Lib.hid (Up.trans HU.out hU2)
          clear hU2
          go_wp2_with fail
          with_reducible refine Calls.mono (Hal.out _) ?_
          rintro e3 w3 ⟨rfl, hU3⟩
          have HU3 := Lib.hid (Up.trans HU2.out hU3)
          clear hU3
          go_wp2
          go_ret
          exact ⟨rfl, HU1.out.trans HU3.out⟩
end
end Go.Proofs.Ytkelbilcjgndmaa
