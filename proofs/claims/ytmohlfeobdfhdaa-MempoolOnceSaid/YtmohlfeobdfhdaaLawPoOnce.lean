import Derived.Deep.QuietTactic
import Derived.BigQuiet
import Derived.Test.YtmohlfeobdfhdaaPoAlive
import Derived.Test.YtmohlfeobdfhdaaPoTake
import Derived.Test.YtmohlfeobdfhdaaPoDrop
import Derived.Test.YtmohlfeobdfhdaaAcGen
/-
  MempoolOnce: the walk.
-/
namespace Go.Proofs.Ytmohlfeobdfhdaa
set_option maxRecDepth 100000
section
set_option linter.unusedVariables false
open Go.RowKit Go.Sort Go.Lib

/-- what is taken leaves no nonce lower -/
theorem tk_mono : ∀ (out : List Ts) (N : List Int), Taken N out → (∀ (j : Nat) (a : Int), N[j]? = some a → 0 ≤ a ∧ a + out.length ≤ 1000) → ∀ (j : Nat) (a : Int), N[j]? = some a → ∃ b, (tkN N out)[j]? = some b ∧ a ≤ b
  | [], N, _, _, j, a, h => ⟨a, h, Int.le_refl _⟩
  | x :: t, N, hT, hN, j, a, h => by
    obtain ⟨h0, h1⟩ := nextS_iff.1 hT.1
    have hb := hN _ _ h1
    have hl : x.1.F.toNat < N.length := (List.getElem?_eq_some_iff.1 h1).1
    have hw : wrap64 (x.1.N + 1) = x.1.N + 1 := by unfold wrap64; omega
    have hN2 : ∀ (j : Nat) (a : Int), (N.set x.1.F.toNat (wrap64 (x.1.N + 1)))[j]? = some a → 0 ≤ a ∧ a + t.length ≤ 1000 := by
      intro j a hj
      simp only [List.length_cons] at hN hb
      by_cases e : j = x.1.F.toNat
      · subst e
        rw [List.getElem?_set_self hl, hw] at hj
        obtain rfl := Option.some.inj hj
        omega
      · rw [List.getElem?_set_ne (Ne.symm e)] at hj
        have := hN j a hj
        omega
    by_cases e : j = x.1.F.toNat
    · subst e
      obtain ⟨b, hb1, hb2⟩ := tk_mono t _ hT.2 hN2 x.1.F.toNat (wrap64 (x.1.N + 1)) (by rw [List.getElem?_set_self hl])
      rw [h1] at h
      obtain rfl := Option.some.inj h
      exact ⟨b, hb1, by rw [hw] at hb2; omega⟩
    · exact tk_mono t _ hT.2 hN2 j a (by rw [List.getElem?_set_ne (Ne.symm e)]; exact h)
/-- each account's nonce is above what was taken of it -/
theorem tk_above : ∀ (out : List Ts) (N : List Int), Taken N out → (∀ (j : Nat) (a : Int), N[j]? = some a → 0 ≤ a ∧ a + out.length ≤ 1000) → ∀ x, x ∈ out → 0 ≤ x.1.F ∧ ∃ b, (tkN N out)[x.1.F.toNat]? = some b ∧ x.1.N < b
  | [], N, _, _, x, h => by cases h
  | y :: t, N, hT, hN, x, h => by
    obtain ⟨h0, h1⟩ := nextS_iff.1 hT.1
    have hb := hN _ _ h1
    have hl : y.1.F.toNat < N.length := (List.getElem?_eq_some_iff.1 h1).1
    have hw : wrap64 (y.1.N + 1) = y.1.N + 1 := by unfold wrap64; omega
    have hN2 : ∀ (j : Nat) (a : Int), (N.set y.1.F.toNat (wrap64 (y.1.N + 1)))[j]? = some a → 0 ≤ a ∧ a + t.length ≤ 1000 := by
      intro j a hj
      simp only [List.length_cons] at hN hb
      by_cases e : j = y.1.F.toNat
      · subst e
        rw [List.getElem?_set_self hl, hw] at hj
        obtain rfl := Option.some.inj hj
        omega
      · rw [List.getElem?_set_ne (Ne.symm e)] at hj
        have := hN j a hj
        omega
    rcases List.mem_cons.1 h with rfl | h
    · obtain ⟨b, hb1, hb2⟩ := tk_mono t _ hT.2 hN2 x.1.F.toNat (wrap64 (x.1.N + 1)) (by rw [List.getElem?_set_self hl])
      exact ⟨h0, b, hb1, by rw [hw] at hb2; omega⟩
    · exact tk_above t _ hT.2 hN2 x h
theorem tkN_length : ∀ (out : List Ts) (N : List Int), (tkN N out).length = N.length
  | [], N => rfl
  | x :: t, N => by
    have := tkN_length t (N.set x.1.F.toNat (wrap64 (x.1.N + 1)))
    rw [List.length_set] at this
    exact this
theorem taken_at (x : Ts) : ∀ (out : List Ts) (N : List Int) (i : Nat), Taken N out → out[i]? = some x → nextS (tkN N (out.take i)) x.1.F x.1.N = true
  | [], N, i, _, h => by simp at h
  | y :: t, N, 0, hT, h => by
    obtain rfl : y = x := by simpa using h
    exact hT.1
  | y :: t, N, i + 1, hT, h => taken_at x t _ i hT.2 (by simpa using h)
/-- accounts of these nonces -/
def acN (ns : List Int) : List Ac := ns.map fun n => (250, n)
theorem acN_at {ns : List Int} {j : Nat} {n : Int} (h : ns[j]? = some n) : (acN ns)[j]? = some (250, n) := by unfold acN; rw [List.getElem?_map, h]; rfl
theorem acN_set (ns : List Int) (j : Nat) (m : Int) : (acN ns).set j (250, m) = acN (ns.set j m) := by unfold acN; rw [List.map_set]
theorem acG_eq : acG = acN [0, 0, 0, 0] := rfl

theorem acN_length (ns : List Int) : (acN ns).length = ns.length := by unfold acN; rw [List.length_map]
/-- what is left is above what was taken -/
theorem left_above {xs out : List Ts} (h : Took [0, 0, 0, 0] xs out) (x y : Ts) (hx : x ∈ out) (hy : y ∈ xs.filter fun z => !goneP (acN (tkN [0, 0, 0, 0] out)) z) (hf : y.1.F = x.1.F) : x.1.N < y.1.N := by
  obtain ⟨_, b, h1, h2⟩ := tk_above out [0, 0, 0, 0] h.turn (fun j a hj => by
    have := List.mem_of_getElem? hj
    simp at this
    have := h.four
    omega) x hx
  have hg := (List.mem_filter.1 hy).2
  unfold goneP at hg
  rw [hf, acN_at h1] at hg
  simp at hg
  omega

set_option maxHeartbeats 1000000 in
theorem lawPoOnce_any (v : Value) (xs : List Ts) (w : World) (hx : TArg w v xs) (hok : ∀ (j : Nat) (x : Ts), xs[j]? = some x → TsOk x) (hn : xs.length * 48 ≤ 140737488355328) :
    Calls Try.prog 4 #[v] w fun e w' => e = .returned (.bool true) ∧ Up w w' := by
  have Hal := Lib.hid (poAlive_any w)
  obtain ⟨a0, cap0, rfl, _⟩ := id hx
  have HX := Lib.hid (And.intro hx (And.intro hok hn))
  obtain ⟨n, hnl⟩ : ∃ n, xs.length = n := ⟨_, rfl⟩
  have HN := Lib.hid hnl
  rw [hnl] at HX hn ⊢
  clear hx hok hnl
  go_enter Try.func4, Try.ntmps4
  go_wp2_with fail
  with_reducible refine Calls.mono Hal.out ?_
  rintro e w1 ⟨rfl, u1⟩
  have U1 := Lib.hid u1
  have Hac := Lib.hid (acGen_any w1)
  clear u1 Hal
  go_wp2_with fail
  with_reducible refine Calls.mono Hac.out ?_
  rintro e w2 ⟨rfl, hr2, u2⟩
  have U2 := Lib.hid (Up.trans U1.out u2)
  have R2 := Lib.hid hr2
  obtain ⟨B, hB⟩ : ∃ B, w1.heap.size = B := ⟨_, rfl⟩
  have HB : Hid (w.heap.size ≤ B) := Lib.hid (by rw [← hB]; exact U1.out.size)
  have Htk := Lib.hid (take_any _ (.slice (some ⟨w1.heap.size, 0, none⟩) 4 4) xs acG w2 (HX.out.1.up U2.out) HX.out.2.1 (by have := HN.out; omega) (hr2.arg (cap := 4) (by decide)) acG_ok (by decide))
  rw [hB] at R2 Htk ⊢
  clear hB hr2 u2 Hac
  go_wp2_with fail
  with_reducible refine Calls.mono Htk.out ?_
  rintro e w3 ⟨r, out, rfl, hr3, u3, htook⟩
  have U3 := Lib.hid (Up.trans U2.out u3)
  have R3 : Hid (AcRow w3 B (acN (tkN [0, 0, 0, 0] (out.take 0)))) := Lib.hid (R2.out.up u3)
  have HBW : Hid (B < w2.heap.size) := Lib.hid R2.out.lt
  obtain ⟨oa, oc, rfl⟩ := row_shape hr3
  have O3 := Lib.hid hr3
  have HT : Hid (Took [0, 0, 0, 0] xs out) := Lib.hid htook
  obtain ⟨m, hm⟩ : ∃ m, out.length = m := ⟨_, rfl⟩
  have HM := Lib.hid hm
  have hm4 : m ≤ 4 := by rw [← hm]; exact htook.four
  rw [hm] at O3 ⊢
  clear hm hr3 u3 htook Htk R2
  go_wp2
  go_loopw [5] (fun vi wr => ∃ i : Nat, vi = .int .i64 (i : Nat) ∧ i ≤ m ∧ Hid (AcRow wr B (acN (tkN [0, 0, 0, 0] (out.take i)))) ∧ Hid (wr.ownsRow (w2.heap.size + 1) 29 5 (.slice oa m oc) m (tsF out)) ∧ Hid (Up w wr)) (fun vi _ => m - (RowKit.intOf vi).toNat)
  case atStart => exact ⟨0, rfl, Nat.zero_le _, R3, O3, U3⟩
  case round =>
    obtain ⟨i, rfl, hi, HR, HO, HU⟩ := hrel
    by_cases hlt : i < m
    · have hz : (i : Int) < (m : Int) := by omega
      obtain ⟨x, hxi⟩ : ∃ x, out[i]? = some x := ⟨_, List.getElem?_eq_getElem (by rw [HM.out]; exact hlt)⟩
      have hnx := taken_at x out _ i HT.out.turn hxi
      obtain ⟨hf0, hf1⟩ := nextS_iff.1 hnx
      have hTO := targ_of_own HO.out HM.out
      obtain ⟨g, og, rfl⟩ := hTO.ptr (by have := HM.out; omega)
      obtain ⟨c0, c1⟩ := hTO.cell hxi
      obtain ⟨j, hj⟩ : ∃ j : Nat, x.1.F = (j : Int) := ⟨x.1.F.toNat, by omega⟩
      have hjn : x.1.F.toNat = j := by omega
      have hj4 : j < 4 := by
        have := (List.getElem?_eq_some_iff.1 hf1).1
        rw [tkN_length] at this
        rw [hjn] at this; exact this
      have hset := (HR.out.set (acN_at hf1) (wrap64 (x.1.N + 1))).2
      have hsn := tkN_snoc x (out.take i) [0, 0, 0, 0]
      rw [← take_oneT out i x hxi] at hsn
      rw [acN_set, ← hsn, hjn] at hset
      have hold := HR.out.cell (acN_at hf1)
      rw [hjn] at hold
      have hcell := hold.2
      have hfree := HR.out.free (j * 2 + 1)
      have hgr := grownBy_setCell wr ⟨B, j * 2 + 1, none⟩ (.int .i64 (wrap64 (x.1.N + 1)))
      have HSET := Lib.hid hset
      have HOG : Hid ((wr.setCell ⟨B, j * 2 + 1, none⟩ (.int .i64 (wrap64 (x.1.N + 1)))).ownsRow (w2.heap.size + 1) 29 5 (.slice (some ⟨g, og, none⟩) m oc) m (tsF out)) := Lib.hid (own_read HO.out hgr (by have := HBW.out; simp only; omega))
      have HUG : Hid (Up w (wr.setCell ⟨B, j * 2 + 1, none⟩ (.int .i64 (wrap64 (x.1.N + 1))))) := Lib.hid (up_at HU.out hgr HB.out)
      rw [hj] at c0
      generalize x.1.N = xn at *
      clear hset hsn hnx hf0 hf1 hjn hj hold hgr hTO hxi
      have hj2 : (j : Int) < 4 := by omega
      have hj3 : (0 : Int) ≤ (j : Int) := by omega
      go_wp2
      go_region
      generalize wr.setCell ⟨B, j * 2 + 1, none⟩ (.int .i64 (wrap64 (xn + 1))) = ws at HSET HOG HUG ⊢
      have HS1 := Lib.hid (HSET.out.up (Up.drew1 ws))
      have HS2 := Lib.hid (ownsRow_up HOG.out (Up.drew1 ws))
      have HS3 := Lib.hid (Up.drew HUG.out)
      clear HSET HOG HUG c0 c1 hcell hfree
      go_wp2
      go_roundw
      case rel => exact ⟨i + 1, by go_num, hlt, HS1, HS2, HS3⟩
      case measure => simp [RowKit.intOf]; omega
    · obtain rfl : m = i := by omega
      have hto := targ_of_own HO.out HM.out
      have hal := HR.out.arg (cap := 4) (by rw [acN_length, tkN_length]; decide)
      rw [acN_length, tkN_length, List.take_of_length_le (by rw [HM.out]; exact Nat.le_refl _)] at hal
      have Hd := Lib.hid (drop_any _ xs _ (acN (tkN [0, 0, 0, 0] out)) wr (HX.out.1.up HU.out) (by have := HX.out.2.2; rw [HN.out]; exact this) hal)
      have HTO := Lib.hid hto
      clear hto hal HR HO
      go_wp2_with fail
      with_reducible refine Calls.mono Hd.out ?_
      rintro e w5 ⟨da, dk, dc, rfl, ht5, u5⟩
      have HD := Lib.hid ht5
      have HL := Lib.hid (left_above HT.out)
      have HO5 := Lib.hid (HTO.out.up u5)
      have HU5 := Lib.hid (Up.trans HU.out u5)
      have HK := Lib.hid ht5.len
      have hk63 : dk < 4611686018427387904 := by
        have h1 := ht5.len
        have h2 := List.length_filter_le (fun z => !goneP (acN (tkN [0, 0, 0, 0] out)) z) xs
        have h3 := HN.out
        omega
      generalize xs.filter (fun z => !goneP (acN (tkN [0, 0, 0, 0] out)) z) = ys at *
      clear ht5 u5 Hd HTO HU
      go_wp2
      go_loopw [7] (fun vi wx => ∃ i : Nat, vi = .int .i64 (i : Nat) ∧ i ≤ m ∧ Hid (Up w wx) ∧ Hid (TArg wx (.slice oa m oc) out) ∧ Hid (TArg wx (.slice da dk dc) ys)) (fun vi _ => m - (RowKit.intOf vi).toNat)
      case atStart => exact ⟨0, rfl, Nat.zero_le _, HU5, HO5, HD⟩
      case round =>
        obtain ⟨i, rfl, hi, HU, HT, HD⟩ := hrel
        by_cases hlt : i < m
        · have hz : (i : Int) < (m : Int) := by omega
          go_wp2
          go_loopw [8] (fun vk wx => ∃ k : Nat, vk = .int .i64 (k : Nat) ∧ k ≤ dk ∧ Hid (Up w wx) ∧ Hid (TArg wx (.slice oa m oc) out) ∧ Hid (TArg wx (.slice da dk dc) ys)) (fun vk _ => dk - (RowKit.intOf vk).toNat)
          case atStart => exact ⟨0, rfl, Nat.zero_le _, HU, HT, HD⟩
          case round =>
            obtain ⟨k, rfl, hk, HU, HT, HD⟩ := hrel
            by_cases hlk : k < dk
            · have hz2 : (k : Int) < (dk : Int) := by omega
              obtain ⟨x, hxi⟩ : ∃ x, out[i]? = some x := ⟨_, List.getElem?_eq_getElem (by rw [HM.out]; omega)⟩
              obtain ⟨y, hyk⟩ : ∃ y, ys[k]? = some y := ⟨_, List.getElem?_eq_getElem (by rw [HK.out]; omega)⟩
              have hlow := HL.out x y (List.mem_of_getElem? hxi) (List.mem_of_getElem? hyk)
              obtain ⟨b, off, rfl⟩ := HT.out.ptr (by have := HM.out; omega)
              obtain ⟨b2, off2, rfl⟩ := HD.out.ptr (by have := HK.out; omega)
              obtain ⟨c0, c1⟩ := HT.out.cell hxi
              obtain ⟨d0, d1⟩ := HD.out.cell hyk
              have Hq : Hid (∀ q, (TArg (wr.drewN q) (.slice (some ⟨b, off, none⟩) m oc) out ∧ TArg (wr.drewN q) (.slice (some ⟨b2, off2, none⟩) dk dc) ys) ∧ Up w (wr.drewN q)) := Lib.hid fun q => ⟨⟨HT.out.up (Up.drewN (Up.refl wr) q), HD.out.up (Up.drewN (Up.refl wr) q)⟩, Up.drewN HU.out q⟩
              generalize x.1.F = xf at *
              generalize x.1.N = xn at *
              generalize y.1.F = yf at *
              generalize y.1.N = yn at *
              clear hxi hyk
              by_cases hf : yf = xf
              · have hff : (yf == xf) = true := by rw [beq_iff_eq]; exact hf
                have hfd : decide (yf = xf) = true := decide_eq_true hf
                have hnl : ¬ yn ≤ xn := by have := hlow hf; omega
                have hnd : decide (yn ≤ xn) = false := decide_eq_false hnl
                go_wp2
                go_quiet (fail)
                go_wp2
                go_roundw
                case rel => exact ⟨k + 1, by go_num, hlk, Lib.hid (Hq.out _).2, Lib.hid (Hq.out _).1.1, Lib.hid (Hq.out _).1.2⟩
                case measure => simp [RowKit.intOf]; omega
              · have hff : (yf == xf) = false := by rw [beq_eq_false_iff_ne]; exact hf
                have hfd : decide (yf = xf) = false := decide_eq_false hf
                go_wp2
                go_quiet (fail)
                go_wp2
                go_roundw
                case rel => exact ⟨k + 1, by go_num, hlk, Lib.hid (Hq.out _).2, Lib.hid (Hq.out _).1.1, Lib.hid (Hq.out _).1.2⟩
                case measure => simp [RowKit.intOf]; omega
            · obtain rfl : k = dk := by omega
              go_wp2
              go_roundw
              case rel => exact ⟨i + 1, by go_num, hlt, HU, HT, HD⟩
              case measure => simp [RowKit.intOf]; omega
        · obtain rfl : i = m := by omega
          go_wp2
          go_ret
          exact ⟨rfl, HU.out⟩
end
end Go.Proofs.Ytmohlfeobdfhdaa
