import Derived.Deep.QuietTactic
import Derived.BigQuiet
import Derived.Test.YtmohlfeobdfhdaaPoAlive
/-
  MempoolFull: the walk.
-/
namespace Go.Proofs.Ytmohlfeobdfhdaa
set_option maxRecDepth 100000
section
set_option linter.unusedVariables false
open Go.RowKit Go.Sort Go.Lib

/-- what waits: no more than 16, each of its own From and Nonce -/
structure Pool (p : List Ts) : Prop where
  ok : ∀ (j : Nat) (x : Ts), p[j]? = some x → TsOk x
  few : p.length ≤ 16
  own : p.Pairwise fun x y => ¬ (x.1.F = y.1.F ∧ x.1.N = y.1.N)
theorem metS_false {xs : List Ts} {f k : Int} (h : metS xs f k = false) : ∀ x, x ∈ xs → ¬ (x.1.F = f ∧ x.1.N = k) := by
  intro x hx hn
  unfold metS at h
  rw [List.any_eq_false] at h
  exact h x hx (by simp [hn.1, hn.2])
theorem Pool.snoc {p : List Ts} (h : Pool p) {x : Ts} (hx : TsOk x) (hl : p.length < 16) (hm : metS p x.1.F x.1.N = false) : Pool (p ++ [x]) where
  ok j y hy := by
    rcases List.mem_append.1 (List.mem_of_getElem? hy) with h1 | h1
    · obtain ⟨i, hi, e⟩ := List.mem_iff_getElem.1 h1
      exact h.ok i y (by rw [List.getElem?_eq_getElem hi, e])
    · rw [List.mem_singleton.1 h1]; exact hx
  few := by rw [List.length_append, List.length_singleton]; omega
  own := by
    rw [List.pairwise_append]
    refine ⟨h.own, List.pairwise_singleton _ _, fun y hy z hz => ?_⟩
    rw [List.mem_singleton.1 hz]
    exact metS_false hm y hy
theorem Pool.at {p : List Ts} (h : Pool p) {k i : Nat} (hki : k < i) {x y : Ts} (hx : p[k]? = some x) (hy : p[i]? = some y) : ¬ (x.1.F = y.1.F ∧ x.1.N = y.1.N) := by
  obtain ⟨hk, ex⟩ := List.getElem?_eq_some_iff.1 hx
  obtain ⟨hi, ey⟩ := List.getElem?_eq_some_iff.1 hy
  have := List.pairwise_iff_getElem.1 h.own k i hk hi hki
  rwa [ex, ey] at this
set_option maxHeartbeats 1000000 in
theorem lawPoFull_any (v : Value) (xs : List Ts) (w : World) (hx : TArg w v xs) (hok : ∀ (j : Nat) (x : Ts), xs[j]? = some x → TsOk x) (hn : xs.length < 4611686018427387904) :
    Calls Try.prog 5 #[v] w fun e w' => e = .returned (.bool true) ∧ Up w w' := by
  have Hal := Lib.hid (poAlive_any w)
  obtain ⟨a0, cap0, rfl, _⟩ := id hx
  have HX := Lib.hid hx
  have HOK := Lib.hid hok
  obtain ⟨n, hnl⟩ : ∃ n, xs.length = n := ⟨_, rfl⟩
  have HN := Lib.hid hnl
  rw [hnl] at hn ⊢
  clear hx hok hnl
  go_enter Try.func5, Try.ntmps5
  go_wp2_with fail
  with_reducible refine Calls.mono Hal.out ?_
  rintro e w1 ⟨rfl, u1⟩
  have U1 := Lib.hid u1
  have HT1 := Lib.hid (targ_none w1)
  have HP1 : Hid (Pool []) := Lib.hid ⟨fun j x h => by simp at h, by simp, List.Pairwise.nil⟩
  clear u1 Hal
  go_wp2
  go_loopw [3, 4] (fun vp vi wr => ∃ (i : Nat) (p : List Ts), vi = .int .i64 (i : Nat) ∧ i ≤ n ∧ Hid (TArg wr vp p) ∧ Hid (Up w wr) ∧ Hid (Pool p)) (fun _ vi _ => n - (RowKit.intOf vi).toNat)
  case atStart => exact ⟨0, [], rfl, Nat.zero_le _, HT1, U1, HP1⟩
  case round =>
    obtain ⟨i, p, rfl, hi, HT, HU, HP⟩ := hrel
    by_cases hlt : i < n
    · have hz : (i : Int) < (n : Int) := by omega
      obtain ⟨x, hxi⟩ : ∃ x, xs[i]? = some x := ⟨_, List.getElem?_eq_getElem (by rw [HN.out]; exact hlt)⟩
      obtain ⟨b, off, rfl⟩ := HX.out.ptr (by have := HN.out; omega)
      have hl := (HX.out.up HU.out).load hxi
      have Hxo := Lib.hid (HOK.out i x hxi)
      have Ha := Lib.hid (add_any _ p x wr HT.out HP.out.ok (by have := HP.out.few; omega) Hxo.out)
      generalize tsA x = cs at hl Ha
      clear hxi
      go_wp2_with (refine wpList_ex rfl (.agg cs) wr (ex_ldt (x := .tmp 21) rfl rfl hl) ?_)
      with_reducible refine Calls.mono Ha.out ?_
      rintro e w2 hor
      rcases hor with ⟨_, rfl, hU2⟩ | ⟨hyes, r, rfl, hr, hU2⟩
      · have HU2 := Lib.hid (Up.trans HU.out hU2)
        have HT2 := Lib.hid (HT.out.up hU2)
        clear hU2 HU HT Ha
        go_wp2
        go_roundw
        case rel => exact ⟨i + 1, p, by go_num, hlt, HT2, HU2, HP⟩
        case measure => simp [RowKit.intOf]; omega
      · have HU2 := Lib.hid (Up.trans HU.out hU2)
        obtain ⟨ra, rc, rfl⟩ := row_shape hr
        have HT2 := Lib.hid (targ_of_own hr (by rw [List.length_append]; rfl))
        have HP2 := Lib.hid (HP.out.snoc Hxo.out hyes.2.1 hyes.2.2)
        clear hU2 HU HT Ha hr hyes
        go_wp2
        go_roundw
        case rel => exact ⟨i + 1, _, by go_num, hlt, HT2, HU2, HP2⟩
        case measure => simp [RowKit.intOf]; omega
    · obtain rfl : i = n := by omega
      obtain ⟨pa, pc, rfl, _⟩ := id HT.out
      obtain ⟨m, hm⟩ : ∃ m, p.length = m := ⟨_, rfl⟩
      have HM := Lib.hid hm
      have hm16 : m ≤ 16 := by rw [← hm]; exact HP.out.few
      rw [hm] at HT ⊢
      clear hm
      go_wp2
      go_loopw [7] (fun vi wx => ∃ i : Nat, vi = .int .i64 (i : Nat) ∧ i ≤ m ∧ Hid (Up w wx) ∧ Hid (TArg wx (.slice pa m pc) p)) (fun vi _ => m - (RowKit.intOf vi).toNat)
      case atStart => exact ⟨0, rfl, Nat.zero_le _, HU, HT⟩
      case round =>
        obtain ⟨i, rfl, hi, HU, HT⟩ := hrel
        by_cases hlt : i < m
        · have hz : (i : Int) < (m : Int) := by omega
          go_wp2
          go_loopw [8] (fun vk wx => ∃ k : Nat, vk = .int .i64 (k : Nat) ∧ k ≤ i ∧ Hid (Up w wx) ∧ Hid (TArg wx (.slice pa m pc) p)) (fun vk _ => i - (RowKit.intOf vk).toNat)
          case atStart => exact ⟨0, rfl, Nat.zero_le _, HU, HT⟩
          case round =>
            obtain ⟨k, rfl, hk, HU, HT⟩ := hrel
            by_cases hlk : k < i
            · have hz2 : (k : Int) < (i : Int) := by omega
              have hz3 : (k : Int) < (m : Int) := by omega
              obtain ⟨x, hxk⟩ : ∃ x, p[k]? = some x := ⟨_, List.getElem?_eq_getElem (by rw [HM.out]; omega)⟩
              obtain ⟨y, hyi⟩ : ∃ y, p[i]? = some y := ⟨_, List.getElem?_eq_getElem (by rw [HM.out]; omega)⟩
              have hown := HP.out.at hlk hxk hyi
              obtain ⟨b, off, rfl⟩ := HT.out.ptr (by have := HM.out; omega)
              obtain ⟨c0, c1⟩ := HT.out.cell hxk
              obtain ⟨d0, d1⟩ := HT.out.cell hyi
              have Hq : Hid (∀ q, TArg (wr.drewN q) (.slice (some ⟨b, off, none⟩) m pc) p ∧ Up w (wr.drewN q)) := Lib.hid fun q => ⟨HT.out.up (Up.drewN (Up.refl wr) q), Up.drewN HU.out q⟩
              generalize x.1.F = xf at *
              generalize x.1.N = xn at *
              generalize y.1.F = yf at *
              generalize y.1.N = yn at *
              clear hxk hyi
              by_cases hf : xf = yf
              · have hnn : (xn == yn) = false := by rw [beq_eq_false_iff_ne]; exact fun e => hown ⟨hf, e⟩
                have hff : (xf == yf) = true := by rw [beq_iff_eq]; exact hf
                have hnd : decide (xn = yn) = false := decide_eq_false fun e => hown ⟨hf, e⟩
                have hfd : decide (xf = yf) = true := decide_eq_true hf
                go_wp2
                go_quiet (fail)
                go_wp2
                go_roundw
                case rel => exact ⟨k + 1, by go_num, hlk, Lib.hid (Hq.out _).2, Lib.hid (Hq.out _).1⟩
                case measure => simp [RowKit.intOf]; omega
              · have hff : (xf == yf) = false := by rw [beq_eq_false_iff_ne]; exact hf
                have hfd : decide (xf = yf) = false := decide_eq_false hf
                go_wp2
                go_quiet (fail)
                go_wp2
                go_roundw
                case rel => exact ⟨k + 1, by go_num, hlk, Lib.hid (Hq.out _).2, Lib.hid (Hq.out _).1⟩
                case measure => simp [RowKit.intOf]; omega
            · obtain rfl : k = i := by omega
              go_wp2
              go_roundw
              case rel => exact ⟨k + 1, by go_num, hlt, HU, HT⟩
              case measure => simp [RowKit.intOf]; omega
        · obtain rfl : i = m := by omega
          have hz : (i : Int) ≤ 16 := by omega
          go_wp2
          go_ret
          exact ⟨rfl, HU.out⟩
end
end Go.Proofs.Ytmohlfeobdfhdaa
