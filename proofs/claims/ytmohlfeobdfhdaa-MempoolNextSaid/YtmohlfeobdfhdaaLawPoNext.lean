import Derived.Test.YtmohlfeobdfhdaaPoAlive
import Derived.Test.YtmohlfeobdfhdaaPoTake
import Derived.Test.YtmohlfeobdfhdaaAcApply
import Derived.Test.YtmohlfeobdfhdaaRefTx
/-
  MempoolNext: the walk.
-/
namespace Go.Proofs.Ytmohlfeobdfhdaa
set_option maxRecDepth 100000
section
set_option linter.unusedVariables false
open Go.RowKit Go.Sort Go.Lib

theorem takenN_at (x : Ts) : ∀ (out : List Ts) (N : List Int) (i : Nat), Taken N out → out[i]? = some x → nextS (tkN N (out.take i)) x.1.F x.1.N = true
  | [], N, i, _, h => by simp at h
  | y :: t, N, 0, hT, h => by
    obtain rfl : y = x := by simpa using h
    exact hT.1
  | y :: t, N, i + 1, hT, h => takenN_at x t _ i hT.2 (by simpa using h)
/-- those that may be -/
def Fine (p : List Ts) : Prop := ∀ x, x ∈ p → TsOk x ∧ tsE x = 0
theorem Fine.snoc {p : List Ts} (h : Fine p) {x : Ts} (hx : TsOk x) (he : tsE x = 0) : Fine (p ++ [x]) := by
  intro y hy
  rcases List.mem_append.1 hy with h1 | h1
  · exact h y h1
  · rw [List.mem_singleton.1 h1]; exact ⟨hx, he⟩

set_option maxHeartbeats 2000000 in
theorem lawPoNext_any (v vt : Value) (xs ts : List Ts) (w : World) (hx : TArg w v xs) (hok : ∀ (j : Nat) (x : Ts), xs[j]? = some x → TsOk x) (hn : xs.length * 48 ≤ 140737488355328) (ht : TArg w vt ts) (hnt : ts.length < 4611686018427387904) :
    Calls Try.prog 3 #[v, vt] w fun e w' => e = .returned (.bool true) ∧ Up w w' := by
  have Hal := Lib.hid (poAlive_any w)
  obtain ⟨a0, cap0, rfl, _⟩ := id hx
  obtain ⟨at0, capt, rfl, _⟩ := id ht
  have HX := Lib.hid (And.intro hx (And.intro hok hn))
  have HTS := Lib.hid ht
  obtain ⟨n, hnl⟩ : ∃ n, xs.length = n := ⟨_, rfl⟩
  obtain ⟨nt, hntl⟩ : ∃ n, ts.length = n := ⟨_, rfl⟩
  have HN := Lib.hid hnl
  have HNT := Lib.hid hntl
  rw [hnl] at HX hn ⊢
  rw [hntl] at HTS hnt ⊢
  clear hx hok hnl ht hntl
  go_enter Try.func3, Try.ntmps3
  go_wp2_with fail
  with_reducible refine Calls.mono Hal.out ?_
  rintro e w1 ⟨rfl, u1⟩
  have U1 := Lib.hid u1
  have Hac := Lib.hid (acGen_any w1)
  clear u1 Hal
  go_wp2_with fail
  with_reducible refine Calls.mono Hac.out ?_
  rintro e w2 ⟨rfl, hr2, u2⟩
  have U2 := Lib.hid (Up.trans U1.out u2)
  have A2 : Hid (AArg w2 (.slice (some ⟨w1.heap.size, 0, none⟩) 4 4) acG ∧ acG.length = 4 ∧ AcsOk acG) := Lib.hid ⟨hr2.arg (cap := 4) (by decide), rfl, acG_ok⟩
  clear hr2 u2 Hac
  go_wp2
  go_loopw [5, 6] (fun va vi wr => ∃ (i : Nat) (ac : List Ac), vi = .int .i64 (i : Nat) ∧ i ≤ nt ∧ i ≤ 8 ∧ Hid (Up w wr) ∧ Hid (AArg wr va ac ∧ ac.length = 4 ∧ AcsOk ac)) (fun _ vi _ => 8 - (RowKit.intOf vi).toNat)
  case atStart => exact ⟨0, acG, rfl, Nat.zero_le _, Nat.zero_le _, U2, A2⟩
  case round =>
    obtain ⟨i, ac, rfl, hi, hi8, HU, HAC⟩ := hrel
    by_cases hlt : i < nt ∧ i < 8
    · have hz : (i : Int) < (nt : Int) := by omega
      have hz8 : (i : Int) < 8 := by omega
      obtain ⟨x, hxi⟩ : ∃ x, ts[i]? = some x := ⟨_, List.getElem?_eq_getElem (by rw [HNT.out]; exact hlt.1)⟩
      obtain ⟨b, off, rfl⟩ := HTS.out.ptr (by have := HNT.out; omega)
      have hl := (HTS.out.up HU.out).load hxi
      have Ha := acApply_any _ ac x wr HAC.out.1 (by rw [HAC.out.2.1]; decide)
      rw [HAC.out.2.1] at Ha
      have HAp := Lib.hid Ha
      have HOK2 := Lib.hid (And.intro ((acApply_length ac x).trans HAC.out.2.1) (acApply_ok HAC.out.2.2 x))
      generalize tsA x = cs at hl HAp
      generalize acApply ac x = R at HAp HOK2
      clear hxi Ha
      go_wp2_with (refine wpList_ex rfl (.agg cs) wr (ex_ldt (x := .tmp 29) rfl rfl hl) ?_)
      with_reducible refine Calls.mono HAp.out ?_
      rintro e w3 ⟨ra, rc, rfl, ha3, u3⟩
      have HA3 := Lib.hid (And.intro ha3 HOK2.out)
      have HU3 := Lib.hid (Up.trans HU.out u3)
      clear ha3 u3 HAp HOK2 HU HAC
      go_wp2
      go_roundw
      case rel => exact ⟨i + 1, R.1, by go_num, hlt.1, hlt.2, HU3, HA3⟩
      case measure => simp [RowKit.intOf]; omega
    · rcases (show nt = i ∨ (i < nt ∧ i = 8) by omega) with rfl | ⟨hlt2, hi9⟩
      · have hz : ¬ ((nt : Int) < (nt : Int)) := by omega
        obtain ⟨va, hva⟩ : ∃ v, v = u5 := ⟨_, rfl⟩
        rw [← hva] at HAC ⊢
        clear hva hlt
        generalize wr = wB at HU HAC ⊢
        have HB := Lib.hid HU.out
        have HACB := Lib.hid HAC.out
        have HFL0 : Hid ((0 : Nat) ≤ 0 ∧ Fine []) := Lib.hid ⟨Nat.le_refl _, fun x h => by cases h⟩
        have HOW0 : Hid (wB.ownsRow wB.heap.size 29 5 (.slice none 0 0) ([] : List Ts).length (tsF [])) := Lib.hid (World.ownsRow_nil _ _ _ _)
        have HUB : Hid (Up wB wB) := Lib.hid (Up.refl wB)
        obtain ⟨N0, hN0⟩ : ∃ N, ac.map (·.2) = N := ⟨_, rfl⟩
        have HN0 := Lib.hid hN0
        clear HAC HU hN0 U1 U2 A2
        go_wp2
        go_loopw [7, 8] (fun vf vi wx => ∃ (i : Nat) (fl : List Ts), vi = .int .i64 (i : Nat) ∧ i ≤ n ∧ Hid (wx.ownsRow wB.heap.size 29 5 vf fl.length (tsF fl)) ∧ Hid (Up wB wx) ∧ Hid (fl.length ≤ i ∧ Fine fl)) (fun _ vi _ => n - (RowKit.intOf vi).toNat)
        case atStart => exact ⟨0, [], rfl, Nat.zero_le _, HOW0, HUB, HFL0⟩
        case round =>
          obtain ⟨i, fl, rfl, hi, HOW, HU, HFL⟩ := hrel
          by_cases hlt : i < n
          · have hz : (i : Int) < (n : Int) := by omega
            obtain ⟨x, hxi⟩ : ∃ x, xs[i]? = some x := ⟨_, List.getElem?_eq_getElem (by rw [HN.out]; exact hlt)⟩
            have HXO := Lib.hid (HX.out.2.1 i x hxi)
            obtain ⟨b, off, rfl⟩ := HX.out.1.ptr (by have := HN.out; omega)
            have hl := (HX.out.1.up (HB.out.trans HU.out)).load hxi
            have Htx : Hid (Calls Try.prog 9 #[.agg (tsA x)] wr fun e w' => e = .returned (.int .i64 (tsE x)) ∧ Up wr w') := Lib.hid (refTx_any _ _ _ _ _ wr)
            have hE9 : tsE x = 0 ∨ tsE x = 9 := by unfold tsE txE; split <;> simp
            have hbs0 : Hid (∀ wx : World, (Instr.buildSlice 22 1 #[(0, .agg (tsA x))]).run Try.prog wx = .ok (.slice (some ⟨wx.heap.size, 0, none⟩) 1 1) (wx.alloc (.cells (tsA x) 29))) := Lib.hid fun wx => build_ts1 x wx
            have HLD : Hid (∀ wx, Up wr wx → (loadVar 29 ⟨b, off + i * 5, none⟩).run Try.prog wx = .ok (.agg (tsA x)) wx) := Lib.hid fun wx hu => (HX.out.1.up ((HB.out.trans HU.out).trans hu)).load hxi
            have HCS : Hid ((tsA x).toList = tsC x ∧ (tsA x).size = 5) := Lib.hid ⟨by rw [tsA_eq], rfl⟩
            generalize tsA x = cs at hl Htx hbs0 HLD HCS
            obtain ⟨fa, fc, rfl⟩ := row_shape HOW.out
            go_wp2_with (refine wpList_ex rfl (.agg cs) wr (ex_ldt (x := .tmp 42) rfl rfl hl) ?_)
            with_reducible refine Calls.mono Htx.out ?_
            rintro e w3 ⟨rfl, u3⟩
            have HU3 := Lib.hid (Up.trans HU.out u3)
            have HOW3 := Lib.hid (ownsRow_up HOW.out u3)
            have hl3 := HLD.out w3 u3
            clear u3 Htx HU HOW hl
            rcases hE9 with hE | hE
            · have HE := Lib.hid hE
              rw [hE]
              have hun := HU3.out.size
              have hfi := HFL.out.1
              obtain ⟨ca', cc', w4, k1, k2, k3⟩ := app_st (z := .agg (tsA default)) Try.underlying22 info_tsd rfl (by omega) wB.heap.size w3 fa fc fl.length (tsF fl) cs HOW3.out HCS.out.2 (fun v hv => by rw [HCS.out.1] at hv; exact tsC_one x v hv) (by omega) (by unfold maxLen; omega) (by unfold maxLen; omega) hun
              have hua := Up.alloc (Up.refl w3) (.cells cs 29)
              have HOW4 : Hid (w4.ownsRow wB.heap.size 29 5 (.slice ca' (fl.length + 1) cc') (fl ++ [x]).length (tsF (fl ++ [x]))) := Lib.hid (by rw [List.length_append, List.length_singleton, tsF_append, tsF_cons, show tsC x ++ tsF [] = cs.toList by rw [HCS.out.1]; simp [tsF]]; exact k2)
              have hrow : ∀ q, (Value.slice fa fl.length fc).ownBlock = some q → wB.heap.size ≤ q := fun q e => (HOW3.out.lt q e).1
              have HU4 : Hid (Up wB w4) := Lib.hid (up_grown (grown_new (grown_up (HU3.out.trans hua) none) k3 hrow))
              have hbs := hbs0.out w3
              clear k2 k3 hua hrow hE hun
              go_wp2_with (refine wpList_ex rfl (.agg cs) w3 (ex_ldt (x := .tmp 49) rfl rfl hl3) ?_; refine Stp.h ?_)
              refine Stp.mk ?_
              refine wpList_ex rfl (.slice (some ⟨w3.heap.size, 0, none⟩) 1 1) _ (ex_slice1 _ _ hbs rfl rfl) ?_
              refine wpList_ex rfl (.slice ca' (fl.length + 1) cc') w4 (ex_app k1 rfl rfl rfl rfl) ?_
              go_wp2
              go_roundw
              case rel => exact ⟨i + 1, fl ++ [x], by go_num, hlt, HOW4, HU4, Lib.hid ⟨by rw [List.length_append, List.length_singleton]; have := HFL.out.1; omega, HFL.out.2.snoc HXO.out HE.out⟩⟩
              case measure => simp [RowKit.intOf]; omega
            · rw [hE]
              clear hE
              go_wp2
              go_roundw
              case rel => exact ⟨i + 1, fl, by go_num, hlt, HOW3, HU3, Lib.hid ⟨by have := HFL.out.1; omega, HFL.out.2⟩⟩
              case measure => simp [RowKit.intOf]; omega
          · obtain rfl : n = i := by omega
            obtain ⟨fa, fc, rfl⟩ := row_shape HOW.out
            have Htk := Lib.hid (take_any _ _ fl ac wr (targ_of_own HOW.out rfl) (fun j x h => (HFL.out.2 x (List.mem_of_getElem? h)).1) (by have := HFL.out.1; omega) (HACB.out.1.up HU.out) HACB.out.2.2 (by rw [HACB.out.2.1]; decide))
            rw [HN0.out] at Htk
            have HWB := Lib.hid (Up.trans HB.out HU.out)
            have HACW := Lib.hid (HACB.out.1.up HU.out)
            clear HU HOW
            go_wp2_with fail
            with_reducible refine Calls.mono Htk.out ?_
            rintro e w5 ⟨r, out, rfl, hr5, u5, htook⟩
            have HU5 := Lib.hid (Up.trans HWB.out u5)
            have HT : Hid (Took N0 fl out) := Lib.hid htook
            obtain ⟨m, hm⟩ : ∃ m, out.length = m := ⟨_, rfl⟩
            have HM := Lib.hid hm
            have hm4 : m ≤ 4 := by rw [← hm]; exact htook.four
            obtain ⟨oa, oc, rfl⟩ := row_shape hr5
            have HO5 : Hid (TArg w5 (.slice oa m oc) out) := Lib.hid (by rw [← hm]; exact targ_of_own hr5 rfl)
            have HA5 : Hid (AArg w5 va ac ∧ ac.length = 4 ∧ ac.map (·.2) = tkN N0 (out.take 0)) := Lib.hid ⟨HACW.out.up u5, HACB.out.2.1, HN0.out⟩
            rw [hm] at hr5 ⊢
            clear hm hr5 u5 htook Htk HWB HACW
            go_wp2
            have HFI := Lib.hid HFL.out.2
            have HA6 : Hid (∃ ac', AArg w5 va ac' ∧ ac'.length = 4 ∧ ac'.map (·.2) = tkN N0 (out.take 0)) := Lib.hid ⟨ac, HA5.out⟩
            clear HA5 HACB HB HFL0 HOW0 HUB HN0
            go_loopw [5, 10] (fun va vi wx => ∃ i : Nat, vi = .int .i64 (i : Nat) ∧ i ≤ m ∧ Hid (Up w wx) ∧ Hid (∃ ac', AArg wx va ac' ∧ ac'.length = 4 ∧ ac'.map (·.2) = tkN N0 (out.take i)) ∧ Hid (TArg wx (.slice oa m oc) out)) (fun _ vi _ => m - (RowKit.intOf vi).toNat)
            case atStart => exact ⟨0, rfl, Nat.zero_le _, HU5, HA6, HO5⟩
            case round =>
              obtain ⟨i, rfl, hi, HU, HA, HO⟩ := hrel
              by_cases hlt : i < m
              · have hz2 : (i : Int) < (m : Int) := by omega
                obtain ⟨x, hxi⟩ : ∃ x, out[i]? = some x := ⟨_, List.getElem?_eq_getElem (by rw [HM.out]; omega)⟩
                obtain ⟨b, off, rfl⟩ := HO.out.ptr (by have := HM.out; omega)
                have hl := HO.out.load hxi
                obtain ⟨ac', ha1, ha2, ha3⟩ := HA.out
                have hnx := takenN_at x out N0 i HT.out.turn hxi
                obtain ⟨hE0, hE1⟩ := acApply_next (ac := ac') (x := x) (HFI.out x (HT.out.some x (List.mem_of_getElem? hxi))).2 ha2 (by rw [ha3]; exact (nextS_iff.1 hnx).2)
                have hsn := tkN_snoc x (out.take i) N0
                rw [← take_oneT out i x hxi] at hsn
                have Ha := acApply_any _ ac' x wr ha1 (by rw [ha2]; decide)
                rw [ha2] at Ha
                have HAp := Lib.hid Ha
                have HOK2 : Hid ((acApply ac' x).1.length = 4 ∧ (acApply ac' x).1.map (·.2) = tkN N0 (out.take (i + 1))) := Lib.hid ⟨(acApply_length ac' x).trans ha2, by rw [hE1, ha3, hsn]⟩
                generalize tsA x = cs at hl HAp
                generalize acApply ac' x = R at HAp HOK2 hE0
                obtain ⟨R1, R2⟩ := R
                clear hxi Ha ha1 ha2 ha3 hnx hE1 hsn HA
                go_wp2_with (refine wpList_ex rfl (.agg cs) wr (ex_ldt (x := .tmp 66) rfl rfl hl) ?_)
                with_reducible refine Calls.mono HAp.out ?_
                rintro e w6 ⟨ra, rc, rfl, ha6, u6⟩
                have HA6 : Hid (∃ ac', AArg w6 (.slice ra 4 rc) ac' ∧ ac'.length = 4 ∧ ac'.map (·.2) = tkN N0 (out.take (i + 1))) := Lib.hid ⟨R1, ha6, HOK2.out⟩
                have HU6 := Lib.hid (Up.trans HU.out u6)
                have HO6 := Lib.hid (HO.out.up u6)
                clear ha6 u6 HAp HOK2 HU HO
                simp only at hE0 ⊢
                rcases hE0 with rfl | rfl
                · go_wp2
                  go_roundw
                  case rel => exact ⟨i + 1, by go_num, hlt, HU6, HA6, HO6⟩
                  case measure => simp [RowKit.intOf]; omega
                · go_wp2
                  go_roundw
                  case rel => exact ⟨i + 1, by go_num, hlt, HU6, HA6, HO6⟩
                  case measure => simp [RowKit.intOf]; omega
              · obtain rfl : m = i := by omega
                have hz4 : (m : Int) ≤ 4 := by omega
                go_wp2
                go_ret
                exact ⟨rfl, HU.out⟩
      · have hz : (i : Int) < (nt : Int) := by omega
        have hz8 : ¬ ((i : Int) < 8) := by omega
        clear hi9 hi8
        obtain ⟨va, hva⟩ : ∃ v, v = u5 := ⟨_, rfl⟩
        rw [← hva] at HAC ⊢
        clear hva hlt
        generalize wr = wB at HU HAC ⊢
        have HB := Lib.hid HU.out
        have HACB := Lib.hid HAC.out
        have HFL0 : Hid ((0 : Nat) ≤ 0 ∧ Fine []) := Lib.hid ⟨Nat.le_refl _, fun x h => by cases h⟩
        have HOW0 : Hid (wB.ownsRow wB.heap.size 29 5 (.slice none 0 0) ([] : List Ts).length (tsF [])) := Lib.hid (World.ownsRow_nil _ _ _ _)
        have HUB : Hid (Up wB wB) := Lib.hid (Up.refl wB)
        obtain ⟨N0, hN0⟩ : ∃ N, ac.map (·.2) = N := ⟨_, rfl⟩
        have HN0 := Lib.hid hN0
        clear HAC HU hN0 U1 U2 A2
        go_wp2
        go_loopw [7, 8] (fun vf vi wx => ∃ (i : Nat) (fl : List Ts), vi = .int .i64 (i : Nat) ∧ i ≤ n ∧ Hid (wx.ownsRow wB.heap.size 29 5 vf fl.length (tsF fl)) ∧ Hid (Up wB wx) ∧ Hid (fl.length ≤ i ∧ Fine fl)) (fun _ vi _ => n - (RowKit.intOf vi).toNat)
        case atStart => exact ⟨0, [], rfl, Nat.zero_le _, HOW0, HUB, HFL0⟩
        case round =>
          obtain ⟨i, fl, rfl, hi, HOW, HU, HFL⟩ := hrel
          by_cases hlt : i < n
          · have hz : (i : Int) < (n : Int) := by omega
            obtain ⟨x, hxi⟩ : ∃ x, xs[i]? = some x := ⟨_, List.getElem?_eq_getElem (by rw [HN.out]; exact hlt)⟩
            have HXO := Lib.hid (HX.out.2.1 i x hxi)
            obtain ⟨b, off, rfl⟩ := HX.out.1.ptr (by have := HN.out; omega)
            have hl := (HX.out.1.up (HB.out.trans HU.out)).load hxi
            have Htx : Hid (Calls Try.prog 9 #[.agg (tsA x)] wr fun e w' => e = .returned (.int .i64 (tsE x)) ∧ Up wr w') := Lib.hid (refTx_any _ _ _ _ _ wr)
            have hE9 : tsE x = 0 ∨ tsE x = 9 := by unfold tsE txE; split <;> simp
            have hbs0 : Hid (∀ wx : World, (Instr.buildSlice 22 1 #[(0, .agg (tsA x))]).run Try.prog wx = .ok (.slice (some ⟨wx.heap.size, 0, none⟩) 1 1) (wx.alloc (.cells (tsA x) 29))) := Lib.hid fun wx => build_ts1 x wx
            have HLD : Hid (∀ wx, Up wr wx → (loadVar 29 ⟨b, off + i * 5, none⟩).run Try.prog wx = .ok (.agg (tsA x)) wx) := Lib.hid fun wx hu => (HX.out.1.up ((HB.out.trans HU.out).trans hu)).load hxi
            have HCS : Hid ((tsA x).toList = tsC x ∧ (tsA x).size = 5) := Lib.hid ⟨by rw [tsA_eq], rfl⟩
            generalize tsA x = cs at hl Htx hbs0 HLD HCS
            obtain ⟨fa, fc, rfl⟩ := row_shape HOW.out
            go_wp2_with (refine wpList_ex rfl (.agg cs) wr (ex_ldt (x := .tmp 42) rfl rfl hl) ?_)
            with_reducible refine Calls.mono Htx.out ?_
            rintro e w3 ⟨rfl, u3⟩
            have HU3 := Lib.hid (Up.trans HU.out u3)
            have HOW3 := Lib.hid (ownsRow_up HOW.out u3)
            have hl3 := HLD.out w3 u3
            clear u3 Htx HU HOW hl
            rcases hE9 with hE | hE
            · have HE := Lib.hid hE
              rw [hE]
              have hun := HU3.out.size
              have hfi := HFL.out.1
              obtain ⟨ca', cc', w4, k1, k2, k3⟩ := app_st (z := .agg (tsA default)) Try.underlying22 info_tsd rfl (by omega) wB.heap.size w3 fa fc fl.length (tsF fl) cs HOW3.out HCS.out.2 (fun v hv => by rw [HCS.out.1] at hv; exact tsC_one x v hv) (by omega) (by unfold maxLen; omega) (by unfold maxLen; omega) hun
              have hua := Up.alloc (Up.refl w3) (.cells cs 29)
              have HOW4 : Hid (w4.ownsRow wB.heap.size 29 5 (.slice ca' (fl.length + 1) cc') (fl ++ [x]).length (tsF (fl ++ [x]))) := Lib.hid (by rw [List.length_append, List.length_singleton, tsF_append, tsF_cons, show tsC x ++ tsF [] = cs.toList by rw [HCS.out.1]; simp [tsF]]; exact k2)
              have hrow : ∀ q, (Value.slice fa fl.length fc).ownBlock = some q → wB.heap.size ≤ q := fun q e => (HOW3.out.lt q e).1
              have HU4 : Hid (Up wB w4) := Lib.hid (up_grown (grown_new (grown_up (HU3.out.trans hua) none) k3 hrow))
              have hbs := hbs0.out w3
              clear k2 k3 hua hrow hE hun
              go_wp2_with (refine wpList_ex rfl (.agg cs) w3 (ex_ldt (x := .tmp 49) rfl rfl hl3) ?_; refine Stp.h ?_)
              refine Stp.mk ?_
              refine wpList_ex rfl (.slice (some ⟨w3.heap.size, 0, none⟩) 1 1) _ (ex_slice1 _ _ hbs rfl rfl) ?_
              refine wpList_ex rfl (.slice ca' (fl.length + 1) cc') w4 (ex_app k1 rfl rfl rfl rfl) ?_
              go_wp2
              go_roundw
              case rel => exact ⟨i + 1, fl ++ [x], by go_num, hlt, HOW4, HU4, Lib.hid ⟨by rw [List.length_append, List.length_singleton]; have := HFL.out.1; omega, HFL.out.2.snoc HXO.out HE.out⟩⟩
              case measure => simp [RowKit.intOf]; omega
            · rw [hE]
              clear hE
              go_wp2
              go_roundw
              case rel => exact ⟨i + 1, fl, by go_num, hlt, HOW3, HU3, Lib.hid ⟨by have := HFL.out.1; omega, HFL.out.2⟩⟩
              case measure => simp [RowKit.intOf]; omega
          · obtain rfl : n = i := by omega
            obtain ⟨fa, fc, rfl⟩ := row_shape HOW.out
            have Htk := Lib.hid (take_any _ _ fl ac wr (targ_of_own HOW.out rfl) (fun j x h => (HFL.out.2 x (List.mem_of_getElem? h)).1) (by have := HFL.out.1; omega) (HACB.out.1.up HU.out) HACB.out.2.2 (by rw [HACB.out.2.1]; decide))
            rw [HN0.out] at Htk
            have HWB := Lib.hid (Up.trans HB.out HU.out)
            have HACW := Lib.hid (HACB.out.1.up HU.out)
            clear HU HOW
            go_wp2_with fail
            with_reducible refine Calls.mono Htk.out ?_
            rintro e w5 ⟨r, out, rfl, hr5, u5, htook⟩
            have HU5 := Lib.hid (Up.trans HWB.out u5)
            have HT : Hid (Took N0 fl out) := Lib.hid htook
            obtain ⟨m, hm⟩ : ∃ m, out.length = m := ⟨_, rfl⟩
            have HM := Lib.hid hm
            have hm4 : m ≤ 4 := by rw [← hm]; exact htook.four
            obtain ⟨oa, oc, rfl⟩ := row_shape hr5
            have HO5 : Hid (TArg w5 (.slice oa m oc) out) := Lib.hid (by rw [← hm]; exact targ_of_own hr5 rfl)
            have HA5 : Hid (AArg w5 va ac ∧ ac.length = 4 ∧ ac.map (·.2) = tkN N0 (out.take 0)) := Lib.hid ⟨HACW.out.up u5, HACB.out.2.1, HN0.out⟩
            rw [hm] at hr5 ⊢
            clear hm hr5 u5 htook Htk HWB HACW
            go_wp2
            have HFI := Lib.hid HFL.out.2
            have HA6 : Hid (∃ ac', AArg w5 va ac' ∧ ac'.length = 4 ∧ ac'.map (·.2) = tkN N0 (out.take 0)) := Lib.hid ⟨ac, HA5.out⟩
            clear HA5 HACB HB HFL0 HOW0 HUB HN0
            go_loopw [5, 10] (fun va vi wx => ∃ i : Nat, vi = .int .i64 (i : Nat) ∧ i ≤ m ∧ Hid (Up w wx) ∧ Hid (∃ ac', AArg wx va ac' ∧ ac'.length = 4 ∧ ac'.map (·.2) = tkN N0 (out.take i)) ∧ Hid (TArg wx (.slice oa m oc) out)) (fun _ vi _ => m - (RowKit.intOf vi).toNat)
            case atStart => exact ⟨0, rfl, Nat.zero_le _, HU5, HA6, HO5⟩
            case round =>
              obtain ⟨i, rfl, hi, HU, HA, HO⟩ := hrel
              by_cases hlt : i < m
              · have hz2 : (i : Int) < (m : Int) := by omega
                obtain ⟨x, hxi⟩ : ∃ x, out[i]? = some x := ⟨_, List.getElem?_eq_getElem (by rw [HM.out]; omega)⟩
                obtain ⟨b, off, rfl⟩ := HO.out.ptr (by have := HM.out; omega)
                have hl := HO.out.load hxi
                obtain ⟨ac', ha1, ha2, ha3⟩ := HA.out
                have hnx := takenN_at x out N0 i HT.out.turn hxi
                obtain ⟨hE0, hE1⟩ := acApply_next (ac := ac') (x := x) (HFI.out x (HT.out.some x (List.mem_of_getElem? hxi))).2 ha2 (by rw [ha3]; exact (nextS_iff.1 hnx).2)
                have hsn := tkN_snoc x (out.take i) N0
                rw [← take_oneT out i x hxi] at hsn
                have Ha := acApply_any _ ac' x wr ha1 (by rw [ha2]; decide)
                rw [ha2] at Ha
                have HAp := Lib.hid Ha
                have HOK2 : Hid ((acApply ac' x).1.length = 4 ∧ (acApply ac' x).1.map (·.2) = tkN N0 (out.take (i + 1))) := Lib.hid ⟨(acApply_length ac' x).trans ha2, by rw [hE1, ha3, hsn]⟩
                generalize tsA x = cs at hl HAp
                generalize acApply ac' x = R at HAp HOK2 hE0
                obtain ⟨R1, R2⟩ := R
                clear hxi Ha ha1 ha2 ha3 hnx hE1 hsn HA
                go_wp2_with (refine wpList_ex rfl (.agg cs) wr (ex_ldt (x := .tmp 66) rfl rfl hl) ?_)
                with_reducible refine Calls.mono HAp.out ?_
                rintro e w6 ⟨ra, rc, rfl, ha6, u6⟩
                have HA6 : Hid (∃ ac', AArg w6 (.slice ra 4 rc) ac' ∧ ac'.length = 4 ∧ ac'.map (·.2) = tkN N0 (out.take (i + 1))) := Lib.hid ⟨R1, ha6, HOK2.out⟩
                have HU6 := Lib.hid (Up.trans HU.out u6)
                have HO6 := Lib.hid (HO.out.up u6)
                clear ha6 u6 HAp HOK2 HU HO
                simp only at hE0 ⊢
                rcases hE0 with rfl | rfl
                · go_wp2
                  go_roundw
                  case rel => exact ⟨i + 1, by go_num, hlt, HU6, HA6, HO6⟩
                  case measure => simp [RowKit.intOf]; omega
                · go_wp2
                  go_roundw
                  case rel => exact ⟨i + 1, by go_num, hlt, HU6, HA6, HO6⟩
                  case measure => simp [RowKit.intOf]; omega
              · obtain rfl : m = i := by omega
                have hz4 : (m : Int) ≤ 4 := by omega
                go_wp2
                go_ret
                exact ⟨rfl, HU.out⟩
end
end Go.Proofs.Ytmohlfeobdfhdaa
