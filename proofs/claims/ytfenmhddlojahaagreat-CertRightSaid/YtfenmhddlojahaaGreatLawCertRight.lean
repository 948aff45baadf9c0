import Derived.Test.YtfenmhddlojahaaGreatRfVtVal
import Derived.Test.YtfenmhddlojahaaGreatCtMake
import Derived.Test.YtfenmhddlojahaaGreatRfSel
import Derived.Test.YtfenmhddlojahaaGreatCtFirst
/-
  CertRight: the walk returns true.
-/
namespace Go.Proofs.YtfenmhddlojahaaGreat
set_option maxRecDepth 100000
section
set_option linter.unusedVariables false
open Go.RowKit Go.Sort Go.Lib

theorem firsts_mem {l R : List Vs} (h : Firsts vsK l R) {x : Vs} (hx : x ∈ R) : x ∈ l := by
  have h1 := fk_mem vsK (ndk_up vsK h.up) hx
  rw [h.fst] at h1
  exact (fk_some vsK h1).1
/-- two valid votes, of rising signers, are a right cert -/
theorem right_two {V H : Int} {B : ByteArray} {ls : List (List Int)} {l R : List Vs} (h : Firsts vsK (l.filter (vsOf V H B)) R) (hl : ∀ x ∈ l, VsOk x ∧ vgB ls x = true) (h2 : 2 ≤ R.length) : RightP V H B ls (R.take 2) 2 := by
  have hm : ∀ x ∈ R, vsOf V H B x = true ∧ vgB ls x = true := fun x hx => by
    have := firsts_mem h hx
    rw [List.mem_filter] at this
    exact ⟨this.2, (hl x this.1).2⟩
  match R, h2, h.up with
  | x :: y :: t, _, hup =>
    have hxy : vsK x < vsK y := (List.pairwise_cons.1 hup).1 y (by simp)
    have hx := hm x (by simp)
    have hy := hm y (by simp)
    refine .inr ⟨by decide, by simp, fun j hj => ?_⟩
    have hj2 : j = 0 ∨ j = 1 := by simp at hj; omega
    rcases hj2 with rfl | rfl
    · exact right_first (x := x) (by simp) hx.1 hx.2
    · rw [right_later (k := 0) (x := y) (y := x) rfl (by simp) (by simp) hy.1 hy.2]
      exact decide_eq_false (by unfold vsK at hxy; omega)
theorem wrong_three {V H : Int} {B : ByteArray} {ls : List (List Int)} {R : List Vs} (h2 : 2 ≤ R.length) : ¬ RightP V H B ls (R.take 2) 3 := by
  have hl : (R.take 2).length = 2 := by rw [List.length_take]; omega
  rintro (h | h)
  · rw [hl] at h; exact absurd h.2 (by decide)
  · have := h.2.1; rw [hl] at this; exact absurd this (by decide)
theorem own_zero (w : World) (base : Nat) : w.ownsRow base 49 7 (.slice none 0 0) ([] : List Vs).length (vsF []) := ⟨rfl, .inl ⟨rfl, rfl⟩⟩

/-- a valid statement more -/
theorem gain {wb w : World} {va : Option Addr} {vc : Nat} {D : List Vs} {x : Vs} (ho : w.ownsRow wb.heap.size 49 7 (.slice va D.length vc) D.length (vsF D)) (hb : D.length ≤ 10) (hub : Up wb w) :
    ∃ (va' : Option Addr) (vc' : Nat) (w' : World), (Builtin.append_ #[22, 22] 22 #[.slice va D.length vc, .slice (some ⟨w.heap.size, 0, none⟩) 1 1]).run Tryz.prog (w.alloc (.cells (vsA x) 49)) = .ok (.slice va' (D ++ [x]).length vc') w' ∧
      w'.ownsRow wb.heap.size 49 7 (.slice va' (D ++ [x]).length vc') (D ++ [x]).length (vsF (D ++ [x])) ∧ Up wb w' := by
  have hbase := hub.size
  have hnb := heap_alloc_new w (.cells (vsA x) 49)
  have hu := Up.alloc (Up.refl w) (.cells (vsA x) 49)
  obtain ⟨v', w', h1, h2, h3, _⟩ := app_vts (w.alloc (.cells (vsA x) 49)) wb.heap.size (.slice va D.length vc) D.length _ (ownsRow_up ho hu) ⟨w.heap.size, 0, none⟩ 1 1 (vsC x) rfl
    (fun j u hu => by
      have hadd : (⟨w.heap.size, 0, none⟩ : Addr).add j = ⟨w.heap.size, j, none⟩ := by unfold Addr.add; split <;> simp_all
      rw [hadd, cell_of_row _ _ j _ _ _ hnb]
      unfold vsA
      simpa using hu) (vsC_one x) (by omega) (Nat.le_trans hbase hu.size)
  have hl : (D ++ [x]).length = D.length + 1 := by simp
  have hf : vsF (D ++ [x]) = vsF D ++ vsC x := by rw [vsF_append]; unfold vsF; simp
  rw [hl, hf]
  obtain ⟨va', vc', rfl⟩ := row_shape h2
  refine ⟨va', vc', w', h1, h2, ?_⟩
  have hgb : ∀ g, (Value.slice va D.length vc).ownBlock = some g → wb.heap.size ≤ g := fun g e => (ho.lt g e).1
  have hub2 := Up.trans hub hu
  rcases hob : (Value.slice va D.length vc).ownBlock with _ | g
  · rw [hob] at h3
    exact Up.trans hub2 (up_grown h3)
  · rw [hob] at h3
    exact up_at hub2 h3 (hgb g hob)

set_option maxHeartbeats 8000000 in
theorem lawCertRight_any (lv : Value) (xs : List Vs) (V H : Int) (B : ByteArray) (rv : Value) (ls : List (List Int)) (w : World) (hl : VArg w lv xs) (hb : xs.length * 72 ≤ 140737488355328) (hs : Strs w rv ls) (hll : ls.length ≤ 9223372036854775807) (hok : ∀ (j : Nat) (x : Vs), xs[j]? = some x → VsOk x) :
    Calls Tryz.prog 4 #[lv, .agg (mkC V H B), rv] w fun e w' => e = .returned (.bool true) ∧ Up w w' := by
  unfold mkC
  obtain ⟨ra, rc, e, _⟩ := id hs
  subst e
  obtain ⟨a, n, cap, rfl, hn⟩ : ∃ a n cap, lv = .slice a n cap ∧ xs.length = n := by obtain ⟨a, cap, e, _⟩ := hl; exact ⟨a, _, cap, e, rfl⟩
  have HVAL : Hid (∀ (j : Nat) (x : Vs), xs[j]? = some x → ∀ wx, Up w wx → Calls Tryz.prog 17 #[.agg (vsA x), .slice ra ls.length rc] wx fun e w' => e = .returned (.bool (vgB ls x)) ∧ Up wx w') := fun j x hx wx u => refValid_vs x (hok j x hx) _ ls wx (hs.up u) hll
  have HMK : Hid (∀ wx mv D, VArg wx mv D → D.length ≤ 10 → Calls Tryz.prog 18 #[mv, .agg #[.int .i64 V, .int .i64 H, .string B], .int .i64 2] wx (MadeP wx D V H B 2)) := fun wx mv D k kl => make_high mv D V H B 2 wx k (by omega) (by decide) (by decide)
  have HCK : Hid (∀ (wx : World) (q : Int) (ca : Option Addr) (cc : Nat) (R : List Vs), Up w wx → VArg wx (.slice ca 2 cc) R → R.length = 2 → (∀ x ∈ R, VsOk x) → Calls Tryz.prog 12 #[.agg #[.int .i64 V, .int .i64 H, .string B, .slice ca 2 cc], .slice ra ls.length rc, .int .i64 q] wx (CheckP wx (RightP V H B ls R q))) :=
    fun wx q ca cc R u k hR ho => ctCheck_any V H B ca 2 cc R _ ls q wx k hR (by decide) (hs.up u) hll (fun j x hx => ho x (List.mem_of_getElem? hx))
  have HAL := Lib.hid (ctAlive_any (w.alloc (.cells #[.int .i64 V, .int .i64 H, .string B] 27)))
  have HLV := Lib.hid hl
  have HN := Lib.hid hn
  have HOK := Lib.hid hok
  have HM0 := Lib.hid (heap_alloc_new w (.cells #[.int .i64 V, .int .i64 H, .string B] 27))
  have HU0 := Lib.hid (Up.alloc (Up.refl w) (.cells #[.int .i64 V, .int .i64 H, .string B] 27))
  have hnz : n < 4611686018427387904 := by omega
  clear hl hn hok hs hll hb
  go_enter Tryz.func4, Tryz.ntmps4
  go_wp2_with fail
  with_reducible refine Calls.mono HAL.out ?_
  rintro e wb ⟨rfl, hub⟩
  have HMB := Lib.hid ((hub.block _ (lt_of_block HM0.out)).trans HM0.out)
  have HUB := Lib.hid (Up.trans HU0.out hub)
  clear hub HM0 HU0 HAL
  generalize w.heap.size = mb at HMB ⊢
  go_wp2
  go_loopw [7, 8] (fun v7 vi wr => ∃ (i : Nat) (va : Option Addr) (vc : Nat) (D : List Vs), v7 = .slice va D.length vc ∧ vi = .int .i64 (i : Nat) ∧ i ≤ n ∧ i ≤ 10 ∧ D.length ≤ i ∧ Hid (wr.ownsRow wb.heap.size 49 7 (.slice va D.length vc) D.length (vsF D)) ∧ Hid (Up wb wr) ∧ Hid (∀ x ∈ D, VsOk x ∧ vgB ls x = true))
    (fun _ vi _ => n - (intOf vi).toNat)
  case atStart => exact ⟨0, none, 0, [], rfl, rfl, Nat.zero_le _, by decide, Nat.le_refl _, Lib.hid (own_zero _ _), Lib.hid (Up.refl _), Lib.hid (fun x hx => by cases hx)⟩
  case round =>
    obtain ⟨i, va, vc, D, rfl, rfl, hi, hi10, hDi, HO, HUR, HD⟩ := hrel
    by_cases hgo : i < n ∧ i < 10
    · obtain ⟨hlt, hlt10⟩ := hgo
      have hz : (i : Int) < (n : Int) := by omega
      have hz10 : (i : Int) < 10 := by omega
      obtain ⟨x, hx⟩ : ∃ x, xs[i]? = some x := ⟨xs[i]'(by have := HN.out; omega), List.getElem?_eq_getElem _⟩
      obtain ⟨b, off, hb1⟩ := (HLV.out).ptr (by have := HN.out; omega)
      subst hb1
      have HUW := Lib.hid (Up.trans HUB.out HUR.out)
      have Hl := Lib.hid ((HLV.out.up HUW.out).load hx)
      have HVX := Lib.hid (HVAL.out i x hx wr HUW.out)
      have HXO := Lib.hid (HOK.out i x hx)
      have HL2 : Hid (∀ wx, Up wr wx → (loadVar 49 ⟨b, off + i * 7, none⟩).run Tryz.prog wx = .ok (.agg (vsA x)) wx) := fun wx u => (HLV.out.up (Up.trans HUW.out u)).load hx
      clear hx
      generalize hvb : vgB ls x = VB at HVX
      have HVB := Lib.hid hvb
      clear hvb
      go_wp2_with (refine wpList_ex rfl (.agg (vsA x)) wr (ex_ldv (x := .tmp 25) rfl rfl Hl.out) ?_)
      with_reducible refine Calls.mono HVX.out ?_
      rintro e w6 ⟨rfl, hu6⟩
      have HU6 := Lib.hid (Up.trans HUR.out hu6)
      have HL6 := Lib.hid (HL2.out w6 hu6)
      have HO6 := Lib.hid (ownsRow_up HO.out hu6)
      clear hu6
      cases VB with
      | false =>
        go_wp2
        go_roundw
        case rel => exact ⟨i + 1, va, vc, D, rfl, by go_num, hlt, by omega, by omega, HO6, HU6, HD⟩
        case measure => simp [intOf]; omega
      | true =>
        obtain ⟨va', vc', w8, hap, ho8, hb8⟩ := gain (x := x) HO6.out (by omega) HU6.out
        have HB1 := Lib.hid (build_one x w6)
        have HAP := Lib.hid hap
        have HO8 := Lib.hid ho8
        have HU8 := Lib.hid hb8
        have HD8 : Hid (∀ y ∈ D ++ [x], VsOk y ∧ vgB ls y = true) := fun y hy => by
          rcases List.mem_append.1 hy with hy | hy
          · exact HD.out y hy
          · rw [List.mem_singleton.1 hy]; exact ⟨HXO.out, HVB.out⟩
        have hl8 : (D ++ [x]).length = D.length + 1 := by simp
        generalize D ++ [x] = D' at HAP HO8 HD8 hl8
        clear hap ho8 hb8
        generalize hd8 : D'.length = d' at HAP HO8 hl8
        have HLD := Lib.hid hd8
        have HL8 := Lib.hid hl8
        clear hd8 hl8
        go_wp2_with (first | (refine wpList_ex rfl (.agg (vsA x)) w6 (ex_ldv (x := .tmp 32) rfl rfl HL6.out) ?_) | (refine wpList_ex rfl (.slice (some ⟨w6.heap.size, 0, none⟩) 1 1) (w6.alloc (.cells (vsA x) 49)) (ex_slice1 (x := .tmp 33) (v0 := .agg (vsA x)) _ _ HB1.out rfl rfl) ?_) | (refine wpList_ex rfl (.slice va' d' vc') w8 (ex_app (s := .tmp 29) (x := .tmp 34) rfl rfl rfl rfl HAP.out) ?_))
        go_roundw
        case rel => exact ⟨i + 1, va', vc', D', by rw [HLD.out], by go_num, hlt, by omega, by have := HLD.out; have := HL8.out; omega, by rw [HLD.out]; exact HO8, HU8, HD8⟩
        case measure => simp [intOf]; omega
    · have HVA := Lib.hid (VArg.of_own HO.out)
      have HUW := Lib.hid (Up.trans HUB.out HUR.out)
      have HD10 := Lib.hid (Nat.le_trans hDi hi10)
      have HM2 := Lib.hid ((HUR.out.block _ (lt_of_block HMB.out)).trans HMB.out)
      have HMM := Lib.hid (HMK.out wr _ D HVA.out HD10.out)
      have hsp : (¬ i < n) ∨ (i < n ∧ ¬ i < 10) := by omega
      clear hgo HO
      generalize D.length = d at HVA HMM ⊢
      rcases hsp with hsp | hsp
      all_goals
        have hbound := hsp
        go_wp2_with (refine wpList_ex rfl (.agg #[.int .i64 V, .int .i64 H, .string B]) _ (ex_loadrow (x := .tmp 4) rfl rfl _ 27 HM2.out Tryz.underlying27 rfl info_mk) ?_)
        with_reducible refine Calls.mono HMM.out ?_
        rintro e w9 ⟨⟨R, hF, hno, hyes⟩, hu9⟩
        have HU9 := Lib.hid (Up.trans HUW.out hu9)
        by_cases h2 : R.length < 2
        · obtain rfl : e = .returned (.tuple #[.agg #[.int .i64 0, .int .i64 0, .string ⟨#[]⟩, .slice none 0 0], .bool false]) := hno h2
          clear hno hyes hF hu9 h2
          go_wp2
          go_ret
          exact ⟨rfl, Up.trans HU9.out (Up.alloc (Up.refl _) _)⟩
        · obtain ⟨ca, cc, rfl, hvr⟩ := hyes (by omega)
          have hl2 : (R.take 2).length = 2 := by rw [List.length_take]; omega
          have ho2 : ∀ x ∈ R.take 2, VsOk x := fun x hx => by
            have := firsts_mem hF (List.mem_of_mem_take hx)
            exact (HD.out x (List.mem_filter.1 this).1).1
          have HR2 := Lib.hid (right_two hF HD.out (by omega))
          have HR3 := Lib.hid (wrong_three (V := V) (H := H) (B := B) (ls := ls) (R := R) (by omega))
          have HC9 := Lib.hid (heap_alloc_new w9 (.cells #[.int .i64 V, .int .i64 H, .string B, .slice ca 2 cc] 24))
          have HUA := Lib.hid (Up.alloc (Up.refl w9) (.cells #[.int .i64 V, .int .i64 H, .string B, .slice ca 2 cc] 24))
          have HQ : Hid (∀ wx q, Up w9 wx → Calls Tryz.prog 12 #[.agg #[.int .i64 V, .int .i64 H, .string B, .slice ca 2 cc], .slice ra ls.length rc, .int .i64 q] wx (CheckP wx (RightP V H B ls (R.take 2) q))) := fun wx q u => HCK.out wx q ca cc (R.take 2) (Up.trans HU9.out u) (hvr.up u) hl2 ho2
          clear hno hyes hF hu9 h2 hvr hl2 ho2
          obtain ⟨c0, c1, c2, c3⟩ := ct_cells HC9.out
          go_wp2_with fail
          generalize w9.alloc (.cells #[.int .i64 V, .int .i64 H, .string B, .slice ca 2 cc] 24) = wa at HC9 HUA c0 c1 c2 c3 ⊢
          generalize w9.heap.size = cb at HC9 c0 c1 c2 c3 ⊢
          with_reducible refine Calls.mono (HQ.out wa 2 HUA.out) ?_
          rintro e wc ⟨hy, hn3, huc⟩
          obtain rfl : e = .returned (.int .i64 0) := hy HR2.out
          have HUC := Lib.hid (Up.trans HUA.out huc)
          have HCC := Lib.hid ((huc.block _ (lt_of_block HC9.out)).trans HC9.out)
          clear hy hn3 huc c0 c1 c2 c3
          obtain ⟨c0, c1, c2, c3⟩ := ct_cells HCC.out
          go_wp2_with fail
          with_reducible refine Calls.mono (HQ.out wc 3 HUC.out) ?_
          rintro e wd ⟨hy, hn3, hud⟩
          obtain rfl : e = .returned (.int .i64 41) := hn3 HR3.out
          have HUD := Lib.hid (Up.trans HUC.out hud)
          clear hy hn3 hud c0 c1 c2 c3
          go_wp2
          go_ret
          exact ⟨rfl, Up.trans HU9.out HUD.out⟩
end
end Go.Proofs.YtfenmhddlojahaaGreat
