import Derived.Test.YtbdjbmgeelleiaaPkRead
import Derived.Test.YtbdjbmgeelleiaaRefGet
import Derived.Test.YtbdjbmgeelleiaaRefPack
/-
  The reference: fields that are read.
-/
namespace Go.Proofs.Ytbdjbmgeelleiaa
set_option maxRecDepth 100000
section
set_option linter.unusedVariables false
open Go.RowKit

theorem info_refR : (Try.prog.info? 44).map (·.size) = some 2 := by kernel_rfl
/-- two results, the second a struct in memory -/
theorem results_tmp_cell {P : Program} {fn : Func} {p q : Tmp} {ty : TypeId} (h : fn.results = #[.tmp q, .cell p ty]) (tmps : Array Value) (w : World) (B : Nat) (cs : Array Value) (t : TypeId) (d : TypeDesc) (u : Value) (hp : tmps.getD p undef = .pointer (some ⟨B, 0, none⟩)) (hq : tmps.getD q undef = u)
    (hg : w.heap[B]? = some (.cells cs t (0, 0))) (hu : P.underlying ty = some d) (hd : (match d with | .struct _ | .array _ _ => true | _ => false) = true) (hs : (P.info? ty).map (·.size) = some cs.size) :
    (results fn tmps).run P w = .ok (.tuple #[u, .agg cs]) w := by
  have hp' : tmps[p]?.getD undef = .pointer (some ⟨B, 0, none⟩) := by simpa using hp
  have hq' : tmps[q]?.getD undef = u := by simpa using hq
  have hl := run_loadVar_row (P := P) w B t ty cs (0, 0) _ hg hu hd hs
  simp [results, h, hp', hq', asAddr, hl]
/-- what a read of octets by value makes of them -/
def RRto (w : World) (b : Value) (val : Value) (E' : Int) (zs' : List Int) (e : Ending) (w' : World) : Prop := ∃ b', e = .returned (.tuple #[val, .agg #[b', .int .i64 E']]) ∧ Ints .u8 w' b' zs' ∧ Up w w' ∧ ∀ k, b'.ownBlock = some k → b.ownBlock = some k

set_option maxHeartbeats 2000000 in
theorem refGetNum_bad (b : Value) (E : Int) (zs : List Int) (most : Int) (w : World) (hb : Ints .u8 w b zs) (hE : E ≠ 0) :
    Calls Try.prog 17 #[.agg #[b, .int .i64 E], .int .i64 most] w (RRto w b (.int .i64 0) E zs) := by
  have Hb := Lib.hid hb
  obtain ⟨a, c, rfl, _, _, _⟩ := hb
  have e1 : (E == 0) = false := by rw [beq_eq_false_iff_ne]; exact hE
  have e2 : (E != 0) = true := by rw [bne, e1]; rfl
  clear hE
  go_enter Try.func17, Try.ntmps17
  go_wp2
  go_region
  all_goals
    go_wp2
    exact bodyPost_ret (results_tmp_cell rfl _ _ _ _ _ _ _ rfl rfl (show _ from heap_alloc2_new w _ _) Try.underlying44 rfl info_refR) rfl ⟨_, rfl, Hb.out.up (Up.drew (up2 w _ _)), Up.drew (up2 w _ _), fun _ h => h⟩
set_option maxHeartbeats 2000000 in
theorem refGetNum_short (b : Value) (zs : List Int) (most : Int) (w : World) (hb : Ints .u8 w b zs) (h6 : zs.length < 6) :
    Calls Try.prog 17 #[.agg #[b, .int .i64 0], .int .i64 most] w (RRto w b (.int .i64 0) 8 []) := by
  obtain ⟨a, c, rfl, _, _, _⟩ := hb
  go_enter Try.func17, Try.ntmps17
  go_wp2
  exact bodyPost_ret (results_tmp_cell rfl _ _ _ _ _ _ _ rfl rfl (heap_alloc2_new w _ _) Try.underlying44 rfl info_refR) rfl ⟨_, rfl, Ints.empty (fun _ => rfl), up2 w _ _, nil_off _⟩
set_option maxHeartbeats 2000000 in
theorem refGetNum_over1 (b : Value) (zs : List Int) (most : Int) (w : World) (hb : Ints .u8 w b zs) (hu : U8s zs) (h6 : 6 ≤ zs.length) (hn : 1099511627776 < getB (zs.take 6)) :
    Calls Try.prog 17 #[.agg #[b, .int .i64 0], .int .i64 most] w (RRto w b (.int .i64 0) 4 []) := by
  have Hget : Hid (∀ (t : Value) (wx : World), Ints .u8 wx t (zs.take 6) → Calls Try.prog 30 #[t] wx fun e w' => e = .returned (.int .i64 (getB (zs.take 6))) ∧ wx = w') := Lib.hid fun t wx hi => refGet_any t _ wx hi (hu.take 6) (by rw [List.length_take]; omega)
  have Hb := Lib.hid hb
  obtain ⟨a, c, rfl, hc, _, _⟩ := hb
  have Hpre := Lib.hid (fun (wx : World) (hx : Up w wx) => (Hb.out.up hx).pre 6 h6)
  have hl6 : (zs.take 6).length = 6 := by rw [List.length_take]; omega
  have Hl6 := Lib.hid hl6
  generalize getB (zs.take 6) = n at *
  generalize zs.take 6 = fl at *
  clear hl6 hu
  go_enter Try.func17, Try.ntmps17
  go_wp2_with fail
  with_reducible refine Calls.mono (Hget.out _ _ (Hpre.out _ (up2 w _ _))) ?_
  rintro e w1 ⟨rfl, rfl⟩
  go_wp2
  exact bodyPost_ret (results_tmp_cell rfl _ _ _ _ _ _ _ rfl rfl (heap_alloc2_new w _ _) Try.underlying44 rfl info_refR) rfl ⟨_, rfl, Ints.empty (fun _ => rfl), up2 w _ _, nil_off _⟩
set_option maxHeartbeats 2000000 in
theorem refGetNum_over2 (b : Value) (zs : List Int) (most : Int) (w : World) (hb : Ints .u8 w b zs) (hu : U8s zs) (h6 : 6 ≤ zs.length) (hn0 : ¬ 1099511627776 < getB (zs.take 6)) (hn : most < getB (zs.take 6)) :
    Calls Try.prog 17 #[.agg #[b, .int .i64 0], .int .i64 most] w (RRto w b (.int .i64 0) 4 []) := by
  have Hget : Hid (∀ (t : Value) (wx : World), Ints .u8 wx t (zs.take 6) → Calls Try.prog 30 #[t] wx fun e w' => e = .returned (.int .i64 (getB (zs.take 6))) ∧ wx = w') := Lib.hid fun t wx hi => refGet_any t _ wx hi (hu.take 6) (by rw [List.length_take]; omega)
  have Hb := Lib.hid hb
  obtain ⟨a, c, rfl, hc, _, _⟩ := hb
  have Hpre := Lib.hid (fun (wx : World) (hx : Up w wx) => (Hb.out.up hx).pre 6 h6)
  have hl6 : (zs.take 6).length = 6 := by rw [List.length_take]; omega
  have Hl6 := Lib.hid hl6
  generalize getB (zs.take 6) = n at *
  generalize zs.take 6 = fl at *
  clear hl6 hu
  go_enter Try.func17, Try.ntmps17
  go_wp2_with fail
  with_reducible refine Calls.mono (Hget.out _ _ (Hpre.out _ (up2 w _ _))) ?_
  rintro e w1 ⟨rfl, rfl⟩
  go_wp2
  exact bodyPost_ret (results_tmp_cell rfl _ _ _ _ _ _ _ rfl rfl (heap_alloc2_new w _ _) Try.underlying44 rfl info_refR) rfl ⟨_, rfl, Ints.empty (fun _ => rfl), up2 w _ _, nil_off _⟩
set_option maxHeartbeats 2000000 in
theorem refGetText_bad (b : Value) (E : Int) (zs : List Int) (most : Int) (w : World) (hb : Ints .u8 w b zs) (hE : E ≠ 0) :
    Calls Try.prog 19 #[.agg #[b, .int .i64 E], .int .i64 most] w (RRto w b (.string ⟨#[]⟩) E zs) := by
  have Hb := Lib.hid hb
  obtain ⟨a, c, rfl, _, _, _⟩ := hb
  have e1 : (E == 0) = false := by rw [beq_eq_false_iff_ne]; exact hE
  have e2 : (E != 0) = true := by rw [bne, e1]; rfl
  clear hE
  go_enter Try.func19, Try.ntmps19
  go_wp2
  go_region
  all_goals
    go_wp2
    exact bodyPost_ret (results_tmp_cell rfl _ _ _ _ _ _ _ rfl rfl (show _ from heap_alloc2_new w _ _) Try.underlying44 rfl info_refR) rfl ⟨_, rfl, Hb.out.up (Up.drew (up2 w _ _)), Up.drew (up2 w _ _), fun _ h => h⟩
set_option maxHeartbeats 2000000 in
theorem refGetText_short (b : Value) (zs : List Int) (most : Int) (w : World) (hb : Ints .u8 w b zs) (h6 : zs.length < 2) :
    Calls Try.prog 19 #[.agg #[b, .int .i64 0], .int .i64 most] w (RRto w b (.string ⟨#[]⟩) 8 []) := by
  obtain ⟨a, c, rfl, _, _, _⟩ := hb
  go_enter Try.func19, Try.ntmps19
  go_wp2
  exact bodyPost_ret (results_tmp_cell rfl _ _ _ _ _ _ _ rfl rfl (heap_alloc2_new w _ _) Try.underlying44 rfl info_refR) rfl ⟨_, rfl, Ints.empty (fun _ => rfl), up2 w _ _, nil_off _⟩
set_option maxHeartbeats 2000000 in
theorem refGetText_over1 (b : Value) (zs : List Int) (most : Int) (w : World) (hb : Ints .u8 w b zs) (hu : U8s zs) (h6 : 2 ≤ zs.length) (hn : 4096 < getB (zs.take 2)) :
    Calls Try.prog 19 #[.agg #[b, .int .i64 0], .int .i64 most] w (RRto w b (.string ⟨#[]⟩) 5 []) := by
  have Hget : Hid (∀ (t : Value) (wx : World), Ints .u8 wx t (zs.take 2) → Calls Try.prog 30 #[t] wx fun e w' => e = .returned (.int .i64 (getB (zs.take 2))) ∧ wx = w') := Lib.hid fun t wx hi => refGet_any t _ wx hi (hu.take 2) (by rw [List.length_take]; omega)
  have Hb := Lib.hid hb
  obtain ⟨a, c, rfl, hc, _, _⟩ := hb
  have Hpre := Lib.hid (fun (wx : World) (hx : Up w wx) => (Hb.out.up hx).pre 2 h6)
  have hl6 : (zs.take 2).length = 2 := by rw [List.length_take]; omega
  have Hl6 := Lib.hid hl6
  generalize getB (zs.take 2) = n at *
  generalize zs.take 2 = fl at *
  clear hl6 hu
  go_enter Try.func19, Try.ntmps19
  go_wp2_with fail
  with_reducible refine Calls.mono (Hget.out _ _ (Hpre.out _ (up2 w _ _))) ?_
  rintro e w1 ⟨rfl, rfl⟩
  go_wp2
  exact bodyPost_ret (results_tmp_cell rfl _ _ _ _ _ _ _ rfl rfl (heap_alloc2_new w _ _) Try.underlying44 rfl info_refR) rfl ⟨_, rfl, Ints.empty (fun _ => rfl), up2 w _ _, nil_off _⟩
set_option maxHeartbeats 2000000 in
theorem refGetText_over2 (b : Value) (zs : List Int) (most : Int) (w : World) (hb : Ints .u8 w b zs) (hu : U8s zs) (h6 : 2 ≤ zs.length) (hn0 : ¬ 4096 < getB (zs.take 2)) (hn : most < getB (zs.take 2)) :
    Calls Try.prog 19 #[.agg #[b, .int .i64 0], .int .i64 most] w (RRto w b (.string ⟨#[]⟩) 5 []) := by
  have Hget : Hid (∀ (t : Value) (wx : World), Ints .u8 wx t (zs.take 2) → Calls Try.prog 30 #[t] wx fun e w' => e = .returned (.int .i64 (getB (zs.take 2))) ∧ wx = w') := Lib.hid fun t wx hi => refGet_any t _ wx hi (hu.take 2) (by rw [List.length_take]; omega)
  have Hb := Lib.hid hb
  obtain ⟨a, c, rfl, hc, _, _⟩ := hb
  have Hpre := Lib.hid (fun (wx : World) (hx : Up w wx) => (Hb.out.up hx).pre 2 h6)
  have hl6 : (zs.take 2).length = 2 := by rw [List.length_take]; omega
  have Hl6 := Lib.hid hl6
  generalize getB (zs.take 2) = n at *
  generalize zs.take 2 = fl at *
  clear hl6 hu
  go_enter Try.func19, Try.ntmps19
  go_wp2_with fail
  with_reducible refine Calls.mono (Hget.out _ _ (Hpre.out _ (up2 w _ _))) ?_
  rintro e w1 ⟨rfl, rfl⟩
  go_wp2
  exact bodyPost_ret (results_tmp_cell rfl _ _ _ _ _ _ _ rfl rfl (heap_alloc2_new w _ _) Try.underlying44 rfl info_refR) rfl ⟨_, rfl, Ints.empty (fun _ => rfl), up2 w _ _, nil_off _⟩
set_option maxHeartbeats 2000000 in
theorem refGetNum_fine (b : Value) (zs : List Int) (most : Int) (w : World) (hb : Ints .u8 w b zs) (hu : U8s zs) (h6 : 6 ≤ zs.length) (hn0 : ¬ 1099511627776 < getB (zs.take 6)) (hn : ¬ most < getB (zs.take 6)) :
    Calls Try.prog 17 #[.agg #[b, .int .i64 0], .int .i64 most] w (RRto w b (.int .i64 (getB (zs.take 6))) 0 (zs.drop 6)) := by
  have Hget : Hid (∀ (t : Value) (wx : World), Ints .u8 wx t (zs.take 6) → Calls Try.prog 30 #[t] wx fun e w' => e = .returned (.int .i64 (getB (zs.take 6))) ∧ wx = w') := Lib.hid fun t wx hi => refGet_any t _ wx hi (hu.take 6) (by rw [List.length_take]; omega)
  have Hb := Lib.hid hb
  obtain ⟨a, c, rfl, hc, _, _⟩ := hb
  have Hpre := Lib.hid (fun (wx : World) (hx : Up w wx) => (Hb.out.up hx).pre 6 h6)
  obtain ⟨a', c', hsf, hI, hB⟩ := cut_suf a zs.length c 6 h6 hc
  have hsf6 : ∀ wx : World, (Instr.sliceAt 25 (.slice a zs.length c) (some (.int .i64 6)) none none).run Try.prog wx = .ok (.slice a' (zs.length - 6) c') wx := hsf
  clear hsf
  have HI := Lib.hid (hI w zs Hb.out)
  have HO := Lib.hid (cut_off hB zs.length c (zs.length - 6) c')
  clear hI hB hu
  generalize getB (zs.take 6) = n at *
  generalize zs.take 6 = fl at *
  go_enter Try.func17, Try.ntmps17
  go_wp2_with fail
  with_reducible refine Calls.mono (Hget.out _ _ (Hpre.out _ (up2 w _ _))) ?_
  rintro e w1 ⟨rfl, rfl⟩
  go_wp2
  go_region
  all_goals
    go_wp2
    exact bodyPost_ret (results_tmp_cell rfl _ _ _ _ _ _ _ rfl rfl (show _ from heap_alloc2_new w _ _) Try.underlying44 rfl info_refR) rfl ⟨_, rfl, HI.out.up (Up.drew (up2 w _ _)), Up.drew (up2 w _ _), HO.out⟩
set_option maxHeartbeats 2000000 in
theorem refGetText_rest (b : Value) (zs : List Int) (most : Int) (w : World) (hb : Ints .u8 w b zs) (hu : U8s zs) (h6 : 2 ≤ zs.length) (hn0 : ¬ 4096 < getB (zs.take 2)) (hn : ¬ most < getB (zs.take 2)) (hs : (zs.length : Int) < 2 + getB (zs.take 2)) :
    Calls Try.prog 19 #[.agg #[b, .int .i64 0], .int .i64 most] w (RRto w b (.string ⟨#[]⟩) 8 []) := by
  have Hget : Hid (∀ (t : Value) (wx : World), Ints .u8 wx t (zs.take 2) → Calls Try.prog 30 #[t] wx fun e w' => e = .returned (.int .i64 (getB (zs.take 2))) ∧ wx = w') := Lib.hid fun t wx hi => refGet_any t _ wx hi (hu.take 2) (by rw [List.length_take]; omega)
  have hr := getB_range (zs.take 2)
  have Hb := Lib.hid hb
  obtain ⟨a, c, rfl, hc, _, _⟩ := hb
  have Hpre := Lib.hid (fun (wx : World) (hx : Up w wx) => (Hb.out.up hx).pre 2 h6)
  generalize getB (zs.take 2) = n at *
  generalize zs.take 2 = fl at *
  obtain ⟨x, rfl⟩ : ∃ x : Nat, n = x := ⟨n.toNat, by omega⟩
  clear hu hr
  go_enter Try.func19, Try.ntmps19
  go_wp2_with fail
  with_reducible refine Calls.mono (Hget.out _ _ (Hpre.out _ (up2 w _ _))) ?_
  rintro e w1 ⟨rfl, rfl⟩
  go_wp2
  exact bodyPost_ret (results_tmp_cell rfl _ _ _ _ _ _ _ rfl rfl (heap_alloc2_new w _ _) Try.underlying44 rfl info_refR) rfl ⟨_, rfl, Ints.empty (fun _ => rfl), up2 w _ _, nil_off _⟩
set_option maxHeartbeats 2000000 in
theorem refGetText_fine (b : Value) (zs : List Int) (most : Int) (w : World) (hb : Ints .u8 w b zs) (hu : U8s zs) (h6 : 2 ≤ zs.length) (hn0 : ¬ 4096 < getB (zs.take 2)) (hn : ¬ most < getB (zs.take 2)) (hs : ¬ (zs.length : Int) < 2 + getB (zs.take 2)) :
    Calls Try.prog 19 #[.agg #[b, .int .i64 0], .int .i64 most] w (RRto w b (.string (strOfNums ((zs.drop 2).take (getB (zs.take 2)).toNat))) 0 ((zs.drop 2).drop (getB (zs.take 2)).toNat)) := by
  have Hget : Hid (∀ (t : Value) (wx : World), Ints .u8 wx t (zs.take 2) → Calls Try.prog 30 #[t] wx fun e w' => e = .returned (.int .i64 (getB (zs.take 2))) ∧ wx = w') := Lib.hid fun t wx hi => refGet_any t _ wx hi (hu.take 2) (by rw [List.length_take]; omega)
  have hr := getB_range (zs.take 2)
  have Hb := Lib.hid hb
  obtain ⟨a, c, rfl, hc, _, _⟩ := hb
  have Hpre := Lib.hid (fun (wx : World) (hx : Up w wx) => (Hb.out.up hx).pre 2 h6)
  generalize getB (zs.take 2) = n at *
  generalize zs.take 2 = fl at *
  obtain ⟨x, rfl⟩ : ∃ x : Nat, n = x := ⟨n.toNat, by omega⟩
  simp only [Int.toNat_natCast, List.drop_drop]
  clear hu hr
  have hsx : 2 + x ≤ zs.length := by omega
  obtain ⟨a', c', hsf, hI, hB⟩ := cut_suf a zs.length c (2 + x) hsx hc
  have hsf6 : ∀ wx : World, (Instr.sliceAt 25 (.slice a zs.length c) (some (.int .i64 (2 + (x : Int)))) none none).run Try.prog wx = .ok (.slice a' (zs.length - (2 + x)) c') wx := fun wx => by
    have := hsf wx
    rwa [show ((2 + x : Nat) : Int) = 2 + (x : Int) from by omega] at this
  obtain ⟨a3, c3, hmid, hI3⟩ := cut_mid a zs.length c 2 x hsx hc
  have hmid6 : ∀ wx : World, (Instr.sliceAt 25 (.slice a zs.length c) (some (.int .i64 2)) (some (.int .i64 (2 + (x : Int)))) none).run Try.prog wx = .ok (.slice a3 x c3) wx := fun wx => hmid wx
  have hstr : ∀ wx : World, Up w wx → (convert 25 9 (.slice a3 x c3)).run Try.prog wx = .ok (.string (strOfNums ((zs.drop 2).take x))) wx := fun wx hx => (hI3 wx zs (Hb.out.up hx)).str
  have Hstr := Lib.hid hstr
  clear hsf hmid hI3 hstr
  have HI := Lib.hid (hI w zs Hb.out)
  have HO := Lib.hid (cut_off hB zs.length c (zs.length - (2 + x)) c')
  clear hI hB
  have hw1 : IntKind.i64.wrap (2 + (x : Int)) = 2 + (x : Int) := IntWalk.i64_in _ (by omega)
  go_enter Try.func19, Try.ntmps19
  go_wp2_with fail
  with_reducible refine Calls.mono (Hget.out _ _ (Hpre.out _ (up2 w _ _))) ?_
  rintro e w1 ⟨rfl, rfl⟩
  go_wp2
  have hs1 := Hstr.out _ (Up.drew (up2 w (.cells #[.slice a zs.length c, .int .i64 0] 44) (.cells #[.slice none 0 0, .int .i64 0] 44)))
  go_region
  all_goals
    go_wp2
    exact bodyPost_ret (results_tmp_cell rfl _ _ _ _ _ _ _ rfl rfl (show _ from heap_alloc2_new w _ _) Try.underlying44 rfl info_refR) rfl ⟨_, rfl, HI.out.up (Up.drew (up2 w _ _)), Up.drew (up2 w _ _), HO.out⟩

def RRnum (w : World) (b : Value) (r : Int × Int × List Int) : Ending → World → Prop := RRto w b (.int .i64 r.1) r.2.1 r.2.2
def RRtext (w : World) (b : Value) (r : List Int × Int × List Int) : Ending → World → Prop := RRto w b (.string (strOfNums r.1)) r.2.1 r.2.2
theorem refGetNum_any (b : Value) (E : Int) (zs : List Int) (most : Int) (w : World) (hb : Ints .u8 w b zs) (hu : U8s zs) :
    Calls Try.prog 17 #[.agg #[b, .int .i64 E], .int .i64 most] w (RRnum w b (rdNum E zs most)) := by
  unfold rdNum
  by_cases hE : E = 0
  · subst hE
    rw [if_pos rfl]
    unfold gNum
    by_cases h6 : zs.length < 6
    · rw [if_pos h6]; exact refGetNum_short b zs most w hb h6
    · rw [if_neg h6]
      by_cases h1 : 1099511627776 < getB (zs.take 6)
      · rw [if_pos (.inr h1)]; exact refGetNum_over1 b zs most w hb hu (by omega) h1
      · by_cases h2 : most < getB (zs.take 6)
        · rw [if_pos (.inl h2)]; exact refGetNum_over2 b zs most w hb hu (by omega) h1 h2
        · rw [if_neg (by omega)]; exact refGetNum_fine b zs most w hb hu (by omega) h1 h2
  · rw [if_neg hE]; exact refGetNum_bad b E zs most w hb hE
theorem refGetText_any (b : Value) (E : Int) (zs : List Int) (most : Int) (w : World) (hb : Ints .u8 w b zs) (hu : U8s zs) (hl : zs.length ≤ 140737488355328) :
    Calls Try.prog 19 #[.agg #[b, .int .i64 E], .int .i64 most] w (RRtext w b (rdText E zs most)) := by
  unfold rdText
  by_cases hE : E = 0
  · subst hE
    rw [if_pos rfl]
    unfold gText
    by_cases h6 : zs.length < 2
    · rw [if_pos h6]; exact refGetText_short b zs most w hb h6
    · rw [if_neg h6]
      by_cases h1 : 4096 < getB (zs.take 2)
      · rw [if_pos (.inr h1)]; exact refGetText_over1 b zs most w hb hu (by omega) h1
      · by_cases h2 : most < getB (zs.take 2)
        · rw [if_pos (.inl h2)]; exact refGetText_over2 b zs most w hb hu (by omega) h1 h2
        · rw [if_neg (by omega)]
          by_cases h3 : (zs.length : Int) < 2 + getB (zs.take 2)
          · rw [if_pos h3]; exact refGetText_rest b zs most w hb hu (by omega) h1 h2 h3
          · rw [if_neg h3]; exact refGetText_fine b zs most w hb hu (by omega) h1 h2 h3
  · rw [if_neg hE]; exact refGetText_bad b E zs most w hb hE
end
end Go.Proofs.Ytbdjbmgeelleiaa
