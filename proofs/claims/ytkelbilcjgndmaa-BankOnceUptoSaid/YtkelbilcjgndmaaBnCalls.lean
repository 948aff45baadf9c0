import Derived.Test.YtkelbilcjgndmaaBnSame
/-
  bank: Genesis, Apply, Next, Total.
-/
namespace Go.Proofs.Ytkelbilcjgndmaa
set_option maxRecDepth 100000
section
set_option linter.unusedVariables false
open Go.RowKit Go.Sort Go.Lib

/-- the accounts of the beginning, so many of them written -/
def genL (i : Nat) : List Ac := (List.range 4).map fun j => if j < i then (250, 0) else (0, 0)
theorem genL_step : ∀ i, i < 4 → (genL i)[i]? = some (0, 0) ∧ (genL i).set i (250, 0) = genL (i + 1) := by decide
theorem genL_four : genL 4 = acG := by decide
set_option maxHeartbeats 400000 in
theorem bnGen_any (w : World) : Calls Try.prog 19 #[] w fun e w' => e = .returned (.slice (some ⟨w.heap.size, 0, none⟩) 4 4) ∧ AcRow w' w.heap.size acG ∧ Up w w' := by
  have hmk : (Instr.makeSlice 22 (.int .i64 4) (.int .i64 4)).run Try.prog w = .ok (.slice (some ⟨w.heap.size, 0, none⟩) 4 4) (w.alloc (.cells (madeCells (acA (0, 0)) 8) 49)) := make_ac 4 (by omega) w
  have HU := Lib.hid (Up.alloc (Up.refl w) (.cells (madeCells (acA (0, 0)) 8) 49))
  have HR : Hid (AcRow (w.alloc (.cells (madeCells (acA (0, 0)) 8) 49)) w.heap.size (genL 0)) := Lib.hid ⟨_, heap_alloc_new w _, by
    have : ∀ i < 4, (genL 0)[i]? = some (0, 0) := by decide
    intro i x hx
    have hi : i < 4 := by have := (List.getElem?_eq_some_iff.1 hx).1; simpa [genL] using this
    rw [this i hi] at hx
    cases hx
    match i, hi with
    | 0, _ => exact ⟨by simp [madeCells, acA], by simp [madeCells, acA]⟩
    | 1, _ => exact ⟨by simp [madeCells, acA], by simp [madeCells, acA]⟩
    | 2, _ => exact ⟨by simp [madeCells, acA], by simp [madeCells, acA]⟩
    | 3, _ => exact ⟨by simp [madeCells, acA], by simp [madeCells, acA]⟩⟩
  generalize w.alloc (.cells (madeCells (acA (0, 0)) 8) 49) = w1 at hmk HU HR
  go_enter Try.func19, Try.ntmps19
  go_wp2
  go_loopw [6] (fun vi wr => ∃ i : Nat, vi = .int .i64 (i : Nat) ∧ i ≤ 4 ∧ Hid (AcRow wr w.heap.size (genL i)) ∧ Hid (Up w wr)) (fun vi _ => 4 - (intOf vi).toNat)
  case atStart => exact ⟨0, rfl, Nat.zero_le _, HR, HU⟩
  case round =>
    obtain ⟨i, rfl, hi, HR, HU⟩ := hrel
    by_cases hlt : i < 4
    · have hz : (i : Int) < 4 := by omega
      obtain ⟨o0, o1⟩ := HR.out.cell (genL_step i hlt).1
      have ofr := HR.out.free (i * 2)
      have hset := (HR.out.set (genL_step i hlt).1 250).1
      rw [(genL_step i hlt).2] at hset
      have hU2 := up_at HU.out (show wr.grownBy (wr.setCell ⟨w.heap.size, i * 2, none⟩ (.int .i64 250)) (some w.heap.size) from grownBy_setCell wr ⟨w.heap.size, i * 2, none⟩ _) (Nat.le_refl _)
      have HS := Lib.hid hset
      have HU2 := Lib.hid hU2
      clear hset hU2 HR HU
      go_wp2
      go_roundw
      case rel => exact ⟨i + 1, by go_num, hlt, HS, HU2⟩
      case measure => simp [intOf]; omega
    · obtain rfl : i = 4 := by omega
      go_wp2
      go_ret
      exact ⟨rfl, by have := HR.out; rwa [genL_four] at this, HU.out⟩
/-- all balances together, as an int holds it -/
def acSum (xs : List Ac) : Int := xs.foldl (fun s x => wrap64 (s + x.1)) 0
theorem acSum_snoc (xs : List Ac) (x : Ac) : acSum (xs ++ [x]) = wrap64 (acSum xs + x.1) := by unfold acSum; rw [List.foldl_append]; rfl
theorem take_oneA (xs : List Ac) (i : Nat) (x : Ac) (h : xs[i]? = some x) : xs.take (i + 1) = xs.take i ++ [x] := by
  rw [List.take_add_one, h]; rfl
set_option maxHeartbeats 400000 in
theorem bnTotal_any (v : Value) (xs : List Ac) (w : World) (ha : AArg w v xs) (hb : xs.length ≤ 8796093022208) :
    Calls Try.prog 15 #[v] w fun e w' => e = .returned (.int .i64 (acSum xs)) ∧ Up w w' := by
  obtain ⟨a, cap, rfl, _⟩ := id ha
  obtain ⟨n, hn⟩ : ∃ n, xs.length = n := ⟨_, rfl⟩
  rw [hn] at ha hb ⊢
  have HA := Lib.hid ha
  have HN := Lib.hid hn
  have HU0 := Lib.hid (Up.refl w)
  clear ha hn
  go_enter Try.func15, Try.ntmps15
  go_wp2
  go_loopw [3, 8] (fun vs vi wr => ∃ (i : Nat) (s : Int), vs = .int .i64 s ∧ vi = .int .i64 (i : Nat) ∧ i ≤ n ∧ Hid (s = acSum (xs.take i)) ∧ Hid (Up w wr)) (fun _ vi _ => n - (intOf vi).toNat)
  case atStart => exact ⟨0, 0, rfl, rfl, Nat.zero_le _, Lib.hid rfl, HU0⟩
  case round =>
    obtain ⟨i, s, rfl, rfl, hi, HS, HU⟩ := hrel
    by_cases hlt : i < n
    · have hz : (i : Int) < (n : Int) := by omega
      obtain ⟨x, hx⟩ : ∃ x, xs[i]? = some x := ⟨xs[i]'(by have := HN.out; omega), List.getElem?_eq_getElem _⟩
      obtain ⟨b, off, rfl⟩ := HA.out.ptr (by have := HN.out; omega)
      have Hl := Lib.hid ((HA.out.up HU.out).load hx)
      have HS2 : Hid (wrap64 (s + x.1) = acSum (xs.take (i + 1))) := Lib.hid (by rw [take_oneA xs i x hx, acSum_snoc, HS.out])
      have HU2 := Lib.hid (Up.alloc HU.out (.cells (acA x) 49))
      have c0 := tx_cell (heap_alloc_new wr (.cells (acA x) 49)) 0 (show (acA x)[0]? = some (.int .i64 x.1) from rfl)
      go_wp2_with (first | (refine wpList_ex rfl (.agg (acA x)) wr (ex_lda (x := .tmp 10) rfl rfl Hl.out) ?_) | (refine wpList_exs rfl _ (ex_fillA (x := .tmp 5) (y := .tmp 11) (W := wr) rfl rfl rfl rfl) ?_))
      go_roundw
      case rel => exact ⟨i + 1, _, rfl, by go_num, hlt, HS2, HU2⟩
      case measure => simp [intOf]; omega
    · obtain rfl : i = n := by omega
      have hs : s = acSum xs := by have := HS.out; rwa [List.take_of_length_le (by rw [HN.out]; exact Nat.le_refl _)] at this
      subst hs
      go_wp2
      go_ret
      exact ⟨rfl, HU.out⟩

set_option maxHeartbeats 400000 in
theorem bnApply_any (v : Value) (ac : List Ac) (x : Ts) (w : World) (ha : AArg w v ac) (hn : ac.length ≤ 8796093022208) :
    Calls Try.prog 7 #[v, .agg (tsA x)] w fun e w' => ∃ g, e = .returned (.tuple #[.slice (some ⟨g, 0, none⟩) ac.length ac.length, .int .i64 (acApply ac x).2]) ∧ AcRow w' g (acApply ac x).1 ∧ w.heap.size ≤ g ∧ Up w w' := by
  have hu1 := Up.alloc (Up.refl w) (.cells (tsA x) 24)
  have HB := Lib.hid (heap_alloc_new w (.cells (tsA x) 24))
  have HC := Lib.hid (bnCopied_any v ac _ (ha.up hu1) hn)
  have HU1 := Lib.hid hu1
  have HD : Hid (∀ g wx, AcRow wx g ac → Calls Try.prog 17 #[.slice (some ⟨g, 0, none⟩) ac.length ac.length, .agg (tsA x)] wx fun e w' => e = .returned (.int .i64 (acApply ac x).2) ∧ AcRow w' g (acApply ac x).1 ∧ But g wx w') := Lib.hid fun g wx h => bnDo_any g ac.length ac.length ac x wx h rfl
  have hsz : (Try.prog.info? 24).map (·.size) = some (tsA x).size := info_tx
  obtain ⟨a, cap, rfl, _⟩ := id ha
  obtain ⟨e, he⟩ : ∃ e, (acApply ac x).2 = e := ⟨_, rfl⟩
  generalize (acApply ac x).1 = L at HD ⊢
  rw [he] at HD ⊢
  generalize tsA x = cs at *
  generalize ac.length = n at *
  clear ha hu1 he
  go_enter Try.func7, Try.ntmps7
  go_wp2_with fail
  with_reducible refine Calls.mono HC.out ?_
  rintro e2 w2 ⟨g, rfl, hR, hg, hU2⟩
  have HB2 := Lib.hid ((hU2.block _ (lt_of_block HB.out)).trans HB.out)
  have HU2 := Lib.hid (HU1.out.trans hU2)
  have HR2 := Lib.hid hR
  have HG : Hid (w.heap.size ≤ g) := Lib.hid (Nat.le_trans HU1.out.size hg)
  clear hR hg hU2 HC HB HU1
  go_wp2_with (refine wpList_ex rfl (.agg cs) _ (ex_loadrow (x := .tmp 3) rfl rfl _ 24 HB2.out Try.underlying24 rfl hsz) ?_)
  with_reducible refine Calls.mono (HD.out g w2 HR2.out) ?_
  rintro e3 w3 ⟨rfl, hR3, hK3⟩
  have HR3 := Lib.hid hR3
  have HU3 := Lib.hid (up_kept HU2.out hK3 HG.out)
  clear hR3 hK3
  go_wp2
  refine bodyPost_ret (results_tmp2 rfl _ _ _) rfl ⟨g, rfl, HR3.out, HG.out, HU3.out⟩

theorem ex_fillX {o : Oper} {x y : Operand} {ρ : Operand → Value} {W : World} {c0 : Array Value} {u : Ts} (hop : o.op = .store 24 x y) (hx : ρ x = .pointer (some ⟨W.heap.size, 0, none⟩)) (hy : ρ y = .agg (tsA u)) (h0 : c0.size = 5) :
    (execOp ρ o).run Try.prog (W.alloc (.cells c0 24)) = .ok .skip (W.alloc (.cells (tsA u) 24)) := by
  have h1 := ex_storerow (P := Try.prog) (g := W.heap.size) (c0 := c0) (c1 := tsA u) hop hx hy (W.alloc (.cells c0 24)) 24 (heap_alloc_new W _) info_tx h0 (tsA_one u)
  rwa [alloc_setRow] at h1
theorem fine_iff {e : Int} : fineE e = true ↔ e ≠ 9 ∧ e ≠ 72 := by unfold fineE; simp
set_option maxHeartbeats 400000 in
theorem bnNext_any (v vt : Value) (ac : List Ac) (xs : List Ts) (w : World) (ha : AArg w v ac) (hn : ac.length ≤ 8796093022208) (ht : TArg w vt xs) (hb : xs.length < 4611686018427387904) :
    Calls Try.prog 13 #[v, vt] w fun e w' => e = .returned (.bool (nextP ac xs)) ∧ Up w w' := by
  obtain ⟨a, cap, rfl, _⟩ := id ha
  obtain ⟨at_, capt, rfl, _⟩ := id ht
  obtain ⟨RES, hres⟩ : ∃ R, nextP ac xs = R := ⟨_, rfl⟩
  have HRES := Lib.hid hres
  rw [hres]
  obtain ⟨n, hnl⟩ : ∃ n, ac.length = n := ⟨_, rfl⟩
  obtain ⟨m, hml⟩ : ∃ m, xs.length = m := ⟨_, rfl⟩
  rw [hml] at hb ht ⊢
  have HC := Lib.hid (bnCopied_any _ ac w ha hn)
  rw [hnl] at ha hn HC ⊢
  have HT := Lib.hid ht
  have HM := Lib.hid hml
  have HN := Lib.hid hnl
  clear ha ht hml hnl hres
  go_enter Try.func13, Try.ntmps13
  go_wp2_with fail
  with_reducible refine Calls.mono HC.out ?_
  rintro e1 w1 ⟨g, rfl, hR, hg, hU⟩
  have HG := Lib.hid hg
  have HR1 := Lib.hid hR
  have HU1 := Lib.hid hU
  clear hR hg hU HC
  go_wp2
  go_loopw [13] (fun vi wr => ∃ i : Nat, vi = .int .i64 (i : Nat) ∧ i ≤ m ∧ Hid (AcRow wr g (foldA ac (xs.take i))) ∧ Hid (nextP ac (xs.take i) = true) ∧ Hid (Up w wr)) (fun vi _ => m - (intOf vi).toNat)
  case atStart => exact ⟨0, rfl, Nat.zero_le _, HR1, Lib.hid rfl, HU1⟩
  case round =>
    obtain ⟨i, rfl, hi, HR, HX, HU⟩ := hrel
    by_cases hlt : i < m
    · have hz : (i : Int) < (m : Int) := by omega
      obtain ⟨x, hx⟩ : ∃ x, xs[i]? = some x := ⟨xs[i]'(by have := HM.out; omega), List.getElem?_eq_getElem _⟩
      obtain ⟨b, off, rfl⟩ := HT.out.ptr (by have := HM.out; omega)
      have Hl := Lib.hid ((HT.out.up HU.out).load hx)
      have HTk := Lib.hid (take_oneB xs i x hx)
      have HUA := Lib.hid (Up.alloc HU.out (.cells (tsA x) 24))
      have HB := Lib.hid (heap_alloc_new wr (.cells (tsA x) 24))
      have HD := Lib.hid (bnDo_any g n n (foldA ac (xs.take i)) x (wr.alloc (.cells (tsA x) 24)) (HR.out.up (Up.alloc (Up.refl wr) _)) (by rw [foldA_length, HN.out]))
      have HL2 : Hid (foldA ac (xs.take (i + 1)) = (acApply (foldA ac (xs.take i)) x).1) := Lib.hid (by rw [HTk.out, foldA_snoc])
      have HX2 : Hid (nextP ac (xs.take (i + 1)) = fineE (acApply (foldA ac (xs.take i)) x).2) := Lib.hid (by rw [HTk.out, nextP_snoc, HX.out, Bool.true_and])
      obtain ⟨E, hE⟩ : ∃ E, (acApply (foldA ac (xs.take i)) x).2 = E := ⟨_, rfl⟩
      rw [hE] at HX2 HD
      rw [← HL2.out] at HD
      clear hx HTk HL2 HR HU hE
      go_wp2_with (first | (refine wpList_ex rfl (.agg (tsA x)) wr (ex_ldt (x := .tmp 15) rfl rfl Hl.out) ?_) | (refine wpList_exs rfl _ (ex_fillX (x := .tmp 7) (y := .tmp 16) (W := wr) rfl rfl rfl rfl) ?_) | (refine wpList_ex rfl (.agg (tsA x)) _ (ex_loadrow (x := .tmp 7) rfl rfl _ 24 HB.out Try.underlying24 rfl info_tx) ?_))
      with_reducible refine Calls.mono HD.out ?_
      rintro e2 w2 ⟨rfl, hR2, hK2⟩
      have HR2 := Lib.hid hR2
      have HU2 := Lib.hid (up_kept HUA.out hK2 HG.out)
      clear hR2 hK2 HD HB HUA Hl
      by_cases h9 : E = 9 ∨ E = 72
      · have hres : RES = false := by
          rw [← HRES.out]
          refine nextP_take ac xs (i + 1) ?_
          rw [HX2.out]
          rcases h9 with rfl | rfl <;> rfl
        subst hres
        by_cases h99 : E = 9
        · subst h99
          go_wp2
          go_ret
          exact ⟨rfl, HU2.out⟩
        · have h72 : E = 72 := by omega
          subst h72
          go_wp2
          go_ret
          exact ⟨rfl, HU2.out⟩
      · have HX3 : Hid (nextP ac (xs.take (i + 1)) = true) := Lib.hid (by rw [HX2.out, fine_iff]; omega)
        have e9 : (E == 9) = false := by rw [beq_eq_false_iff_ne]; omega
        have e72 : (E == 72) = false := by rw [beq_eq_false_iff_ne]; omega
        go_wp2
        go_roundw
        case rel => exact ⟨i + 1, by go_num, hlt, HR2, HX3, HU2⟩
        case measure => simp [intOf]; omega
    · obtain rfl : i = m := by omega
      have hres : RES = true := by
        rw [← HRES.out, ← HX.out, List.take_of_length_le (by rw [HM.out]; exact Nat.le_refl _)]
      subst hres
      go_wp2
      go_ret
      exact ⟨rfl, HU.out⟩
end
end Go.Proofs.Ytkelbilcjgndmaa
