import Derived.Test.YtacamknljicjmaaMsRead
/-
  The page's example.
-/
namespace Go.Proofs.Ytacamknljicjmaa
set_option maxRecDepth 100000
section
set_option linter.unusedVariables false
open Go.RowKit Go.Sort Go.Lib

theorem made_u8m (k : Nat) (hk : k ≤ 281474976710656) (u : World) : (Instr.makeSlice 34 (.int .i64 k) (.int .i64 k)).run Try.prog u =
      .ok (.slice (some ⟨u.heap.size, 0, none⟩) k k) (u.alloc (.cells (((List.replicate k (0 : Int)).map (Value.int .u8)).toArray) 5)) := by
  obtain ⟨i0, hi, hz0, hz1, hz2⟩ := info_parts info_u8
  have h := run_make (P := Try.prog) (w := u) 34 5 i0 (.int .u8 0) Try.underlying34 hi hz0 .i64 .i64 (k : Int) (k : Int) (by omega) (by omega) (by rw [hz2]; omega) (by omega)
  rw [h, hz1]
  simp only [Int.toNat_natCast, Nat.mul_one]
  congr 3
  apply Array.ext_getElem?
  intro j
  simp [madeCells, Value.cells, Array.getElem?_map]
  by_cases hj : j < k <;> simp [hj, Nat.mod_one]
def msG : ByteArray := strOfNums gen32
theorem msGenesis_any (w : World) : Calls Try.prog 9 #[] w fun e w' => e = .returned (.string msG) ∧ Up w w' := by
  obtain ⟨ws, hm, hI, hu⟩ : ∃ ws, (Instr.makeSlice 34 (.int .i64 32) (.int .i64 32)).run Try.prog w = .ok (.slice (some ⟨w.heap.size, 0, none⟩) 32 32) ws ∧ Ints .u8 ws (.slice (some ⟨w.heap.size, 0, none⟩) 32 32) gen32 ∧ Up w ws := by
    refine ⟨_, made_u8m 32 (by decide) w, ?_, Up.alloc (Up.refl _) _⟩
    refine ⟨_, 32, rfl, by decide, (fun h => by cases h), .inr ⟨w.heap.size, 0, rfl, fun j hj => ?_⟩⟩
    have hj' : j < 32 := by simpa [gen32] using hj
    have h0 : gen32[j]? = some 0 := by unfold gen32; rw [List.getElem?_replicate, if_pos hj']
    rw [Nat.zero_add, cell_of_row _ _ j _ _ _ (heap_alloc_new w _)]
    change _ = some (Value.int .u8 (gen32[j]?.getD 0))
    have e : ((List.replicate 32 (0 : Int)).map (Value.int .u8)).toArray[j]? = some (.int .u8 0) := by rw [List.getElem?_toArray, List.getElem?_map, List.getElem?_replicate, if_pos hj']; rfl
    rw [h0, e]; rfl
  have hc := hI.str
  change _ = Result.ok (Value.string msG) _ at hc
  have HU := Lib.hid hu
  clear hI hu
  generalize msG = G at *
  go_enter Try.func9, Try.ntmps9
  go_wp2
  go_ret
  exact ⟨rfl, HU.out⟩
theorem msG_size : msG.size = 32 := by unfold msG; rw [strOfNums_size]; rfl
def mG : Mm := { zM 5 with a := msG }
theorem mG_ok : MOk mG := { zM_ok (K := 5) ⟨by omega, by omega⟩ with a := (by show msG.size ≤ _; rw [msG_size]; decide) }
theorem mG_may : MayM mG := ⟨.inr (.inr (.inr (.inr (.inl ⟨rfl, msG_size⟩)))), by unfold borneM mG; rfl⟩
theorem mG_put : putE mG = 0 ∧ (putB mG).length = 40 := by
  have e1 : numS (0, []) 5 = (0, octAll 5 6) := by rw [numS_ok [] 5 ⟨by omega, by omega⟩ (by simp)]; rfl
  have e2 : putQ mG = (0, octAll 5 6 ++ (octAll (octsOf msG).length 2 ++ octsOf msG)) := by
    show textS (numS (0, []) 5) (octsOf msG) = _
    rw [e1, textS_ok _ _ (by rw [octsOf_length, msG_size]; decide) (by rw [octAll_length]; decide)]
  have hl : (octAll 5 6 ++ (octAll (octsOf msG).length 2 ++ octsOf msG)).length = 40 := by
    rw [List.length_append, List.length_append, octAll_length, octAll_length, octsOf_length, msG_size]
  unfold putE putB
  rw [if_pos mG_may, if_pos mG_may, e2]
  unfold doneE doneB
  rw [if_neg (fun k => k rfl), if_neg (by rw [hl]; decide), if_neg (by rw [hl]; decide)]
  exact ⟨rfl, hl⟩
theorem build_msG (G : ByteArray) (w : World) : (Instr.build 33 #[(0, .int .i64 5), (5, .string G)]).run Try.prog w = .ok (.agg (msA { zM 5 with a := G } zP)) w := by
  simp [msA, msLs, bkLs, vsC, ctLs, tsC, zM, zV, zC, zB, zT, zP, zL, strOfNums, go_sem]
theorem ex_build2 {P : Program} {o : Oper} {ρ : Operand → Value} {v : Value} {x0 x1 : Operand} {t : TypeId} {i j : Nat} {v0 v1 : Value} (w w' : World) (hr : (Instr.build t #[(i, v0), (j, v1)]).run P w = .ok v w') (hop : o.op = .build t #[(i, x0), (j, x1)]) (h0 : ρ x0 = v0) (h1 : ρ x1 = v1) : (execOp ρ o).run P w = .ok (.value v) w' :=
  ex_build hop (by simp only [List.map_toArray, List.map_cons, List.map_nil, h0, h1]) w w' hr
set_option maxHeartbeats 1000000 in
theorem msAlive_any (w : World) : Calls Try.prog 5 #[] w fun e w' => e = .returned (.bool true) ∧ Up w w' := by
  have HG := Lib.hid (fun wx => msGenesis_any wx)
  have HP : Hid (∀ wx, Calls Try.prog 6 #[.agg (msA mG zP)] wx fun e w' => ∃ r, e = .returned (.tuple #[r, .int .i64 0]) ∧ (∃ bs, bs.length = 40 ∧ Ints .u8 w' r bs) ∧ Up wx w') := fun wx => (msPut_any mG zP wx ⟨varg_none _, targ_none _, varg_none _, varg_none _⟩ mG_ok).mono fun e w' ⟨r, h1, h2, h3⟩ => ⟨r, by rw [h1, mG_put.1], ⟨_, mG_put.2, h2⟩, h3⟩
  have HB : Hid (∀ w : World, (Instr.build 33 #[(0, .int .i64 5), (5, .string msG)]).run Try.prog w = .ok (.agg (msA mG zP)) w) := build_msG msG
  generalize msA mG zP = cs at *
  generalize msG = G at *
  go_enter Try.func5, Try.ntmps5
  go_wp2_with fail
  with_reducible refine Calls.mono (HG.out _) ?_
  rintro e w1 ⟨rfl, u1⟩
  have HU1 := Lib.hid u1
  clear u1
  go_wp2_with (refine wpList_ex rfl (.agg cs) _ (ex_build2 _ _ (HB.out _) rfl rfl rfl) ?_; refine Stp.h ?_)
  refine Stp.mk ?_
  go_wp2_with fail
  with_reducible refine Calls.mono (HP.out _) ?_
  rintro e w2 ⟨r, rfl, ⟨bs, hbs, hI⟩, u2⟩
  have HU2 := Lib.hid (Up.trans HU1.out u2)
  obtain ⟨a, c, rfl, _, _, _⟩ := hI
  rw [hbs]
  clear u2
  go_wp2
  go_ret
  exact ⟨rfl, HU2.out⟩
end
end Go.Proofs.Ytacamknljicjmaa
