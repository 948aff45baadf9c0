import Derived.Test.YtenhjjbbmmomaaaRefSha
import Derived.Test.YtenhjjbbmmomaaaSha
/-
  The reference: short.
-/
namespace Go.Proofs.Ytenhjjbbmmomaaa
set_option linter.unusedVariables false
open Go.RowKit

theorem cells_new (w : World) (us : List Value) (c : Array Value) (hc : c.toList = us) (t : TypeId) : ∀ j u, us[j]? = some u → (w.alloc (.cells c t)).cell? ((⟨w.heap.size, 0, none⟩ : Addr).add j) = some u := by
  intro j u hj
  have h2 : ((⟨w.heap.size, 0, none⟩ : Addr).add j) = ⟨w.heap.size, j, none⟩ := by unfold Addr.add; split <;> simp_all
  rw [h2, cell_of_row _ _ j _ t (0, 0) (heap_alloc_new w _), ← Array.getElem?_toList, hc]
  exact hj

set_option maxHeartbeats 1000000 in
theorem refShort_any (v : Value) (bs : List Int) (w : World) (hv : Ints .u8 w v bs) (hu : U8s bs) (hl : bs.length ≤ 140737488355200) :
    Calls Try.prog 13 #[v] w fun e w' => e = .returned (.string (strOfNums (shortB bs))) ∧ Up w w' := by
  have Hs := Lib.hid (refSha_any v bs w hv hu hl)
  have hsz : (strOfNums (sumB bs)).size = 32 := by rw [strOfNums_size, sumB_length]
  have hext : (strOfNums (sumB bs)).extract 0 8 = strOfNums (shortB bs) := strOfNums_take _ 8
  obtain ⟨a, cap, rfl, _, _, _⟩ := hv
  clear hu hl
  generalize strOfNums (shortB bs) = R at hext ⊢
  go_enter Try.func13, Try.ntmps13
  go_wp2_with fail
  with_reducible refine Calls.mono Hs.out ?_
  rintro e w1 ⟨r1, rfl, hr1, hU1⟩
  have hcv := (Ints.of_row hr1).str
  clear hr1 Hs
  generalize strOfNums (sumB bs) = Z at hsz hext hcv
  go_wp2
  go_ret
  exact ⟨rfl, hU1⟩

end Go.Proofs.Ytenhjjbbmmomaaa
