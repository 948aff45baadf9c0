import Derived.SliceStrings
import Derived.ChangeMaps5
import Derived.Test.YtpofehagmpdgeaaDoorOpen
import Derived.Test.YtpofehagmpdgeaaDoorStrs
/-
  Strings and slices of strings that came in, opened.
-/
namespace Go.Proofs.YtpofehagmpdgeaaDoor
set_option linter.unusedVariables false
open Go.ChangeShapes Go.WideShapes Go.ChangeAt Go.RowKit Go.Deep

section
variable {H : Type} {enc : TypeId × Value → H} {W : World}

/-- what the form's own reach says of one string -/
theorem reach_str {P : Program} {ts : List TypeId} {ds : List (DataW H)} {j : Nat} {t : TypeId} {s : ByteArray} (h : (DataW.weightsEach P ts ds).all (· ≤ reachBytes) = true) (ht : ts[j]? = some t) (hd : ds[j]? = some (.lit (.string s.data.toList))) : s.size ≤ 140737488351232 := by
  have h1 := sized_string h ht hd
  have h2 : s.data.toList.length = s.size := rfl
  rw [h2] at h1
  exact h1
/-- a slice of strings -/
theorem open_strs {v : Value} {d : DataW H} {ps : List MemPlace} {a : Option Addr} {len cap : Nat} (hv : v = .slice a len cap) (h : DataW.Trod enc Tryd.prog W 0 (fun _ => true) true 22 v d ps) :
    ∃ ls, Strs W v ls ∧ (∀ k : Nat, U8s (ls[k]?.getD [])) ∧ ls.length ≤ maxLen := by
  obtain ⟨fuel, hf⟩ := h
  rw [hv] at hf
  rcases open_strings Tryd.underlying22 Tryd.underlying9 (by kernel_rfl) hf with ⟨hcs, hx⟩ | ⟨x, l, c, ss, hcs, _, hl, hm, hz, hx, hcell, _⟩
  · simp [Value.cells] at hcs
    obtain ⟨rfl, rfl, rfl⟩ := hcs
    exact ⟨[], ⟨none, 0, hv, Nat.le_refl _, fun _ => rfl, .inl rfl⟩, fun k => fun j hj => by simp at hj, by simp⟩
  · simp [Value.cells] at hcs
    obtain ⟨rfl, rfl, rfl⟩ := hcs
    simp only [if_true] at hz
    have htl : ((ss.take len).map octsOf).length = len := by rw [List.length_map, List.length_take]; omega
    refine ⟨(ss.take len).map octsOf, ⟨some x, cap, by rw [htl]; exact hv, by rw [htl]; exact hl, by simp, ?_⟩, ?_, by rw [htl]; omega⟩
    · by_cases h0 : len = 0
      · subst h0; exact .inl (by simp)
      · right
        obtain ⟨b, off, spot⟩ := x
        have hc0 := hcell 0 (by omega)
        have hspot : spot = none := by simpa [Addr.add] using World.cell?_spot hc0
        subst hspot
        refine ⟨b, off, rfl, fun j hj => ?_⟩
        rw [htl] at hj
        have h1 := hcell j (by omega)
        have h2 : ((⟨b, off, none⟩ : Addr).add j) = ⟨b, off + j, none⟩ := by unfold Addr.add; split <;> simp_all
        rw [h2] at h1
        rw [h1]
        have h3 : j < ss.length := by omega
        simp [hj, h3, List.getD, strOf_octs]
    · intro k
      by_cases hk : k < len
      · have h3 : k < ss.length := by omega
        simp [hk, h3]
        exact octsOf_u8s _
      · rw [List.getElem?_eq_none (by rw [htl]; omega)]; exact fun j hj => by simp at hj
end
end Go.Proofs.YtpofehagmpdgeaaDoor
