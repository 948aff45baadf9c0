import Derived.SliceStrings
import Derived.ChangeMaps5
import Derived.Test.YtbdjbmgeelleiaaDoorOpen
import Derived.Test.YtbdjbmgeelleiaaDoorStrs
import Derived.Test.YtbdjbmgeelleiaaDoorBulk
namespace Go.Proofs.YtbdjbmgeelleiaaDoor
/-
  Strings and slices of strings that came in, opened.
-/
section
set_option linter.unusedVariables false
open Go.ChangeShapes Go.WideShapes Go.ChangeAt Go.RowKit Go.Deep

section
variable {H : Type} {enc : TypeId × Value → H} {W : World}

/-- what the form's own reach says of one string -/
theorem reach_str {P : Program} {ts : List TypeId} {ds : List (DataW H)} {j : Nat} {t : TypeId} {s : ByteArray} (h : (DataW.weightsEach P ts ds).all (· ≤ reachBytes) = true) (ht : ts[j]? = some t) (hd : ds[j]? = some (.lit (.string s.data.toList))) : s.size ≤ 140737488351232 := by
  have h1 := sized_string h ht hd
  have h2 : s.data.toList.length = s.size := rfl
  rw [h2] at h1
  exact h1
/-- a slice of strings -/
theorem open_strs {v : Value} {d : DataW H} {ps : List MemPlace} {a : Option Addr} {len cap : Nat} (hv : v = .slice a len cap) (h : DataW.Trod enc Tryd.prog W 0 (fun _ => true) true 22 v d ps) :
    ∃ ls, Strs W v ls ∧ (∀ k : Nat, U8s (ls[k]?.getD [])) ∧ ls.length ≤ maxLen := by
  obtain ⟨fuel, hf⟩ := h
  rw [hv] at hf
  rcases open_strings Tryd.underlying22 Tryd.underlying9 (by kernel_rfl) hf with ⟨hcs, hx⟩ | ⟨x, l, c, ss, hcs, _, hl, hm, hz, hx, hcell, _⟩
  · simp [Value.cells] at hcs
    obtain ⟨rfl, rfl, rfl⟩ := hcs
    exact ⟨[], ⟨none, 0, hv, Nat.le_refl _, fun _ => rfl, .inl rfl⟩, fun k => fun j hj => by simp at hj, by simp⟩
  · simp [Value.cells] at hcs
    obtain ⟨rfl, rfl, rfl⟩ := hcs
    simp only [if_true] at hz
    have htl : ((ss.take len).map octsOf).length = len := by rw [List.length_map, List.length_take]; omega
    refine ⟨(ss.take len).map octsOf, ⟨some x, cap, by rw [htl]; exact hv, by rw [htl]; exact hl, by simp, ?_⟩, ?_, by rw [htl]; omega⟩
    · by_cases h0 : len = 0
      · subst h0; exact .inl (by simp)
      · right
        obtain ⟨b, off, spot⟩ := x
        have hc0 := hcell 0 (by omega)
        have hspot : spot = none := by simpa [Addr.add] using World.cell?_spot hc0
        subst hspot
        refine ⟨b, off, rfl, fun j hj => ?_⟩
        rw [htl] at hj
        have h1 := hcell j (by omega)
        have h2 : ((⟨b, off, none⟩ : Addr).add j) = ⟨b, off + j, none⟩ := by unfold Addr.add; split <;> simp_all
        rw [h2] at h1
        rw [h1]
        have h3 : j < ss.length := by omega
        simp [hj, h3, List.getD, strOf_octs]
    · intro k
      by_cases hk : k < len
      · have h3 : k < ss.length := by omega
        simp [hk, h3]
        exact octsOf_u8s _
      · rw [List.getElem?_eq_none (by rw [htl]; omega)]; exact fun j hj => by simp at hj
end
end

/-
  A slice of strings that came in: how long each string can be; how many letters they have together.
-/
section
set_option linter.unusedVariables false
open Go.ChangeShapes Go.WideShapes Go.ChangeAt Go.RowKit Go.Deep

theorem addr_add (b off j : Nat) : ((⟨b, off, none⟩ : Addr).add j) = ⟨b, off + j, none⟩ := by unfold Addr.add; split <;> simp_all

section
variable {H : Type} {enc : TypeId × Value → H} {W : World}

/-- d is the reading of a slice of strings that reads as ls -/
def StrsD (d : DataW H) (ls : List (List Int)) : Prop := (d = .nil ∧ ls = []) ∨ ∃ ss spare, ls = ss.map octsOf ∧ d = .slice (strs ss) spare

theorem open_strsD {v : Value} {d : DataW H} {ps : List MemPlace} {a : Option Addr} {len cap : Nat} (hv : v = .slice a len cap) (h : DataW.Trod enc Tryd.prog W 0 (fun _ => true) true 22 v d ps) :
    ∃ ls, Strs W v ls ∧ (∀ k : Nat, U8s (ls[k]?.getD [])) ∧ ls.length ≤ maxLen ∧ StrsD d ls := by
  have hk := h
  obtain ⟨ls, h1, h2, h3⟩ := open_strs hv h
  obtain ⟨fuel, hf⟩ := hk
  rw [hv] at hf
  rcases open_strings Tryd.underlying22 Tryd.underlying9 (by kernel_rfl) hf with ⟨hcs, hx⟩ | ⟨x, l, c, ss, hcs, _, hl, hm, hz, hx, hcell, _⟩
  · simp [Value.cells] at hcs
    obtain ⟨rfl, rfl, rfl⟩ := hcs
    simp only [Prod.mk.injEq] at hx
    refine ⟨ls, h1, h2, h3, .inl ⟨hx.1, ?_⟩⟩
    obtain ⟨a', c', e, _⟩ := h1
    rw [hv] at e
    simp only [Value.slice.injEq] at e
    exact List.eq_nil_of_length_eq_zero e.2.1.symm
  · simp [Value.cells] at hcs
    obtain ⟨rfl, rfl, rfl⟩ := hcs
    simp only [if_true] at hz
    simp only [Prod.mk.injEq] at hx
    have hll : ls.length = len := by
      obtain ⟨a', c', e, _⟩ := h1
      rw [hv] at e
      simp only [Value.slice.injEq] at e
      exact e.2.1.symm
    refine ⟨ls, h1, h2, h3, .inr ⟨ss.take len, _, ?_, hx.1⟩⟩
    apply List.ext_getElem (by simp; omega)
    intro j h4 h5
    obtain ⟨a', c', e, _, _, hc⟩ := h1
    rw [hv] at e
    simp only [Value.slice.injEq] at e
    obtain ⟨rfl, _, rfl⟩ := e
    rcases hc with rfl | ⟨b, off, e2, hc⟩
    · simp at h4
    · have hj := hc j h4
      have h6 := hcell j (by omega)
      simp only [Option.some.injEq] at e2
      subst e2
      have h7 := addr_add b off j
      rw [h7, hj] at h6
      simp only [Option.some.injEq, Value.string.injEq] at h6
      have h8 : j < ss.length := by omega
      have h9 : strOfNums ls[j] = ss[j] := by simpa [h4, h8, List.getD] using h6
      simp only [List.getElem_map, List.getElem_take]
      have hu := h2 j
      simp only [List.getElem?_eq_getElem h4, Option.getD_some] at hu
      exact strOf_inj _ _ hu (octsOf_u8s _) (by rw [h9, strOf_octs])

theorem weights_all {P : Program} {e : TypeId} {d : DataW H} {n : Nat} : ∀ {ds : List (DataW H)}, d ∈ ds → n ∈ d.weights P e → n ∈ DataW.weightsAll P e ds
  | x :: r, h, hn => by
    simp only [DataW.weightsAll, List.mem_append]
    rcases List.mem_cons.1 h with rfl | h
    · exact .inl hn
    · exact .inr (weights_all h hn)
/-- what the form's own reach says of each string of a slice -/
theorem reach_strs {ts : List TypeId} {ds : List (DataW H)} {j : Nat} {ls : List (List Int)} {d : DataW H} (hD : StrsD d ls)
    (h : (DataW.weightsEach Tryd.prog ts ds).all (· ≤ reachBytes) = true) (ht : ts[j]? = some 22) (hd : ds[j]? = some d) : ls.length ≤ 8796093022208 ∧ ∀ k : Nat, (ls[k]?.getD []).length ≤ 140737488351232 := by
  rcases hD with ⟨_, rfl⟩ | ⟨ss, spare, rfl, rfl⟩
  · exact ⟨Nat.zero_le _, fun k => Nat.zero_le _⟩
  · constructor
    · have h1 := sized_slice h ht hd Tryd.underlying22
      have hb : Tryd.prog.bytesOf 9 = 16 := by kernel_rfl
      rw [hb] at h1
      simp only [strs, List.length_map, reachBytes] at h1 ⊢
      omega
    · intro k
      by_cases hk : k < ss.length
      · have h1 := List.all_eq_true.1 h _ (DataW.weights_mem_each ht hd (ss[k]).data.toList.length (by
          simp only [DataW.weights, Tryd.underlying22, List.mem_cons, List.mem_append]
          refine .inr (.inl (weights_all (d := .lit (.string (ss[k]).data.toList)) ?_ (by simp [DataW.weights])))
          unfold strs
          exact List.mem_map.2 ⟨ss[k], List.getElem_mem hk, rfl⟩))
        have h2 : (ss[k]).data.toList.length ≤ reachBytes := by simpa using h1
        simp only [List.getElem?_map, List.getElem?_eq_getElem hk, Option.map_some, Option.getD_some, octsOf_length]
        exact h2
      · rw [List.getElem?_eq_none (by simp; omega)]; simp
theorem fits_of {ls : List (List Int)} (h1 : ∀ k : Nat, U8s (ls[k]?.getD [])) (h2 : ∀ k : Nat, (ls[k]?.getD []).length ≤ 140737488351232) : ∀ k : Nat, U8s (ls[k]?.getD []) ∧ (ls[k]?.getD []).length ≤ 140737488351232 := fun k => ⟨h1 k, h2 k⟩
/-- how many letters there are -/
theorem bulk_strs {ls : List (List Int)} {d : DataW H} (hD : StrsD d ls) : ls.length + ls.flatten.length + 1 ≤ Rows.uptoBulk d := by
  rcases hD with ⟨rfl, rfl⟩ | ⟨ss, spare, rfl, rfl⟩
  · simp [Rows.uptoBulk]
  · simp only [Rows.uptoBulk]
    have key : ∀ ss : List ByteArray, (ss.map octsOf).length + (ss.map octsOf).flatten.length ≤ Rows.uptoBulkAll (strs (H := H) ss) := by
      intro ss
      induction ss with
      | nil => simp [strs, Rows.uptoBulkAll]
      | cons s r ih =>
        have e : strs (H := H) (s :: r) = .lit (.string s.data.toList) :: strs r := rfl
        rw [e]
        simp only [List.map_cons, List.length_cons, List.flatten_cons, List.length_append, Rows.uptoBulkAll, Rows.uptoBulk, octsOf_length]
        have hs : s.data.toList.length = s.size := rfl
        simp only [List.length_map] at ih ⊢
        omega
    have := key ss
    omega
end
end
end Go.Proofs.YtbdjbmgeelleiaaDoor
