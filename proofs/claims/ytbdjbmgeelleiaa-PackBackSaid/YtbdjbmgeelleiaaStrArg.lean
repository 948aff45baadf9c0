import Derived.SliceStrings
import Derived.ChangeMaps5
import Derived.Test.YtbdjbmgeelleiaaOpen
import Derived.Test.YtbdjbmgeelleiaaStrs
import Derived.Test.YtbdjbmgeelleiaaBulk
namespace Go.Proofs.Ytbdjbmgeelleiaa
/-
  Strings and slices of strings that came in, opened.
-/
section
set_option linter.unusedVariables false
open Go.ChangeShapes Go.WideShapes Go.ChangeAt Go.RowKit Go.Deep

section
variable {H : Type} {enc : TypeId × Value → H} {W : World}

/-- what the form's own reach says of one string -/
theorem reach_str {P : Program} {ts : List TypeId} {ds : List (DataW H)} {j : Nat} {t : TypeId} {s : ByteArray} (h : (DataW.weightsEach P ts ds).all (· ≤ reachBytes) = true) (ht : ts[j]? = some t) (hd : ds[j]? = some (.lit (.string s.data.toList))) : s.size ≤ 140737488351232 := by
  have h1 := sized_string h ht hd
  have h2 : s.data.toList.length = s.size := rfl
  rw [h2] at h1
  exact h1
end
end

/-
  A slice of strings that came in: how long each string can be; how many letters they have together.
-/
section
set_option linter.unusedVariables false
open Go.ChangeShapes Go.WideShapes Go.ChangeAt Go.RowKit Go.Deep

theorem addr_add (b off j : Nat) : ((⟨b, off, none⟩ : Addr).add j) = ⟨b, off + j, none⟩ := by unfold Addr.add; split <;> simp_all

section
variable {H : Type} {enc : TypeId × Value → H} {W : World}

/-- d is the reading of a slice of strings that reads as ls -/
def StrsD (d : DataW H) (ls : List (List Int)) : Prop := (d = .nil ∧ ls = []) ∨ ∃ ss spare, ls = ss.map octsOf ∧ d = .slice (strs ss) spare

theorem weights_all {P : Program} {e : TypeId} {d : DataW H} {n : Nat} : ∀ {ds : List (DataW H)}, d ∈ ds → n ∈ d.weights P e → n ∈ DataW.weightsAll P e ds
  | x :: r, h, hn => by
    simp only [DataW.weightsAll, List.mem_append]
    rcases List.mem_cons.1 h with rfl | h
    · exact .inl hn
    · exact .inr (weights_all h hn)
theorem fits_of {ls : List (List Int)} (h1 : ∀ k : Nat, U8s (ls[k]?.getD [])) (h2 : ∀ k : Nat, (ls[k]?.getD []).length ≤ 140737488351232) : ∀ k : Nat, U8s (ls[k]?.getD []) ∧ (ls[k]?.getD []).length ≤ 140737488351232 := fun k => ⟨h1 k, h2 k⟩
/-- how many letters there are -/
theorem bulk_strs {ls : List (List Int)} {d : DataW H} (hD : StrsD d ls) : ls.length + ls.flatten.length + 1 ≤ Rows.uptoBulk d := by
  rcases hD with ⟨rfl, rfl⟩ | ⟨ss, spare, rfl, rfl⟩
  · simp [Rows.uptoBulk]
  · simp only [Rows.uptoBulk]
    have key : ∀ ss : List ByteArray, (ss.map octsOf).length + (ss.map octsOf).flatten.length ≤ Rows.uptoBulkAll (strs (H := H) ss) := by
      intro ss
      induction ss with
      | nil => simp [strs, Rows.uptoBulkAll]
      | cons s r ih =>
        have e : strs (H := H) (s :: r) = .lit (.string s.data.toList) :: strs r := rfl
        rw [e]
        simp only [List.map_cons, List.length_cons, List.flatten_cons, List.length_append, Rows.uptoBulkAll, Rows.uptoBulk, octsOf_length]
        have hs : s.data.toList.length = s.size := rfl
        simp only [List.length_map] at ih ⊢
        omega
    have := key ss
    omega
end
end
end Go.Proofs.Ytbdjbmgeelleiaa
