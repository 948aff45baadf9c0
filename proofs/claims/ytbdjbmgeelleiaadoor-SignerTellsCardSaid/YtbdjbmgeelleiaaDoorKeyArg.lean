import Derived.Lib.SmallJoins
import Derived.SizedLaws
import Derived.Test.YtbdjbmgeelleiaaDoorStrArg
import Derived.Test.YtbdjbmgeelleiaaDoorSgNew
/-
  A key that came in by value, opened.
-/
namespace Go.Proofs.YtbdjbmgeelleiaaDoor
section
set_option linter.unusedVariables false
set_option maxRecDepth 100000
open Go.ChangeShapes Go.WideShapes Go.ChangeAt Go.RowKit Go.Deep Go.Joins

section
variable {H : Type} {enc : TypeId × Value → H} {W : World}

/-- d is the reading of the key -/
def KeyD (d : DataW H) (seed : ByteArray) (ls : List (List Int)) (next : Int) : Prop :=
  ∃ dl, d = .agg [.lit (.string seed.data.toList), dl, .lit (.int .i64 next)] ∧ StrsD dl ls

theorem open_key {r : Reach} {b0 : Nat} {v : Value} {d : DataW H} {ps : List MemPlace} (hv : Value.okWide Tryd.prog W r b0 24 v) (h : DataW.Trod enc Tryd.prog W 0 (fun _ => true) true 24 v d ps) :
    ∃ (s : ByteArray) (lv : Value) (ls : List (List Int)) (next : Int), v = .agg #[.string s, lv, .int .i64 next] ∧ Strs W lv ls ∧ (∀ k : Nat, U8s (ls[k]?.getD [])) ∧ ls.length ≤ maxLen ∧ s.size ≤ maxLen ∧ (Lit.int .i64 next).wf = true ∧ KeyD d s ls next := by
  obtain ⟨c0, c1, c2, y0, y1, y2, m, rfl, rfl, rfl, hy0, hy1, hy2⟩ := open_agg3 Tryd.underlying24 (by kernel_rfl) (by kernel_rfl) hv h
  obtain ⟨s, e0, rfl, ws⟩ := DataW.trod_string Tryd.underlying9 hy0
  obtain ⟨x, e2, rfl, wx⟩ := DataW.trod_int Tryd.underlying3 hy2
  obtain ⟨a, l, c, e1⟩ := slice_form Tryd.underlying22 hy1
  simp only [List.cons.injEq, and_true] at e0 e1 e2
  subst e0 e1 e2
  obtain ⟨dl, pl⟩ := y1
  obtain ⟨ls, h1, h2, h3, h4⟩ := open_strsD (ps := pl) (d := dl) rfl ⟨m, hy1⟩
  exact ⟨s, _, ls, x, rfl, h1, h2, h3, ws, wx, dl, rfl, h4⟩

/-- what the form's own reach says of a key -/
theorem reach_key {ts : List TypeId} {ds : List (DataW H)} {j : Nat} {d : DataW H} {s : ByteArray} {ls : List (List Int)} {next : Int} (hD : KeyD d s ls next)
    (h : (DataW.weightsEach Tryd.prog ts ds).all (· ≤ reachBytes) = true) (ht : ts[j]? = some 24) (hd : ds[j]? = some d) : s.size ≤ 140737488351232 ∧ ls.length ≤ 8796093022208 ∧ ∀ k : Nat, (ls[k]?.getD []).length ≤ 140737488351232 := by
  obtain ⟨dl, rfl, hS⟩ := hD
  have h1 : (DataW.weightsEach Tryd.prog [9, 22, 3] [.lit (.string s.data.toList), dl, .lit (.int .i64 next)]).all (· ≤ reachBytes) = true := by
    rw [List.all_eq_true]
    intro n hn
    refine List.all_eq_true.1 h _ (DataW.weights_mem_each ht hd n ?_)
    simp only [DataW.weights, Tryd.underlying24]
    simpa [DataW.weights, DataW.weightsEach] using hn
  exact ⟨reach_str (j := 0) h1 rfl rfl, reach_strs (j := 1) hS h1 rfl rfl⟩
end
end
end Go.Proofs.YtbdjbmgeelleiaaDoor
