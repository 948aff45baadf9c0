import Derived.Laws.BytesArg
import Derived.Test.YtjjaefacfcjgiaaPreds
namespace Go.Proofs.Ytjjaefacfcjgiaa
set_option linter.unusedVariables false
open Go.RowKit

/-- 'string(b)' -/
theorem Ints.str {W : World} {v : Value} {zs : List Int} (h : Ints .u8 W v zs) : (convert 22 9 v).run Try.prog W = .ok (.string (strOfNums zs)) W := by
  obtain ⟨a, cap, rfl, hcap, hnil, hc⟩ := h
  rcases hc with rfl | ⟨b, off, rfl, hc⟩
  · cases a with
    | none => exact run_convert_bytes_nil (P := Try.prog) W 22 5 Try.underlying22 Try.underlying5 _ _ 9 Try.underlying9
    | some ad =>
      have h := run_convert_bytes_string (P := Try.prog) W 22 9 5 (some ad) 0 cap Try.underlying22 Try.underlying5 Try.underlying9
      have h0 : (loadCells ad 0).run Try.prog W = .ok (([] : List Int).map (Value.int .u8)).toArray W := by
        have := run_loadCells_list (P := Try.prog) W ad [] (fun j v hj => by simp at hj)
        simpa using this
      show (convert 22 9 (.slice (some ad) 0 cap)).run Try.prog W = _
      rw [h, run_bytesToString (P := Try.prog) W ad 0 cap [] h0]
      rfl
  · exact run_convert_bytes_arg (P := Try.prog) W 22 5 Try.underlying22 Try.underlying5 b off zs.length cap zs rfl (fun i hi => by rw [hc i hi]; simp [List.getD, hi]) 9 Try.underlying9
end Go.Proofs.Ytjjaefacfcjgiaa
