import Derived.Test.YtbdjbmgeelleiaaDoorSgNew
/-
  signer: New.
-/
namespace Go.Proofs.YtbdjbmgeelleiaaDoor
set_option maxRecDepth 100000
section
set_option linter.unusedVariables false
open Go.RowKit

theorem info_key : (Tryd.prog.info? 24).map (·.size) = some 3 := by kernel_rfl
/-- two results, the first a key in memory -/
theorem results_keyr {fn : Func} {p q : Tmp} (h : fn.results = #[.cell p 24, .tmp q]) (tmps : Array Value) (w : World) (B : Nat) (cs : Array Value) (u : Value) (hp : tmps.getD p undef = .pointer (some ⟨B, 0, none⟩)) (hq : tmps.getD q undef = u)
    (hg : w.heap[B]? = some (.cells cs 24 (0, 0))) (hs : cs.size = 3) :
    (results fn tmps).run Tryd.prog w = .ok (.tuple #[.agg cs, u]) w := by
  have hp' : tmps[p]?.getD undef = .pointer (some ⟨B, 0, none⟩) := by simpa using hp
  have hq' : tmps[q]?.getD undef = u := by simpa using hq
  have hl := run_loadVar_row (P := Tryd.prog) w B 24 24 cs (0, 0) _ hg Tryd.underlying24 rfl (by rw [info_key, hs])
  simp [results, h, hp', hq', asAddr, hl]
theorem one_key (zs : List Int) (v : Value) (k : Int) (hv : v.oneCell' = true) : (#[.string (strOfNums zs), v, .int .i64 k] : Array Value).all (·.oneCell') = true := by
  have h1 : (Value.string (strOfNums zs)).oneCell' = true := by simp [Value.oneCell']
  have h2 : (Value.int .i64 k).oneCell' = true := by simp [Value.oneCell']
  simp [h1, h2, hv]
def noKey : Array Value := #[.string ⟨#[]⟩, .slice none 0 0, .int .i64 0]

end
end Go.Proofs.YtbdjbmgeelleiaaDoor
