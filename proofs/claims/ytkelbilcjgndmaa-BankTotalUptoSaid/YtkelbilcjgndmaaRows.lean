/-
  No cell of these rows narrows 'for every input' (looked for: loops, veiled, ifaces, maps, wideKeys, modest, calm, conditions, laid).
  DERIVED. THE GIVEN ROWS OF THIS SEAT. 4 by the template 'for every input the law returns true; each argument reads behind the call as it read before'; 0 by the template 'total and deterministic' (their statements: YtkelbilcjgndmaaTotals.lean).
  GIVEN WITH THE SEED: the statements are not yours to turn. If you find one false, say at which input.
  Laid BY PROGRAM, IN A SANDBOX (cutbox-rows.mjs): the forced cells as the released guide's own fill.sh prints them over the translation 0425e11a9f62d498… (all of the seat's roots in one cut). By AI agents, Wed Nov 11 2026. No macro, syntax, notation, axiom, sorry.
-/
import Derived.Test.YtkelbilcjgndmaaChecked
import GoSem.Claim
import GoSem.ClaimJoined
import GoSem.ClaimMapViews
import Derived.JoinedTies
import Derived.KernelRfl
namespace Go.Proofs.Ytkelbilcjgndmaa
/- THE CELL 'sum', in the pinned program and in every row, IS THE sha256 OF THE DUMP (.gsa) THAT YtkelbilcjgndmaaProg.lean LOADS. Nothing in Lean hashes anything: it is a label: what it is worth is what the hold of that sum in a sandbox is worth. -/
noncomputable def Try.pinned : Pinned := { name := "ytkelbilcjgndmaa", sum := "0425e11a9f62d4982e00e21459180dbfa9b317b78717de95a5f853092bc0731f", checked := Try.checked }
namespace Rows
def none {H : Type} : Left H := { results := [], args := [] }

/-- 'mootlaw16.BankTells': WHATEVER THE INPUT: true; the input reads as it did. -/
def bankTellsSpec : ChangeSpec := { name := "bankTells", fn := fun _ => fun
  | [d1, d2, d3, d4] => { results := [.lit (.bool true)], args := [d1, d2, d3, d4] }
  | _ => none }
def bankTellsRow : OpenClaim := { program := "ytkelbilcjgndmaa", sum := "0425e11a9f62d4982e00e21459180dbfa9b317b78717de95a5f853092bc0731f", func := "moot/mootlaw16.BankTells", spec := "bankTells", apart := false }
def BankTellsSaid : Prop := bankTellsRow.holds Try.pinned (OpenSpec.ofChange bankTellsSpec)

/-- ITS FALSE NEIGHBOUR: 'it returns false'. Refute it at one input. -/
def bankTellsWrong : ChangeSpec := { name := "bankTells", fn := fun _ => fun
  | [d1, d2, d3, d4] => { results := [.lit (.bool false)], args := [d1, d2, d3, d4] }
  | _ => none }
def BankTellsWrongFalsely : Prop := bankTellsRow.holds Try.pinned (OpenSpec.ofChange bankTellsWrong)

/-- 'mootlaw16.BankTotal': WHATEVER THE INPUT: true; the input reads as it did. -/
def bankTotalSpec : ChangeSpec := { name := "bankTotal", fn := fun _ => fun
  | [d] => { results := [.lit (.bool true)], args := [d] }
  | _ => none }
def bankTotalRow : OpenClaim := { program := "ytkelbilcjgndmaa", sum := "0425e11a9f62d4982e00e21459180dbfa9b317b78717de95a5f853092bc0731f", func := "moot/mootlaw16.BankTotal", spec := "bankTotal", apart := false }
def BankTotalSaid : Prop := bankTotalRow.holds Try.pinned (OpenSpec.ofChange bankTotalSpec)

/-- ITS FALSE NEIGHBOUR: 'it returns false'. Refute it at one input. -/
def bankTotalWrong : ChangeSpec := { name := "bankTotal", fn := fun _ => fun
  | [d] => { results := [.lit (.bool false)], args := [d] }
  | _ => none }
def BankTotalWrongFalsely : Prop := bankTotalRow.holds Try.pinned (OpenSpec.ofChange bankTotalWrong)

/-- 'mootlaw16.BankParts': WHATEVER THE INPUT: true; the input reads as it did. -/
def bankPartsSpec : ChangeSpec := { name := "bankParts", fn := fun _ => fun
  | [d1, d2] => { results := [.lit (.bool true)], args := [d1, d2] }
  | _ => none }
def bankPartsRow : OpenClaim := { program := "ytkelbilcjgndmaa", sum := "0425e11a9f62d4982e00e21459180dbfa9b317b78717de95a5f853092bc0731f", func := "moot/mootlaw16.BankParts", spec := "bankParts", apart := false }
def BankPartsSaid : Prop := bankPartsRow.holds Try.pinned (OpenSpec.ofChange bankPartsSpec)

/-- ITS FALSE NEIGHBOUR: 'it returns false'. Refute it at one input. -/
def bankPartsWrong : ChangeSpec := { name := "bankParts", fn := fun _ => fun
  | [d1, d2] => { results := [.lit (.bool false)], args := [d1, d2] }
  | _ => none }
def BankPartsWrongFalsely : Prop := bankPartsRow.holds Try.pinned (OpenSpec.ofChange bankPartsWrong)

/-- 'mootlaw16.BankOnce': WHATEVER THE INPUT: true; the input reads as it did. -/
def bankOnceSpec : ChangeSpec := { name := "bankOnce", fn := fun _ => fun
  | [d1, d2] => { results := [.lit (.bool true)], args := [d1, d2] }
  | _ => none }
def bankOnceRow : OpenClaim := { program := "ytkelbilcjgndmaa", sum := "0425e11a9f62d4982e00e21459180dbfa9b317b78717de95a5f853092bc0731f", func := "moot/mootlaw16.BankOnce", spec := "bankOnce", apart := false }
def BankOnceSaid : Prop := bankOnceRow.holds Try.pinned (OpenSpec.ofChange bankOnceSpec)

/-- ITS FALSE NEIGHBOUR: 'it returns false'. Refute it at one input. -/
def bankOnceWrong : ChangeSpec := { name := "bankOnce", fn := fun _ => fun
  | [d1, d2] => { results := [.lit (.bool false)], args := [d1, d2] }
  | _ => none }
def BankOnceWrongFalsely : Prop := bankOnceRow.holds Try.pinned (OpenSpec.ofChange bankOnceWrong)

/- THE SECOND FORM. 'bulk': how many values and letters a reading holds, each counted each time it is reached (what is shared counts as often as it is met; a slice's spare places count too). A statement '..UptoSaid' is the law's where the arguments, and the package variables that the reading takes, are together of bulk at most 1048576: NARROWER than '..Said'. Prove '..Said' where nothing that the law and all that it calls make is longer than what came in: it says more and counts as full. Else prove '..UptoSaid'. A law counts once. -/
mutual
def uptoBulk {H : Type} : DataW H → Nat
  | .lit (.string bytes) => bytes.length + 1
  | .lit _ => 1
  | .nil => 1
  | .ptr d => uptoBulk d + 1
  | .slice elems spare => uptoBulkAll elems + uptoBulkAll spare + 1
  | .agg parts => uptoBulkAll parts + 1
  | .iface _ d => uptoBulk d + 1
  | .map entries => uptoBulkEntries entries + 1
  | .held _ => 1
def uptoBulkAll {H : Type} : List (DataW H) → Nat
  | [] => 0
  | d :: r => uptoBulk d + uptoBulkAll r
def uptoBulkEntries {H : Type} : List (Lit × DataW H) → Nat
  | [] => 0
  | x :: r => uptoBulkEntry x + uptoBulkEntries r
def uptoBulkEntry {H : Type} : Lit × DataW H → Nat
  | (.string bytes, d) => bytes.length + uptoBulk d + 1
  | (_, d) => uptoBulk d + 1
 end
def uptoSmall : (H : Type) → List (DataW H) → Bool := fun _ ds => decide (uptoBulkAll ds ≤ 1048576)
def OpenSpec.upto (s : _root_.Go.ChangeSpec) : _root_.Go.OpenSpec := { _root_.Go.OpenSpec.ofChange s with cond := some uptoSmall }

/-- 'mootlaw16.BankTells', WHERE WHAT IT READS IS OF BULK AT MOST 1048576: true; the input reads as it did. -/
def bankTellsUptoRow : OpenClaim := { program := "ytkelbilcjgndmaa", sum := "0425e11a9f62d4982e00e21459180dbfa9b317b78717de95a5f853092bc0731f", func := "moot/mootlaw16.BankTells", spec := "bankTells", apart := false, narrowed := true }
def BankTellsUptoSaid : Prop := bankTellsUptoRow.holds Try.pinned (OpenSpec.upto bankTellsSpec)

/-- 'mootlaw16.BankTotal', WHERE WHAT IT READS IS OF BULK AT MOST 1048576: true; the input reads as it did. -/
def bankTotalUptoRow : OpenClaim := { program := "ytkelbilcjgndmaa", sum := "0425e11a9f62d4982e00e21459180dbfa9b317b78717de95a5f853092bc0731f", func := "moot/mootlaw16.BankTotal", spec := "bankTotal", apart := false, narrowed := true }
def BankTotalUptoSaid : Prop := bankTotalUptoRow.holds Try.pinned (OpenSpec.upto bankTotalSpec)

/-- 'mootlaw16.BankParts', WHERE WHAT IT READS IS OF BULK AT MOST 1048576: true; the input reads as it did. -/
def bankPartsUptoRow : OpenClaim := { program := "ytkelbilcjgndmaa", sum := "0425e11a9f62d4982e00e21459180dbfa9b317b78717de95a5f853092bc0731f", func := "moot/mootlaw16.BankParts", spec := "bankParts", apart := false, narrowed := true }
def BankPartsUptoSaid : Prop := bankPartsUptoRow.holds Try.pinned (OpenSpec.upto bankPartsSpec)

/-- 'mootlaw16.BankOnce', WHERE WHAT IT READS IS OF BULK AT MOST 1048576: true; the input reads as it did. -/
def bankOnceUptoRow : OpenClaim := { program := "ytkelbilcjgndmaa", sum := "0425e11a9f62d4982e00e21459180dbfa9b317b78717de95a5f853092bc0731f", func := "moot/mootlaw16.BankOnce", spec := "bankOnce", apart := false, narrowed := true }
def BankOnceUptoSaid : Prop := bankOnceUptoRow.holds Try.pinned (OpenSpec.upto bankOnceSpec)

end Rows
end Go.Proofs.Ytkelbilcjgndmaa
