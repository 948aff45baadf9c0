/-
  No cell of these rows narrows 'for every input' (looked for: loops, veiled, ifaces, maps, wideKeys, modest, calm, conditions, laid).
  DERIVED. THE GIVEN ROWS OF THIS SEAT. 5 by the template 'for every input the law returns true; each argument reads behind the call as it read before'; 0 by the template 'total and deterministic' (their statements: YtjjaefacfcjgiaaTotals.lean).
  GIVEN WITH THE SEED: the statements are not yours to turn. If you find one false, say at which input.
  Laid BY PROGRAM, IN A SANDBOX (cutbox-rows.mjs): the forced cells as the released guide's own fill.sh prints them over the translation 1ad4c90356dec588… (all of the seat's roots in one cut). By AI agents, Wed Nov 11 2026. No macro, syntax, notation, axiom, sorry.
-/
import Derived.Test.YtjjaefacfcjgiaaChecked
import GoSem.Claim
import GoSem.ClaimJoined
import GoSem.ClaimMapViews
import Derived.JoinedTies
import Derived.KernelRfl
namespace Go.Proofs.Ytjjaefacfcjgiaa
/- THE CELL 'sum', in the pinned program and in every row, IS THE sha256 OF THE DUMP (.gsa) THAT YtjjaefacfcjgiaaProg.lean LOADS. Nothing in Lean hashes anything: it is a label: what it is worth is what the hold of that sum in a sandbox is worth. -/
noncomputable def Try.pinned : Pinned := { name := "ytjjaefacfcjgiaa", sum := "1ad4c90356dec588a2fd0230f76c7b1d87a2c547ce3f964e09efea1a1b99cd4b", checked := Try.checked }
namespace Rows
def none {H : Type} : Left H := { results := [], args := [] }

/-- 'mootlaw03.WotsTells': WHATEVER THE INPUT: true; the input reads as it did. -/
def wotsTellsSpec : ChangeSpec := { name := "wotsTells", fn := fun _ => fun
  | [d1, d2, d3, d4, d5, d6] => { results := [.lit (.bool true)], args := [d1, d2, d3, d4, d5, d6] }
  | _ => none }
def wotsTellsRow : OpenClaim := { program := "ytjjaefacfcjgiaa", sum := "1ad4c90356dec588a2fd0230f76c7b1d87a2c547ce3f964e09efea1a1b99cd4b", func := "moot/mootlaw03.WotsTells", spec := "wotsTells", inPlace := ["internal/abi.NoEscape", "internal/bytealg.MakeNoZero"], unfollowed := true, recurses := true, apart := false }
def WotsTellsSaid : Prop := wotsTellsRow.holds Try.pinned (OpenSpec.ofChange wotsTellsSpec)

/-- ITS FALSE NEIGHBOUR: 'it returns false'. Refute it at one input. -/
def wotsTellsWrong : ChangeSpec := { name := "wotsTells", fn := fun _ => fun
  | [d1, d2, d3, d4, d5, d6] => { results := [.lit (.bool false)], args := [d1, d2, d3, d4, d5, d6] }
  | _ => none }
def WotsTellsWrongFalsely : Prop := wotsTellsRow.holds Try.pinned (OpenSpec.ofChange wotsTellsWrong)

/-- 'mootlaw03.WotsSigns': WHATEVER THE INPUT: true; the input reads as it did. -/
def wotsSignsSpec : ChangeSpec := { name := "wotsSigns", fn := fun _ => fun
  | [d1, d2, d3, d4] => { results := [.lit (.bool true)], args := [d1, d2, d3, d4] }
  | _ => none }
def wotsSignsRow : OpenClaim := { program := "ytjjaefacfcjgiaa", sum := "1ad4c90356dec588a2fd0230f76c7b1d87a2c547ce3f964e09efea1a1b99cd4b", func := "moot/mootlaw03.WotsSigns", spec := "wotsSigns", inPlace := ["internal/abi.NoEscape", "internal/bytealg.MakeNoZero"], unfollowed := true, recurses := true, apart := false }
def WotsSignsSaid : Prop := wotsSignsRow.holds Try.pinned (OpenSpec.ofChange wotsSignsSpec)

/-- ITS FALSE NEIGHBOUR: 'it returns false'. Refute it at one input. -/
def wotsSignsWrong : ChangeSpec := { name := "wotsSigns", fn := fun _ => fun
  | [d1, d2, d3, d4] => { results := [.lit (.bool false)], args := [d1, d2, d3, d4] }
  | _ => none }
def WotsSignsWrongFalsely : Prop := wotsSignsRow.holds Try.pinned (OpenSpec.ofChange wotsSignsWrong)

/-- 'mootlaw03.WotsBack': WHATEVER THE INPUT: true; the input reads as it did. -/
def wotsBackSpec : ChangeSpec := { name := "wotsBack", fn := fun _ => fun
  | [d1, d2, d3] => { results := [.lit (.bool true)], args := [d1, d2, d3] }
  | _ => none }
def wotsBackRow : OpenClaim := { program := "ytjjaefacfcjgiaa", sum := "1ad4c90356dec588a2fd0230f76c7b1d87a2c547ce3f964e09efea1a1b99cd4b", func := "moot/mootlaw03.WotsBack", spec := "wotsBack", inPlace := ["internal/abi.NoEscape", "internal/bytealg.MakeNoZero"], unfollowed := true, recurses := true, apart := false }
def WotsBackSaid : Prop := wotsBackRow.holds Try.pinned (OpenSpec.ofChange wotsBackSpec)

/-- ITS FALSE NEIGHBOUR: 'it returns false'. Refute it at one input. -/
def wotsBackWrong : ChangeSpec := { name := "wotsBack", fn := fun _ => fun
  | [d1, d2, d3] => { results := [.lit (.bool false)], args := [d1, d2, d3] }
  | _ => none }
def WotsBackWrongFalsely : Prop := wotsBackRow.holds Try.pinned (OpenSpec.ofChange wotsBackWrong)

/-- 'mootlaw03.WotsDigits': WHATEVER THE INPUT: true; the input reads as it did. -/
def wotsDigitsSpec : ChangeSpec := { name := "wotsDigits", fn := fun _ => fun
  | [d] => { results := [.lit (.bool true)], args := [d] }
  | _ => none }
def wotsDigitsRow : OpenClaim := { program := "ytjjaefacfcjgiaa", sum := "1ad4c90356dec588a2fd0230f76c7b1d87a2c547ce3f964e09efea1a1b99cd4b", func := "moot/mootlaw03.WotsDigits", spec := "wotsDigits", unfollowed := true, recurses := true, apart := false }
def WotsDigitsSaid : Prop := wotsDigitsRow.holds Try.pinned (OpenSpec.ofChange wotsDigitsSpec)

/-- ITS FALSE NEIGHBOUR: 'it returns false'. Refute it at one input. -/
def wotsDigitsWrong : ChangeSpec := { name := "wotsDigits", fn := fun _ => fun
  | [d] => { results := [.lit (.bool false)], args := [d] }
  | _ => none }
def WotsDigitsWrongFalsely : Prop := wotsDigitsRow.holds Try.pinned (OpenSpec.ofChange wotsDigitsWrong)

/-- 'mootlaw03.WotsChains': WHATEVER THE INPUT: true; the input reads as it did. -/
def wotsChainsSpec : ChangeSpec := { name := "wotsChains", fn := fun _ => fun
  | [d1, d2, d3] => { results := [.lit (.bool true)], args := [d1, d2, d3] }
  | _ => none }
def wotsChainsRow : OpenClaim := { program := "ytjjaefacfcjgiaa", sum := "1ad4c90356dec588a2fd0230f76c7b1d87a2c547ce3f964e09efea1a1b99cd4b", func := "moot/mootlaw03.WotsChains", spec := "wotsChains", unfollowed := true, recurses := true, apart := false }
def WotsChainsSaid : Prop := wotsChainsRow.holds Try.pinned (OpenSpec.ofChange wotsChainsSpec)

/-- ITS FALSE NEIGHBOUR: 'it returns false'. Refute it at one input. -/
def wotsChainsWrong : ChangeSpec := { name := "wotsChains", fn := fun _ => fun
  | [d1, d2, d3] => { results := [.lit (.bool false)], args := [d1, d2, d3] }
  | _ => none }
def WotsChainsWrongFalsely : Prop := wotsChainsRow.holds Try.pinned (OpenSpec.ofChange wotsChainsWrong)

/- THE SECOND FORM. 'bulk': how many values and letters a reading holds, each counted each time it is reached (what is shared counts as often as it is met; a slice's spare places count too). A statement '..UptoSaid' is the law's where the arguments, and the package variables that the reading takes, are together of bulk at most 1048576: NARROWER than '..Said'. Prove '..Said' where nothing that the law and all that it calls make is longer than what came in: it says more and counts as full. Else prove '..UptoSaid'. A law counts once. -/
mutual
def uptoBulk {H : Type} : DataW H → Nat
  | .lit (.string bytes) => bytes.length + 1
  | .lit _ => 1
  | .nil => 1
  | .ptr d => uptoBulk d + 1
  | .slice elems spare => uptoBulkAll elems + uptoBulkAll spare + 1
  | .agg parts => uptoBulkAll parts + 1
  | .iface _ d => uptoBulk d + 1
  | .map entries => uptoBulkEntries entries + 1
  | .held _ => 1
def uptoBulkAll {H : Type} : List (DataW H) → Nat
  | [] => 0
  | d :: r => uptoBulk d + uptoBulkAll r
def uptoBulkEntries {H : Type} : List (Lit × DataW H) → Nat
  | [] => 0
  | x :: r => uptoBulkEntry x + uptoBulkEntries r
def uptoBulkEntry {H : Type} : Lit × DataW H → Nat
  | (.string bytes, d) => bytes.length + uptoBulk d + 1
  | (_, d) => uptoBulk d + 1
 end
def uptoSmall : (H : Type) → List (DataW H) → Bool := fun _ ds => decide (uptoBulkAll ds ≤ 1048576)
def OpenSpec.upto (s : _root_.Go.ChangeSpec) : _root_.Go.OpenSpec := { _root_.Go.OpenSpec.ofChange s with cond := some uptoSmall }

/-- 'mootlaw03.WotsTells', WHERE WHAT IT READS IS OF BULK AT MOST 1048576: true; the input reads as it did. -/
def wotsTellsUptoRow : OpenClaim := { program := "ytjjaefacfcjgiaa", sum := "1ad4c90356dec588a2fd0230f76c7b1d87a2c547ce3f964e09efea1a1b99cd4b", func := "moot/mootlaw03.WotsTells", spec := "wotsTells", inPlace := ["internal/abi.NoEscape", "internal/bytealg.MakeNoZero"], unfollowed := true, recurses := true, apart := false, narrowed := true }
def WotsTellsUptoSaid : Prop := wotsTellsUptoRow.holds Try.pinned (OpenSpec.upto wotsTellsSpec)

/-- 'mootlaw03.WotsSigns', WHERE WHAT IT READS IS OF BULK AT MOST 1048576: true; the input reads as it did. -/
def wotsSignsUptoRow : OpenClaim := { program := "ytjjaefacfcjgiaa", sum := "1ad4c90356dec588a2fd0230f76c7b1d87a2c547ce3f964e09efea1a1b99cd4b", func := "moot/mootlaw03.WotsSigns", spec := "wotsSigns", inPlace := ["internal/abi.NoEscape", "internal/bytealg.MakeNoZero"], unfollowed := true, recurses := true, apart := false, narrowed := true }
def WotsSignsUptoSaid : Prop := wotsSignsUptoRow.holds Try.pinned (OpenSpec.upto wotsSignsSpec)

/-- 'mootlaw03.WotsBack', WHERE WHAT IT READS IS OF BULK AT MOST 1048576: true; the input reads as it did. -/
def wotsBackUptoRow : OpenClaim := { program := "ytjjaefacfcjgiaa", sum := "1ad4c90356dec588a2fd0230f76c7b1d87a2c547ce3f964e09efea1a1b99cd4b", func := "moot/mootlaw03.WotsBack", spec := "wotsBack", inPlace := ["internal/abi.NoEscape", "internal/bytealg.MakeNoZero"], unfollowed := true, recurses := true, apart := false, narrowed := true }
def WotsBackUptoSaid : Prop := wotsBackUptoRow.holds Try.pinned (OpenSpec.upto wotsBackSpec)

/-- 'mootlaw03.WotsDigits', WHERE WHAT IT READS IS OF BULK AT MOST 1048576: true; the input reads as it did. -/
def wotsDigitsUptoRow : OpenClaim := { program := "ytjjaefacfcjgiaa", sum := "1ad4c90356dec588a2fd0230f76c7b1d87a2c547ce3f964e09efea1a1b99cd4b", func := "moot/mootlaw03.WotsDigits", spec := "wotsDigits", unfollowed := true, recurses := true, apart := false, narrowed := true }
def WotsDigitsUptoSaid : Prop := wotsDigitsUptoRow.holds Try.pinned (OpenSpec.upto wotsDigitsSpec)

/-- 'mootlaw03.WotsChains', WHERE WHAT IT READS IS OF BULK AT MOST 1048576: true; the input reads as it did. -/
def wotsChainsUptoRow : OpenClaim := { program := "ytjjaefacfcjgiaa", sum := "1ad4c90356dec588a2fd0230f76c7b1d87a2c547ce3f964e09efea1a1b99cd4b", func := "moot/mootlaw03.WotsChains", spec := "wotsChains", unfollowed := true, recurses := true, apart := false, narrowed := true }
def WotsChainsUptoSaid : Prop := wotsChainsUptoRow.holds Try.pinned (OpenSpec.upto wotsChainsSpec)

end Rows
end Go.Proofs.Ytjjaefacfcjgiaa
