import Derived.Test.YtbdjbmgeelleiaaDoorRefSig
import Derived.Test.YtbdjbmgeelleiaaDoorRefHeight
import Derived.Test.YtbdjbmgeelleiaaDoorSgHeight
import Derived.Test.YtbdjbmgeelleiaaDoorSgRoot
import Derived.Test.YtbdjbmgeelleiaaDoorSgSign
import Derived.Test.YtbdjbmgeelleiaaDoorSameKey
import Derived.Test.YtbdjbmgeelleiaaDoorMTexts
/-
  What Sign tells of any key and text, and that the reference tells the same.
-/
namespace Go.Proofs.YtbdjbmgeelleiaaDoor
set_option maxRecDepth 100000
section
set_option linter.unusedVariables false
open Go.RowKit

/-- what is known of a key that came in -/
structure KeyIn (seed : List Int) (ls : List (List Int)) (next : Int) : Prop where
  u8 : U8s seed
  fits : Fits ls
  len : ls.length ≤ 8796093022208
  seedLen : seed.length ≤ 140737488351232
  lo : -9223372036854775808 ≤ next
  hi : next ≤ 9223372036854775807
theorem KeyIn.each {seed : List Int} {ls : List (List Int)} {next : Int} (h : KeyIn seed ls next) : ∀ k : Nat, (ls[k]?.getD []).length ≤ 9223372036854775807 := fun k => by have := (h.fits k).2; omega
/-- signer.Sign's answer: signature, error; the key behind it: seed, leaves, next -/
def SignTo (ls : List (List Int)) (SG S2 : ByteArray) (NX E : Int) (w : World) (e : Ending) (w' : World) : Prop :=
  ∃ a n c, e = .returned (.tuple #[.string SG, .agg #[.string S2, .slice a n c, .int .i64 NX], .int .i64 E]) ∧ Up w w' ∧ (E = 0 → Strs w' (.slice a n c) ls ∧ ∀ k, (Value.slice a n c).ownBlock = some k → w.heap.size ≤ k)
theorem ls_pow {ls : List (List Int)} (h : ls.length = 1 ∨ ls.length = 2 ∨ ls.length = 4 ∨ ls.length = 8 ∨ ls.length = 16) : ∃ K, K ≤ 4 ∧ ls.length = 2 ^ K := by
  rcases h with h | h | h | h | h
  · exact ⟨0, by omega, h⟩
  · exact ⟨1, by omega, h⟩
  · exact ⟨2, by omega, h⟩
  · exact ⟨3, by omega, h⟩
  · exact ⟨4, by omega, h⟩
theorem sig_told (seed : List Int) (ls : List (List Int)) (next : Int) (text : List Int) (hk : KeyIn seed ls next) (hut : U8s text) (hlt : text.length ≤ 140737488355200) :
    ∃ (SG S2 : ByteArray) (NX E : Int), (E = 0 → S2 = strOfNums seed ∧ NX = next + 1 ∧ 0 ≤ next ∧ next < 100 ∧ ls.length ≤ 16) ∧
      (∀ (lv tv : Value) (w : World), Strs w lv ls → Ints .u8 w tv text → Tab64 w → Calls Tryd.prog 5 #[keyV seed lv next, tv] w (SignTo ls SG S2 NX E w)) ∧
      (∀ (lv tv : Value) (w : World), Strs w lv ls → Ints .u8 w tv text → Calls Tryd.prog 6 #[keyV seed lv next, tv] w fun e w' => e = .returned (.tuple #[.string SG, .int .i64 E]) ∧ Up w w') := by
  by_cases hok : KeyOk seed ls next
  · obtain ⟨K, hK4, hK⟩ := ls_pow hok.pow
    have hlo := hok.lo
    obtain ⟨m, rfl⟩ : ∃ m : Nat, next = m := ⟨next.toNat, by omega⟩
    have hhi := hok.hi
    have hl16 : ls.length ≤ 16 := by have := hok.pow; omega
    by_cases hm : m < ls.length
    · refine ⟨strOfNums (sigB seed ls m K text), strOfNums seed, (m : Int) + 1, 0, fun _ => ⟨rfl, rfl, by omega, by omega, hl16⟩, ?_, ?_⟩
      · intro lv tv w hs hv hT
        refine (sgSign_ok seed lv ls m K tv text w hs hok hk.fits hk.u8 hK hK4 hm hv hut (by omega) hT).mono fun e w' ⟨r, h1, h2, h3⟩ => ?_
        obtain ⟨a, c, rfl⟩ := row_shape h2
        refine ⟨a, _, c, by rw [h1]; unfold keyV; rfl, h3, fun _ => ⟨Strs.of_row h2, fun k e => (h2.lt k e).1⟩⟩
      · intro lv tv w hs hv
        exact refSig_ok seed lv ls m K tv text w hs hok hk.fits hk.u8 hK hm hv hut hlt
    · obtain rfl : m = ls.length := by omega
      refine ⟨⟨#[]⟩, ⟨#[]⟩, 0, 17, (fun h => by cases h), ?_, ?_⟩
      · intro lv tv w hs hv hT
        exact (sgSign_full seed lv ls tv text w hs hok hv).mono fun e w' ⟨h1, h2⟩ => ⟨none, 0, 0, h1, h2, fun h => by cases h⟩
      · intro lv tv w hs hv
        exact refSig_full seed lv ls tv text w hs hok hk.fits hv
  · refine ⟨⟨#[]⟩, ⟨#[]⟩, 0, 9, (fun h => by cases h), ?_, ?_⟩
    · intro lv tv w hs hv hT
      exact (sgSign_bad seed lv ls next tv text w hs hk.len hk.each (by have := hk.seedLen; omega) ⟨hk.lo, hk.hi⟩ hok hv).mono fun e w' ⟨h1, h2⟩ => ⟨none, 0, 0, h1, h2, fun h => by cases h⟩
    · intro lv tv w hs hv
      exact refSig_bad seed lv ls next tv text w hs (by have := hk.len; omega) hk.each (by have := hk.seedLen; omega) hok hv
end
end Go.Proofs.YtbdjbmgeelleiaaDoor
