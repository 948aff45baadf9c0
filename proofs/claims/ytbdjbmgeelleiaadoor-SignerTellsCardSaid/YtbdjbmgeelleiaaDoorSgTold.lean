import Derived.Test.YtbdjbmgeelleiaaDoorRefSig
import Derived.Test.YtbdjbmgeelleiaaDoorRefHeight
import Derived.Test.YtbdjbmgeelleiaaDoorSgHeight
import Derived.Test.YtbdjbmgeelleiaaDoorSgRoot
import Derived.Test.YtbdjbmgeelleiaaDoorSgSign
import Derived.Test.YtbdjbmgeelleiaaDoorSameKey
import Derived.Test.YtbdjbmgeelleiaaDoorMTexts
import Derived.Test.YtbdjbmgeelleiaaDoorRefMerkle
/-
  What Sign tells of any key and text, and that the reference tells the same.
-/
namespace Go.Proofs.YtbdjbmgeelleiaaDoor
set_option maxRecDepth 100000
section
set_option linter.unusedVariables false
open Go.RowKit

/-- what is known of a key that came in -/
structure KeyIn (seed : List Int) (ls : List (List Int)) (next : Int) : Prop where
  u8 : U8s seed
  fits : Fits ls
  len : ls.length ≤ 8796093022208
  seedLen : seed.length ≤ 140737488351232
  lo : -9223372036854775808 ≤ next
  hi : next ≤ 9223372036854775807
theorem KeyIn.each {seed : List Int} {ls : List (List Int)} {next : Int} (h : KeyIn seed ls next) : ∀ k : Nat, (ls[k]?.getD []).length ≤ 9223372036854775807 := fun k => by have := (h.fits k).2; omega
/-- signer.Sign's answer: signature, error; the key behind it: seed, leaves, next -/
def SignTo (ls : List (List Int)) (SG S2 : ByteArray) (NX E : Int) (w : World) (e : Ending) (w' : World) : Prop :=
  ∃ a n c, e = .returned (.tuple #[.string SG, .agg #[.string S2, .slice a n c, .int .i64 NX], .int .i64 E]) ∧ Up w w' ∧ (E = 0 → Strs w' (.slice a n c) ls ∧ ∀ k, (Value.slice a n c).ownBlock = some k → w.heap.size ≤ k)
theorem ls_pow {ls : List (List Int)} (h : ls.length = 1 ∨ ls.length = 2 ∨ ls.length = 4 ∨ ls.length = 8 ∨ ls.length = 16) : ∃ K, K ≤ 4 ∧ ls.length = 2 ^ K := by
  rcases h with h | h | h | h | h
  · exact ⟨0, by omega, h⟩
  · exact ⟨1, by omega, h⟩
  · exact ⟨2, by omega, h⟩
  · exact ⟨3, by omega, h⟩
  · exact ⟨4, by omega, h⟩
theorem sig_told (seed : List Int) (ls : List (List Int)) (next : Int) (text : List Int) (hk : KeyIn seed ls next) (hut : U8s text) (hlt : text.length ≤ 140737488355200) :
    ∃ (SG S2 : ByteArray) (NX E : Int), (E = 0 → S2 = strOfNums seed ∧ NX = next + 1 ∧ 0 ≤ next ∧ next < 100 ∧ ls.length ≤ 16) ∧
      (∀ (lv tv : Value) (w : World), Strs w lv ls → Ints .u8 w tv text → Tab64 w → Calls Tryd.prog 5 #[keyV seed lv next, tv] w (SignTo ls SG S2 NX E w)) ∧
      (∀ (lv tv : Value) (w : World), Strs w lv ls → Ints .u8 w tv text → Calls Tryd.prog 6 #[keyV seed lv next, tv] w fun e w' => e = .returned (.tuple #[.string SG, .int .i64 E]) ∧ Up w w') := by
  by_cases hok : KeyOk seed ls next
  · obtain ⟨K, hK4, hK⟩ := ls_pow hok.pow
    have hlo := hok.lo
    obtain ⟨m, rfl⟩ : ∃ m : Nat, next = m := ⟨next.toNat, by omega⟩
    have hhi := hok.hi
    have hl16 : ls.length ≤ 16 := by have := hok.pow; omega
    by_cases hm : m < ls.length
    · refine ⟨strOfNums (sigB seed ls m K text), strOfNums seed, (m : Int) + 1, 0, fun _ => ⟨rfl, rfl, by omega, by omega, hl16⟩, ?_, ?_⟩
      · intro lv tv w hs hv hT
        refine (sgSign_ok seed lv ls m K tv text w hs hok hk.fits hk.u8 hK hK4 hm hv hut (by omega) hT).mono fun e w' ⟨r, h1, h2, h3⟩ => ?_
        obtain ⟨a, c, rfl⟩ := row_shape h2
        refine ⟨a, _, c, by rw [h1]; unfold keyV; rfl, h3, fun _ => ⟨Strs.of_row h2, fun k e => (h2.lt k e).1⟩⟩
      · intro lv tv w hs hv
        exact refSig_ok seed lv ls m K tv text w hs hok hk.fits hk.u8 hK hm hv hut hlt
    · obtain rfl : m = ls.length := by omega
      refine ⟨⟨#[]⟩, ⟨#[]⟩, 0, 17, (fun h => by cases h), ?_, ?_⟩
      · intro lv tv w hs hv hT
        exact (sgSign_full seed lv ls tv text w hs hok hv).mono fun e w' ⟨h1, h2⟩ => ⟨none, 0, 0, h1, h2, fun h => by cases h⟩
      · intro lv tv w hs hv
        exact refSig_full seed lv ls tv text w hs hok hk.fits hv
  · refine ⟨⟨#[]⟩, ⟨#[]⟩, 0, 9, (fun h => by cases h), ?_, ?_⟩
    · intro lv tv w hs hv hT
      exact (sgSign_bad seed lv ls next tv text w hs hk.len hk.each (by have := hk.seedLen; omega) ⟨hk.lo, hk.hi⟩ hok hv).mono fun e w' ⟨h1, h2⟩ => ⟨none, 0, 0, h1, h2, fun h => by cases h⟩
    · intro lv tv w hs hv
      exact refSig_bad seed lv ls next tv text w hs (by have := hk.len; omega) hk.each (by have := hk.seedLen; omega) hok hv
/-- one answer of a key, in every world -/
def KeySays (f : FuncId) (seed : List Int) (ls : List (List Int)) (next : Int) (v : Value) : Prop := ∀ (lv : Value) (w : World), Strs w lv ls → TabS w → Calls Tryd.prog f #[keyV seed lv next] w fun e w' => e = .returned v ∧ Up w w'
theorem key_told (seed : List Int) (ls : List (List Int)) (next : Int) (hk : KeyIn seed ls next) :
    ∃ (RT : ByteArray) (C H : Int), ((C = 0 ∧ KeyOk seed ls next ∧ RT = strOfNums (rootB ls)) ∨ (C = 9 ∧ RT = ⟨#[]⟩)) ∧
      KeySays 7 seed ls next (.tuple #[.string RT, .int .i64 C]) ∧ KeySays 9 seed ls next (.int .i64 C) ∧ KeySays 10 seed ls next (.int .i64 C) ∧
      KeySays 11 seed ls next (.int .i64 H) ∧ KeySays 12 seed ls next (.int .i64 H) := by
  have hl := hk.len
  have hsl : seed.length ≤ 9223372036854775807 := by have := hk.seedLen; omega
  by_cases hok : KeyOk seed ls next
  · obtain ⟨K, hK4, hK⟩ := ls_pow hok.pow
    refine ⟨strOfNums (rootB ls), 0, K, .inl ⟨rfl, hok, rfl⟩, ?_, ?_, ?_, ?_, ?_⟩
    · exact fun lv w hs hT => sgRoot_ok seed lv ls next w hs hok hk.fits
    · exact fun lv w hs hT => check_ok seed lv ls next w hs hok
    · intro lv w hs hT
      have h := refKey_any seed lv ls next w hs (by omega) hsl hk.each
      rwa [keyE_ok hok] at h
    · exact fun lv w hs hT => height_ok seed lv ls next K w hs hok hK hK4 hT
    · exact fun lv w hs hT => refHeight_ok seed lv ls next K w hs hok hk.each hK hK4
  · refine ⟨⟨#[]⟩, 9, 0, .inr ⟨rfl, rfl⟩, ?_, ?_, ?_, ?_, ?_⟩
    · exact fun lv w hs hT => sgRoot_bad seed lv ls next w hs hl hk.each hsl ⟨hk.lo, hk.hi⟩ hok
    · exact fun lv w hs hT => check_bad seed lv ls next w hs hl hk.each hsl ⟨hk.lo, hk.hi⟩ hok
    · intro lv w hs hT
      have h := refKey_any seed lv ls next w hs (by omega) hsl hk.each
      rwa [keyE_bad hok] at h
    · exact fun lv w hs hT => height_bad seed lv ls next w hs hl hk.each hsl ⟨hk.lo, hk.hi⟩ hok
    · exact fun lv w hs hT => refHeight_bad seed lv ls next w hs (by omega) hk.each hsl hok
theorem size_told (h : Int) : ∃ SZ : Int, ((h < 0 ∨ 4 < h) ∧ SZ = 0 ∨ (0 ≤ h ∧ h ≤ 4 ∧ SZ = 90 + 8 * h)) ∧ ∀ w : World, Calls Tryd.prog 13 #[.int .i64 h] w fun e w' => e = .returned (.int .i64 SZ) ∧ w = w' := by
  by_cases hh : h < 0 ∨ 4 < h
  · exact ⟨0, .inl ⟨hh, rfl⟩, fun w => size_no h w hh⟩
  · obtain ⟨n, rfl⟩ : ∃ n : Nat, h = n := ⟨h.toNat, by omega⟩
    refine ⟨90 + 8 * (n : Int), .inr ⟨by omega, by omega, rfl⟩, fun w => ?_⟩
    have h1 := size_yes n w (by omega)
    rwa [show ((90 + 8 * n : Nat) : Int) = 90 + 8 * (n : Int) from by omega] at h1
end
end Go.Proofs.YtbdjbmgeelleiaaDoor
