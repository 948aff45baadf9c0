import Derived.Laws.BitsAllLaws
import Derived.Laws.Bits64
import Derived.Test.YtjjaefacfcjgiaaPlain
/-
  Shifts and bits of octets, as the walk spells them.
-/
namespace Go.Proofs.Ytjjaefacfcjgiaa
set_option linter.unusedVariables false

theorem or_u64_join (a o : Int) (h0 : 0 ≤ a) (h1 : a < 18446744073709551616) (h2 : a % 256 = 0) (h3 : 0 ≤ o) (h4 : o < 256) : bits .or .u64 a o = a + o := by
  rw [u64_or a o h0 h1 h3 (by omega), nat_join 8 a.toNat o.toNat (by omega) (by omega)]
  omega
theorem or_u32_join (a o : Int) (h0 : 0 ≤ a) (h1 : a < 4294967296) (h2 : a % 256 = 0) (h3 : 0 ≤ o) (h4 : o < 256) : bits .or .u32 a o = a + o := by
  rw [u32_or a o h0 h1 h3 (by omega), nat_join 8 a.toNat o.toNat (by omega) (by omega)]
  omega

/-- Get's round -/
theorem get_round (n o : Int) (hn : 0 ≤ n) (h3 : 0 ≤ o) (h4 : o < 256) :
    (bits .or .u64 (IntKind.u64.wrap (n * 256)) o).tmod 4611686018427387904 = getStep n o := by
  rw [IntKind.wrap_u64, or_u64_join _ _ (by omega) (by omega) (by omega) h3 h4, Int.tmod_eq_emod_of_nonneg (by omega)]
  unfold getStep
  omega
/-- the reference's -/
theorem get_round' (n o : Int) (hn : 0 ≤ n) (h3 : 0 ≤ o) (h4 : o < 256) :
    (IntKind.u64.wrap (IntKind.u64.wrap (n * 256) + o)).tmod 4611686018427387904 = getStep n o := by
  rw [IntKind.wrap_u64, IntKind.wrap_u64, Int.tmod_eq_emod_of_nonneg (by omega)]
  unfold getStep
  omega
/-- Word's round: k is below 4 -/
theorem word_round (n o : Int) (hn : 0 ≤ n) (hn' : n < 16777216) (h3 : 0 ≤ o) (h4 : o < 256) :
    bits .or .u32 (n * 256) o = wordStep n o := by
  rw [or_u32_join _ _ (by omega) (by omega) (by omega) h3 h4]
  rfl
end Go.Proofs.Ytjjaefacfcjgiaa
