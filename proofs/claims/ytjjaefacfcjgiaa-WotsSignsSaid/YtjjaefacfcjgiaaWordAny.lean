import Derived.Test.YtjjaefacfcjgiaaOctWord
import Derived.Test.YtjjaefacfcjgiaaStr
namespace Go.Proofs.Ytjjaefacfcjgiaa
set_option linter.unusedVariables false
open Go.RowKit

/-- Word: any place -/
theorem word_any (v : Value) (bs : List Int) (q : Int) (w : World) (hv : Ints .u8 w v bs) (hu : U8s bs) (hlen : bs.length ≤ 9223372036854775807) :
    Calls Try.prog 54 #[v, .int .i64 q] w fun e w' => e = .returned (.int .u32 (wordB bs q)) ∧ Below w.heap.size w w' := by
  by_cases h : q < 0 ∨ bs.length ≤ q
  · have e : wordB bs q = 0 := by
      unfold wordB
      by_cases h0 : q < 0
      · rw [if_pos h0]
      · rw [if_neg h0]; exact wordUp_out bs _ 4 (by omega)
    rw [e]
    exact (word_neg v bs q w hv hlen h).mono fun e w' ⟨he, hw⟩ => ⟨he, by subst hw; exact Below.refl _ _⟩
  · obtain ⟨p, hp⟩ : ∃ p : Nat, (p : Int) = q := ⟨q.toNat, by omega⟩
    have e : wordB bs q = wordUp bs p 4 := by unfold wordB; rw [if_neg (by omega)]; congr 1; omega
    rw [e]; subst hp; exact word_in v bs p w hv hu hlen (by omega)

/-- a slice that a call made, at each later world, as a string -/
def StrAt (W : World) (v : Value) (zs : List Int) : Prop := ∀ wx, Below W.heap.size W wx → (convert 22 9 v).run Try.prog wx = .ok (.string (strOfNums zs)) wx
theorem StrAt.of {W : World} {v : Value} {zs : List Int} (h : Ints .u8 W v zs) : StrAt W v zs := fun wx hb => (h.kept hb).str

/-- the cells of a row -/
theorem row_cells {W : World} {base : Nat} {e : TypeId} {g n cap : Nat} {xs : List Value} (h : W.ownsRow base e 1 (.slice (some ⟨g, 0, none⟩) n cap) n xs) : ∀ j u, xs[j]? = some u → W.cell? ((⟨g, 0, none⟩ : Addr).add j) = some u := by
  intro j u hj
  have hl : xs.length = n := by have := h.1; omega
  have hj' : j < n := by have := (List.getElem?_eq_some_iff.1 hj).1; omega
  have h2 : ((⟨g, 0, none⟩ : Addr).add j) = ⟨g, j, none⟩ := by unfold Addr.add; split <;> simp_all
  rw [h2, h.cellAt j (by omega)]
  exact hj
end Go.Proofs.Ytjjaefacfcjgiaa
