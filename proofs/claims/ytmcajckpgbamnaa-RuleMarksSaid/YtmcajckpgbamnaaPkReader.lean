import Derived.Test.YtmcajckpgbamnaaPkWriter
import Derived.Test.YtmcajckpgbamnaaCuts
import Derived.Test.YtmcajckpgbamnaaOct
namespace Go.Proofs.Ytmcajckpgbamnaa
/-
  pack: the reader.
-/
section
set_option maxRecDepth 100000
section
set_option linter.unusedVariables false
open Go.RowKit

theorem Ints.keptBut {S : Nat → Prop} {k : IntKind} {W W' : World} {v : Value} {zs : List Int} (h : Ints k W v zs) (hk : KeptBut S W W') (hS : ∀ b, v.ownBlock = some b → ¬ S b) : Ints k W' v zs := by
  obtain ⟨a, cap, rfl, h2, h3, h4⟩ := h
  refine ⟨a, cap, rfl, h2, h3, h4.imp id ?_⟩
  rintro ⟨b, off, rfl, hc⟩
  exact ⟨b, off, rfl, fun j hj => by
    have := hc j hj
    exact (World.cell?_of_block (a := ⟨b, off + j, none⟩) (hk.block b (World.block_lt_of_cell? W _ this) (hS b rfl))).trans this⟩
theorem Ints.grownAt {k : IntKind} {W W' : World} {v : Value} {zs : List Int} {g : Nat} (h : Ints k W v zs) (hg : W.grownBy W' (some g)) (hS : ∀ b, v.ownBlock = some b → b ≠ g) : Ints k W' v zs :=
  h.keptBut (S := fun x => x = g) (KeptBut.of_grown hg (fun k e => by cases e; rfl)) hS

end
end

/-
  pack: the reader's Num and Text.
-/
section
set_option maxRecDepth 100000
section
set_option linter.unusedVariables false
open Go.RowKit

/-- what is read of octets without error: the value, the error, what is left -/
def gNum (zs : List Int) (most : Int) : Int × Int × List Int :=
  if zs.length < 6 then (0, 8, []) else if most < getB (zs.take 6) ∨ 1099511627776 < getB (zs.take 6) then (0, 4, []) else (getB (zs.take 6), 0, zs.drop 6)
def gText (zs : List Int) (most : Int) : List Int × Int × List Int :=
  if zs.length < 2 then ([], 8, []) else if most < getB (zs.take 2) ∨ 4096 < getB (zs.take 2) then ([], 5, []) else
    if (zs.length : Int) < 2 + getB (zs.take 2) then ([], 8, []) else ((zs.drop 2).take (getB (zs.take 2)).toNat, 0, (zs.drop 2).drop (getB (zs.take 2)).toNat)
theorem nil_off (l : Value) : ∀ k, (Value.slice none 0 0).ownBlock = some k → l.ownBlock = some k := fun k e => by simp [Value.ownBlock] at e

/-- a read of whatever reader -/
def rdNum (E : Int) (zs : List Int) (most : Int) : Int × Int × List Int := if E = 0 then gNum zs most else (0, E, zs)
def rdText (E : Int) (zs : List Int) (most : Int) : List Int × Int × List Int := if E = 0 then gText zs most else ([], E, zs)
theorem grown_self (w : World) (g : Nat) : w.grownBy w (some g) := ⟨rfl, rfl, rfl, Nat.le_refl _, fun _ _ _ => rfl⟩
theorem rdNum_inv (E : Int) (zs : List Int) (most : Int) (h0 : E ≠ 0 → zs = []) (hu : U8s zs) : ((rdNum E zs most).2.1 ≠ 0 → (rdNum E zs most).2.2 = []) ∧ U8s (rdNum E zs most).2.2 ∧ (rdNum E zs most).2.2.length ≤ zs.length := by
  have hn : U8s ([] : List Int) := fun j hj => by simp at hj
  unfold rdNum gNum
  split
  · split
    · exact ⟨fun _ => rfl, hn, Nat.zero_le _⟩
    · split
      · exact ⟨fun _ => rfl, hn, Nat.zero_le _⟩
      · exact ⟨fun h => absurd rfl h, hu.drop 6, by simp⟩
  · exact ⟨h0, hu, Nat.le_refl _⟩
theorem rdText_inv (E : Int) (zs : List Int) (most : Int) (h0 : E ≠ 0 → zs = []) (hu : U8s zs) : ((rdText E zs most).2.1 ≠ 0 → (rdText E zs most).2.2 = []) ∧ U8s (rdText E zs most).2.2 ∧ (rdText E zs most).2.2.length ≤ zs.length := by
  have hn : U8s ([] : List Int) := fun j hj => by simp at hj
  unfold rdText gText
  split
  · split
    · exact ⟨fun _ => rfl, hn, Nat.zero_le _⟩
    · split
      · exact ⟨fun _ => rfl, hn, Nat.zero_le _⟩
      · split
        · exact ⟨fun _ => rfl, hn, Nat.zero_le _⟩
        · exact ⟨fun h => absurd rfl h, (hu.drop 2).drop _, by simp only [List.length_drop]; omega⟩
  · exact ⟨h0, hu, Nat.le_refl _⟩
end
end

/-
  pack: reading on and on of one reader.
-/
section
set_option maxRecDepth 100000
section
set_option linter.unusedVariables false
open Go.RowKit

/-- what was written is read -/
theorem gNum_enc (n : Int) (rest : List Int) (h0 : 0 ≤ n) (h1 : n ≤ 1099511627776) : gNum (octAll n 6 ++ rest) 1099511627776 = (n, 0, rest) := by
  have hl := octAll_length n 6
  have ht : (octAll n 6 ++ rest).take 6 = octAll n 6 := by rw [List.take_append_of_le_length (by omega), List.take_of_length_le (by omega)]
  have hd : (octAll n 6 ++ rest).drop 6 = rest := by rw [List.drop_append_of_le_length (by omega), List.drop_eq_nil_of_le (by omega), List.nil_append]
  have hg : getB (octAll n 6) = n := by rw [getB_back n 6 (by omega)]; omega
  unfold gNum
  rw [ht, hd, hg, if_neg (by rw [List.length_append]; omega), if_neg (by omega)]
theorem gText_enc (zs rest : List Int) (h : zs.length ≤ 4096) : gText ((octAll zs.length 2 ++ zs) ++ rest) 4096 = (zs, 0, rest) := by
  have hl := octAll_length (zs.length : Int) 2
  rw [List.append_assoc]
  have ht : (octAll zs.length 2 ++ (zs ++ rest)).take 2 = octAll zs.length 2 := by rw [List.take_append_of_le_length (by omega), List.take_of_length_le (by omega)]
  have hd : (octAll zs.length 2 ++ (zs ++ rest)).drop 2 = zs ++ rest := by rw [List.drop_append_of_le_length (by omega), List.drop_eq_nil_of_le (by omega), List.nil_append]
  have hg : getB (octAll zs.length 2) = zs.length := by rw [getB_back _ 2 (by omega)]; omega
  unfold gText
  rw [ht, hd, hg, if_neg (by rw [List.length_append]; omega), if_neg (by omega), if_neg (by rw [List.length_append, List.length_append]; omega)]
  simp
theorem rdNum_enc (n : Int) (rest : List Int) (h0 : 0 ≤ n) (h1 : n ≤ 1099511627776) : rdNum 0 (octAll n 6 ++ rest) 1099511627776 = (n, 0, rest) := by
  unfold rdNum; rw [if_pos rfl, gNum_enc n _ h0 h1]
theorem rdText_enc (zs rest : List Int) (h : zs.length ≤ 4096) : rdText 0 ((octAll zs.length 2 ++ zs) ++ rest) 4096 = (zs, 0, rest) := by
  unfold rdText; rw [if_pos rfl, gText_enc zs _ h]
end
end
end Go.Proofs.Ytmcajckpgbamnaa
