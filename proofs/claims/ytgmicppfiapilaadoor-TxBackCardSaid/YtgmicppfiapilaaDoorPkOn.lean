import Derived.Test.YtgmicppfiapilaaDoorPkRead
/-
  pack: reading on and on of one reader.
-/
namespace Go.Proofs.YtgmicppfiapilaaDoor
set_option maxRecDepth 100000
section
set_option linter.unusedVariables false
open Go.RowKit

theorem Reads.start {g : Nat} {l : Value} {w : World} {E : Int} {zs : List Int} (h : Rd w g l E zs) : Reads g l w E zs w := ⟨l, h, grown_self w g, fun _ e => e⟩
theorem Reads.up {g : Nat} {l : Value} {w W W' : World} {E : Int} {zs : List Int} (h : Reads g l w E zs W) (hu : Up W W') : Reads g l w E zs W' := by
  obtain ⟨l', h1, h2, h3⟩ := h
  exact ⟨l', h1.up hu, grown_trans h2 (grown_up hu _), h3⟩
theorem Reads.size {g : Nat} {l : Value} {w W : World} {E : Int} {zs : List Int} (h : Reads g l w E zs W) : w.heap.size ≤ W.heap.size := by
  obtain ⟨_, _, h2, _⟩ := h
  exact h2.size
theorem Reads.block {g : Nat} {l : Value} {w W : World} {E : Int} {zs : List Int} (h : Reads g l w E zs W) {B : Nat} {x : Obj} (hB : w.heap[B]? = some x) (hg : B ≠ g) : W.heap[B]? = some x := by
  obtain ⟨_, _, h2, _⟩ := h
  exact (h2.block B (lt_of_block hB) (fun e => hg (by simpa using e))).trans hB
/-- what is written into a block of the call's own -/
theorem Reads.put {g n : Nat} {l : Value} {w W W' : World} {E : Int} {zs : List Int} (h : Reads g l w E zs W) (hg : W.grownBy W' (some n)) (hn : n ≠ g) (hl : ∀ k, l.ownBlock = some k → k ≠ n) (hw : w.heap.size ≤ n) : Reads g l w E zs W' := by
  obtain ⟨l', h1, h2, h3⟩ := h
  exact ⟨l', ⟨(hg.block g (lt_of_block h1.1) (fun e => hn (by simpa using e.symm))).trans h1.1, h1.2.1.grownAt hg (fun b hb => hl b (h3 b hb)), h1.2.2⟩, grown_new h2 hg (fun q e => by cases e; exact hw), h3⟩
theorem Reads.trans {g : Nat} {l : Value} {w W W' : World} {E' : Int} {zs' : List Int} {l' : Value} (h2 : w.grownBy W (some g)) (h3 : ∀ k, l'.ownBlock = some k → l.ownBlock = some k) (k : Reads g l' W E' zs' W') : Reads g l w E' zs' W' := by
  obtain ⟨l'', k1, k2, k3⟩ := k
  exact ⟨l'', k1, grown_trans h2 k2, fun b hb => h3 b (k3 b hb)⟩
theorem rnum_on (g : Nat) (l : Value) (E : Int) (zs : List Int) (most : Int) (w W : World) (h : Reads g l w E zs W) (hu : U8s zs) (hm : -9223372036854775808 ≤ most ∧ most ≤ 9223372036854775807) :
    Calls Tryd.prog 26 #[.pointer (some ⟨g, 0, none⟩), .int .i64 most] W fun e w' => e = .returned (.int .i64 (rdNum E zs most).1) ∧ Reads g l w (rdNum E zs most).2.1 (rdNum E zs most).2.2 w' ∧ W.grownBy w' (some g) := by
  obtain ⟨l', h1, h2, h3⟩ := h
  refine (rnum_any g l' E zs most W h1 hu hm).mono fun e w' ⟨k1, k2⟩ => ⟨k1, Reads.trans h2 h3 k2, ?_⟩
  obtain ⟨_, _, k3, _⟩ := k2
  exact k3
theorem rtext_on (g : Nat) (l : Value) (E : Int) (zs : List Int) (most : Int) (w W : World) (h : Reads g l w E zs W) (hu : U8s zs) (hm : -9223372036854775808 ≤ most ∧ most ≤ 9223372036854775807) :
    Calls Tryd.prog 25 #[.pointer (some ⟨g, 0, none⟩), .int .i64 most] W fun e w' => e = .returned (.string (strOfNums (rdText E zs most).1)) ∧ Reads g l w (rdText E zs most).2.1 (rdText E zs most).2.2 w' ∧ W.grownBy w' (some g) := by
  obtain ⟨l', h1, h2, h3⟩ := h
  refine (rtext_any g l' E zs most W h1 hu hm).mono fun e w' ⟨k1, k2⟩ => ⟨k1, Reads.trans h2 h3 k2, ?_⟩
  obtain ⟨_, _, k3, _⟩ := k2
  exact k3
theorem rerr_on (g : Nat) (l : Value) (E : Int) (zs : List Int) (w W : World) (h : Reads g l w E zs W) :
    Calls Tryd.prog 27 #[.pointer (some ⟨g, 0, none⟩)] W fun e w' => e = .returned (.int .i64 E) ∧ W = w' := by
  obtain ⟨l', h1, _, _⟩ := h
  exact rerr_any g l' E W h1.1
/-- what was written is read -/
theorem gNum_enc (n : Int) (rest : List Int) (h0 : 0 ≤ n) (h1 : n ≤ 1099511627776) : gNum (octAll n 6 ++ rest) 1099511627776 = (n, 0, rest) := by
  have hl := octAll_length n 6
  have ht : (octAll n 6 ++ rest).take 6 = octAll n 6 := by rw [List.take_append_of_le_length (by omega), List.take_of_length_le (by omega)]
  have hd : (octAll n 6 ++ rest).drop 6 = rest := by rw [List.drop_append_of_le_length (by omega), List.drop_eq_nil_of_le (by omega), List.nil_append]
  have hg : getB (octAll n 6) = n := by rw [getB_back n 6 (by omega)]; omega
  unfold gNum
  rw [ht, hd, hg, if_neg (by rw [List.length_append]; omega), if_neg (by omega)]
theorem gText_enc (zs rest : List Int) (h : zs.length ≤ 4096) : gText ((octAll zs.length 2 ++ zs) ++ rest) 4096 = (zs, 0, rest) := by
  have hl := octAll_length (zs.length : Int) 2
  rw [List.append_assoc]
  have ht : (octAll zs.length 2 ++ (zs ++ rest)).take 2 = octAll zs.length 2 := by rw [List.take_append_of_le_length (by omega), List.take_of_length_le (by omega)]
  have hd : (octAll zs.length 2 ++ (zs ++ rest)).drop 2 = zs ++ rest := by rw [List.drop_append_of_le_length (by omega), List.drop_eq_nil_of_le (by omega), List.nil_append]
  have hg : getB (octAll zs.length 2) = zs.length := by rw [getB_back _ 2 (by omega)]; omega
  unfold gText
  rw [ht, hd, hg, if_neg (by rw [List.length_append]; omega), if_neg (by omega), if_neg (by rw [List.length_append, List.length_append]; omega)]
  simp
theorem rdNum_enc (n : Int) (rest : List Int) (h0 : 0 ≤ n) (h1 : n ≤ 1099511627776) : rdNum 0 (octAll n 6 ++ rest) 1099511627776 = (n, 0, rest) := by
  unfold rdNum; rw [if_pos rfl, gNum_enc n _ h0 h1]
theorem rdText_enc (zs rest : List Int) (h : zs.length ≤ 4096) : rdText 0 ((octAll zs.length 2 ++ zs) ++ rest) 4096 = (zs, 0, rest) := by
  unfold rdText; rw [if_pos rfl, gText_enc zs _ h]
end
end Go.Proofs.YtgmicppfiapilaaDoor
