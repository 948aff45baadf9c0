import Derived.Test.YtfenmhddlojahaaGreatPkWriter
import Derived.Test.YtfenmhddlojahaaGreatOct
namespace Go.Proofs.YtfenmhddlojahaaGreat
/-
  pack: the reader.
-/
section
set_option maxRecDepth 100000
section
set_option linter.unusedVariables false
open Go.RowKit

theorem Ints.keptBut {S : Nat → Prop} {k : IntKind} {W W' : World} {v : Value} {zs : List Int} (h : Ints k W v zs) (hk : KeptBut S W W') (hS : ∀ b, v.ownBlock = some b → ¬ S b) : Ints k W' v zs := by
  obtain ⟨a, cap, rfl, h2, h3, h4⟩ := h
  refine ⟨a, cap, rfl, h2, h3, h4.imp id ?_⟩
  rintro ⟨b, off, rfl, hc⟩
  exact ⟨b, off, rfl, fun j hj => by
    have := hc j hj
    exact (World.cell?_of_block (a := ⟨b, off + j, none⟩) (hk.block b (World.block_lt_of_cell? W _ this) (hS b rfl))).trans this⟩
theorem Ints.grownAt {k : IntKind} {W W' : World} {v : Value} {zs : List Int} {g : Nat} (h : Ints k W v zs) (hg : W.grownBy W' (some g)) (hS : ∀ b, v.ownBlock = some b → b ≠ g) : Ints k W' v zs :=
  h.keptBut (S := fun x => x = g) (KeptBut.of_grown hg (fun k e => by cases e; rfl)) hS

/-- s[:k:k] -/
theorem cut_pre3 (a : Option Addr) (n c k : Nat) (hk : k ≤ c) (w : World) : (Instr.sliceAt 31 (.slice a n c) none (some (.int .i64 k)) (some (.int .i64 k))).run Tryz.prog w = .ok (.slice a k k) w := by
  have h1 : (Instr.slice 31 (.slice a n c) none (some (.int .i64 k)) (some (.int .i64 k))).run Tryz.prog w = .ok (.slice a k k) w := by
    have hs : (sizeOf 5).run Tryz.prog w = .ok 1 w := by simp [go_sem]
    simp [Instr.slice, run_underlying (P := Tryz.prog) (w := w) Tryz.underlying31, Instr.sliceBounds, run_sliceBound, go_sem, hk]
  simpa [Instr.sliceAt, run_underlying (P := Tryz.prog) (w := w) Tryz.underlying31] using h1
/-- s[k:] -/
theorem cut_suf (a : Option Addr) (n c k : Nat) (hk : k ≤ n) (hn : n ≤ c) : ∃ a' c', (∀ w : World, (Instr.sliceAt 31 (.slice a n c) (some (.int .i64 k)) none none).run Tryz.prog w = .ok (.slice a' (n - k) c') w) ∧
    (∀ (W : World) (zs : List Int), Ints .u8 W (.slice a n c) zs → Ints .u8 W (.slice a' (n - k) c') (zs.drop k)) ∧ (a'.map (·.block) = a.map (·.block)) := by
  have hrun : ∀ w : World, (Instr.sliceAt 31 (.slice a n c) (some (.int .i64 k)) none none).run Tryz.prog w = .ok (.slice (if c = k then a else a.map (·.add k)) (n - k) (c - k)) w := by
    intro w
    have h1 : (Instr.slice 31 (.slice a n c) (some (.int .i64 k)) none none).run Tryz.prog w = .ok (.slice (if c = k then a else a.map (·.add k)) (n - k) (c - k)) w := by
      have hs : (sizeOf 5).run Tryz.prog w = .ok 1 w := by simp [go_sem]
      have h0 : (k : Int) ≤ (n : Int) := by omega
      simp [Instr.slice, run_underlying (P := Tryz.prog) (w := w) Tryz.underlying31, Instr.sliceBounds, run_sliceBound, go_sem, hk]
    simpa [Instr.sliceAt, run_underlying (P := Tryz.prog) (w := w) Tryz.underlying31] using h1
  refine ⟨_, _, hrun, ?_, ?_⟩
  · intro W zs h
    obtain ⟨a2, c2, e, h2, h3, h4⟩ := h
    simp only [Value.slice.injEq] at e
    obtain ⟨rfl, rfl, rfl⟩ := e
    rcases h4 with rfl | ⟨b, off, rfl, hc⟩
    · simp only [List.length_nil, List.drop_nil, Nat.zero_sub]
      refine Ints.empty fun e => ?_
      split at e
      · have := h3 e; omega
      · have := h3 (by simpa using e); omega
    · by_cases hck : c = k
      · rw [if_pos hck, show zs.length - k = 0 from by omega, List.drop_eq_nil_of_le (by omega)]
        exact Ints.empty (fun e => by cases e)
      · rw [if_neg hck]
        have h0 : Ints .u8 W (.slice (some ⟨b, off, none⟩) zs.length c) zs := ⟨_, _, rfl, h2, h3, .inr ⟨b, off, rfl, hc⟩⟩
        have h5 := h0.suf k hk
        have ea : (⟨b, off, none⟩ : Addr).add k = ⟨b, off + k, none⟩ := by unfold Addr.add; split <;> simp_all
        rw [← ea] at h5
        exact h5
  · split
    · rfl
    · cases a with
      | none => rfl
      | some ad =>
        simp only [Option.map_some]
        unfold Addr.add
        split <;> rfl

/-- s[p:q] -/
theorem cut_mid (a : Option Addr) (n c p x : Nat) (hk : p + x ≤ n) (hn : n ≤ c) : ∃ a' c', (∀ w : World, (Instr.sliceAt 31 (.slice a n c) (some (.int .i64 p)) (some (.int .i64 ((p : Int) + (x : Int)))) none).run Tryz.prog w = .ok (.slice a' x c') w) ∧
    (∀ (W : World) (zs : List Int), Ints .u8 W (.slice a n c) zs → Ints .u8 W (.slice a' x c') ((zs.drop p).take x)) := by
  have hrun : ∀ w : World, (Instr.sliceAt 31 (.slice a n c) (some (.int .i64 p)) (some (.int .i64 ((p : Int) + (x : Int)))) none).run Tryz.prog w = .ok (.slice (if c = p then a else a.map (·.add p)) x (c - p)) w := by
    intro w
    have h1 : (Instr.slice 31 (.slice a n c) (some (.int .i64 p)) (some (.int .i64 ((p : Int) + (x : Int)))) none).run Tryz.prog w = .ok (.slice (if c = p then a else a.map (·.add p)) x (c - p)) w := by
      have hs : (sizeOf 5).run Tryz.prog w = .ok 1 w := by simp [go_sem]
      have h0 : (0 : Int) ≤ (p : Int) + (x : Int) := by omega
      have h2 : (p : Int) + (x : Int) ≤ (c : Int) := by omega
      have h3 : ((p : Int) + (x : Int)).toNat = p + x := by omega
      have e1 := run_sliceBound (P := Tryz.prog) (w := w) .i64 ((p : Int) + (x : Int)) c .sliceAcap h0 h2
      simp [Instr.slice, run_underlying (P := Tryz.prog) (w := w) Tryz.underlying31, Instr.sliceBounds, e1, h3, go_sem]
    simpa [Instr.sliceAt, run_underlying (P := Tryz.prog) (w := w) Tryz.underlying31] using h1
  refine ⟨_, _, hrun, fun W zs h => ?_⟩
  obtain ⟨a2, c2, e, h2, h3, h4⟩ := h
  simp only [Value.slice.injEq] at e
  obtain ⟨rfl, rfl, rfl⟩ := e
  have hcut : ∀ (a9 : Option Addr) (c9 : Nat), x ≤ c9 → (a9 = none → c9 = 0) → Ints .u8 W (.slice a9 (zs.length - p) c9) (zs.drop p) → Ints .u8 W (.slice a9 x c9) ((zs.drop p).take x) := fun a9 c9 _ _ hi => hi.pre x (by rw [List.length_drop]; omega)
  rcases h4 with rfl | ⟨b, off, rfl, hc⟩
  · obtain rfl : x = 0 := by simp at hk; omega
    simp only [List.drop_nil, List.take_nil]
    refine Ints.empty fun e => ?_
    split at e
    · have := h3 e; omega
    · have := h3 (by simpa using e); omega
  · by_cases hck : c = p
    · obtain rfl : x = 0 := by omega
      rw [if_pos hck, List.take_zero]
      exact Ints.empty (fun e => by cases e)
    · rw [if_neg hck]
      have h0 : Ints .u8 W (.slice (some ⟨b, off, none⟩) zs.length c) zs := ⟨_, _, rfl, h2, h3, .inr ⟨b, off, rfl, hc⟩⟩
      have h5 := h0.suf p (by omega)
      have ea : (⟨b, off, none⟩ : Addr).add p = ⟨b, off + p, none⟩ := by unfold Addr.add; split <;> simp_all
      rw [← ea] at h5
      exact hcut _ _ (by omega) (fun e => by cases e) h5

theorem cut_off {a a' : Option Addr} (hB : a'.map (·.block) = a.map (·.block)) (n c n' c' : Nat) : ∀ k, (Value.slice a' n' c').ownBlock = some k → (Value.slice a n c).ownBlock = some k := by
  intro k hk
  cases a' with
  | none => simp [Value.ownBlock] at hk
  | some ad' =>
    cases a with
    | none => simp at hB
    | some ad => simp [Value.ownBlock] at hk hB ⊢; omega

end
end

/-
  pack: the reader's Num and Text.
-/
section
set_option maxRecDepth 100000
section
set_option linter.unusedVariables false
open Go.RowKit

/-- what is read of octets without error: the value, the error, what is left -/
def gNum (zs : List Int) (most : Int) : Int × Int × List Int :=
  if zs.length < 6 then (0, 8, []) else if most < getB (zs.take 6) ∨ 1099511627776 < getB (zs.take 6) then (0, 4, []) else (getB (zs.take 6), 0, zs.drop 6)
def gText (zs : List Int) (most : Int) : List Int × Int × List Int :=
  if zs.length < 2 then ([], 8, []) else if most < getB (zs.take 2) ∨ 4096 < getB (zs.take 2) then ([], 5, []) else
    if (zs.length : Int) < 2 + getB (zs.take 2) then ([], 8, []) else ((zs.drop 2).take (getB (zs.take 2)).toNat, 0, (zs.drop 2).drop (getB (zs.take 2)).toNat)
theorem nil_off (l : Value) : ∀ k, (Value.slice none 0 0).ownBlock = some k → l.ownBlock = some k := fun k e => by simp [Value.ownBlock] at e

/-- a read of whatever reader -/
def rdNum (E : Int) (zs : List Int) (most : Int) : Int × Int × List Int := if E = 0 then gNum zs most else (0, E, zs)
def rdText (E : Int) (zs : List Int) (most : Int) : List Int × Int × List Int := if E = 0 then gText zs most else ([], E, zs)
theorem grown_self (w : World) (g : Nat) : w.grownBy w (some g) := ⟨rfl, rfl, rfl, Nat.le_refl _, fun _ _ _ => rfl⟩
theorem rdNum_inv (E : Int) (zs : List Int) (most : Int) (h0 : E ≠ 0 → zs = []) (hu : U8s zs) : ((rdNum E zs most).2.1 ≠ 0 → (rdNum E zs most).2.2 = []) ∧ U8s (rdNum E zs most).2.2 ∧ (rdNum E zs most).2.2.length ≤ zs.length := by
  have hn : U8s ([] : List Int) := fun j hj => by simp at hj
  unfold rdNum gNum
  split
  · split
    · exact ⟨fun _ => rfl, hn, Nat.zero_le _⟩
    · split
      · exact ⟨fun _ => rfl, hn, Nat.zero_le _⟩
      · exact ⟨fun h => absurd rfl h, hu.drop 6, by simp⟩
  · exact ⟨h0, hu, Nat.le_refl _⟩
theorem rdText_inv (E : Int) (zs : List Int) (most : Int) (h0 : E ≠ 0 → zs = []) (hu : U8s zs) : ((rdText E zs most).2.1 ≠ 0 → (rdText E zs most).2.2 = []) ∧ U8s (rdText E zs most).2.2 ∧ (rdText E zs most).2.2.length ≤ zs.length := by
  have hn : U8s ([] : List Int) := fun j hj => by simp at hj
  unfold rdText gText
  split
  · split
    · exact ⟨fun _ => rfl, hn, Nat.zero_le _⟩
    · split
      · exact ⟨fun _ => rfl, hn, Nat.zero_le _⟩
      · split
        · exact ⟨fun _ => rfl, hn, Nat.zero_le _⟩
        · exact ⟨fun h => absurd rfl h, (hu.drop 2).drop _, by simp only [List.length_drop]; omega⟩
  · exact ⟨h0, hu, Nat.le_refl _⟩
end
end

/-
  pack: reading on and on of one reader.
-/
section
set_option maxRecDepth 100000
section
set_option linter.unusedVariables false
open Go.RowKit

/-- what was written is read -/
theorem gNum_enc (n : Int) (rest : List Int) (h0 : 0 ≤ n) (h1 : n ≤ 1099511627776) : gNum (octAll n 6 ++ rest) 1099511627776 = (n, 0, rest) := by
  have hl := octAll_length n 6
  have ht : (octAll n 6 ++ rest).take 6 = octAll n 6 := by rw [List.take_append_of_le_length (by omega), List.take_of_length_le (by omega)]
  have hd : (octAll n 6 ++ rest).drop 6 = rest := by rw [List.drop_append_of_le_length (by omega), List.drop_eq_nil_of_le (by omega), List.nil_append]
  have hg : getB (octAll n 6) = n := by rw [getB_back n 6 (by omega)]; omega
  unfold gNum
  rw [ht, hd, hg, if_neg (by rw [List.length_append]; omega), if_neg (by omega)]
theorem gText_enc (zs rest : List Int) (h : zs.length ≤ 4096) : gText ((octAll zs.length 2 ++ zs) ++ rest) 4096 = (zs, 0, rest) := by
  have hl := octAll_length (zs.length : Int) 2
  rw [List.append_assoc]
  have ht : (octAll zs.length 2 ++ (zs ++ rest)).take 2 = octAll zs.length 2 := by rw [List.take_append_of_le_length (by omega), List.take_of_length_le (by omega)]
  have hd : (octAll zs.length 2 ++ (zs ++ rest)).drop 2 = zs ++ rest := by rw [List.drop_append_of_le_length (by omega), List.drop_eq_nil_of_le (by omega), List.nil_append]
  have hg : getB (octAll zs.length 2) = zs.length := by rw [getB_back _ 2 (by omega)]; omega
  unfold gText
  rw [ht, hd, hg, if_neg (by rw [List.length_append]; omega), if_neg (by omega), if_neg (by rw [List.length_append, List.length_append]; omega)]
  simp
theorem rdNum_enc (n : Int) (rest : List Int) (h0 : 0 ≤ n) (h1 : n ≤ 1099511627776) : rdNum 0 (octAll n 6 ++ rest) 1099511627776 = (n, 0, rest) := by
  unfold rdNum; rw [if_pos rfl, gNum_enc n _ h0 h1]
theorem rdText_enc (zs rest : List Int) (h : zs.length ≤ 4096) : rdText 0 ((octAll zs.length 2 ++ zs) ++ rest) 4096 = (zs, 0, rest) := by
  unfold rdText; rw [if_pos rfl, gText_enc zs _ h]
end
end
end Go.Proofs.YtfenmhddlojahaaGreat
