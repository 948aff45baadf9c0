import Derived.Test.YtnipkhgaceicbaaUps
import Derived.Test.YtnipkhgaceicbaaOct
namespace Go.Proofs.Ytnipkhgaceicbaa
/-
  Slice expressions of octets: s[:k:k], s[k:], s[p:q].
-/
section
set_option maxRecDepth 100000
section
set_option linter.unusedVariables false
open Go.RowKit

/-- s[:k:k] -/
theorem cut_pre3 (a : Option Addr) (n c k : Nat) (hk : k ≤ c) (w : World) : (Instr.sliceAt 74 (.slice a n c) none (some (.int .i64 k)) (some (.int .i64 k))).run Try.prog w = .ok (.slice a k k) w := by
  have h1 : (Instr.slice 74 (.slice a n c) none (some (.int .i64 k)) (some (.int .i64 k))).run Try.prog w = .ok (.slice a k k) w := by
    have hs : (sizeOf 5).run Try.prog w = .ok 1 w := by simp [go_sem]
    simp [Instr.slice, run_underlying (P := Try.prog) (w := w) Try.underlying74, Instr.sliceBounds, run_sliceBound, go_sem, hk]
  simpa [Instr.sliceAt, run_underlying (P := Try.prog) (w := w) Try.underlying74] using h1
/-- s[k:] -/
theorem cut_suf (a : Option Addr) (n c k : Nat) (hk : k ≤ n) (hn : n ≤ c) : ∃ a' c', (∀ w : World, (Instr.sliceAt 74 (.slice a n c) (some (.int .i64 k)) none none).run Try.prog w = .ok (.slice a' (n - k) c') w) ∧
    (∀ (W : World) (zs : List Int), Ints .u8 W (.slice a n c) zs → Ints .u8 W (.slice a' (n - k) c') (zs.drop k)) ∧ (a'.map (·.block) = a.map (·.block)) := by
  have hrun : ∀ w : World, (Instr.sliceAt 74 (.slice a n c) (some (.int .i64 k)) none none).run Try.prog w = .ok (.slice (if c = k then a else a.map (·.add k)) (n - k) (c - k)) w := by
    intro w
    have h1 : (Instr.slice 74 (.slice a n c) (some (.int .i64 k)) none none).run Try.prog w = .ok (.slice (if c = k then a else a.map (·.add k)) (n - k) (c - k)) w := by
      have hs : (sizeOf 5).run Try.prog w = .ok 1 w := by simp [go_sem]
      have h0 : (k : Int) ≤ (n : Int) := by omega
      simp [Instr.slice, run_underlying (P := Try.prog) (w := w) Try.underlying74, Instr.sliceBounds, run_sliceBound, go_sem, hk]
    simpa [Instr.sliceAt, run_underlying (P := Try.prog) (w := w) Try.underlying74] using h1
  refine ⟨_, _, hrun, ?_, ?_⟩
  · intro W zs h
    obtain ⟨a2, c2, e, h2, h3, h4⟩ := h
    simp only [Value.slice.injEq] at e
    obtain ⟨rfl, rfl, rfl⟩ := e
    rcases h4 with rfl | ⟨b, off, rfl, hc⟩
    · simp only [List.length_nil, List.drop_nil, Nat.zero_sub]
      refine Ints.empty fun e => ?_
      split at e
      · have := h3 e; omega
      · have := h3 (by simpa using e); omega
    · by_cases hck : c = k
      · rw [if_pos hck, show zs.length - k = 0 from by omega, List.drop_eq_nil_of_le (by omega)]
        exact Ints.empty (fun e => by cases e)
      · rw [if_neg hck]
        have h0 : Ints .u8 W (.slice (some ⟨b, off, none⟩) zs.length c) zs := ⟨_, _, rfl, h2, h3, .inr ⟨b, off, rfl, hc⟩⟩
        have h5 := h0.suf k hk
        have ea : (⟨b, off, none⟩ : Addr).add k = ⟨b, off + k, none⟩ := by unfold Addr.add; split <;> simp_all
        rw [← ea] at h5
        exact h5
  · split
    · rfl
    · cases a with
      | none => rfl
      | some ad =>
        simp only [Option.map_some]
        unfold Addr.add
        split <;> rfl

/-- s[p:q] -/
theorem cut_mid (a : Option Addr) (n c p x : Nat) (hk : p + x ≤ n) (hn : n ≤ c) : ∃ a' c', (∀ w : World, (Instr.sliceAt 74 (.slice a n c) (some (.int .i64 p)) (some (.int .i64 ((p : Int) + (x : Int)))) none).run Try.prog w = .ok (.slice a' x c') w) ∧
    (∀ (W : World) (zs : List Int), Ints .u8 W (.slice a n c) zs → Ints .u8 W (.slice a' x c') ((zs.drop p).take x)) := by
  have hrun : ∀ w : World, (Instr.sliceAt 74 (.slice a n c) (some (.int .i64 p)) (some (.int .i64 ((p : Int) + (x : Int)))) none).run Try.prog w = .ok (.slice (if c = p then a else a.map (·.add p)) x (c - p)) w := by
    intro w
    have h1 : (Instr.slice 74 (.slice a n c) (some (.int .i64 p)) (some (.int .i64 ((p : Int) + (x : Int)))) none).run Try.prog w = .ok (.slice (if c = p then a else a.map (·.add p)) x (c - p)) w := by
      have hs : (sizeOf 5).run Try.prog w = .ok 1 w := by simp [go_sem]
      have h0 : (0 : Int) ≤ (p : Int) + (x : Int) := by omega
      have h2 : (p : Int) + (x : Int) ≤ (c : Int) := by omega
      have h3 : ((p : Int) + (x : Int)).toNat = p + x := by omega
      have e1 := run_sliceBound (P := Try.prog) (w := w) .i64 ((p : Int) + (x : Int)) c .sliceAcap h0 h2
      simp [Instr.slice, run_underlying (P := Try.prog) (w := w) Try.underlying74, Instr.sliceBounds, e1, h3, go_sem]
    simpa [Instr.sliceAt, run_underlying (P := Try.prog) (w := w) Try.underlying74] using h1
  refine ⟨_, _, hrun, fun W zs h => ?_⟩
  obtain ⟨a2, c2, e, h2, h3, h4⟩ := h
  simp only [Value.slice.injEq] at e
  obtain ⟨rfl, rfl, rfl⟩ := e
  have hcut : ∀ (a9 : Option Addr) (c9 : Nat), x ≤ c9 → (a9 = none → c9 = 0) → Ints .u8 W (.slice a9 (zs.length - p) c9) (zs.drop p) → Ints .u8 W (.slice a9 x c9) ((zs.drop p).take x) := fun a9 c9 _ _ hi => hi.pre x (by rw [List.length_drop]; omega)
  rcases h4 with rfl | ⟨b, off, rfl, hc⟩
  · obtain rfl : x = 0 := by simp at hk; omega
    simp only [List.drop_nil, List.take_nil]
    refine Ints.empty fun e => ?_
    split at e
    · have := h3 e; omega
    · have := h3 (by simpa using e); omega
  · by_cases hck : c = p
    · obtain rfl : x = 0 := by omega
      rw [if_pos hck, List.take_zero]
      exact Ints.empty (fun e => by cases e)
    · rw [if_neg hck]
      have h0 : Ints .u8 W (.slice (some ⟨b, off, none⟩) zs.length c) zs := ⟨_, _, rfl, h2, h3, .inr ⟨b, off, rfl, hc⟩⟩
      have h5 := h0.suf p (by omega)
      have ea : (⟨b, off, none⟩ : Addr).add p = ⟨b, off + p, none⟩ := by unfold Addr.add; split <;> simp_all
      rw [← ea] at h5
      exact hcut _ _ (by omega) (fun e => by cases e) h5

theorem cut_off {a a' : Option Addr} (hB : a'.map (·.block) = a.map (·.block)) (n c n' c' : Nat) : ∀ k, (Value.slice a' n' c').ownBlock = some k → (Value.slice a n c).ownBlock = some k := by
  intro k hk
  cases a' with
  | none => simp [Value.ownBlock] at hk
  | some ad' =>
    cases a with
    | none => simp at hB
    | some ad => simp [Value.ownBlock] at hk hB ⊢; omega
end
end
end Go.Proofs.Ytnipkhgaceicbaa
