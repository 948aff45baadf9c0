import Derived.Maps.OwnSet
import Derived.Maps.OwnOps
import Derived.DeepKeys4
import Derived.MapViews
import Derived.Test.YtmohlfeobdfhdaaUps
/-
  A set of pairs of numbers, as the program keeps one in a map.
-/
namespace Go.Proofs.Ytmohlfeobdfhdaa
set_option maxRecDepth 100000
section
set_option linter.unusedVariables false
open Go.RowKit Go.Maps Go.WideMaps

theorem slot_laid : laidOutB Try.prog = true := by kernel_rfl
theorem slot_row : (52 : TypeId) < Try.prog.types.size := of_decide_eq_true (by kernel_rfl)
theorem slot_wide : (match Try.prog.underlying 52 with | some (.array _ _) | some (.struct _) => true | _ => false) = true := by kernel_rfl
theorem slotLaw : Keyed Try.prog 52 := Keyed.of_law (deep_law_laid slot_laid (m := 2) (by omega) slot_row (by kernel_rfl) slot_wide)
theorem slot_zero (w : World) : (zeroValue 50).run Try.prog w = .ok (.agg #[]) w := by kernel_rfl
/-- what such a pair reads as -/
def slotL (f k : Int) : Lit := .string (keyBytes [.int .i64 f, .int .i64 k])
theorem slot_key {f k : Int} (hf : (Lit.int .i64 f).wf = true) (hk : (Lit.int .i64 k).wf = true) : keyOf Try.prog 52 (.agg #[.int .i64 f, .int .i64 k]) = some (slotL f k) := by
  have hkt : Try.prog.keyType 52 = true := by kernel_rfl
  have hcl : Try.prog.cellsOf 52 = 2 := by kernel_rfl
  have hci : Try.prog.cellsOf 3 = 1 := by kernel_rfl
  have hsz : ∃ m, Try.prog.types.size = m + 1 := ⟨_, (Nat.succ_pred_eq_of_pos (Nat.lt_of_le_of_lt (Nat.zero_le _) slot_row)).symm⟩
  obtain ⟨m, hm⟩ := hsz
  unfold keyOf
  simp only [Try.underlying52]
  rw [if_pos (by simp [hkt, Value.formed, Try.underlying52, hcl]), hm]
  unfold Program.keyLits
  simp only [Try.underlying52, Value.cells]
  rw [if_pos (by rw [hcl]; exact ⟨rfl, by kernel_rfl⟩)]
  simp [Program.keyLits, Try.underlying3, hf, hk, hci, slotL]
theorem slot_is {f k : Int} (hf : (Lit.int .i64 f).wf = true) (hk : (Lit.int .i64 k).wf = true) : WideAt.IsKeyLit (slotL f k) := slotLaw.key (slot_key hf hk)
theorem slot_inj {f k f' k' : Int} (hf : (Lit.int .i64 f).wf = true) (hk : (Lit.int .i64 k).wf = true) (hf' : (Lit.int .i64 f').wf = true) (hk' : (Lit.int .i64 k').wf = true) (h : slotL f k = slotL f' k') : f = f' ∧ k = k' := by
  have := slotLaw.inj (slot_key hf hk) (by rw [h]; exact slot_key hf' hk')
  simpa using this
/-- block b is a map that has just the pairs of which S says so -/
def SlotSet (W : World) (b n : Nat) (S : Int → Int → Bool) : Prop :=
  ∃ D : DataW Unit, W.ownsMap Try.prog 52 unitElem b n D ∧ Maps.IsMap D ∧ ∀ f k, (Lit.int .i64 f).wf = true → (Lit.int .i64 k).wf = true → Maps.has D (slotL f k) = S f k
theorem SlotSet.new (w : World) : SlotSet (w.alloc (.map #[] 0)) w.heap.size 0 (fun _ _ => false) :=
  ⟨_, World.ownsMap_made w _ _ _, Maps.isMap_empty, fun _ _ _ _ => rfl⟩
theorem SlotSet.lt {W : World} {b n : Nat} {S : Int → Int → Bool} (h : SlotSet W b n S) : b < W.heap.size := by
  obtain ⟨D, h1, _⟩ := h; exact h1.lt
theorem SlotSet.kept {W W' : World} {b n : Nat} {S : Int → Int → Bool} {row : Option Nat} (h : SlotSet W b n S) (hg : W.grownBy W' row) (hne : some b ≠ row) : SlotSet W' b n S := by
  obtain ⟨D, h1, h2⟩ := h; exact ⟨D, h1.kept hg hne, h2⟩
theorem SlotSet.up {W W' : World} {b n : Nat} {S : Int → Int → Bool} (h : SlotSet W b n S) (hu : Up W W') : SlotSet W' b n S := h.kept (grown_up hu none) (by simp)
theorem SlotSet.mono {W : World} {b n n' : Nat} {S : Int → Int → Bool} (h : SlotSet W b n S) (hn : n ≤ n') : SlotSet W b n' S := by
  obtain ⟨D, h1, h2⟩ := h; exact ⟨D, h1.mono hn, h2⟩
theorem SlotSet.congr {W : World} {b n : Nat} {S T : Int → Int → Bool} (h : SlotSet W b n S) (hST : ∀ f k, (Lit.int .i64 f).wf = true → (Lit.int .i64 k).wf = true → S f k = T f k) : SlotSet W b n T := by
  obtain ⟨D, h1, h2, h3⟩ := h; exact ⟨D, h1, h2, fun f k hf hk => (h3 f k hf hk).trans (hST f k hf hk)⟩

section
variable {w : World} {ops : Array Oper} {rest : List Oper} {o : Oper} {a : Act} {Q : Exit → Act → World → Prop}
/-- is it there? -/
theorem wpList_slotHas (hg : o.guard = none) (m x : Operand) (hop : o.op = Op.lookup 39 m x true) {b n : Nat} {S : Int → Int → Bool} (hs : SlotSet w b n S) {f k : Int} (hf : (Lit.int .i64 f).wf = true) (hk : (Lit.int .i64 k).wf = true)
    (hm : a.eval m = .map (some b)) (hx : a.eval x = .agg #[.int .i64 f, .int .i64 k]) (hK : wpList Try.prog ops Q rest (a.put o.dst (.tuple #[.agg #[], .bool (S f k)])) w) : wpList Try.prog ops Q (o :: rest) a w := by
  obtain ⟨D, h1, h2, h3⟩ := hs
  refine wpList_lookup_own_unit w hg m x _ hop _ _ slotLaw Try.underlying39 (slot_zero w) b n D hm h1 _ _ hx (slot_key hf hk) ?_
  rw [h3 f k hf hk]; exact hK
/-- one more -/
theorem wpList_slotPut (hg : o.guard = none) (m x v : Operand) (hop : o.op = Op.mapUpdate 39 m x v) {b n : Nat} {S : Int → Int → Bool} (hs : SlotSet w b n S) (hn : n < maxLen) {f k : Int} (hf : (Lit.int .i64 f).wf = true) (hk : (Lit.int .i64 k).wf = true)
    (hm : a.eval m = .map (some b)) (hx : a.eval x = .agg #[.int .i64 f, .int .i64 k]) (hv : a.eval v = .agg #[])
    (hK : ∀ w', SlotSet w' b (n + 1) (fun f' k' => (decide (f' = f) && decide (k' = k)) || S f' k') → w.grownBy w' (some b) → wpList Try.prog ops Q rest (a.put o.dst undef) w') : wpList Try.prog ops Q (o :: rest) a w := by
  obtain ⟨D, h1, h2, h3⟩ := hs
  refine wpList_mapUpdate_own w hg m x v _ hop _ _ slotLaw Try.underlying39 (unitElem (H := Unit)) b n D hm h1 hn _ _ _ hx hv (slot_key hf hk) _ [] unitElem_mk (fun w' k1 k2 => hK w' ⟨_, k1, h2.put _ _, fun f' k' hf' hk' => ?_⟩ k2)
  by_cases e : f' = f ∧ k' = k
  · obtain ⟨rfl, rfl⟩ := e
    rw [Maps.has_put_same h2 (slot_is hf hk)]; simp
  · rw [Maps.has_put_other (fun h => e (slot_inj hf' hk' hf hk h)), h3 f' k' hf' hk']
    have : (decide (f' = f) && decide (k' = k)) = false := by rw [Bool.and_eq_false_iff]; simp only [decide_eq_false_iff_not]; exact Decidable.not_and_iff_or_not.1 e
    simp [this]
/-- without one -/
theorem wpList_slotDel (hg : o.guard = none) (m x : Operand) (hop : o.op = Op.call { callee := Callee.builtin Builtin.delete, args := #[m, x], argTypes := #[39, 52] }) {b n : Nat} {S : Int → Int → Bool} (hs : SlotSet w b n S) {f k : Int} (hf : (Lit.int .i64 f).wf = true) (hk : (Lit.int .i64 k).wf = true)
    (hm : a.eval m = .map (some b)) (hx : a.eval x = .agg #[.int .i64 f, .int .i64 k])
    (hK : ∀ w', SlotSet w' b n (fun f' k' => !(decide (f' = f) && decide (k' = k)) && S f' k') → w.grownBy w' (some b) → wpList Try.prog ops Q rest (a.put o.dst (.tuple #[])) w') : wpList Try.prog ops Q (o :: rest) a w := by
  obtain ⟨D, h1, h2, h3⟩ := hs
  refine wpList_delete_own w hg m x _ _ hop _ slotLaw Try.underlying39 (unitElem (H := Unit)) b n D hm h1 _ _ hx (slot_key hf hk) (fun w' k1 k2 => hK w' ⟨_, k1, h2.del _, fun f' k' hf' hk' => ?_⟩ k2.grown)
  by_cases e : f' = f ∧ k' = k
  · obtain ⟨rfl, rfl⟩ := e
    rw [Maps.has_del_same]; simp
  · rw [Maps.has_del_other (fun h => e (slot_inj hf' hk' hf hk h)), h3 f' k' hf' hk']
    have : (decide (f' = f) && decide (k' = k)) = false := by rw [Bool.and_eq_false_iff]; simp only [decide_eq_false_iff_not]; exact Decidable.not_and_iff_or_not.1 e
    simp [this]
end
end
end Go.Proofs.Ytmohlfeobdfhdaa
