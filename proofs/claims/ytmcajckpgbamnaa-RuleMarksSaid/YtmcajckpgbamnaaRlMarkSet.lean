import Derived.Maps.OwnSet
import Derived.Maps.OwnOps
import Derived.DeepKeys4
import Derived.MapViews
import Derived.RangeFuncSeq
import Derived.Test.YtmcajckpgbamnaaUps
import Derived.Test.YtmcajckpgbamnaaGrowth
/-
  A set of marks, as the program keeps one in a map; what has come of it.
-/
namespace Go.Proofs.Ytmcajckpgbamnaa
set_option maxRecDepth 100000
section
set_option linter.unusedVariables false
open Go.RowKit Go.Maps Go.WideMaps

/-- a mark: its view, height, block -/
structure Mr where
  V : Int
  H : Int
  B : ByteArray
noncomputable instance mrDec : DecidableEq Mr := fun a b => Classical.propDecidable _
def mrC (x : Mr) : List Value := [.int .i64 x.V, .int .i64 x.H, .string x.B]
def mrA (x : Mr) : Array Value := #[.int .i64 x.V, .int .i64 x.H, .string x.B]
def MrOk (x : Mr) : Prop := (Lit.int .i64 x.V).wf = true ∧ (Lit.int .i64 x.H).wf = true ∧ x.B.size ≤ maxLen
theorem msLaid : laidOutB Try.prog = true := by kernel_rfl
theorem msRow : (26 : TypeId) < Try.prog.types.size := of_decide_eq_true (by kernel_rfl)
theorem msWide : (match Try.prog.underlying 26 with | some (.array _ _) | some (.struct _) => true | _ => false) = true := by kernel_rfl
theorem msLaw : Keyed Try.prog 26 := Keyed.of_law (deep_law_laid msLaid (m := 2) (by omega) msRow (by kernel_rfl) msWide)
theorem msZero (w : World) : (zeroValue 39).run Try.prog w = .ok (.agg #[]) w := by kernel_rfl
/-- what a mark reads as -/
def mrL (x : Mr) : Lit := .string (keyBytes [.int .i64 x.V, .int .i64 x.H, .string x.B.data.toList])
theorem mrKey {x : Mr} (h : MrOk x) : keyOf Try.prog 26 (.agg (mrA x)) = some (mrL x) := by
  obtain ⟨h1, h2, h3⟩ := h
  have hkt : Try.prog.keyType 26 = true := by kernel_rfl
  have hcl : Try.prog.cellsOf 26 = 3 := by kernel_rfl
  have hci : Try.prog.cellsOf 3 = 1 := by kernel_rfl
  have hcs : Try.prog.cellsOf 9 = 1 := by kernel_rfl
  have hsz : ∃ m, Try.prog.types.size = m + 1 := ⟨_, (Nat.succ_pred_eq_of_pos (Nat.lt_of_le_of_lt (Nat.zero_le _) msRow)).symm⟩
  obtain ⟨m, hm⟩ := hsz
  unfold keyOf mrA
  simp only [Try.underlying26]
  rw [if_pos (by simp [hkt, Value.formed, Try.underlying26, hcl]), hm]
  unfold Program.keyLits
  simp only [Try.underlying26, Value.cells]
  rw [if_pos (by rw [hcl]; exact ⟨rfl, by kernel_rfl⟩)]
  simp [Program.keyLits, Try.underlying3, Try.underlying9, h1, h2, h3, hci, hcs, mrL]
theorem klInt {m : Nat} {c : Value} {l : List Lit} (h : Try.prog.keyLits (m + 1) 3 [c] = some l) : ∃ n, c = .int .i64 n ∧ (Lit.int .i64 n).wf = true := by
  cases c <;> simp [Program.keyLits, Try.underlying3] at h
  obtain ⟨⟨rfl, h1⟩, _⟩ := h
  exact ⟨_, rfl, h1⟩
theorem klStr {m : Nat} {c : Value} {l : List Lit} (h : Try.prog.keyLits (m + 1) 9 [c] = some l) : ∃ n, c = .string n ∧ n.size ≤ maxLen := by
  cases c <;> simp [Program.keyLits, Try.underlying9] at h
  exact ⟨_, rfl, h.1⟩
theorem mrKey_inv {v : Value} {kl : Lit} (h : keyOf Try.prog 26 v = some kl) : ∃ x : Mr, v = .agg (mrA x) ∧ MrOk x := by
  have hcl : Try.prog.cellsOf 26 = 3 := by kernel_rfl
  have hci : Try.prog.cellsOf 3 = 1 := by kernel_rfl
  have hcs : Try.prog.cellsOf 9 = 1 := by kernel_rfl
  have hsz : ∃ m, Try.prog.types.size = m + 1 := ⟨_, (Nat.succ_pred_eq_of_pos (Nat.lt_of_le_of_lt (Nat.zero_le _) msRow)).symm⟩
  obtain ⟨m, hm⟩ := hsz
  unfold keyOf at h
  simp only [Try.underlying26] at h
  split at h
  · rename_i hf
    rw [Bool.and_eq_true] at hf
    obtain ⟨cs, rfl⟩ : ∃ cs, v = .agg cs := by
      have := hf.2
      cases v <;> simp [Value.formed, Try.underlying26] at this
      exact ⟨_, rfl⟩
    rw [hm] at h
    unfold Program.keyLits at h
    simp only [Try.underlying26, Value.cells] at h
    split at h
    · rename_i hl
      rw [hcl] at hl
      have hl3 := hl.1
      match cs, hl3 with
      | ⟨[c0, c1, c2]⟩, _ =>
        obtain ⟨ls, h1, _⟩ := Option.map_eq_some_iff.1 h
        obtain ⟨ls, h1, _⟩ := Option.map_eq_some_iff.1 h1
        simp only [List.mapM_cons, List.mapM_nil, hci, hcs, Option.bind_eq_bind, Option.bind_eq_some_iff, List.drop_zero, List.drop_succ_cons, List.take_succ_cons, List.take_zero] at h1
        obtain ⟨l0, k0, _, ⟨l1, k1, _, ⟨l2, k2, _⟩, _⟩, _⟩ := h1
        obtain ⟨V, rfl, w0⟩ := klInt k0
        obtain ⟨H, rfl, w1⟩ := klInt k1
        obtain ⟨B, rfl, w2⟩ := klStr k2
        exact ⟨⟨V, H, B⟩, rfl, w0, w1, w2⟩
    · simp at h
  · cases h
theorem mrIs {x : Mr} (h : MrOk x) : WideAt.IsKeyLit (mrL x) := msLaw.key (mrKey h)
theorem mrInj {x y : Mr} (hx : MrOk x) (hy : MrOk y) (h : mrL x = mrL y) : x = y := by
  have := msLaw.inj (mrKey hx) (by rw [h]; exact mrKey hy)
  simp only [mrA, Value.agg.injEq, Array.mk.injEq, List.cons.injEq, Value.int.injEq, Value.string.injEq, true_and, and_true] at this
  obtain ⟨x0, x1, x2⟩ := x
  obtain ⟨y0, y1, y2⟩ := y
  obtain ⟨e1, e2, e3⟩ := this
  simp only at e1 e2 e3
  subst e1 e2 e3; rfl
noncomputable def addM (L : List Mr) (k : Mr) : List Mr := if k ∈ L then L else L ++ [k]
/-- block b is a map that has just these marks -/
def MarkSet (W : World) (b n : Nat) (L : List Mr) : Prop :=
  ∃ D : DataW Unit, W.ownsMap Try.prog 26 unitElem b n D ∧ Maps.IsMap D ∧ Maps.size D = L.length ∧ ∀ k, MrOk k → Maps.has D (mrL k) = decide (k ∈ L)
theorem MarkSet.new (w : World) : MarkSet (w.alloc (.map #[] 0)) w.heap.size 0 [] :=
  ⟨_, World.ownsMap_made w _ _ _, Maps.isMap_empty, rfl, fun _ _ => rfl⟩
theorem MarkSet.lt {W : World} {b n : Nat} {L : List Mr} (h : MarkSet W b n L) : b < W.heap.size := by
  obtain ⟨D, h1, _⟩ := h; exact h1.lt
theorem MarkSet.kept {W W' : World} {b n : Nat} {L : List Mr} {row : Option Nat} (h : MarkSet W b n L) (hg : W.grownBy W' row) (hne : some b ≠ row) : MarkSet W' b n L := by
  obtain ⟨D, h1, h2⟩ := h; exact ⟨D, h1.kept hg hne, h2⟩
theorem MarkSet.up {W W' : World} {b n : Nat} {L : List Mr} (h : MarkSet W b n L) (hu : Up W W') : MarkSet W' b n L := h.kept (grown_up hu none) (by simp)
theorem MarkSet.mono {W : World} {b n n' : Nat} {L : List Mr} (h : MarkSet W b n L) (hn : n ≤ n') : MarkSet W b n' L := by
  obtain ⟨D, h1, h2⟩ := h; exact ⟨D, h1.mono hn, h2⟩
section
variable {w : World} {ops : Array Oper} {rest : List Oper} {o : Oper} {a : Act} {Q : Exit → Act → World → Prop}
theorem wpList_markPut (hg : o.guard = none) (m x v : Operand) (hop : o.op = Op.mapUpdate 37 m x v) {b n : Nat} {L : List Mr} (hs : MarkSet w b n L) (hn : n < maxLen) {k : Mr} (hk : MrOk k)
    (hm : a.eval m = .map (some b)) (hx : a.eval x = .agg (mrA k)) (hv : a.eval v = .agg #[])
    (hK : ∀ w', MarkSet w' b (n + 1) (addM L k) → w.grownBy w' (some b) → wpList Try.prog ops Q rest (a.put o.dst undef) w') : wpList Try.prog ops Q (o :: rest) a w := by
  obtain ⟨D, h1, h2, h3, h4⟩ := hs
  have ht := h1.tidy msLaw
  refine wpList_mapUpdate_own w hg m x v _ hop _ _ msLaw Try.underlying37 (unitElem (H := Unit)) b n D hm h1 hn _ _ _ hx hv (mrKey hk) _ [] unitElem_mk (fun w' k1 k2 => hK w' ⟨_, k1, h2.put _ _, ?_, fun k' hk' => ?_⟩ k2)
  · rw [Maps.size_put ht, h4 k hk, h3]
    unfold addM
    by_cases e : k ∈ L
    · simp [e]
    · simp [e]
  · unfold addM
    by_cases e : k' = k
    · subst e
      rw [Maps.has_put_same h2 (mrIs hk)]
      by_cases e : k' ∈ L <;> simp [e]
    · rw [Maps.has_put_other (fun h => e (mrInj hk' hk h)), h4 k' hk']
      by_cases e2 : k ∈ L <;> simp [e, e2]
end
/-- what has come, where so much is left -/
def CollM {H : Type} (D0 : DataW H) (left : Lit → Bool) (ss : List Mr) : Prop := ss.Nodup ∧ (∀ x ∈ ss, MrOk x) ∧ ∀ x, MrOk x → (x ∈ ss ↔ (Maps.has D0 (mrL x) = true ∧ left (mrL x) = false))
theorem CollM.start {H : Type} (D0 : DataW H) : CollM D0 (Maps.has D0) [] := ⟨List.nodup_nil, (fun x hx => by cases hx), fun x _ => by cases Maps.has D0 (mrL x) <;> simp⟩
theorem mrL_same (x : Mr) : (mrL x).sameKey (mrL x) = true := by
  unfold mrL; simp [Lit.sameKey]
theorem mrL_other {x y : Mr} (h : mrL x ≠ mrL y) : (mrL x).sameKey (mrL y) = false := by
  unfold mrL at h ⊢
  simpa [Lit.sameKey] using h
theorem CollM.step {H : Type} {D0 : DataW H} {left : Lit → Bool} {ss : List Mr} (h : CollM D0 left ss) {x : Mr} (hx : MrOk x) {y : DataW H} (hlk : left (mrL x) = true) (hat : ∀ zd, D0.atKey (mrL x) zd = y) : CollM D0 (fun z => left z && !z.sameKey (mrL x)) (ss ++ [x]) := by
  have hhas : Maps.has D0 (mrL x) = true := Maps.has_true_of_atKey hat
  have hnew : x ∉ ss := fun hm => by have := ((h.2.2 x hx).1 hm).2; rw [hlk] at this; cases this
  refine ⟨List.nodup_append.2 ⟨h.1, by simp, fun a ha b hb => by simp at hb; subst hb; exact fun e => hnew (e ▸ ha)⟩, fun y hy => ?_, fun y hy => ?_⟩
  · rcases List.mem_append.1 hy with h1 | h1
    · exact h.2.1 y h1
    · rw [List.mem_singleton.1 h1]; exact hx
  · by_cases e : y = x
    · subst e; simp [hhas, mrL_same]
    · have hne : mrL y ≠ mrL x := fun h' => e (mrInj hy hx h')
      simp [h.2.2 y hy, e, mrL_other hne]
end
end Go.Proofs.Ytmcajckpgbamnaa
