import Derived.Maps.OwnSet
import Derived.Maps.OwnOps
import Derived.DeepKeys4
import Derived.MapViews
import Derived.Test.YtmcajckpgbamnaaUps
/-
  rule: a set of signers, as the program keeps one in a map; whom a list tells.
-/
namespace Go.Proofs.Ytmcajckpgbamnaa
set_option maxRecDepth 100000
section
set_option linter.unusedVariables false
open Go.RowKit Go.Maps Go.WideMaps

theorem rvLaid : laidOutB Try.prog = true := by kernel_rfl
theorem rvRow : (61 : TypeId) < Try.prog.types.size := of_decide_eq_true (by kernel_rfl)
theorem rvWide : (match Try.prog.underlying 61 with | some (.array _ _) | some (.struct _) => true | _ => false) = true := by kernel_rfl
theorem rvLaw : Keyed Try.prog 61 := Keyed.of_law (deep_law_laid rvLaid (m := 2) (by omega) rvRow (by kernel_rfl) rvWide)
theorem rvZero (w : World) : (zeroValue 39).run Try.prog w = .ok (.agg #[]) w := by kernel_rfl
/-- what a signer reads as -/
def rvL (k : Int) : Lit := .string (keyBytes [.int .i64 k])
theorem rvKey {k : Int} (hk : (Lit.int .i64 k).wf = true) : keyOf Try.prog 61 (.agg #[.int .i64 k]) = some (rvL k) := by
  have hkt : Try.prog.keyType 61 = true := by kernel_rfl
  have hcl : Try.prog.cellsOf 61 = 1 := by kernel_rfl
  have hci : Try.prog.cellsOf 3 = 1 := by kernel_rfl
  have hsz : ∃ m, Try.prog.types.size = m + 1 := ⟨_, (Nat.succ_pred_eq_of_pos (Nat.lt_of_le_of_lt (Nat.zero_le _) rvRow)).symm⟩
  obtain ⟨m, hm⟩ := hsz
  unfold keyOf
  simp only [Try.underlying61]
  rw [if_pos (by simp [hkt, Value.formed, Try.underlying61, hcl]), hm]
  unfold Program.keyLits
  simp only [Try.underlying61, Value.cells]
  rw [if_pos (by rw [hcl]; exact ⟨rfl, by kernel_rfl⟩)]
  simp [Program.keyLits, Try.underlying3, hk, hci, rvL]
theorem rvIs {k : Int} (hk : (Lit.int .i64 k).wf = true) : WideAt.IsKeyLit (rvL k) := rvLaw.key (rvKey hk)
theorem rvInj {k k' : Int} (hk : (Lit.int .i64 k).wf = true) (hk' : (Lit.int .i64 k').wf = true) (h : rvL k = rvL k') : k = k' := by
  have := rvLaw.inj (rvKey hk) (by rw [h]; exact rvKey hk')
  simpa using this
/-- one more, if it is not there -/
def addV (L : List Int) (k : Int) : List Int := if k ∈ L then L else L ++ [k]
/-- block b is a map that has just these signers -/
def IdSet (W : World) (b n : Nat) (L : List Int) : Prop :=
  ∃ D : DataW Unit, W.ownsMap Try.prog 61 unitElem b n D ∧ Maps.IsMap D ∧ Maps.size D = L.length ∧ ∀ k, (Lit.int .i64 k).wf = true → Maps.has D (rvL k) = decide (k ∈ L)
theorem IdSet.new (w : World) : IdSet (w.alloc (.map #[] 0)) w.heap.size 0 [] :=
  ⟨_, World.ownsMap_made w _ _ _, Maps.isMap_empty, rfl, fun _ _ => rfl⟩
theorem IdSet.lt {W : World} {b n : Nat} {L : List Int} (h : IdSet W b n L) : b < W.heap.size := by
  obtain ⟨D, h1, _⟩ := h; exact h1.lt
theorem IdSet.kept {W W' : World} {b n : Nat} {L : List Int} {row : Option Nat} (h : IdSet W b n L) (hg : W.grownBy W' row) (hne : some b ≠ row) : IdSet W' b n L := by
  obtain ⟨D, h1, h2⟩ := h; exact ⟨D, h1.kept hg hne, h2⟩
theorem IdSet.up {W W' : World} {b n : Nat} {L : List Int} (h : IdSet W b n L) (hu : Up W W') : IdSet W' b n L := h.kept (grown_up hu none) (by simp)
theorem IdSet.mono {W : World} {b n n' : Nat} {L : List Int} (h : IdSet W b n L) (hn : n ≤ n') : IdSet W b n' L := by
  obtain ⟨D, h1, h2⟩ := h; exact ⟨D, h1.mono hn, h2⟩
section
variable {w : World} {ops : Array Oper} {rest : List Oper} {o : Oper} {a : Act} {Q : Exit → Act → World → Prop}
theorem wpList_idPut (hg : o.guard = none) (m x v : Operand) (hop : o.op = Op.mapUpdate 59 m x v) {b n : Nat} {L : List Int} (hs : IdSet w b n L) (hn : n < maxLen) {k : Int} (hk : (Lit.int .i64 k).wf = true)
    (hm : a.eval m = .map (some b)) (hx : a.eval x = .agg #[.int .i64 k]) (hv : a.eval v = .agg #[])
    (hK : ∀ w', IdSet w' b (n + 1) (addV L k) → w.grownBy w' (some b) → wpList Try.prog ops Q rest (a.put o.dst undef) w') : wpList Try.prog ops Q (o :: rest) a w := by
  obtain ⟨D, h1, h2, h3, h4⟩ := hs
  have ht := h1.tidy rvLaw
  refine wpList_mapUpdate_own w hg m x v _ hop _ _ rvLaw Try.underlying59 (unitElem (H := Unit)) b n D hm h1 hn _ _ _ hx hv (rvKey hk) _ [] unitElem_mk (fun w' k1 k2 => hK w' ⟨_, k1, h2.put _ _, ?_, fun k' hk' => ?_⟩ k2)
  · rw [Maps.size_put ht, h4 k hk, h3]
    unfold addV
    by_cases e : k ∈ L
    · simp [e]
    · simp [e]
  · unfold addV
    by_cases e : k' = k
    · subst e
      rw [Maps.has_put_same h2 (rvIs hk)]
      by_cases e : k' ∈ L <;> simp [e]
    · rw [Maps.has_put_other (fun h => e (rvInj hk' hk h)), h4 k' hk']
      by_cases e2 : k ∈ L <;> simp [e, e2]
theorem wpList_idLen (hg : o.guard = none) (m : Operand) (hop : o.op = Op.call { callee := Callee.builtin Builtin.len, args := #[m], argTypes := #[59] }) {b n : Nat} {L : List Int} (hs : IdSet w b n L)
    (hm : a.eval m = .map (some b)) (hK : wpList Try.prog ops Q rest (a.put o.dst (.int .i64 (L.length : Nat))) w) : wpList Try.prog ops Q (o :: rest) a w := by
  obtain ⟨D, h1, h2, h3, h4⟩ := hs
  refine wpList_len_own w hg m _ hop _ _ Try.underlying59 _ b n D hm h1 ?_
  rw [h3]; exact hK
end
/-- the signers of those that count, each once, as they come -/
def sgs {α : Type} (p : α → Bool) (g : α → Int) : List Int → List α → List Int
  | L, [] => L
  | L, x :: t => sgs p g (if p x then addV L (g x) else L) t
theorem sgs_append {α : Type} (p : α → Bool) (g : α → Int) : ∀ (l l' : List α) (L : List Int), sgs p g L (l ++ l') = sgs p g (sgs p g L l) l'
  | [], _, _ => rfl
  | x :: t, l', L => sgs_append p g t l' _
theorem addV_mem {L : List Int} {k j : Int} : j ∈ addV L k ↔ j ∈ L ∨ j = k := by
  unfold addV
  by_cases e : k ∈ L
  · simp only [e, if_true]; exact ⟨.inl, fun h => h.elim id (fun h => h ▸ e)⟩
  · simp [e]
theorem addV_nodup {L : List Int} {k : Int} (h : L.Nodup) : (addV L k).Nodup := by
  unfold addV
  by_cases e : k ∈ L
  · simpa [e] using h
  · simp only [e, if_false]
    refine List.nodup_append.2 ⟨h, by simp, fun a ha b hb => ?_⟩
    simp at hb; subst hb; exact fun e' => e (e' ▸ ha)
theorem sgs_mem {α : Type} (p : α → Bool) (g : α → Int) : ∀ (l : List α) (L : List Int) (j : Int), j ∈ sgs p g L l ↔ j ∈ L ∨ ∃ x ∈ l, p x = true ∧ g x = j
  | [], L, j => by simp [sgs]
  | x :: t, L, j => by
    rw [sgs, sgs_mem p g t]
    by_cases e : p x = true
    · simp only [e, if_true, addV_mem, List.mem_cons, exists_eq_or_imp]
      constructor
      · rintro ((h | h) | h)
        · exact .inl h
        · exact .inr (.inl ⟨trivial, h.symm⟩)
        · exact .inr (.inr h)
      · rintro (h | h | h)
        · exact .inl (.inl h)
        · exact .inl (.inr h.2.symm)
        · exact .inr h
    · simp only [e, List.mem_cons, exists_eq_or_imp, Bool.false_eq_true, if_false, false_and, false_or]
theorem sgs_nodup {α : Type} (p : α → Bool) (g : α → Int) : ∀ (l : List α) (L : List Int), L.Nodup → (sgs p g L l).Nodup
  | [], L, h => h
  | x :: t, L, h => by
    rw [sgs]; refine sgs_nodup p g t _ ?_
    by_cases e : p x = true
    · simp only [e, if_true]; exact addV_nodup h
    · simpa [e] using h
theorem nodup_le : ∀ {l l' : List Int}, l.Nodup → (∀ x ∈ l, x ∈ l') → l.length ≤ l'.length
  | [], _, _, _ => Nat.zero_le _
  | x :: t, l', h, hs => by
    have hx := hs x (by simp)
    rw [List.nodup_cons] at h
    have := nodup_le (l' := l'.erase x) h.2 (fun y hy => (List.mem_erase_of_ne (by rintro rfl; exact h.1 hy)).2 (hs y (by simp [hy])))
    rw [List.length_erase_of_mem hx] at this
    have : 0 < l'.length := List.length_pos_of_mem hx
    simp only [List.length_cons]; omega
/-- of how many signers there is one that counts -/
def nsg {α : Type} (p : α → Bool) (g : α → Int) (l : List α) : Nat := (sgs p g [] l).length
theorem nsg_le {α : Type} (p : α → Bool) (g : α → Int) {l l' : List α} (h : ∀ x ∈ l, x ∈ l') : nsg p g l ≤ nsg p g l' :=
  nodup_le (sgs_nodup p g l [] (by simp)) (fun j hj => by
    rw [sgs_mem] at hj ⊢
    rcases hj with hj | ⟨x, hx, h1, h2⟩
    · exact .inl hj
    · exact .inr ⟨x, h x hx, h1, h2⟩)
theorem nsg_comm {α : Type} (p : α → Bool) (g : α → Int) (a b : List α) : nsg p g (a ++ b) = nsg p g (b ++ a) :=
  Nat.le_antisymm (nsg_le p g (fun x hx => by simp at hx ⊢; exact hx.symm)) (nsg_le p g (fun x hx => by simp at hx ⊢; exact hx.symm))
theorem sgs_len {α : Type} (p : α → Bool) (g : α → Int) : ∀ (l : List α) (L : List Int), (sgs p g L l).length ≤ L.length + l.length
  | [], L => by simp [sgs]
  | x :: t, L => by
    rw [sgs]
    have := sgs_len p g t (if p x then addV L (g x) else L)
    have h2 : (if p x then addV L (g x) else L).length ≤ L.length + 1 := by
      unfold addV; split
      · split <;> simp
      · omega
    simp only [List.length_cons]; omega
end
end Go.Proofs.Ytmcajckpgbamnaa
