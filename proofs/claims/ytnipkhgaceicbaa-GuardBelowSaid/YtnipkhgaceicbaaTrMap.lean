import Derived.Maps.OwnSet
import Derived.Maps.OwnOps
import Derived.Maps.Views
import Derived.MapViews
import Derived.Test.YtnipkhgaceicbaaUps
/-
  A map of texts to values, as the program's tree keeps one.
-/
namespace Go.Proofs.Ytnipkhgaceicbaa
set_option maxRecDepth 100000
section
set_option linter.unusedVariables false
open Go.RowKit Go.Maps Go.WideMaps

/-- what lies in the map is told by the values themselves -/
def heldR : Value → Option (DataW Value × List MemPlace) := fun v => some (.held v, [])
def strL (s : ByteArray) : Lit := .string s.data.toList
theorem strL_inj {s t : ByteArray} (h : strL s = strL t) : s = t := by
  unfold strL at h
  simp only [Lit.string.injEq] at h
  cases s; cases t
  simp only at h
  rw [Array.toList_inj.1 h]
/-- block b is a map of n texts, with these values -/
def TextMap (P : Program) (k : TypeId) (W : World) (b n : Nat) (M : ByteArray → Option Value) : Prop :=
  ∃ D : DataW Value, W.ownsMap P k heldR b n D ∧ Tidy D ∧ Maps.size D = n ∧ ∀ s : ByteArray, s.size ≤ maxLen → (M s = none → Maps.has D (strL s) = false) ∧ ∀ v, M s = some v → Maps.has D (strL s) = true ∧ ∀ z, D.atKey (strL s) z = .held v
variable {P : Program} {k : TypeId} {W W' : World} {b n : Nat} {M : ByteArray → Option Value}
theorem TextMap.new (w : World) : TextMap P k (w.alloc (.map #[] 0)) w.heap.size 0 (fun _ => none) :=
  ⟨_, World.ownsMap_made w _ _ _, tidy_empty, rfl, fun s _ => ⟨fun _ => rfl, fun v h => by cases h⟩⟩
theorem TextMap.lt (h : TextMap P k W b n M) : b < W.heap.size := by obtain ⟨D, h1, _⟩ := h; exact h1.lt
theorem TextMap.kept {row : Option Nat} (h : TextMap P k W b n M) (hg : W.grownBy W' row) (hne : some b ≠ row) : TextMap P k W' b n M := by
  obtain ⟨D, h1, h2⟩ := h; exact ⟨D, h1.kept hg hne, h2⟩
theorem TextMap.up (h : TextMap P k W b n M) (hu : Up W W') : TextMap P k W' b n M := h.kept (grown_up hu none) (by simp)
theorem TextMap.drewN (h : TextMap P k W b n M) (q : Nat) : TextMap P k (W.drewN q) b n M := h
theorem text_key {s : ByteArray} (hk : P.underlying k = some .string) (hs : s.size ≤ maxLen) : keyOf P k (.string s) = some (strL s) := by
  have := WideMaps.keyOf_string_mk hk hs
  exact this
section
variable {ops : Array Oper} {rest : List Oper} {o : Oper} {a : Act} {Q : Exit → Act → World → Prop}
/-- what lies under a text, and is it there? -/
theorem wpList_textAt (hg : o.guard = none) (m x : Operand) (t e : TypeId) (hop : o.op = Op.lookup t m x true) (hk : P.underlying k = some .string) (ht : P.underlying t = some (.map k e)) {z : Value} (hz : (zeroValue e).run P W = .ok z W) (h : TextMap P k W b n M) {s : ByteArray} (hs : s.size ≤ maxLen)
    (hm : a.eval m = .map (some b)) (hx : a.eval x = .string s) (hK : wpList P ops Q rest (a.put o.dst (.tuple #[(M s).getD z, .bool (M s).isSome])) W) : wpList P ops Q (o :: rest) a W := by
  obtain ⟨D, h1, h2, h3, h4⟩ := h
  refine wpList_lookup_own_ok W hg m x t hop k e (string_keyed hk) ht heldR hz (.held z) [] rfl b n D hm h1 _ _ hx (text_key hk hs) fun v ps hv => ?_
  obtain ⟨g1, g2⟩ := h4 s hs
  cases hM : M s with
  | none =>
    have hf := g1 hM
    rw [hM] at hK
    rw [atKey_of_not_has hf] at hv
    simp only [heldR, Option.some.injEq, Prod.mk.injEq, DataW.held.injEq] at hv
    rw [hf, hv.1]; exact hK
  | some u =>
    obtain ⟨hf, ha⟩ := g2 u hM
    rw [hM] at hK
    rw [ha] at hv
    simp only [heldR, Option.some.injEq, Prod.mk.injEq, DataW.held.injEq] at hv
    rw [hf, hv.1]; exact hK
/-- what lies under a text -/
theorem wpList_textGet (hg : o.guard = none) (m x : Operand) (t e : TypeId) (hop : o.op = Op.lookup t m x false) (hk : P.underlying k = some .string) (ht : P.underlying t = some (.map k e)) {z : Value} (hz : (zeroValue e).run P W = .ok z W) (h : TextMap P k W b n M) {s : ByteArray} (hs : s.size ≤ maxLen)
    (hm : a.eval m = .map (some b)) (hx : a.eval x = .string s) (hK : wpList P ops Q rest (a.put o.dst ((M s).getD z)) W) : wpList P ops Q (o :: rest) a W := by
  obtain ⟨D, h1, h2, h3, h4⟩ := h
  obtain ⟨v, ps, hrun, hv⟩ := h1.lookup (string_keyed hk) ht hz (zd := .held z) (zp := []) rfl (text_key hk hs)
  refine wpList_plain hg fun K' hK' => ?_
  unfold Oper.wp
  simp [execOp, hop, hm, hx, hrun, Result.andThen]
  obtain ⟨g1, g2⟩ := h4 s hs
  have hv2 : v = (M s).getD z := by
    cases hM : M s with
    | none =>
      rw [atKey_of_not_has (g1 hM)] at hv
      simp only [heldR, Option.some.injEq, Prod.mk.injEq, DataW.held.injEq] at hv
      exact hv.1
    | some u =>
      rw [(g2 u hM).2] at hv
      simp only [heldR, Option.some.injEq, Prod.mk.injEq, DataW.held.injEq] at hv
      exact hv.1
  subst hv2
  exact hK' _ _ hK
end
/-- one more, as a run -/
theorem TextMap.store (h : TextMap P k W b n M) {t e : TypeId} (hk : P.underlying k = some .string) (ht : P.underlying t = some (.map k e)) (hn : n < maxLen) {s : ByteArray} (hs : s.size ≤ maxLen) (hno : M s = none) (u : Value) :
    ∃ w', (Instr.mapUpdate t (.map (some b)) (.string s) u).run P W = .ok () w' ∧ TextMap P k w' b (n + 1) (fun s' => if s' = s then some u else M s') ∧ W.grownBy w' (some b) := by
  obtain ⟨D, h1, h2, h3, h4⟩ := h
  have K : Keyed P k := string_keyed hk
  have hkey := text_key (P := P) hk hs
  have hlit : WideAt.IsKeyLit (strL s) := K.key hkey
  obtain ⟨w', r1, k1, k2⟩ := h1.update K ht hn hkey (val := u) (d := .held u) (ps := []) rfl
  refine ⟨w', r1, ⟨_, k1, h2.put hlit _, ?_, fun s' hs' => ?_⟩, k2⟩
  · rw [size_put h2, (h4 s hs).1 hno, h3]; rfl
  · by_cases e' : s' = s
    · subst e'
      refine ⟨fun h => ?_, fun v' hv' => ?_⟩
      · have h : (if s' = s' then some u else M s') = none := h
        rw [if_pos rfl] at h; cases h
      · have hv' : (if s' = s' then some u else M s') = some v' := hv'
        rw [if_pos rfl] at hv'
        cases hv'
        exact ⟨has_put_same h2.isMap hlit _, fun z => atKey_put_same h2.isMap hlit _ z⟩
    · have hne : strL s' ≠ strL s := fun h => e' (strL_inj h)
      obtain ⟨g1, g2⟩ := h4 s' hs'
      refine ⟨fun h => ?_, fun v' hv' => ?_⟩
      · have h : (if s' = s then some u else M s') = none := h
        rw [if_neg e'] at h
        rw [has_put_other hne]; exact g1 h
      · have hv' : (if s' = s then some u else M s') = some v' := hv'
        rw [if_neg e'] at hv'
        rw [has_put_other hne]
        exact ⟨(g2 v' hv').1, fun z => by rw [atKey_put_other hne]; exact (g2 v' hv').2 z⟩
theorem TextMap.nocell (h : TextMap P k W b n M) (o : Nat) : W.cell? ⟨b, o, none⟩ = none := by
  obtain ⟨D, ⟨es, clock, hb, _⟩, _⟩ := h
  simp [World.cell?, hb]
/-- how many -/
theorem TextMap.len {t e : TypeId} (h : TextMap P k W b n M) (ht : P.underlying t = some (.map k e)) (ty : TypeId) : (Builtin.len_ #[t] ty #[.map (some b)]).run P W = .ok (.int .i64 (n : Int)) W := by
  obtain ⟨D, h1, h2, h3, _⟩ := h
  have := h1.len ht ty
  rwa [h3] at this
end
end Go.Proofs.Ytnipkhgaceicbaa
