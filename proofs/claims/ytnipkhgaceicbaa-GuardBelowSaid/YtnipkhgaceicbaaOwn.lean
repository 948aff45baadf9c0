import Derived.Lib.SliceRun
import Derived.Test.YtnipkhgaceicbaaUps
import Derived.Test.YtnipkhgaceicbaaOct
import Derived.Test.YtnipkhgaceicbaaStrs
namespace Go.Proofs.Ytnipkhgaceicbaa
/-
  What a call on a box with a row of its own may turn; slices.Clone of octets.
-/
section
set_option maxRecDepth 100000
section
set_option linter.unusedVariables false
open Go.RowKit

/-- what a call on it may turn -/
def WrS (g : Nat) (o : Value) (k : Nat) : Prop := k = g ∨ o.ownBlock = some k
/-- from one state to the next -/
def WrStep (g : Nat) (o o' : Value) (w w' : World) : Prop := KeptBut (WrS g o) w w' ∧ ∀ k, o'.ownBlock = some k → o.ownBlock = some k ∨ w.heap.size ≤ k
theorem WrStep.refl (g : Nat) (o : Value) (w : World) : WrStep g o o w w := ⟨KeptBut.refl _ _, fun k h => .inl h⟩
theorem WrStep.trans {g : Nat} {o o' o'' : Value} {a b c : World} (hg : g < a.heap.size) (h : WrStep g o o' a b) (k : WrStep g o' o'' b c) : WrStep g o o'' a c :=
  ⟨h.1.trans k.1 fun x hx e => by
    rcases e with e | e
    · exact .inl e
    · rcases h.2 x e with e | e
      · exact .inr e
      · omega,
   fun x e => by
    rcases k.2 x e with e | e
    · exact h.2 x e
    · exact .inr (Nat.le_trans h.1.size e)⟩
theorem WrStep.up {g : Nat} {o : Value} {w w' : World} (hu : Up w w') : WrStep g o o w w' := ⟨KeptBut.of_up hu, fun k h => .inl h⟩

theorem clone8_nil (w : World) :
    Calls Try.prog 72 #[.slice none 0 0] w fun e w' => e = .returned (.slice none 0 0) ∧ w = w' := by
  have hnn := Lib.run_eql_slice_nil (P := Try.prog) w 74 5 none 0 0 0 0 Try.underlying74
  go_enter Try.func72, Try.ntmps72
  go_wp2
  go_ret
  exact ⟨rfl, rfl⟩
set_option maxHeartbeats 1000000 in
theorem clone8_some (ad : Addr) (c : Nat) (bs : List Int) (w : World) (hs : Ints .u8 w (.slice (some ad) bs.length c) bs) (hl : bs.length ≤ 140737488355328) :
    Calls Try.prog 72 #[.slice (some ad) bs.length c] w fun e w' => ∃ r, e = .returned r ∧ w'.ownsRow w.heap.size 5 1 r bs.length (bs.map (Value.int .u8)) ∧ Up w w' := by
  obtain ⟨i0, hi, hz0, hz1, hz2⟩ := info_parts info_u8
  have hnn := Lib.run_eql_slice_nil (P := Try.prog) w 74 5 (some ad) bs.length c 0 0 Try.underlying74
  obtain ⟨a1, c1, he, hc1, hn1, hcs⟩ := hs.up (Up.alloc (Up.refl w) (.cells #[] 5))
  simp only [Value.slice.injEq] at he
  obtain ⟨rfl, _, rfl⟩ := he
  have Hnews := Lib.hid (cells_all hcs)
  have r0 := ownsRow_empty w 5
  clear hs hcs hn1 hc1
  go_enter Try.func72, Try.ntmps72
  go_wp2_with (at_builtin; refine wpList_append_own_src _ rfl (.tmp 5) (.tmp 6) 74 rfl w.heap.size 5 i0 (.int .u8 0) 1 1 Try.underlying74 hi hz0 hz1 hz2 rfl (by decide) _ 0 _ rfl r0 (some ad) bs.length c (bs.map (Value.int .u8)) rfl (fun e => by cases e) (by simp) Hnews.out (u8_cells bs) (by unfold maxLen; omega) (by omega) (by simp) ?_; intro v' w3 hown' hgrow _)
  rw [Nat.zero_add, List.nil_append] at hown'
  go_ret
  exact ⟨_, rfl, hown', Below.grown (Up.alloc (Up.refl w) _) hgrow (by simp) (fun q e => (r0.lt q e).1)⟩
theorem clone8_any (v : Value) (bs : List Int) (w : World) (hs : Ints .u8 w v bs) (hl : bs.length ≤ 140737488355328) :
    Calls Try.prog 72 #[v] w fun e w' => ∃ r, e = .returned r ∧ w'.ownsRow w.heap.size 5 1 r bs.length (bs.map (Value.int .u8)) ∧ Up w w' := by
  obtain ⟨a, c, rfl, h1, h2, h3⟩ := hs
  cases a with
  | none =>
    have h0 := none_empty h3 rfl
    obtain rfl := List.eq_nil_of_length_eq_zero h0
    obtain rfl := h2 rfl
    exact (clone8_nil w).mono fun e w' ⟨he, hw⟩ => ⟨_, he, World.ownsRow_nil _ _ _ _, by rw [← hw]; exact Up.refl w⟩
  | some ad => exact clone8_some ad c bs w ⟨_, _, rfl, h1, h2, h3⟩ hl

end
end
end Go.Proofs.Ytnipkhgaceicbaa
