import Derived.Test.YtaepdmmlejdifaaDkCrash
namespace Go.Proofs.Ytaepdmmlejdifaa
/-
  disk: Append and Cut of whatever; of a disk that nobody made; mathematics of what stays.
-/
section
set_option maxRecDepth 100000
section
set_option linter.unusedVariables false
open Go.RowKit
theorem tmod_range (x : Int) (m : Nat) (hm : 0 < m) : -(m : Int) < x.tmod m ∧ x.tmod m < m := by
  have h := Int.natAbs_tmod x m
  have h2 : x.natAbs % (m : Int).natAbs < m := by rw [Int.natAbs_natCast]; exact Nat.mod_lt _ hm
  omega
/-- what is left of a number, from 0 on -/
theorem dkMod (x : Int) (m : Nat) (hm : 0 < m) (hb : m ≤ 1000) : ∃ A B : Int, wrap64 (x.tmod m + m) = A ∧ A.tmod m = B ∧ 0 ≤ B ∧ B < m := by
  have h := tmod_range x m hm
  refine ⟨x.tmod m + m, (x.tmod m + m).tmod m, ?_, rfl, ?_, ?_⟩
  · exact IntWalk.wrap64_in _ (by omega)
  · exact Int.tmod_nonneg _ (by omega)
  · exact Int.tmod_lt_of_pos _ (by omega)
theorem dk_new0 (n : Int) (w : World) (b0 : Nat) (hb : b0 ≤ w.heap.size) : Dk (w.alloc (.cells #[.bool true, .int .i64 (dkRoom n), .slice none 0 0, .int .i64 0] 53)) b0 w.heap.size (.slice none 0 0) (dkRoom n) 0 [] :=
  ⟨heap_alloc_new _ _, hb, Clip.nil _ _, Nat.zero_le _, Nat.zero_le _, by unfold dkRoom; omega⟩
theorem Dk.next {w W W' : World} {g : Nat} {o o' : Value} {room fl : Nat} {bs : List Int} (h : Dk W w.heap.size g o room fl bs) (hs : WrStep g o o' W W') (hu : Up w W) : Up w W' := Below.trans hu (h.below hs hu.size)
/-- Append's answer, and what is there behind it -/
def dkAppE (room : Nat) (bs zs : List Int) : Int := if bs.length + zs.length ≤ room then 0 else 17
def dkApp (room : Nat) (bs zs : List Int) : List Int := if bs.length + zs.length ≤ room then bs ++ zs else bs
/-- Cut's -/
def dkCutE (x : Int) (bs : List Int) : Int := if 0 ≤ x ∧ x ≤ bs.length then 0 else 4
def dkCut (x : Int) (bs : List Int) : List Int := if 0 ≤ x ∧ x ≤ bs.length then bs.take x.toNat else bs
def dkCutF (x : Int) (fl : Nat) (bs : List Int) : Nat := if 0 ≤ x ∧ x ≤ bs.length then x.toNat else fl
section
variable {b0 g : Nat} {o : Value} {room fl : Nat} {bs : List Int}
theorem dkAppend_any (v : Value) (zs : List Int) (w : World) (h : Dk w b0 g o room fl bs) (hv : Ints .u8 w v zs) (hz : zs.length ≤ 9223372036854775807) (hb : b0 ≤ w.heap.size) :
    Calls Try.prog 26 #[.pointer (some ⟨g, 0, none⟩), v] w fun e w' => e = .returned (.int .i64 (dkAppE room bs zs)) ∧ ∃ o', Dk w' b0 g o' room fl (dkApp room bs zs) ∧ WrStep g o o' w w' := by
  by_cases hle : bs.length + zs.length ≤ room
  · rw [show dkAppE room bs zs = 0 from if_pos hle, show dkApp room bs zs = bs ++ zs from if_pos hle]
    exact dkAppend_on v zs w h hv hle hb
  · rw [show dkAppE room bs zs = 17 from if_neg hle, show dkApp room bs zs = bs from if_neg hle]
    exact (dkAppend_full v zs w h hv hz (by omega)).mono fun e w' ⟨h1, h2⟩ => ⟨h1, o, h.up h2, WrStep.up h2⟩
theorem dkCut_any (x : Int) (w : World) (h : Dk w b0 g o room fl bs) :
    Calls Try.prog 30 #[.pointer (some ⟨g, 0, none⟩), .int .i64 x] w fun e w' => e = .returned (.int .i64 (dkCutE x bs)) ∧ ∃ o', Dk w' b0 g o' room (dkCutF x fl bs) (dkCut x bs) ∧ WrStep g o o' w w' := by
  by_cases hx : 0 ≤ x ∧ x ≤ bs.length
  · rw [show dkCutE x bs = 0 from if_pos hx, show dkCutF x fl bs = x.toNat from if_pos hx, show dkCut x bs = bs.take x.toNat from if_pos hx]
    exact dkCut_on x w h hx.1 hx.2
  · rw [show dkCutE x bs = 4 from if_neg hx, show dkCutF x fl bs = fl from if_neg hx, show dkCut x bs = bs from if_neg hx]
    exact (dkCut_no x w h (by omega)).mono fun e w' ⟨h1, h2⟩ => ⟨h1, o, by rw [← h2]; exact h, by rw [← h2]; exact WrStep.refl _ _ _⟩
theorem dkKeep_le (keep : Int) (h : fl ≤ bs.length) : fl ≤ dkKeep keep fl bs ∧ dkKeep keep fl bs ≤ bs.length := by unfold dkKeep; omega
end
/-- of a disk that nobody made -/
structure NoDk (W : World) (p : Value) : Prop where
  is : p = .pointer none ∨ ∃ g c1 c2 c3, p = .pointer (some ⟨g, 0, none⟩) ∧ W.heap[g]? = some (.cells #[.bool false, c1, c2, c3] 53 (0, 0))
theorem noDk_made (p : Value) (w : World) (h : NoDk w p) : Calls Try.prog 28 #[p] w fun e w' => e = .returned (.bool false) ∧ w = w' := by
  rcases h.is with rfl | ⟨g, c1, c2, c3, rfl, hg⟩
  · exact dkMade_nil w
  · exact dkMade_un g c1 c2 c3 w hg
theorem NoDk.ptr {W : World} {p : Value} (h : NoDk W p) : ∃ a, p = .pointer a := by
  rcases h.is with rfl | ⟨g, c1, c2, c3, rfl, hg⟩
  · exact ⟨_, rfl⟩
  · exact ⟨_, rfl⟩
theorem NoDk.up {W W' : World} {p : Value} (h : NoDk W p) (hu : Up W W') : NoDk W' p :=
  ⟨h.is.imp id fun ⟨g, c1, c2, c3, e, hg⟩ => ⟨g, c1, c2, c3, e, (hu.block g (lt_of_block hg)).trans hg⟩⟩
theorem noAppend (p v : Value) (zs : List Int) (w : World) (h : NoDk w p) (hv : Ints .u8 w v zs) :
    Calls Try.prog 26 #[p, v] w fun e w' => e = .returned (.int .i64 9) ∧ w = w' := by
  have Hm := Lib.hid (noDk_made p w h)
  obtain ⟨ad, rfl⟩ := h.ptr
  obtain ⟨b, d, rfl, _, _, _⟩ := hv
  clear h
  go_enter Try.func26, Try.ntmps26
  go_wp2_with fail
  with_reducible refine Calls.mono Hm.out ?_
  rintro e w1 ⟨rfl, rfl⟩
  go_wp2
  go_ret
  exact ⟨rfl, rfl⟩
theorem noCut (p : Value) (x : Int) (w : World) (h : NoDk w p) :
    Calls Try.prog 30 #[p, .int .i64 x] w fun e w' => e = .returned (.int .i64 9) ∧ w = w' := by
  have Hm := Lib.hid (noDk_made p w h)
  obtain ⟨ad, rfl⟩ := h.ptr
  clear h
  go_enter Try.func30, Try.ntmps30
  go_wp2_with fail
  with_reducible refine Calls.mono Hm.out ?_
  rintro e w1 ⟨rfl, rfl⟩
  go_wp2
  go_ret
  exact ⟨rfl, rfl⟩
theorem noLoose (p : Value) (w : World) (h : NoDk w p) :
    Calls Try.prog 19 #[p] w fun e w' => e = .returned (.int .i64 0) ∧ w = w' := by
  have Hm := Lib.hid (noDk_made p w h)
  obtain ⟨ad, rfl⟩ := h.ptr
  clear h
  go_enter Try.func19, Try.ntmps19
  go_wp2_with fail
  with_reducible refine Calls.mono Hm.out ?_
  rintro e w1 ⟨rfl, rfl⟩
  go_wp2
  go_ret
  exact ⟨rfl, rfl⟩
theorem noSize (p : Value) (w : World) (h : NoDk w p) :
    Calls Try.prog 18 #[p] w fun e w' => e = .returned (.int .i64 0) ∧ w = w' := by
  have Hm := Lib.hid (noDk_made p w h)
  obtain ⟨ad, rfl⟩ := h.ptr
  clear h
  go_enter Try.func18, Try.ntmps18
  go_wp2_with fail
  with_reducible refine Calls.mono Hm.out ?_
  rintro e w1 ⟨rfl, rfl⟩
  go_wp2
  go_ret
  exact ⟨rfl, rfl⟩
theorem noRead (p : Value) (w : World) (h : NoDk w p) :
    Calls Try.prog 20 #[p] w fun e w' => e = .returned (.slice none 0 0) ∧ w = w' := by
  have Hm := Lib.hid (noDk_made p w h)
  obtain ⟨ad, rfl⟩ := h.ptr
  clear h
  go_enter Try.func20, Try.ntmps20
  go_wp2_with fail
  with_reducible refine Calls.mono Hm.out ?_
  rintro e w1 ⟨rfl, rfl⟩
  go_wp2
  go_ret
  exact ⟨rfl, rfl⟩
theorem noCrash (p : Value) (x : Int) (w : World) (h : NoDk w p) :
    Calls Try.prog 16 #[p, .int .i64 x] w fun e w' => e = .returned (.tuple #[]) ∧ w = w' := by
  have Hm := Lib.hid (noDk_made p w h)
  obtain ⟨ad, rfl⟩ := h.ptr
  clear h
  go_enter Try.func16, Try.ntmps16
  go_wp2_with fail
  with_reducible refine Calls.mono Hm.out ?_
  rintro e w1 ⟨rfl, rfl⟩
  go_wp2
  go_end0
  exact ⟨rfl, rfl⟩
theorem noFlush (p : Value) (w : World) (h : NoDk w p) :
    Calls Try.prog 15 #[p] w fun e w' => e = .returned (.int .i64 0) ∧ w = w' := by
  have Hm := Lib.hid (noDk_made p w h)
  have Hl := Lib.hid (noLoose p w h)
  obtain ⟨ad, rfl⟩ := h.ptr
  clear h
  go_enter Try.func15, Try.ntmps15
  go_wp2_with fail
  with_reducible refine Calls.mono Hl.out ?_
  rintro e w1 ⟨rfl, rfl⟩
  go_wp2_with fail
  with_reducible refine Calls.mono Hm.out ?_
  rintro e w2 ⟨rfl, rfl⟩
  go_wp2
  go_ret
  exact ⟨rfl, rfl⟩
end
end
end Go.Proofs.Ytaepdmmlejdifaa
