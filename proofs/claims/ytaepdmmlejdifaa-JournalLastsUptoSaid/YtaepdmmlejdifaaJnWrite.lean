import Derived.Test.YtaepdmmlejdifaaJnFrames
import Derived.Test.YtaepdmmlejdifaaDkAny
namespace Go.Proofs.Ytaepdmmlejdifaa
/-
  journal: Write and Recover, on a disk that was made, and on none.
-/
section
set_option maxRecDepth 100000
section
set_option linter.unusedVariables false
open Go.RowKit

/-- what is not the disk's stays so, and is as it was -/
theorem RowsF.step {g : Nat} {o o' : Value} {w w' : World} {v : Value} {ls : List (List Int)} (h : RowsF (fun b => ¬ WrS g o b) w v ls) (hs : WrStep g o o' w w') : RowsF (fun b => ¬ WrS g o' b) w' v ls :=
  (h.weak (G := fun b => ¬ WrS g o b ∧ b < w.heap.size) (fun b hb hlt => ⟨hb, hlt⟩) |>.keep fun b hb hlt => hs.1.block b hlt hb.1).weak fun b hb _ e => by
    rcases e with e | e
    · exact hb.1 (.inl e)
    · rcases hs.2 b e with e | e
      · exact hb.1 (.inr e)
      · omega
/-- what was there before the disk is not the disk's -/
theorem RowsF.old {b0 g : Nat} {o : Value} {room fl : Nat} {bs : List Int} {w : World} {v : Value} {ls : List (List Int)} (h : RowsF (fun b => b < b0) w v ls) (hd : Dk w b0 g o room fl bs) : RowsF (fun b => ¬ WrS g o b) w v ls :=
  h.weak fun b hb _ e => by
    rcases e with e | e
    · have := hd.base; omega
    · have := (hd.row.lt b e).1; omega
theorem dk_up {b0 g : Nat} {o : Value} {room fl : Nat} {bs : List Int} {w : World} (hd : Dk w b0 g o room fl bs) : ∀ b, WrS g o b → b < w.heap.size := fun b e => by
  rcases e with e | e
  · rw [e]; exact hd.lt
  · exact (hd.row.lt b e).2
section
variable {b0 g : Nat} {o : Value} {room fl : Nat} {bs : List Int}
/-- Append of nothing -/
theorem dkAppend_nil (w : World) (h : Dk w b0 g o room fl bs) (hb : b0 ≤ w.heap.size) :
    Calls Try.prog 26 #[.pointer (some ⟨g, 0, none⟩), .slice none 0 0] w fun e w' => e = .returned (.int .i64 0) ∧ ∃ o', Dk w' b0 g o' room fl bs ∧ WrStep g o o' w w' := by
  have := dkAppend_on (.slice none 0 0) [] w h (Ints.empty (fun _ => rfl)) (by have := h.len; simpa using this) hb
  rwa [List.append_nil] at this
theorem jnWrite_long (v : Value) (ls : List (List Int)) (w : World) (h : Dk w b0 g o room fl bs) (hb : b0 ≤ w.heap.size) (hv : RowsF (fun b => ¬ WrS g o b) w v ls) (hn : ls.length ≤ 2000000) (hx : ∀ k : Nat, (ls[k]?.getD []).length ≤ 9223372036854775807) (hs : ¬ Shorts ls) :
    Calls Try.prog 14 #[.pointer (some ⟨g, 0, none⟩), v] w fun e w' => e = .returned (.int .i64 5) ∧ ∃ o', Dk w' b0 g o' room fl bs ∧ WrStep g o o' w w' := by
  have Ha := Lib.hid (dkAppend_nil w h hb)
  have Hc : Hid (∀ w1 o1, WrStep g o o1 w w1 → Calls Try.prog 27 #[v, .func (.func 21) #[] #[]] w1 fun e w' => e = .returned (.bool true) ∧ w1 = w') := Lib.hid fun w1 o1 s1 => containsL_yes v ls w1 (hv.step s1).rows (by omega) hx hs
  obtain ⟨a, c, rfl, _, _, _⟩ := hv
  clear h hx hs
  go_enter Try.func14, Try.ntmps14
  go_wp2_with fail
  with_reducible refine Calls.mono Ha.out ?_
  rintro e w1 ⟨rfl, o1, h1, s1⟩
  have Hc1 := Lib.hid (Hc.out w1 o1 s1)
  have H1 := Lib.hid h1
  have S1 := Lib.hid s1
  clear h1 s1
  go_wp2_with fail
  with_reducible refine Calls.mono Hc1.out ?_
  rintro e w2 ⟨rfl, rfl⟩
  go_wp2
  go_ret
  exact ⟨rfl, o1, H1.out, S1.out⟩
theorem jnWrite_any (v : Value) (ls : List (List Int)) (w : World) (h : Dk w b0 g o room fl bs) (hb : b0 ≤ w.heap.size) (hv : RowsF (fun b => ¬ WrS g o b) w v ls) (hn : ls.length ≤ 2000000) (hl : ls.flatten.length ≤ 70368744177664) (hs : Shorts ls) :
    Calls Try.prog 14 #[.pointer (some ⟨g, 0, none⟩), v] w fun e w' => e = .returned (.int .i64 (dkAppE room bs (frames ls))) ∧ ∃ o', Dk w' b0 g o' room fl (dkApp room bs (frames ls)) ∧ WrStep g o o' w w' := by
  have Ha := Lib.hid (dkAppend_nil w h hb)
  have hg := h.lt
  have Hc : Hid (∀ w1 o1, WrStep g o o1 w w1 → Calls Try.prog 27 #[v, .func (.func 21) #[] #[]] w1 fun e w' => e = .returned (.bool false) ∧ w1 = w') := Lib.hid fun w1 o1 s1 => containsL_no v ls w1 (hv.step s1).rows (by omega) (fun k => by
    by_cases hk : k < ls.length
    · have := shortAt_iff.2 hs k hk; omega
    · rw [List.getElem?_eq_none (by omega)]; simp) hs
  have Hf : Hid (∀ w1 o1, WrStep g o o1 w w1 → Calls Try.prog 22 #[v] w1 fun e w' => ∃ a c, e = .returned (.slice a (frames ls).length c) ∧ w'.ownsRow w1.heap.size 5 1 (.slice a (frames ls).length c) (frames ls).length ((frames ls).map (Value.int .u8)) ∧ Up w1 w') := Lib.hid fun w1 o1 s1 => frames_any v ls w1 (hv.step s1).rows hn hl
  have hfl : (frames ls).length ≤ 9223372036854775807 := by have := frames_length ls; omega
  obtain ⟨a, c, rfl, _, _, _⟩ := hv
  have Hg := Lib.hid hg
  have Hsz := Lib.hid hb
  clear h hs hl hg hb
  generalize frames ls = fs at Hf hfl
  go_enter Try.func14, Try.ntmps14
  go_wp2_with fail
  with_reducible refine Calls.mono Ha.out ?_
  rintro e w1 ⟨rfl, o1, h1, s1⟩
  have Hc1 := Lib.hid (Hc.out w1 o1 s1)
  have Hf1 := Lib.hid (Hf.out w1 o1 s1)
  have H1 := Lib.hid h1
  have S1 := Lib.hid s1
  clear h1 s1
  go_wp2_with fail
  with_reducible refine Calls.mono Hc1.out ?_
  rintro e w2 ⟨rfl, rfl⟩
  go_wp2_with fail
  with_reducible refine Calls.mono Hf1.out ?_
  rintro e w3 ⟨a9, c9, rfl, r3, u3⟩
  have Hb := Lib.hid (dkAppend_any (.slice a9 fs.length c9) fs w3 (H1.out.up u3) (Ints.of_row r3) hfl (by have h1 := S1.out.1.size; have h2 := u3.size; have h3 := Hsz.out; omega))
  have U3 := Lib.hid u3
  clear r3 u3
  go_wp2_with fail
  with_reducible refine Calls.mono Hb.out ?_
  rintro e w4 ⟨rfl, o4, h4, s4⟩
  have H4 := Lib.hid h4
  have S4 := Lib.hid s4
  clear h4 s4
  go_wp2
  go_ret
  exact ⟨rfl, o4, H4.out, (S1.out.trans Hg.out (WrStep.up U3.out)).trans Hg.out S4.out⟩
/-- Recover -/
theorem jnRecover_any (w : World) (h : Dk w b0 g o room fl bs) (hu : U8s bs) (hb : b0 ≤ w.heap.size) :
    Calls Try.prog 17 #[.pointer (some ⟨g, 0, none⟩)] w fun e w' => ∃ a c, e = .returned (.tuple #[.slice a (scan bs).1.length c, .int .i64 0]) ∧ ∃ o', Dk w' b0 g o' room (scan bs).2 (bs.take (scan bs).2) ∧ WrStep g o o' w w' ∧ RowsF (fun b => ¬ WrS g o' b) w' (.slice a (scan bs).1.length c) (scan bs).1 := by
  have Hr := Lib.hid (dkRead_any w h)
  have hlen := h.len
  have hroom := h.room
  have hsle := (scan_frames_of bs.length bs (Nat.le_refl _) hu).2.2
  have Hup := Lib.hid (dk_up h)
  have hg := Lib.hid h.lt
  have Hs : Hid (∀ r1 w1, w1.ownsRow w.heap.size 5 1 r1 bs.length (bs.map (Value.int .u8)) → Calls Try.prog 8 #[r1] w1 fun e w' => ∃ r, e = .returned (.tuple #[r, .int .i64 ((scan bs).2 : Nat)]) ∧ RowsF (fun b => w1.heap.size ≤ b) w' r (scan bs).1 ∧ Up w1 w') := Lib.hid fun r1 w1 h1 => scan_any r1 bs w1 (Ints.of_row h1) hu (by omega)
  have Hc : Hid (∀ w2, Up w w2 → Calls Try.prog 30 #[.pointer (some ⟨g, 0, none⟩), .int .i64 ((scan bs).2 : Nat)] w2 fun e w' => e = .returned (.int .i64 0) ∧ ∃ o', Dk w' b0 g o' room (scan bs).2 (bs.take (scan bs).2) ∧ WrStep g o o' w2 w') := Lib.hid fun w2 u2 => dkCut_on _ w2 (h.up u2) (by omega) (by omega)
  clear h hsle hlen hroom
  generalize scan bs = SC at Hs Hc
  obtain ⟨sl, sn⟩ := SC
  simp only at Hs Hc ⊢
  go_enter Try.func17, Try.ntmps17
  go_wp2_with fail
  with_reducible refine Calls.mono Hr.out ?_
  rintro e w1 ⟨r1, rfl, h1, u1⟩
  have Hs1 := Lib.hid (Hs.out r1 w1 h1)
  obtain ⟨a1, c1, rfl⟩ := row_shape h1
  have U1 := Lib.hid u1
  clear h1 u1
  go_wp2_with fail
  with_reducible refine Calls.mono Hs1.out ?_
  rintro e w2 ⟨r2, rfl, h2, u2⟩
  have Hc2 := Lib.hid (Hc.out w2 (Up.trans U1.out u2))
  have U2 := Lib.hid (Up.trans U1.out u2)
  obtain ⟨a2, c2, rfl, _, _, _⟩ := id h2
  have H2 := Lib.hid h2
  clear h2 u2
  go_wp2_with fail
  with_reducible refine Calls.mono Hc2.out ?_
  rintro e w3 ⟨rfl, o3, h3, s3⟩
  have H3 := Lib.hid h3
  have S3 := Lib.hid s3
  clear h3 s3
  go_wp2
  go_ret2
  refine ⟨_, _, rfl, o3, H3.out, (WrStep.up U2.out).trans hg.out S3.out, ?_⟩
  exact RowsF.step (H2.out.weak fun b hb _ e => by have h1 := Hup.out b e; have h2 := U1.out.size; omega) S3.out
end
/-- .. of a disk that nobody made -/
theorem noWrite (p v : Value) (w : World) (h : NoDk w p) (hv : ∃ a n c, v = .slice a n c) :
    Calls Try.prog 14 #[p, v] w fun e w' => e = .returned (.int .i64 9) ∧ w = w' := by
  have Ha := Lib.hid (noAppend p (.slice none 0 0) [] w h (Ints.empty (fun _ => rfl)))
  obtain ⟨ad, rfl⟩ := h.ptr
  obtain ⟨a, n, c, rfl⟩ := hv
  clear h
  go_enter Try.func14, Try.ntmps14
  go_wp2_with fail
  with_reducible refine Calls.mono Ha.out ?_
  rintro e w1 ⟨rfl, rfl⟩
  go_wp2
  go_ret
  exact ⟨rfl, rfl⟩
theorem noRecover (p : Value) (w : World) (h : NoDk w p) :
    Calls Try.prog 17 #[p] w fun e w' => e = .returned (.tuple #[.slice none 0 0, .int .i64 9]) ∧ Up w w' := by
  have Hr := Lib.hid (noRead p w h)
  have Hs := Lib.hid (scan_any (.slice none 0 0) [] w (Ints.empty (fun _ => rfl)) (fun j hj => by simp at hj) (by simp))
  rw [scan_nil] at Hs
  have Hc : Hid (∀ w2, Up w w2 → Calls Try.prog 30 #[p, .int .i64 ((0 : Nat) : Int)] w2 fun e w' => e = .returned (.int .i64 9) ∧ w2 = w') := Lib.hid fun w2 u2 => noCut p _ w2 (h.up u2)
  obtain ⟨ad, rfl⟩ := h.ptr
  clear h
  go_enter Try.func17, Try.ntmps17
  go_wp2_with fail
  with_reducible refine Calls.mono Hr.out ?_
  rintro e w1 ⟨rfl, rfl⟩
  go_wp2_with fail
  with_reducible refine Calls.mono Hs.out ?_
  rintro e w2 ⟨r2, rfl, h2, u2⟩
  have Hc2 := Lib.hid (Hc.out w2 u2)
  obtain ⟨a2, c2, rfl, _, _, _⟩ := id h2
  have U2 := Lib.hid u2
  clear h2 u2
  go_wp2_with fail
  with_reducible refine Calls.mono Hc2.out ?_
  rintro e w3 ⟨rfl, rfl⟩
  go_wp2
  go_ret2
  exact ⟨rfl, U2.out⟩
end
end
end Go.Proofs.Ytaepdmmlejdifaa
