import Derived.Test.YtaepdmmlejdifaaJnScan
namespace Go.Proofs.Ytaepdmmlejdifaa
/-
  journal: frames, Frame.
-/
section
set_option maxRecDepth 100000
section
set_option linter.unusedVariables false
open Go.RowKit

/-- what is put together: of each record its length, and it -/
def partsL : List (List Int) → List (List Int)
  | [] => []
  | r :: l => octAll r.length 3 :: r :: partsL l
theorem partsL_append (a b : List (List Int)) : partsL (a ++ b) = partsL a ++ partsL b := by
  induction a with
  | nil => rfl
  | cons r a ih => simp [partsL, ih]
theorem partsL_snoc (a : List (List Int)) (r : List Int) : partsL (a ++ [r]) = partsL a ++ [octAll r.length 3, r] := by rw [partsL_append]; rfl
theorem partsL_length (a : List (List Int)) : (partsL a).length = 2 * a.length := by
  induction a with
  | nil => rfl
  | cons r a ih => simp [partsL, ih]; omega
theorem partsL_flatten (a : List (List Int)) : (partsL a).flatten = frames a := by
  induction a with
  | nil => rfl
  | cons r a ih => rw [frames_cons, ← ih]; simp [partsL, frame]
theorem take_snocL (l : List (List Int)) (k : Nat) (h : k < l.length) : l.take (k + 1) = l.take k ++ [l[k]?.getD []] := by
  rw [List.take_succ_eq_append_getElem h]; simp [h]
theorem make_row8 (K : Int) (k : Nat) (hK : K = k) (hk : k ≤ 8796093022208) (u : World) : (Instr.makeSlice 26 (.int .i64 0) (.int .i64 K)).run Try.prog u =
      .ok (.slice (some ⟨u.heap.size, 0, none⟩) 0 k) (u.alloc (.cells (madeCells #[.slice none 0 0] k) 22)) := by
  subst hK
  obtain ⟨i0, hi, hz0, hz1, hz2⟩ := info_parts info_row8
  have h := run_make (P := Try.prog) u 26 22 i0 (.slice none 0 0) Try.underlying26 hi hz0 .i64 .i64 0 (k : Int) (by omega) (by omega) (by rw [hz2]; omega) (by omega)
  simpa [hz1, Value.cells] using h
/-- the parts that are there: what each is, not in the block of the row -/
def PartsAt (g : Nat) (W : World) (us : List Value) (ps : List (List Int)) : Prop := us.length = ps.length ∧ ∀ j, j < ps.length → IntsF (fun b => b ≠ g) W (us.getD j undef) (ps[j]?.getD [])
theorem PartsAt.keep {g : Nat} {W W' : World} {us : List Value} {ps : List (List Int)} (h : PartsAt g W us ps) (hg : W.grownBy W' (some g)) : PartsAt g W' us ps :=
  ⟨h.1, fun j hj => (h.2 j hj).keep fun b hb hlt => hg.block b hlt (fun e => hb (by cases e; rfl))⟩
theorem PartsAt.up {g : Nat} {W W' : World} {us : List Value} {ps : List (List Int)} (h : PartsAt g W us ps) (hg : Up W W') : PartsAt g W' us ps :=
  ⟨h.1, fun j hj => (h.2 j hj).up hg⟩
theorem PartsAt.two {g : Nat} {W : World} {us : List Value} {ps : List (List Int)} (h : PartsAt g W us ps) {u v : Value} {p q : List Int} (hu : IntsF (fun b => b ≠ g) W u p) (hv : IntsF (fun b => b ≠ g) W v q) : PartsAt g W (us ++ [u, v]) (ps ++ [p, q]) := by
  refine ⟨by simp [h.1], fun j hj => ?_⟩
  rw [List.length_append] at hj
  have hl := h.1
  simp only [List.length_cons, List.length_nil] at hj
  by_cases h1 : j < ps.length
  · rw [List.getElem?_append_left h1]
    have e : (us ++ [u, v]).getD j undef = us.getD j undef := by simp [List.getD, List.getElem?_append_left (show j < us.length by omega)]
    rw [e]
    exact h.2 j h1
  · rw [List.getElem?_append_right (by omega)]
    have e : (us ++ [u, v]).getD j undef = [u, v].getD (j - us.length) undef := by simp [List.getD, List.getElem?_append_right (show us.length ≤ j by omega)]
    rw [e, hl]
    have h2 : j - ps.length = 0 ∨ j - ps.length = 1 := by omega
    rcases h2 with h2 | h2 <;> rw [h2]
    · exact hu
    · exact hv
theorem row_cells2 (a0 a1 : Option Addr) (n0 c0 n1 c1 : Nat) (w : World) : ∀ ad, some (⟨w.heap.size, 0, none⟩ : Addr) = some ad → ∀ j u, [Value.slice a0 n0 c0, Value.slice a1 n1 c1][j]? = some u → (w.alloc (.cells #[.slice a0 n0 c0, .slice a1 n1 c1] 22)).cell? (ad.add j) = some u := by
  intro ad e j u hj
  cases e
  have h2 : ((⟨w.heap.size, 0, none⟩ : Addr).add j) = ⟨w.heap.size, j, none⟩ := by unfold Addr.add; split <;> simp_all
  rw [h2, World.cell?_alloc_new, ← hj, List.getElem?_toArray]
set_option maxHeartbeats 2000000 in
theorem frames_any (v : Value) (ls : List (List Int)) (w : World) (hv : Rows8 w v ls) (hn : ls.length ≤ 2000000) (hl : ls.flatten.length ≤ 70368744177664) :
    Calls Try.prog 22 #[v] w fun e w' => ∃ a c, e = .returned (.slice a (frames ls).length c) ∧ w'.ownsRow w.heap.size 5 1 (.slice a (frames ls).length c) (frames ls).length ((frames ls).map (Value.int .u8)) ∧ Up w w' := by
  obtain ⟨i0, hi, hz0, hz1, hz2⟩ := info_parts info_row8
  obtain ⟨a, cap, rfl, hcap, _, hcell⟩ := id hv
  have Hc : Hid (∀ k, k < ls.length → ∃ b off, a = some ⟨b, off, none⟩ ∧ ∃ u, w.cell? ⟨b, off + k, none⟩ = some u ∧ Ints .u8 w u (ls[k]?.getD [])) := by
    intro k hk
    rcases hcell with rfl | ⟨b, off, rfl, hc⟩
    · simp at hk
    · exact ⟨b, off, rfl, hc k hk⟩
  have hmk := make_row8 (2 * (ls.length : Int)) (2 * ls.length) (by omega) (by omega) w
  have hfl := frames_length ls
  have Hfl : Hid ((frames ls).length ≤ 140737488355328) := Lib.hid (by omega)
  have Hl := Lib.hid hl
  clear hv hcell hl hfl
  go_enter Try.func22, Try.ntmps22
  go_wp2
  clear hmk
  have r0 := World.ownsRow_made (base := w.heap.size) (e := 22) (size := 1) w (madeCells #[.slice none 0 0] (2 * ls.length)) (2 * ls.length) (Nat.le_refl _) (by unfold maxLen; omega) (by first | (rw [size_madeCells]; done) | (rw [size_madeCells]; omega))
  have u0 : Up w (w.alloc (.cells (madeCells #[.slice none 0 0] (2 * ls.length)) 22)) := Up.alloc (Up.refl w) _
  generalize w.alloc (.cells (madeCells #[.slice none 0 0] (2 * ls.length)) 22) = w1 at r0 u0 ⊢
  go_loopw [3, 12] (fun p i wr => ∃ (k : Nat) (us : List Value), k ≤ ls.length ∧ i = .int .i64 k ∧ p = .slice (some ⟨w.heap.size, 0, none⟩) (2 * k) (2 * ls.length) ∧ wr.ownsRow w.heap.size 22 1 (.slice (some ⟨w.heap.size, 0, none⟩) (2 * k) (2 * ls.length)) (2 * k) us ∧ PartsAt w.heap.size wr us (partsL (ls.take k)) ∧ Up w wr)
    (fun _ i _ => ls.length - (intOf i).toNat)
  case atStart => exact ⟨0, [], Nat.zero_le _, rfl, rfl, r0, ⟨rfl, fun j hj => by simp [partsL] at hj⟩, u0⟩
  case round =>
    obtain ⟨k, us, hk, rfl, rfl, hrow, hps, hU⟩ := hrel
    by_cases hlt : k < ls.length
    · obtain ⟨b, off, rfl, u, hcell, hi8⟩ := Hc.out k hlt
      have hcw := later_cell hcell hU
      have hpn : Hid (partsL (ls.take (k + 1)) = partsL (ls.take k) ++ [octAll (ls[k]?.getD []).length 3, ls[k]?.getD []]) := Lib.hid (by rw [take_snocL ls k hlt, partsL_snoc])
      have hxl : (ls[k]?.getD []).length ≤ 70368744177664 := by
        have h1 := flat_le ls (k + 1)
        rw [flat_snoc ls k hlt, List.length_append] at h1
        have := Hl.out
        omega
      generalize ls[k]?.getD [] = X at hi8 hpn hxl
      obtain ⟨a1, c1, rfl, _, _, _⟩ := id hi8
      have Hi8 := Lib.hid hi8
      have Hp : Hid (∀ wx, Up w wx → Calls Try.prog 32 #[.int .i64 X.length, .int .i64 3] wx fun e w' => ∃ a9 c9, e = .returned (.slice a9 3 c9) ∧ w'.ownsRow wx.heap.size 5 1 (.slice a9 3 c9) 3 ((octAll X.length 3).map (Value.int .u8)) ∧ Up wx w') := Lib.hid fun wx hx => by
        refine (put_any X.length 3 (by omega) (by omega) 3 (by omega) wx).mono ?_
        rintro e w' ⟨rv, rfl, h1, h2⟩
        obtain ⟨a9, c9, rfl⟩ := row_shape h1
        rw [show IntKind.u64.wrap (X.length : Int) = X.length from by rw [IntKind.wrap_u64]; omega] at h1
        exact ⟨a9, c9, rfl, h1, h2⟩
      have Hrow := Lib.hid hrow
      have Hps := Lib.hid hps
      have HU := Lib.hid hU
      have HR0 : Hid (w.heap.size < wr.heap.size) := Lib.hid ((hrow.lt _ rfl).2)
      clear hrow hps hU hcell hi8
      go_wp2_with (first
        | (go_at_call 32; refine (Hp.out _ HU.out).mono ?_; rintro e w2 ⟨a9, c9, rfl, hj1, hj2⟩; have Hj1 := Lib.hid hj1; have Hj2 := Lib.hid hj2; clear hj1 hj2)
        | (at_builtin; go_loud (refine wpList_append_fits_any _ rfl (.tmp 16) (.tmp 21) 26 rfl w.heap.size 22 i0 1 Try.underlying26 hi hz1 w.heap.size (2 * k) (2 * ls.length) us rfl (ownsRow_up Hrow.out (Up.alloc Hj2.out _)) (some ⟨w2.heap.size, 0, none⟩) 2 2 [.slice a9 3 c9, .slice a1 X.length c1] rfl rfl (fun e => by cases e) (row_cells2 _ _ _ _ _ _ _) (by simp [Value.oneCell']) (by omega) ?_; intro w4 hown' hgrow)))
      have hps4 : PartsAt w.heap.size w4 (us ++ [.slice a9 3 c9, .slice a1 X.length c1]) (partsL (ls.take k) ++ [octAll X.length 3, X]) := by
        have hua : Up w2 (w2.alloc (.cells #[.slice a9 3 c9, .slice a1 X.length c1] 22)) := Up.alloc (Up.refl w2) _
        refine ((((Hps.out.up Hj2.out).up hua).two ?_ ?_).keep hgrow)
        · exact (IntsF.of_row Hj1.out (fun b hb => by have := HR0.out; omega)).up hua
        · exact (IntsF.of Hi8.out (fun b hb => by omega)).up (Up.trans (Up.trans HU.out Hj2.out) hua)
      have hup4 : Up w w4 := up_at (Up.alloc (Up.trans HU.out Hj2.out) _) hgrow (Nat.le_refl _)
      rw [← hpn.out] at hps4
      have Hps4 := Lib.hid hps4
      have Hup4 := Lib.hid hup4
      have Hown := Lib.hid hown'
      clear hps4 hup4 hown' hgrow
      go_roundw
      case rel => exact ⟨k + 1, _, by omega, by go_num, by rw [show 2 * (k + 1) = 2 * k + 2 from by omega], by rw [show 2 * (k + 1) = 2 * k + 2 from by omega]; exact Hown.out, Hps4.out, Hup4.out⟩
      case measure => simp [intOf]; omega
    · obtain rfl : k = ls.length := by omega
      rw [List.take_length] at hps
      have hrows : Rows8 wr (.slice (some ⟨w.heap.size, 0, none⟩) (2 * ls.length) (2 * ls.length)) (partsL ls) :=
        (RowsF.of_row (F := fun _ => True) hrow hps.1 (fun _ _ => trivial) (fun j hj => (hps.2 j hj).weak (fun _ _ _ => trivial))).rows
      have hj := join_any _ (partsL ls) wr hrows (by rw [partsL_length]; omega) (by rw [partsL_flatten]; have := Hfl.out; omega)
      rw [partsL_flatten] at hj
      have Hj := Lib.hid hj
      have HU := Lib.hid hU
      clear hj hrows hps hrow hU
      go_wp2_with fail
      with_reducible refine Calls.mono Hj.out ?_
      rintro e w2 ⟨rfl, h1, h2⟩
      have H1 := Lib.hid h1
      have H2 := Lib.hid h2
      clear h1 h2
      go_wp2
      go_ret
      exact ⟨_, _, rfl, ownsRow_base H1.out HU.out.size, Up.trans HU.out H2.out⟩
theorem frameFn_long (v : Value) (zs : List Int) (w : World) (hv : Ints .u8 w v zs) (h : 16384 < zs.length) (hl : zs.length ≤ 9223372036854775807) :
    Calls Try.prog 7 #[v] w fun e w' => e = .returned (.tuple #[.slice none 0 0, .int .i64 5]) ∧ w = w' := by
  have Hi := Lib.hid (isLong_yes v zs w hv h hl)
  obtain ⟨a, c, rfl, _, _, _⟩ := hv
  go_enter Try.func7, Try.ntmps7
  go_wp2_with fail
  with_reducible refine Calls.mono Hi.out ?_
  rintro e w1 ⟨rfl, rfl⟩
  go_wp2
  go_ret2
  exact ⟨rfl, rfl⟩
theorem frameFn_any (v : Value) (zs : List Int) (w : World) (hv : Ints .u8 w v zs) (h : zs.length ≤ 16384) :
    Calls Try.prog 7 #[v] w fun e w' => ∃ a c, e = .returned (.tuple #[.slice a (frame zs).length c, .int .i64 0]) ∧ w'.ownsRow w.heap.size 5 1 (.slice a (frame zs).length c) (frame zs).length ((frame zs).map (Value.int .u8)) ∧ Up w w' := by
  have Hi := Lib.hid (isLong_no v zs w hv h)
  have hf := frames_any _ [zs] _ (Rows8.new1 w 22 v zs _ rfl hv) (by simp) (by simp; omega)
  rw [show frames [zs] = frame zs from by simp [frames]] at hf
  have Hf := Lib.hid hf
  obtain ⟨a, c, rfl, _, _, _⟩ := hv
  clear hf
  go_enter Try.func7, Try.ntmps7
  go_wp2_with fail
  with_reducible refine Calls.mono Hi.out ?_
  rintro e w1 ⟨rfl, rfl⟩
  go_wp2_with fail
  with_reducible refine Calls.mono Hf.out ?_
  rintro e w2 ⟨a9, c9, rfl, h1, h2⟩
  have H1 := Lib.hid h1
  have H2 := Lib.hid h2
  clear h1 h2
  go_wp2
  go_ret2
  exact ⟨_, _, rfl, ownsRow_base H1.out (by simp), Up.trans (Up.alloc (Up.refl w) _) H2.out⟩
end
end
end Go.Proofs.Ytaepdmmlejdifaa
