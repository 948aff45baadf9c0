import Derived.Test.YtmjcjbiengcigaaHeUntold
/-
  held: Tick.
-/
namespace Go.Proofs.Ytmjcjbiengcigaa
set_option maxRecDepth 100000
section
set_option linter.unusedVariables false
open Go.RowKit Go.Shelf
attribute [local go_sem] Oper.semAt_some

/-- the reports that are due -/
def dueL (B : ByteArray) (T F : Int) : List Int := (unL B T).takeWhile fun x => decide (x ≤ F)
theorem due_all {B : ByteArray} {T F : Int} (h : ∀ x ∈ unL B T, x ≤ F) : dueL B T F = unL B T := by
  unfold dueL
  generalize unL B T = l at h
  induction l with
  | nil => rfl
  | cons x t ih => rw [List.takeWhile_cons, if_pos (by simpa using h x (by simp)), ih (fun y hy => h y (by simp [hy]))]
theorem due_cut {B : ByteArray} {T F : Int} {pre rest : List Int} {x : Int} (h : unL B T = pre ++ x :: rest) (h1 : ∀ x ∈ pre, x ≤ F) (h2 : F < x) : dueL B T F = pre := by
  unfold dueL
  rw [h, List.takeWhile_append_of_pos (fun y hy => decide_eq_true (h1 y hy)), List.takeWhile_cons_of_neg (by simp; omega), List.append_nil]
theorem unL_length (B : ByteArray) (T : Int) : (unL B T).length ≤ 7 := by
  unfold unL
  split
  · rw [upF_length]; omega
  · simp
theorem due_length (B : ByteArray) (T F : Int) : (dueL B T F).length ≤ 7 := Nat.le_trans (List.takeWhile_sublist _).length_le (unL_length B T)
theorem due_range (B : ByteArray) (T F : Int) (hT : T ≤ 9223372036854775807) (hT0 : -9223372036854775808 ≤ T) : T + ((dueL B T F).length : Int) ≤ 9223372036854775807 ∧ -9223372036854775808 ≤ T + ((dueL B T F).length : Int) := by
  have h : (dueL B T F).length ≤ (unL B T).length := (List.takeWhile_sublist _).length_le
  have h2 : (unL B T).length ≤ 7 - T.toNat := by
    unfold unL
    split
    · rw [upF_length]; omega
    · simp
  have h3 : T < 0 → (unL B T).length = 0 := by
    intro h; unfold unL; rw [if_neg (fun e => by omega)]; rfl
  by_cases h4 : T < 0
  · have := h3 h4; omega
  · omega
theorem cells_own {β : Type} (D b : Nat) (cs : Array Value) (t : TypeId) : OwnFrom D (fun (_ : β) W => W.heap[b]? = some (.cells cs t (0, 0))) := by
  intro s W W' row h hg hr
  refine (hg.block b (lt_of_block h) fun e => ?_).trans h
  obtain ⟨_, o, ho, hc⟩ := hr b e.symm
  rw [h] at ho; cases ho; cases hc
/-- BETWEEN TWO ROUNDS -/
def CollT (n₀ m0 b Bf Bd : Nat) (F : Int) (cs zs : Array Value) (w : World) (pre : List Int) (W : World) : Prop :=
  (∃ v, Boxed W Bd 26 v ∧ W.ownsRow m0 3 1 v pre.length (pre.map (Value.int .i64)) ∧ True) ∧ Below n₀ w W ∧ Boxed W Bf 3 (.int .i64 F) ∧ W.heap[b]? = some (.cells cs 25 (0, 0)) ∧ W.heap[b + 1]? = some (.cells zs 25 (0, 0))
theorem CollT.own {n₀ m0 b Bf Bd : Nat} {F : Int} {cs zs : Array Value} {w : World} {D : Nat} (h1 : n₀ ≤ w.heap.size) (h2 : n₀ ≤ D) : OwnFrom D (CollT n₀ m0 b Bf Bd F cs zs w) :=
  OwnFrom.and (Own.from (holdsRow_own m0 Bd 26 3 1 (fun pre : List Int => pre.length) (fun pre : List Int => pre.map (Value.int .i64)) (fun _ _ => True)) _)
    (OwnFrom.and (ownFrom_below h1 h2) (OwnFrom.and (Own.from (boxed_own Bf 3 (fun _ => .int .i64 F)) _) (OwnFrom.and (cells_own D b cs _) (cells_own D (b + 1) zs _))))
theorem CollT.step {n₀ m0 b Bf Bd : Nat} {F : Int} {cs zs : Array Value} {w : World} {pre : List Int} {W w1 : World} {v v' : Value} {tmp : Obj} {y : Int}
    (hv : Boxed W Bd 26 v) (hrow : W.ownsRow m0 3 1 v pre.length (pre.map (Value.int .i64))) (hB : Below n₀ w W) (hn : n₀ ≤ w.heap.size) (hnm : n₀ ≤ m0) (hle : n₀ ≤ Bd)
    (hf : Boxed W Bf 3 (.int .i64 F)) (hc : W.heap[b]? = some (.cells cs 25 (0, 0))) (hz : W.heap[b + 1]? = some (.cells zs 25 (0, 0))) (hfm : Bf < m0) (hbm : b + 1 < m0) (hfd : Bf ≠ Bd) (hbd : b ≠ Bd) (hbd1 : b + 1 ≠ Bd)
    (hown : w1.ownsRow m0 3 1 v' (pre.length + 1) (pre.map (Value.int .i64) ++ [.int .i64 y])) (hgrow : (W.alloc tmp).grownBy w1 v.ownBlock) :
    Boxed w1 Bd 26 v ∧ KeepsOthers W (w1.setCell ⟨Bd, 0, none⟩ v') ∧ CollT n₀ m0 b Bf Bd F cs zs w (pre ++ [y]) (w1.setCell ⟨Bd, 0, none⟩ v') := by
  obtain ⟨q1, q2, q3, q4, q5⟩ := hv.appended (by decide) (ownsRow_base hrow hnm) (Nat.le_trans hn hB.size) hle (ownsRow_base hown hnm) hgrow
  have off : ∀ k, k < m0 → some k ≠ v.ownBlock := by
    intro k hk e
    rcases row_off (r := some k) hrow (fun q e => by cases e; exact hk) with h | h
    · rw [h] at e; cases e
    · exact h e.symm
  have hf1 := ((hf.alloc tmp).kept hgrow (off _ hfm)).other hfd v'
  have uc : Up W (W.alloc tmp) := Up.alloc (Up.refl W) _
  have kp : ∀ k (ds : Array Value), k < m0 → k ≠ Bd → W.heap[k]? = some (.cells ds 25 (0, 0)) → (w1.setCell ⟨Bd, 0, none⟩ v').heap[k]? = some (.cells ds 25 (0, 0)) := by
    intro k ds hk hne h
    have h1 := (uc.block k (lt_of_block h)).trans h
    have h2 := (hgrow.block k (lt_of_block h1) (off k hk)).trans h1
    exact ((grownBy_setCell' w1 Bd v').block k (lt_of_block h2) (fun e => hne (by cases e; rfl))).trans h2
  refine ⟨q1, q4, ⟨v', q2, ?_, trivial⟩, hB.trans q5, hf1, kp b cs (by omega) hbd hc, kp (b + 1) zs hbm hbd1 hz⟩
  have e1 : (pre ++ [y]).length = pre.length + 1 := by simp
  have e2 : (pre ++ [y]).map (Value.int .i64) = pre.map (Value.int .i64) ++ [.int .i64 y] := by simp
  rw [e1, e2]
  exact hown.kept (grownBy_setCell' w1 Bd v') (.inr (q1.not_row (by decide) hown).symm)
theorem info_int1 : (Try.prog.info? 3).map (fun i => (i.zero, i.size, i.bytes)) = some (some (.int .i64 0), 1, 8) := by kernel_rfl
set_option maxHeartbeats 4000000 in
theorem tick_any (V H : Int) (B : ByteArray) (S T N : Int) (w : World) (hT : T ≤ 9223372036854775807) (hT0 : -9223372036854775808 ≤ T) :
    Calls Try.prog 6 #[.agg (heC V H B S T), .int .i64 N] w fun e w' => ∃ v, e = .returned (.tuple #[.agg (heC V H B S (T + (dueL B T (fullL S N)).length)), v]) ∧ w'.ownsRow w.heap.size 3 1 v (dueL B T (fullL S N)).length ((dueL B T (fullL S N)).map (Value.int .i64)) ∧ Up w w' := by
  obtain ⟨i0, hi, hz0, hz1, hz2⟩ := info_parts info_int1
  obtain ⟨F, hF⟩ : ∃ F, fullL S N = F := ⟨_, rfl⟩
  have HFu := Lib.hid (fun wx => full_any V H B S T N wx)
  have HUn := Lib.hid (fun wx => untold_any V H B S T wx)
  rw [hF] at HFu ⊢
  unfold heC at HFu HUn ⊢
  have hc := heap_alloc_new w (.cells #[.int .i64 V, .int .i64 H, .string B, .int .i64 S, .int .i64 T] 25)
  have hu1 := Up.alloc (Up.refl (w.alloc (.cells #[.int .i64 V, .int .i64 H, .string B, .int .i64 S, .int .i64 T] 25))) (.cells #[.int .i64 0, .int .i64 0, .string ⟨#[]⟩, .int .i64 0, .int .i64 0] 25)
  have hz := heap_alloc_new (w.alloc (.cells #[.int .i64 V, .int .i64 H, .string B, .int .i64 S, .int .i64 T] 25)) (.cells #[.int .i64 0, .int .i64 0, .string ⟨#[]⟩, .int .i64 0, .int .i64 0] 25)
  have HC := Lib.hid ((hu1.block _ (lt_of_block hc)).trans hc)
  have HZ := Lib.hid hz
  have HU := Lib.hid ((Up.alloc (Up.refl w) (.cells #[.int .i64 V, .int .i64 H, .string B, .int .i64 S, .int .i64 T] 25)).trans hu1)
  clear hc hz hu1
  rw [show (w.alloc (.cells #[.int .i64 V, .int .i64 H, .string B, .int .i64 S, .int .i64 T] 25)).heap.size = w.heap.size + 1 by simp] at HZ
  refine (callsIn_wide (n := 3)).1 ?_
  refine callsIn_of_wp_marks Try.func6 rfl trivial ?_ rfl
  simp only [Try.ntmps6, List.size_toArray, List.length_cons, List.length_nil, Nat.reduceAdd, Nat.reduceSub, Array.replicate_succ, Array.replicate_zero, List.push_toArray, List.append_toArray, List.nil_append, List.cons_append]
  gi_wp2_with (first | (refine ⟨trivial, ?_⟩; gi_at_call 7; refine CallsIn.mono (callsIn_wide.2 (HFu.out _)) ?_; rintro e w2 ⟨rfl, hU⟩; have HU2 := Lib.hid (HU.out.trans hU); have u3 := Up.alloc (Up.alloc (Up.refl w2) (.cells #[.int .i64 F] 3)) (.cells #[.slice none 0 0] 26); have hC3 := (u3.block _ (lt_of_block ((hU.block _ (lt_of_block HC.out)).trans HC.out))).trans ((hU.block _ (lt_of_block HC.out)).trans HC.out); have HC3 := Lib.hid hC3; have HZ3 := Lib.hid ((u3.block _ (lt_of_block ((hU.block _ (lt_of_block HZ.out)).trans HZ.out))).trans ((hU.block _ (lt_of_block HZ.out)).trans HZ.out)); obtain ⟨q0, q1, q2, q3, q4⟩ := tx_cells hC3; have HLT := Lib.hid (Nat.lt_of_lt_of_le (lt_of_block HZ.out) hU.size); clear hU hC3 u3) | (refine ⟨trivial, ?_⟩; gi_at_call 12; refine CallsIn.mono (callsIn_wide.2 (HUn.out _)) ?_; rintro e w4 ⟨rfl, rfl⟩))
  clear q0 q1 q2 q3 q4
  have bF := ((Boxed.new w2 3 (.int .i64 F)).alloc (.cells #[.slice none 0 0] 26)).alloc (.cells #[.int .i64 V, .int .i64 H, .string B, .int .i64 S, .int .i64 T] 25)
  have bD := (Boxed.new (w2.alloc (.cells #[.int .i64 F] 3)) 26 (.slice none 0 0)).alloc (.cells #[.int .i64 V, .int .i64 H, .string B, .int .i64 S, .int .i64 T] 25)
  have bR := heap_alloc_new ((w2.alloc (.cells #[.int .i64 F] 3)).alloc (.cells #[.slice none 0 0] 26)) (.cells #[.int .i64 V, .int .i64 H, .string B, .int .i64 S, .int .i64 T] 25)
  have u4 := Up.alloc (Up.refl ((w2.alloc (.cells #[.int .i64 F] 3)).alloc (.cells #[.slice none 0 0] 26))) (.cells #[.int .i64 V, .int .i64 H, .string B, .int .i64 S, .int .i64 T] 25)
  have hC4 := (u4.block _ (lt_of_block HC3.out)).trans HC3.out
  have hZ4 := (u4.block _ (lt_of_block HZ3.out)).trans HZ3.out
  have hU4 : Up w (((w2.alloc (.cells #[.int .i64 F] 3)).alloc (.cells #[.slice none 0 0] 26)).alloc (.cells #[.int .i64 V, .int .i64 H, .string B, .int .i64 S, .int .i64 T] 25)) := Up.alloc (Up.alloc (Up.alloc HU2.out _) _) _
  have hsz : (((w2.alloc (.cells #[.int .i64 F] 3)).alloc (.cells #[.slice none 0 0] 26)).alloc (.cells #[.int .i64 V, .int .i64 H, .string B, .int .i64 S, .int .i64 T] 25)).heap.size = w2.heap.size + 3 := by simp
  simp only [World.size_alloc] at bD bR
  generalize (((w2.alloc (.cells #[.int .i64 F] 3)).alloc (.cells #[.slice none 0 0] 26)).alloc (.cells #[.int .i64 V, .int .i64 H, .string B, .int .i64 S, .int .i64 T] 25)) = w5 at bF bD bR hC4 hZ4 hU4 hsz ⊢
  have hlt : w.heap.size + 1 < w2.heap.size := HLT.out
  clear HC3 HZ3 HC HZ HU u4
  have hun := unL_length B T
  have hGv := untold_gives V H B S T (w2.heap.size + 1 + 1) w5 hT bR
  generalize hb : w.heap.size = b at *
  generalize hd : w2.heap.size = D0 at *
  have hsz2 : b ≤ w5.heap.size := by omega
  have hsz3 : D0 + 3 ≤ w5.heap.size := by omega
  clear hsz
  have h0 : CollT b w5.heap.size b D0 (D0 + 1) F #[.int .i64 V, .int .i64 H, .string B, .int .i64 S, .int .i64 T] #[.int .i64 0, .int .i64 0, .string ⟨#[]⟩, .int .i64 0, .int .i64 0] w5 [] w5 ∧ ∀ x ∈ ([] : List Int), x ≤ F := ⟨⟨⟨_, bD, World.ownsRow_nil _ _ _ _, trivial⟩, Below.refl _ _, bF, hC4, hZ4⟩, fun x hx => by cases hx⟩
  clear bF bD bR hC4 hZ4
  refine wpIn_over (gf := 14) (lb := #[.pointer (some ⟨D0 + 1 + 1, 0, none⟩)]) rfl (enters_of Try.func14 (by kernel_rfl) rfl) hGv rfl
    (fun pre x n => ownFrom_pure (β := Unit) _ (fun _ => ∃ rest, unL B T = pre ++ x :: rest)) (fun x => fun _ _ _ _ _ _ _ => trivial)
    (fun pre W => CollT b w5.heap.size b D0 (D0 + 1) F #[.int .i64 V, .int .i64 H, .string B, .int .i64 S, .int .i64 T] #[.int .i64 0, .int .i64 0, .string ⟨#[]⟩, .int .i64 0, .int .i64 0] w5 pre W ∧ ∀ x ∈ pre, x ≤ F)
    (fun c pre W => c = .exit 0 ∧ ∃ pre' x rest, unL B T = pre' ++ x :: rest ∧ F < x ∧ CollT b w5.heap.size b D0 (D0 + 1) F #[.int .i64 V, .int .i64 H, .string B, .int .i64 S, .int .i64 T] #[.int .i64 0, .int .i64 0, .string ⟨#[]⟩, .int .i64 0, .int .i64 0] w5 pre' W ∧ ∀ x ∈ pre', x ≤ F)
    (OwnFrom.and (CollT.own hsz2 hsz2) (ownFrom_pure _ _)) ?own2 h0 ?act0 ?assign ?body ?done ?stop
  case own2 =>
    rintro c pre W W' row ⟨h1, pre', x, rest, h2, h3, h4, h5⟩ hg hr
    exact ⟨h1, pre', x, rest, h2, h3, CollT.own hsz2 hsz2 pre' W W' row h4 hg hr, h5⟩
  case assign =>
    intro l x W K hK
    gi_wp2
    exact hK
  case body =>
    rintro l pre x W0 W hl _ _ _ ⟨⟨⟨v, hv, hrow, _⟩, hB, hf, hc, hz⟩, hle⟩ ⟨rest, hrest⟩
    have hfc := hf.cell
    have hpl : pre.length ≤ 6 := by
      rw [hrest, List.length_append, List.length_cons] at hun
      omega
    have HRest := Lib.hid hrest
    clear hrest
    by_cases hx : x ≤ F
    · have hvc := hv.cell
      gi_wp2_with (gi_at_builtin; refine wpListIn_append_own _ rfl _ _ 26 rfl w5.heap.size 3 i0 (.int .i64 0) 1 8 Try.underlying26 hi hz0 hz1 hz2 rfl (by decide) _ _ _ rfl (hrow.alloc _) ⟨W.heap.size, 0, none⟩ 1 1 [.int .i64 x] rfl rfl (cell_one_new _ _ _) (by simp [Value.oneCell']) (by unfold maxLen; omega) (by omega) (by have := hB.size; simp; omega) ?_; intro v' w1 hown' hgrow _; obtain ⟨g', cap', rfl⟩ := ownsRow_succ hown'; obtain ⟨hv1, hk2, hcoll⟩ := CollT.step hv hrow hB hsz2 hsz2 (by omega) hf hc hz (by omega) (by omega) (by omega) (by omega) (by omega) hown' hgrow; have hc1 := hv1.cell; have hf1 := hv1.frozen)
      refine ⟨hk2, trivial, hcoll, fun y hy => ?_⟩
      rcases List.mem_append.1 hy with h | h
      · exact hle y h
      · rw [List.mem_singleton.1 h]; exact hx
    · gi_wp2
      exact ⟨Up.others (Up.refl _), rfl, pre, x, ⟨rest, HRest.out⟩, by omega, ⟨⟨v, hv, hrow, trivial⟩, hB, hf, hc, hz⟩, hle⟩
  case done =>
    rintro D ys W hD hall ⟨⟨⟨v, hv, hrow, _⟩, hB, hf, hc, hz⟩, hle⟩ hK
    have hdue : dueL B T F = ys := by rw [hall] at hle; rw [due_all hle, hall]
    clear hall
    have hn7 : ys.length ≤ 7 := by rw [← hdue]; exact due_length B T F
    have hrg := due_range B T F hT hT0
    rw [hdue] at hrg
    have HDue := Lib.hid hdue
    clear hdue
    have hw : wrap64 (T + (ys.length : Int)) = T + ys.length := by unfold wrap64; omega
    obtain ⟨a, cp, rfl⟩ := row_shape hrow
    obtain ⟨q0, q1, q2, q3, q4⟩ := tx_cells hc
    have f4 := frozen_of_row W b 4 _ _ hc
    have hvc := hv.cell
    have hg1 := grownBy_setCell W ⟨b, 4, none⟩ (.int .i64 (T + (ys.length : Int)))
    have hC5 : (W.setCell ⟨b, 4, none⟩ (.int .i64 (T + (ys.length : Int)))).heap[b]? = some (.cells #[.int .i64 V, .int .i64 H, .string B, .int .i64 S, .int .i64 (T + (ys.length : Int))] 25 (0, 0)) := set_field hc 4 _ rfl
    have hZ5 := (hg1.block _ (lt_of_block hz) (fun e => by simp only [Option.some.injEq] at e; omega)).trans hz
    have hV5 : Boxed _ _ _ _ := (hg1.block _ (lt_of_block hv) (fun e => by simp only [Option.some.injEq] at e; omega)).trans hv
    have hR5 := hrow.kept hg1 ((row_off (r := some b) hrow (fun q e => by cases e; omega)))
    have hB5 := hB.setCell (p := ⟨b, 4, none⟩) (Nat.le_refl b) (.int .i64 (T + (ys.length : Int)))
    have hK5 := (hg1.block _ (Array.getElem?_eq_some_iff.1 hK).1 (fun e => by simp only [Option.some.injEq] at e; omega)).trans hK
    have HC5 := Lib.hid hC5
    have HZ5 := Lib.hid hZ5
    have HV5 := Lib.hid hV5
    have HR5 := Lib.hid hR5
    have HB5 := Lib.hid hB5
    have HK5 := Lib.hid hK5
    clear hC5 hZ5 hV5 hR5 hB5 hK5 hg1 hv hrow hB hf hc hz hle hK h0 hGv
    simp only [withMark]
    gi_wp2_with fail
    generalize W.setCell ⟨b, 4, none⟩ (.int .i64 (T + (ys.length : Int))) = W5 at HC5 HZ5 HV5 HR5 HB5 HK5 ⊢
    clear hw
    generalize hM : T + (ys.length : Int) = M at HC5 ⊢
    have HM := Lib.hid hM
    clear hM
    clear q0 q1 q2 q3 q4 f4 hvc
    refine wpIn_calm ?_
    refine region_alongF (ro := none) (fun wx => wx.heap[b]? = some (.cells #[.int .i64 V, .int .i64 H, .string B, .int .i64 S, .int .i64 M] 25 (0, 0)) ∧ Boxed wx (D0 + 1) 26 (.slice a ys.length cp)) (.read 0 (.read 1 (.step 2 (.read 3 .nil)))) (by kernel_rfl) rfl (by kernel_rfl) (by kernel_rfl) (by kernel_rfl) (fun c a d v w h => absurd rfl (h.1 c)) ⟨HC5.out, HV5.out⟩ ?_
    refine alongF_read (.agg #[.int .i64 V, .int .i64 H, .string B, .int .i64 S, .int .i64 M]) rfl rfl (fun wx hS => ex_loadrow rfl rfl wx 25 hS.1 Try.underlying25 rfl info_he) ?_
    refine alongF_read (.slice a ys.length cp) rfl rfl (fun wx hS => ex_load Try.isAgg26 rfl rfl wx hS.2.cell) ?_
    refine alongF_step ?_
    have hg6 := grownBy_setRow W5.drew (b + 1) #[.int .i64 V, .int .i64 H, .string B, .int .i64 S, .int .i64 M]
    have hZ6 := setRow_heap W5.drew (b + 1) _ #[.int .i64 V, .int .i64 H, .string B, .int .i64 S, .int .i64 M] 25 (0, 0) HZ5.out
    have hC6 := (hg6.block _ (lt_of_block HC5.out) (fun e => by simp only [Option.some.injEq] at e; omega)).trans HC5.out
    have hV6 : Boxed _ _ _ _ := (hg6.block _ (lt_of_block HV5.out) (fun e => by simp only [Option.some.injEq] at e; omega)).trans HV5.out
    have HR6 := Lib.hid ((ownsRow_up HR5.out (Up.drew1 W5)).kept hg6 (row_off (r := some (b + 1)) (ownsRow_up HR5.out (Up.drew1 W5)) (fun q e => by cases e; omega)))
    have hX : Up w W5.drew := by
      have h1 : Below b w w5 := by rw [← hb]; exact hU4
      have h2 := h1.trans HB5.out.drew
      rw [← hb] at h2
      exact h2
    have HB6 := Lib.hid (up_at hX hg6 (by omega))
    have HK6 := Lib.hid ((hg6.block _ (Array.getElem?_eq_some_iff.1 HK5.out).1 (fun e => by simp only [Option.some.injEq] at e; omega)).trans HK5.out)
    have HZ6 := Lib.hid hZ6
    refine opF_skip (by intro c e; cases e) (W5.drew.setRow (b + 1) #[.int .i64 V, .int .i64 H, .string B, .int .i64 S, .int .i64 M]) rfl rfl (ex_storerow rfl rfl rfl _ 25 HZ5.out info_he rfl (one_he _ _ _ _ _)) ⟨hC6, hV6⟩ ?_
    generalize W5.drew.setRow (b + 1) #[.int .i64 V, .int .i64 H, .string B, .int .i64 S, .int .i64 M] = W6 at HR6 HB6 HK6 HZ6 ⊢
    clear hg6 hZ6 hC6 hV6
    refine alongF_assign (.slice a ys.length cp) rfl rfl rfl rfl ?_
    change AlongF _ _ _ _ _ _ _ { tmps := #[.agg #[.int .i64 V, .int .i64 H, .string B, .int .i64 S, .int .i64 T], .int .i64 N, .pointer (some ⟨b, 0, none⟩), undef, .pointer (some ⟨b + 1, 0, none⟩), .slice a ys.length cp, .pointer (some ⟨D0, 0, none⟩), .pointer (some ⟨D0 + 1, 0, none⟩), undef, .agg #[.int .i64 V, .int .i64 H, .string B, .int .i64 S, .int .i64 T], .int .i64 N, .int .i64 F, .agg #[.int .i64 V, .int .i64 H, .string B, .int .i64 S, .int .i64 T], .func (.func 14) #[] #[.pointer (some ⟨D0 + 1 + 1, 0, none⟩)], undef, undef, undef, undef, undef, undef, undef, undef, .pointer (some ⟨b, 4, none⟩), .int .i64 T, .slice a ys.length cp, .int .i64 (ys.length : Int), .int .i64 M, .pointer (some ⟨b, 4, none⟩), .agg #[.int .i64 V, .int .i64 H, .string B, .int .i64 S, .int .i64 M], .slice a ys.length cp], defers := [{ target := .collected D, args := #[] }] } _
    refine alongF_done ?_
    refine ⟨fun ch e => (by cases e), ?_⟩
    have hD6 : b + 1 ≠ D := by omega
    have HZ7 := Lib.hid ((World.putObj_heap_other (w := W6) (o := .deferred none) hD6).trans HZ6.out)
    gi_wp2
    refine ⟨by simp, .inl ⟨_, _, rfl, run_takeDeferred HK6.out, ?_⟩⟩
    refine ⟨_, results_he2 rfl _ _ (b + 1) _ rfl HZ7.out rfl, ?_⟩
    refine ⟨.slice a ys.length cp, ?_, ?_, ?_⟩
    · rw [HDue.out, HM.out]; rfl
    · rw [HDue.out]; exact ownsRow_base (ownsRow_putObj HR6.out (.deferred none) HK6.out rfl) (by omega)
    · exact Below.trans HB6.out (belowK_b (w := w) (Nat.le_refl _) W6 D _ _ (by omega) HK6.out rfl rfl)
  case stop =>
    rintro D c ys' W hD ⟨rfl, ys, x, rest, h1, h2, ⟨⟨v, hv, hrow, _⟩, hB, hf, hc, hz⟩, hle⟩ hK
    have hdue : dueL B T F = ys := due_cut h1 hle h2
    clear h1
    have hn7 : ys.length ≤ 7 := by rw [← hdue]; exact due_length B T F
    have hrg := due_range B T F hT hT0
    rw [hdue] at hrg
    have HDue := Lib.hid hdue
    clear hdue
    have hw : wrap64 (T + (ys.length : Int)) = T + ys.length := by unfold wrap64; omega
    obtain ⟨a, cp, rfl⟩ := row_shape hrow
    obtain ⟨q0, q1, q2, q3, q4⟩ := tx_cells hc
    have f4 := frozen_of_row W b 4 _ _ hc
    have hvc := hv.cell
    have hg1 := grownBy_setCell W ⟨b, 4, none⟩ (.int .i64 (T + (ys.length : Int)))
    have hC5 : (W.setCell ⟨b, 4, none⟩ (.int .i64 (T + (ys.length : Int)))).heap[b]? = some (.cells #[.int .i64 V, .int .i64 H, .string B, .int .i64 S, .int .i64 (T + (ys.length : Int))] 25 (0, 0)) := set_field hc 4 _ rfl
    have hZ5 := (hg1.block _ (lt_of_block hz) (fun e => by simp only [Option.some.injEq] at e; omega)).trans hz
    have hV5 : Boxed _ _ _ _ := (hg1.block _ (lt_of_block hv) (fun e => by simp only [Option.some.injEq] at e; omega)).trans hv
    have hR5 := hrow.kept hg1 ((row_off (r := some b) hrow (fun q e => by cases e; omega)))
    have hB5 := hB.setCell (p := ⟨b, 4, none⟩) (Nat.le_refl b) (.int .i64 (T + (ys.length : Int)))
    have hK5 := (hg1.block _ (Array.getElem?_eq_some_iff.1 hK).1 (fun e => by simp only [Option.some.injEq] at e; omega)).trans hK
    have HC5 := Lib.hid hC5
    have HZ5 := Lib.hid hZ5
    have HV5 := Lib.hid hV5
    have HR5 := Lib.hid hR5
    have HB5 := Lib.hid hB5
    have HK5 := Lib.hid hK5
    clear hC5 hZ5 hV5 hR5 hB5 hK5 hg1 hv hrow hB hf hc hz hle hK h0 hGv
    simp only [withMark]
    gi_wp2_with fail
    generalize W.setCell ⟨b, 4, none⟩ (.int .i64 (T + (ys.length : Int))) = W5 at HC5 HZ5 HV5 HR5 HB5 HK5 ⊢
    clear hw
    generalize hM : T + (ys.length : Int) = M at HC5 ⊢
    have HM := Lib.hid hM
    clear hM
    clear q0 q1 q2 q3 q4 f4 hvc
    refine wpIn_calm ?_
    refine region_alongF (ro := none) (fun wx => wx.heap[b]? = some (.cells #[.int .i64 V, .int .i64 H, .string B, .int .i64 S, .int .i64 M] 25 (0, 0)) ∧ Boxed wx (D0 + 1) 26 (.slice a ys.length cp)) (.read 0 (.read 1 (.step 2 (.read 3 .nil)))) (by kernel_rfl) rfl (by kernel_rfl) (by kernel_rfl) (by kernel_rfl) (fun c a d v w h => absurd rfl (h.1 c)) ⟨HC5.out, HV5.out⟩ ?_
    refine alongF_read (.agg #[.int .i64 V, .int .i64 H, .string B, .int .i64 S, .int .i64 M]) rfl rfl (fun wx hS => ex_loadrow rfl rfl wx 25 hS.1 Try.underlying25 rfl info_he) ?_
    refine alongF_read (.slice a ys.length cp) rfl rfl (fun wx hS => ex_load Try.isAgg26 rfl rfl wx hS.2.cell) ?_
    refine alongF_step ?_
    have hg6 := grownBy_setRow W5.drew (b + 1) #[.int .i64 V, .int .i64 H, .string B, .int .i64 S, .int .i64 M]
    have hZ6 := setRow_heap W5.drew (b + 1) _ #[.int .i64 V, .int .i64 H, .string B, .int .i64 S, .int .i64 M] 25 (0, 0) HZ5.out
    have hC6 := (hg6.block _ (lt_of_block HC5.out) (fun e => by simp only [Option.some.injEq] at e; omega)).trans HC5.out
    have hV6 : Boxed _ _ _ _ := (hg6.block _ (lt_of_block HV5.out) (fun e => by simp only [Option.some.injEq] at e; omega)).trans HV5.out
    have HR6 := Lib.hid ((ownsRow_up HR5.out (Up.drew1 W5)).kept hg6 (row_off (r := some (b + 1)) (ownsRow_up HR5.out (Up.drew1 W5)) (fun q e => by cases e; omega)))
    have hX : Up w W5.drew := by
      have h1 : Below b w w5 := by rw [← hb]; exact hU4
      have h2 := h1.trans HB5.out.drew
      rw [← hb] at h2
      exact h2
    have HB6 := Lib.hid (up_at hX hg6 (by omega))
    have HK6 := Lib.hid ((hg6.block _ (Array.getElem?_eq_some_iff.1 HK5.out).1 (fun e => by simp only [Option.some.injEq] at e; omega)).trans HK5.out)
    have HZ6 := Lib.hid hZ6
    refine opF_skip (by intro c e; cases e) (W5.drew.setRow (b + 1) #[.int .i64 V, .int .i64 H, .string B, .int .i64 S, .int .i64 M]) rfl rfl (ex_storerow rfl rfl rfl _ 25 HZ5.out info_he rfl (one_he _ _ _ _ _)) ⟨hC6, hV6⟩ ?_
    generalize W5.drew.setRow (b + 1) #[.int .i64 V, .int .i64 H, .string B, .int .i64 S, .int .i64 M] = W6 at HR6 HB6 HK6 HZ6 ⊢
    clear hg6 hZ6 hC6 hV6
    refine alongF_assign (.slice a ys.length cp) rfl rfl rfl rfl ?_
    change AlongF _ _ _ _ _ _ _ { tmps := #[.agg #[.int .i64 V, .int .i64 H, .string B, .int .i64 S, .int .i64 T], .int .i64 N, .pointer (some ⟨b, 0, none⟩), undef, .pointer (some ⟨b + 1, 0, none⟩), .slice a ys.length cp, .pointer (some ⟨D0, 0, none⟩), .pointer (some ⟨D0 + 1, 0, none⟩), undef, .agg #[.int .i64 V, .int .i64 H, .string B, .int .i64 S, .int .i64 T], .int .i64 N, .int .i64 F, .agg #[.int .i64 V, .int .i64 H, .string B, .int .i64 S, .int .i64 T], .func (.func 14) #[] #[.pointer (some ⟨D0 + 1 + 1, 0, none⟩)], undef, undef, undef, undef, undef, undef, undef, undef, .pointer (some ⟨b, 4, none⟩), .int .i64 T, .slice a ys.length cp, .int .i64 (ys.length : Int), .int .i64 M, .pointer (some ⟨b, 4, none⟩), .agg #[.int .i64 V, .int .i64 H, .string B, .int .i64 S, .int .i64 M], .slice a ys.length cp], defers := [{ target := .collected D, args := #[] }] } _
    refine alongF_done ?_
    refine ⟨fun ch e => (by cases e), ?_⟩
    have hD6 : b + 1 ≠ D := by omega
    have HZ7 := Lib.hid ((World.putObj_heap_other (w := W6) (o := .deferred none) hD6).trans HZ6.out)
    gi_wp2
    refine ⟨by simp, .inl ⟨_, _, rfl, run_takeDeferred HK6.out, ?_⟩⟩
    refine ⟨_, results_he2 rfl _ _ (b + 1) _ rfl HZ7.out rfl, ?_⟩
    refine ⟨.slice a ys.length cp, ?_, ?_, ?_⟩
    · rw [HDue.out, HM.out]; rfl
    · rw [HDue.out]; exact ownsRow_base (ownsRow_putObj HR6.out (.deferred none) HK6.out rfl) (by omega)
    · exact Below.trans HB6.out (belowK_b (w := w) (Nat.le_refl _) W6 D _ _ (by omega) HK6.out rfl rfl)
end
end Go.Proofs.Ytmjcjbiengcigaa
