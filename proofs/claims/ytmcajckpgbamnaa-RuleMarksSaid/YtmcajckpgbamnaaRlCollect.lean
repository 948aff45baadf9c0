import Derived.RangeFuncBox
import Derived.Test.YtmcajckpgbamnaaRlKeys
/-
  slices.AppendSeq, slices.Collect of the marks of a set.
-/
namespace Go.Proofs.Ytmcajckpgbamnaa
set_option maxRecDepth 100000
section
set_option linter.unusedVariables false
open Go.RowKit Go.Maps Go.WideMaps
attribute [local go_sem] Oper.semAt_some

def mrF (xs : List Mr) : List Value := xs.flatMap mrC
theorem mrF_length : ∀ xs : List Mr, (mrF xs).length = xs.length * 3
  | [] => rfl
  | x :: t => by
    have := mrF_length t
    show (mrC x ++ mrF t).length = _
    rw [List.length_append, this]; simp [mrC]; omega
theorem mrF_snoc (xs : List Mr) (x : Mr) : mrF (xs ++ [x]) = mrF xs ++ mrC x := by unfold mrF; rw [List.flatMap_append]; simp
theorem mrInfo : ∃ i, Try.prog.info? 26 = some i ∧ i.zero = some (.agg #[.int .i64 0, .int .i64 0, .string ⟨#[]⟩]) ∧ i.size = 3 ∧ i.bytes = 32 := by
  have h : (Try.prog.info? 26).map (fun i => (i.zero, i.size, i.bytes)) = some (some (.agg #[.int .i64 0, .int .i64 0, .string ⟨#[]⟩]), 3, 32) := by kernel_rfl
  cases hq : Try.prog.info? 26 with
  | none => rw [hq] at h; cases h
  | some i =>
    rw [hq] at h
    simp only [Option.map_some, Option.some.injEq, Prod.mk.injEq] at h
    exact ⟨i, rfl, h.1, h.2.1, h.2.2⟩
theorem rlCellsNew (W : World) (cs : List Value) (t : TypeId) : ∀ j u, cs[j]? = some u → (W.alloc (.cells cs.toArray t)).cell? ((⟨W.heap.size, 0, none⟩ : Addr).add j) = some u := by
  intro j u hj
  have ha : ((⟨W.heap.size, 0, none⟩ : Addr).add j) = ⟨W.heap.size, j, none⟩ := by unfold Addr.add; split <;> simp_all
  rw [ha, cell_of_row _ _ j _ _ _ (heap_alloc_new W (.cells cs.toArray t))]
  simpa using hj
/-- what a set's marks are, as they come -/
def AllM (L : List Mr) (ss : List Mr) : Prop := ss.Nodup ∧ (∀ x ∈ ss, MrOk x) ∧ ∀ x, MrOk x → (x ∈ ss ↔ x ∈ L)

set_option maxHeartbeats 4000000 in
theorem rlAppendSeq_any (Bm b nn : Nat) (L : List Mr) (w : World) (hBm : Bm < w.heap.size) (hm : w.cell? ⟨Bm, 0, none⟩ = some (.map (some b))) (hs : MarkSet w b nn L) (hL : L.length * 32 ≤ 140737488355328) :
    Calls Try.prog 28 #[.slice none 0 0, .func (.func 21) #[] #[.pointer (some ⟨Bm, 0, none⟩)]] w fun e w' =>
      ∃ v ss, e = .returned v ∧ AllM L ss ∧ w'.ownsRow w.heap.size 26 3 v ss.length (mrF ss) ∧ Up w w' := by
  obtain ⟨i0, hi, hz0, hz1, hz2⟩ := mrInfo
  refine (callsIn_wide (n := 3)).1 ?_
  refine callsIn_of_wp_marks Try.func28 rfl trivial ?_ rfl
  simp only [Try.ntmps28, List.size_toArray, List.length_cons, List.length_nil, Nat.reduceAdd, Nat.reduceSub, Array.replicate_succ, Array.replicate_zero, List.push_toArray, List.append_toArray, List.nil_append, List.cons_append]
  gi_wp2
  have hu1 := Up.alloc (Up.refl w) (.cells #[.slice none 0 0] 23)
  have hbx := Boxed.new w 23 (.slice none 0 0)
  have hm1 := (hu1.cell (p := ⟨Bm, 0, none⟩) hBm).trans hm
  have hs1 := hs.up hu1
  have hsz : (w.alloc (.cells #[.slice none 0 0] 23)).heap.size = w.heap.size + 1 := by simp
  generalize w.alloc (.cells #[.slice none 0 0] 23) = w1 at *
  obtain ⟨n0, hn0⟩ : ∃ n0, w.heap.size = n0 := ⟨_, rfl⟩
  have Hn0 := Lib.hid hn0
  rw [hn0] at hbx hsz ⊢
  refine wpIn_rangeFunc_ownH rfl (by omega) (gf := 21) (lb := #[.pointer (some ⟨Bm, 0, none⟩)]) rfl trivial (enters_of Try.func21 (by kernel_rfl) rfl)
    (encs := fun x : Mr => #[.agg (mrA x)]) (Kp := KeepsWalks) (S := AllM L) (Sp := fun _ => True) (N := L.length) (w0 := w1)
    (fun l J Jx W hW hJ hJx hY h0 => rlKeys1_in l Bm b nn L J Jx W hJ hJx (fun pre x W1 h1 h2 _ => hY pre x W1 h1 h2) ((hW.cell (p := ⟨Bm, 0, none⟩) (by show Bm < _; omega)).trans hm1) (hs1.up hW) h0)
    (fun h k => h.trans k) (fun W l o o' hl h hc hw => KeepsWalks.putObj o' h hw) (Below.refl _ _) (fun _ => rfl)
    (fun pre W => (∃ v, Boxed W n0 23 v ∧ W.ownsRow n0 26 3 v pre.length (mrF pre) ∧ True) ∧ Below n0 w W)
    (fun _ _ _ => False)
    (OwnFrom.and ((holdsRow_own n0 n0 23 26 3 (fun s : List Mr => s.length) mrF (fun _ _ => True)).from _) (ownFrom_below (by omega) (by omega))) (fun _ _ _ _ _ hs _ _ => hs) ⟨⟨_, hbx, World.ownsRow_nil _ _ _ _, trivial⟩, hn0 ▸ hu1⟩
    (fun x a' W => ∃ b5, a' = { tmps := #[.slice none 0 0, .func (.func 21) #[] #[.pointer (some ⟨Bm, 0, none⟩)], .pointer (some ⟨n0, 0, none⟩), undef, .slice none 0 0, .pointer (some ⟨b5, 0, none⟩), .func (.func 21) #[] #[.pointer (some ⟨Bm, 0, none⟩)], .agg (mrA x), undef, undef, undef, undef, undef], defers := [] } ∧ W.heap[b5]? = some (.cells (mrA x) 26 (0, 0)) ∧ n0 < b5)
    (fun x a' u W W' row ⟨b5, k1, k2, k3⟩ hg hr => ⟨b5, k1, (hg.block _ (lt_of_block k2) (fun e => by obtain ⟨_, o, ho, hc⟩ := hr b5 e.symm; rw [k2] at ho; cases ho; cases hc)).trans k2, k3⟩) ?assign ?body ?done ?stop
  case assign =>
    intro l pre x W K hI hK
    obtain ⟨V, Hh, B⟩ := x
    simp only [mrA] at hK ⊢
    gi_wp2
    have hu := Up.alloc (Up.refl W) (.cells #[.int .i64 V, .int .i64 Hh, .string B] 26)
    obtain ⟨⟨v, h1, h2, _⟩, h3⟩ := hI
    exact hK _ _ ⟨hu.size, fun k o _ h1 _ => (hu.block k (lt_of_block h1)).trans h1⟩ (KeepsWalks.alloc W _) ⟨⟨v, h1.alloc _, ownsRow_up h2 hu, trivial⟩, h3.alloc (by have := h3.size; omega) _⟩ ⟨W.heap.size, rfl, heap_alloc_new _ _, Nat.lt_of_lt_of_le h1.lt (Nat.le_refl _)⟩
  case body =>
    rintro l pre x a' W hl hr hI hA hlt
    obtain ⟨b5, rfl, k5, h5⟩ := hA
    obtain ⟨⟨v, hv, hrow, _⟩, hB⟩ := hI
    obtain ⟨V, Hh, B⟩ := x
    simp only [mrA] at k5 ⊢
    have hvc := hv.cell
    obtain ⟨d0, d1, d2⟩ := mk_cells k5
    have hnS : n0 ≤ W.heap.size := by have := hB.size; omega
    have HK5 := Lib.hid k5
    clear k5
    gi_wp2_with (gi_at_builtin; refine wpListIn_append_own _ rfl _ _ 23 rfl n0 26 i0 (.agg #[.int .i64 0, .int .i64 0, .string ⟨#[]⟩]) 3 32 Try.underlying23 hi hz0 hz1 hz2 rfl (by decide) _ _ _ rfl (hrow.alloc _) ⟨W.heap.size, 0, none⟩ 1 1 [.int .i64 V, .int .i64 Hh, .string B] rfl rfl (rlCellsNew W [.int .i64 V, .int .i64 Hh, .string B] _) (by simp [Value.oneCell']) (by unfold maxLen; omega) (by omega) (by simp; omega) ?_; intro v' w2 hown' hgrow _; obtain ⟨g', cap', rfl⟩ := ownsRow_succ hown'; obtain ⟨q1, q2, q3, q4, q5⟩ := Boxed.appended hv (by decide) hrow hnS (Nat.le_refl _) hown' hgrow; have q1c := q1.cell; have q1f := q1.frozen)
    refine ⟨⟨q4.size, fun k o _ h1 h2 => q4.same k o h1 h2⟩, q4.walks, ⟨_, q2, ?_, trivial⟩, hB.trans q5⟩
    rw [List.length_append, mrF_snoc]
    exact q3
  case done =>
    rintro D ys W hD hS ⟨⟨v, hv, hrow, _⟩, hB⟩ hK
    have hvc := hv.cell
    have HR := Lib.hid hrow
    have HB := Lib.hid hB
    have HS := Lib.hid hS
    have HK := Lib.hid hK
    clear hrow hB hS hK
    gi_wp2
    refine ⟨by simp, .inl ⟨_, _, rfl, run_takeDeferred HK.out, ?_⟩⟩
    refine ⟨_, results_tmp rfl _ _ _, v, ys, rfl, HS.out, ?_, ?_⟩
    · rw [Hn0.out]; exact ownsRow_putObj HR.out (.deferred none) HK.out rfl
    · show Below w.heap.size w _
      rw [Hn0.out]
      exact Below.trans HB.out (belowK_b (w := w) (by omega) W D _ _ (by omega) HK.out rfl rfl)
  case stop =>
    intro D c pre W _ _ h
    exact h.elim
theorem rlCollect_any (Bm b nn : Nat) (L : List Mr) (w : World) (hBm : Bm < w.heap.size) (hm : w.cell? ⟨Bm, 0, none⟩ = some (.map (some b))) (hs : MarkSet w b nn L) (hL : L.length * 32 ≤ 140737488355328) :
    Calls Try.prog 19 #[.func (.func 21) #[] #[.pointer (some ⟨Bm, 0, none⟩)]] w fun e w' =>
      ∃ v ss, e = .returned v ∧ AllM L ss ∧ w'.ownsRow w.heap.size 26 3 v ss.length (mrF ss) ∧ Up w w' := by
  have Hc := Lib.hid (rlAppendSeq_any Bm b nn L w hBm hm hs hL)
  clear hm hs
  go_enter Try.func19, Try.ntmps19
  go_wp2_with fail
  with_reducible refine Calls.mono Hc.out ?_
  rintro e w1 ⟨v, ss, rfl, h1, h2, h3⟩
  have H1 := Lib.hid (And.intro h1 (And.intro h2 h3))
  clear h1 h2 h3
  go_wp2
  go_ret
  exact ⟨v, ss, rfl, H1.out⟩
theorem rlKeys_any (b : Nat) (w : World) : Calls Try.prog 13 #[.map (some b)] w fun e w' => e = .returned (.func (.func 21) #[] #[.pointer (some ⟨w.heap.size, 0, none⟩)]) ∧ w' = w.alloc (.cells #[.map (some b)] 37) := by
  go_enter Try.func13, Try.ntmps13
  go_wp2
  go_ret
  exact ⟨rfl, rfl⟩
end
end Go.Proofs.Ytmcajckpgbamnaa
