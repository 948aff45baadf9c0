import Derived.RangeFuncBox
import Derived.RangeFuncLeaves
import Derived.RangeFuncNested
import Derived.Shelf.Abstract
import Derived.WalkKit
import Derived.OwnWalkIn
import Derived.TacticsInMore
import Derived.LoopNIn
import Derived.LoopIn
import Derived.Maps.AppendAt
import Derived.Outline
import Derived.OwnWalk
import Derived.Deep.RegionLaw
import Derived.Laws.CopyOwn
import Derived.Test.YtnipkhgaceicbaaRows
import Derived.Test.YtnipkhgaceicbaaBase
namespace Go.Proofs.Ytnipkhgaceicbaa
section
section
set_option linter.unusedVariables false
open Go.RowKit Go.Shelf
attribute [local go_sem] Oper.semAt_some

/-- two blocks are as they were -/
def Keep2 (B C : Nat) (W W' : World) : Prop := W'.heap[B]? = W.heap[B]? ∧ W'.heap[C]? = W.heap[C]?
theorem Keep2.trans {B C : Nat} {X Y Z : World} (h : Keep2 B C X Y) (k : Keep2 B C Y Z) : Keep2 B C X Z := ⟨k.1.trans h.1, k.2.trans h.2⟩
theorem Keep2.refl (B C : Nat) (X : World) : Keep2 B C X X := ⟨rfl, rfl⟩
theorem Keep2.put {B C : Nat} {W : World} {l : Nat} {o o' : Obj} (hB : B ≠ l) (hC : C ≠ l) (_h : W.heap[l]? = some o) : Keep2 B C W (W.putObj l o') :=
  ⟨World.putObj_heap_other (by omega), World.putObj_heap_other (by omega)⟩

/-- falling(n, size): both boxed; the function value captures the boxes. -/
theorem falling_any (x sz : Int) (w : World) :
    Calls Try.prog 86 #[.int .u64 x, .int .i64 sz] w fun e w' => e = .returned (.func (.func 91) #[] #[.pointer (some ⟨w.heap.size + 1, 0, none⟩), .pointer (some ⟨w.heap.size, 0, none⟩)]) ∧ (w.alloc (.cells #[.int .u64 x] 101)).alloc (.cells #[.int .i64 sz] 3) = w' := by
  go_enter Try.func86, Try.ntmps86
  go_wp2
  go_ret
  exact ⟨rfl, rfl⟩

set_option maxRecDepth 100000 in
set_option maxHeartbeats 1000000 in
/-- the iterator: FOR EVERY LOOP BODY THAT KEEPS THE TWO BOXES. -/
theorem fall1_in (n : Nat) (hn : 1 ≤ n) (l Bx Bs : Nat) (x : Int) (sz : Nat) (_hx : 0 ≤ x ∧ x < 18446744073709551616) (_hsz : sz ≤ 8) (J Jx : List Int → World → Prop)
    (hY : ∀ pre y W, J pre W → pre.length < sz → YieldAt Fence.wide (n - 1) Try.prog l #[.int .u8 y] W fun e W' =>
      (e = .returned (.bool true) ∧ J (pre ++ [y]) W' ∧ Keep2 Bx Bs W W') ∨ (e = .returned (.bool false) ∧ Jx (pre ++ [y]) W'))
    (W : World) (hcx : W.cell? ⟨Bx, 0, none⟩ = some (.int .u64 x)) (hcs : W.cell? ⟨Bs, 0, none⟩ = some (.int .i64 sz)) (h0 : J [] W) :
    CallsIn Fence.wide n Try.prog 91 #[.func (.yield l) #[] #[], .pointer (some ⟨Bs, 0, none⟩), .pointer (some ⟨Bx, 0, none⟩)] W fun e W' => (∃ v, e = .returned v) ∧
      ((∃ ys, ys = octAll x sz ∧ J ys W') ∨ (∃ pre, True ∧ Jx pre W')) := by
  refine callsIn_of_wp Try.func91 rfl trivial ?_ rfl
  simp only [Try.ntmps91, List.size_toArray, List.length_cons, List.length_nil, Nat.reduceAdd, Nat.reduceSub, Array.replicate_succ, Array.replicate_zero, List.push_toArray, List.append_toArray, List.nil_append, List.cons_append]
  gi_wp2
  gi_loopw [6] (fun i wr => ∃ k : Nat, k ≤ sz ∧ i = .int .i64 k ∧ J (octs x sz k) wr ∧ Keep2 Bx Bs W wr)
    (fun i _ => sz - (intOf i).toNat)
  case atStart => exact ⟨0, Nat.zero_le _, rfl, h0, Keep2.refl _ _ _⟩
  case round =>
    obtain ⟨k, hk, rfl, hJs, hnx⟩ := hrel
    have hc1 : wr.cell? ⟨Bx, 0, none⟩ = some (.int .u64 x) := (World.cell?_of_block hnx.1).trans hcx
    have hc2 : wr.cell? ⟨Bs, 0, none⟩ = some (.int .i64 sz) := (World.cell?_of_block hnx.2).trans hcs
    by_cases hlt : k < sz
    · have hy := hY _ (x / 2 ^ (8 * (sz - 1 - k)) % 256) wr hJs (by rw [octs_length]; exact hlt)
      obtain ⟨fn, tmps, assign, body, hy, hR⟩ := hy
      gi_wp2
      refine hR.mono ?_
      rintro e W3 (⟨rfl, hJ3, hk3⟩ | ⟨rfl, hJx3⟩)
      · gi_wp2
        go_roundw
        case rel => exact ⟨k + 1, by omega, by simp, by rw [octs_succ]; exact hJ3, hnx.trans hk3⟩
        case measure => simp [intOf]; omega
      · gi_wp2
        refine bodyPost_ret (results_none rfl _ _ _) rfl ?_
        exact ⟨⟨_, rfl⟩, .inr ⟨_, trivial, hJx3⟩⟩
    · obtain rfl : k = sz := by omega
      gi_wp2
      go_end0
      exact ⟨⟨_, rfl⟩, .inl ⟨_, rfl, hJs⟩⟩

/-- the iterator's contract -/
theorem fall_stops (n : Nat) (hn : 1 ≤ n) (Bx Bs : Nat) (x : Int) (S : Int) (sz : Nat) (hS : S = sz) (hx : 0 ≤ x ∧ x < 18446744073709551616) (hsz : sz ≤ 8) (w : World) (hBx : Bx < w.heap.size) (hBs : Bs < w.heap.size)
    (hcx : w.cell? ⟨Bx, 0, none⟩ = some (.int .u64 x)) (hcs : w.cell? ⟨Bs, 0, none⟩ = some (.int .i64 S)) :
    SeqStopsK Fence.wide n Try.prog 91 #[.pointer (some ⟨Bs, 0, none⟩), .pointer (some ⟨Bx, 0, none⟩)] (fun y : Int => #[Value.int .u8 y]) (Keep2 Bx Bs) (fun ys => ys = octAll x sz) (fun _ => True) sz w := fun l J Jx W hW _ _ hY h0 => by
  subst hS
  exact fall1_in n hn l Bx Bs x sz hx hsz J Jx hY W ((hW.cell (p := ⟨Bx, 0, none⟩) hBx).trans hcx) ((hW.cell (p := ⟨Bs, 0, none⟩) hBs).trans hcs) h0

theorem info_u8 : (Try.prog.info? 5).map (fun i => (i.zero, i.size, i.bytes)) = some (some (.int .u8 0), 1, 1) := by kernel_rfl

theorem make_u8 (K : Int) (k : Nat) (hK : K = k) (hk : k ≤ 281474976710656) (u : World) : (Instr.makeSlice 74 (.int .i64 0) (.int .i64 K)).run Try.prog u =
      .ok (.slice (some ⟨u.heap.size, 0, none⟩) 0 k) (u.alloc (.cells (madeCells #[.int .u8 0] k) 5)) := by
  subst hK
  obtain ⟨i0, hi, hz0, hz1, hz2⟩ := info_parts info_u8
  have h := run_make (P := Try.prog) u 74 5 i0 (.int .u8 0) Try.underlying74 hi hz0 .i64 .i64 0 (k : Int) (by omega) (by omega) (by rw [hz2]; omega) (by omega)
  simpa [hz1, Value.cells] using h

theorem wrap_u64_range (n : Int) : 0 ≤ IntKind.u64.wrap n ∧ IntKind.u64.wrap n < 18446744073709551616 := by
  rw [IntKind.wrap_u64]; omega

/-- BETWEEN TWO ROUNDS OF A LOOP THAT COLLECTS OCTETS: the box holds a slice that owns what was there and what has come; the iterator's two boxes lie as they lay; below n₀ nothing has turned. -/
def Coll (n₀ B Bx Bs : Nat) (pre0 : List Int) (x S : Int) (w : World) (pre : List Int) (W : World) : Prop :=
  (∃ v, Boxed W B 74 v ∧ W.ownsRow n₀ 5 1 v (pre0 ++ pre).length ((pre0 ++ pre).map (Value.int .u8)) ∧ True) ∧ Below n₀ w W ∧ Boxed W Bx 101 (.int .u64 x) ∧ Boxed W Bs 3 (.int .i64 S)

theorem Coll.own {n₀ B Bx Bs : Nat} {pre0 : List Int} {x S : Int} {w : World} {D : Nat} (h1 : n₀ ≤ w.heap.size) (h2 : n₀ ≤ D) : OwnFrom D (Coll n₀ B Bx Bs pre0 x S w) :=
  OwnFrom.and (Own.from (holdsRow_own n₀ B 74 5 1 (fun pre => (pre0 ++ pre).length) (fun pre => (pre0 ++ pre).map (Value.int .u8)) (fun _ _ => True)) _)
    (OwnFrom.and (ownFrom_below h1 h2) (OwnFrom.and (Own.from (boxed_own Bx 101 (fun _ => .int .u64 x)) _) (Own.from (boxed_own Bs 3 (fun _ => .int .i64 S)) _)))

/-- one round's append: what the walk owes -/
theorem Coll.step {n₀ B Bx Bs : Nat} {pre0 : List Int} {x S : Int} {w : World} {pre : List Int} {W w1 : World} {v v' : Value} {tmp : Obj} {y : Int}
    (hv : Boxed W B 74 v) (hrow : W.ownsRow n₀ 5 1 v (pre0 ++ pre).length ((pre0 ++ pre).map (Value.int .u8))) (hB : Below n₀ w W) (hn₀ : n₀ ≤ w.heap.size) (hle : n₀ ≤ B)
    (hx : Boxed W Bx 101 (.int .u64 x)) (hs : Boxed W Bs 3 (.int .i64 S)) (hxB : Bx ≠ B) (hsB : Bs ≠ B)
    (hown : w1.ownsRow n₀ 5 1 v' ((pre0 ++ pre).length + 1) ((pre0 ++ pre).map (Value.int .u8) ++ [.int .u8 y])) (hgrow : (W.alloc tmp).grownBy w1 v.ownBlock) :
    Boxed w1 B 74 v ∧ KeepsOthers W (w1.setCell ⟨B, 0, none⟩ v') ∧ Keep2 Bx Bs W (w1.setCell ⟨B, 0, none⟩ v') ∧ Coll n₀ B Bx Bs pre0 x S w (pre ++ [y]) (w1.setCell ⟨B, 0, none⟩ v') := by
  obtain ⟨hv1, hv2, hr2, hk2, hb2⟩ := hv.appended (by decide) hrow (Nat.le_trans hn₀ hB.size) hle hown hgrow
  have hx1 : Boxed (w1.setCell ⟨B, 0, none⟩ v') Bx 101 (.int .u64 x) := ((hx.alloc tmp).kept hgrow (hx.not_row (by decide) hrow)).other hxB v'
  have hs1 : Boxed (w1.setCell ⟨B, 0, none⟩ v') Bs 3 (.int .i64 S) := ((hs.alloc tmp).kept hgrow (hs.not_row (by decide) hrow)).other hsB v'
  refine ⟨hv1, hk2, ⟨hx1.trans hx.symm, hs1.trans hs.symm⟩, ⟨v', hv2, ?_, trivial⟩, hB.trans hb2, hx1, hs1⟩
  have e1 : (pre0 ++ (pre ++ [y])).length = (pre0 ++ pre).length + 1 := by simp; omega
  have e2 : (pre0 ++ (pre ++ [y])).map (Value.int .u8) = (pre0 ++ pre).map (Value.int .u8) ++ [.int .u8 y] := by simp
  rw [e1, e2]; exact hr2

set_option maxRecDepth 100000 in
set_option maxHeartbeats 1000000 in
theorem put_any (n sz : Int) (hn : -9223372036854775808 ≤ n ∧ n ≤ 9223372036854775807) (hsz : -9223372036854775808 ≤ sz ∧ sz ≤ 9223372036854775807) (k : Nat) (hk : (k : Int) = max 0 (min sz 8)) (w : World) :
    Calls Try.prog 83 #[.int .i64 n, .int .i64 sz] w fun e w' => ∃ v, e = .returned v ∧ w'.ownsRow w.heap.size 5 1 v k ((octAll (IntKind.u64.wrap n) k).map (Value.int .u8)) ∧ Below w.heap.size w w' := by
  obtain ⟨i0, hi, hz0, hz1, hz2⟩ := info_parts info_u8
  have hk8 : k ≤ 8 := by omega
  have hcase : (8 < sz ∧ k = 8) ∨ (0 < sz ∧ sz ≤ 8 ∧ sz = k) ∨ (sz ≤ 0 ∧ k = 0) := by omega
  refine (callsIn_wide (n := 3)).1 ?_
  refine callsIn_of_wp_marks Try.func83 rfl trivial ?_ rfl
  simp only [Try.ntmps83, List.size_toArray, List.length_cons, List.length_nil, Nat.reduceAdd, Nat.reduceSub, Array.replicate_succ, Array.replicate_zero, List.push_toArray, List.append_toArray, List.nil_append, List.cons_append]
  clear hk
  rcases hcase with ⟨h1, rfl⟩ | ⟨h1, h2, rfl⟩ | ⟨h1, rfl⟩
  · have hmk := make_u8 (8) 8 rfl (by omega)
    gi_wp2_with (refine ⟨trivial, ?_⟩; gi_at_call 86; refine (callsIn_wide.2 (falling_any _ _ _)).mono ?_; rintro e w' ⟨rfl, rfl⟩)
    clear hmk
    have hw1 : (w.alloc (Obj.cells (madeCells #[Value.int IntKind.u8 0] 8) 5)).heap.size = w.heap.size + 1 := by simp
    have r0 := World.ownsRow_made (base := w.heap.size) (e := 5) (size := 1) w (madeCells #[.int .u8 0] 8) 8 (Nat.le_refl _) (by unfold maxLen; omega) (by first | (rw [size_madeCells]; done) | (rw [size_madeCells]; omega))
    have bO := Boxed.new (w.alloc (.cells (madeCells #[Value.int .u8 0] 8) 5)) 74 (.slice (some ⟨w.heap.size, 0, none⟩) 0 8)
    have bX := Boxed.new ((w.alloc (.cells (madeCells #[Value.int .u8 0] 8) 5)).alloc (.cells #[.slice (some ⟨w.heap.size, 0, none⟩) 0 8] 74)) 101 (.int .u64 (IntKind.u64.wrap n))
    have bS := Boxed.new (((w.alloc (.cells (madeCells #[Value.int .u8 0] 8) 5)).alloc (.cells #[.slice (some ⟨w.heap.size, 0, none⟩) 0 8] 74)).alloc (.cells #[.int .u64 (IntKind.u64.wrap n)] 101)) 3 (.int .i64 (8))
    simp only [World.size_alloc] at bO bX bS
    have bO := (bO.alloc (.cells #[.int .u64 (IntKind.u64.wrap n)] 101)).alloc (.cells #[.int .i64 (8)] 3)
    have bX := bX.alloc (.cells #[.int .i64 (8)] 3)
    have r0 := ((r0.alloc (.cells #[.slice (some ⟨w.heap.size, 0, none⟩) 0 8] 74)).alloc (.cells #[.int .u64 (IntKind.u64.wrap n)] 101)).alloc (.cells #[.int .i64 (8)] 3)
    have hB0 : Below w.heap.size w ((((w.alloc (.cells (madeCells #[Value.int .u8 0] 8) 5)).alloc (.cells #[.slice (some ⟨w.heap.size, 0, none⟩) 0 8] 74)).alloc (.cells #[.int .u64 (IntKind.u64.wrap n)] 101)).alloc (.cells #[.int .i64 (8)] 3)) :=
      ((((Below.refl _ w).alloc (Nat.le_refl _) _).alloc (by simp) _).alloc (by simp; omega) _).alloc (by simp; omega) _
    refine wpIn_rangeFunc_ownG rfl (by omega) (gf := 91) (lb := #[.pointer (some ⟨w.heap.size + 1 + 1 + 1, 0, none⟩), .pointer (some ⟨w.heap.size + 1 + 1, 0, none⟩)]) rfl trivial (enters_of Try.func91 (by kernel_rfl) rfl)
      (fall_stops 2 (by omega) (w.heap.size + 1 + 1) (w.heap.size + 1 + 1 + 1) (IntKind.u64.wrap n) (8) 8 rfl (wrap_u64_range n) hk8 _ (by first | (simp; done) | (simp; omega)) (by simp) bX.cell bS.cell)
      (fun h k => h.trans k) (fun W l o o' hl h _ _ => Keep2.put (by simp at hl; omega) (by simp at hl; omega) h) (Below.refl _ _) (fun _ => rfl)
      (Coll w.heap.size (w.heap.size + 1) (w.heap.size + 1 + 1) (w.heap.size + 1 + 1 + 1) [] (IntKind.u64.wrap n) (8) w) (fun _ _ _ => False)
      (Coll.own (Nat.le_refl _) (by simp; omega)) (fun _ _ _ _ _ hs _ _ => hs) ⟨⟨_, bO, r0, trivial⟩, hB0, bX, bS⟩ ?a1 ?assign1 ?body1 ?done1 ?stop1
    case assign1 =>
      intro l x W K hK
      gi_wp2
      exact hK
    case body1 =>
      rintro l pre x W ⟨⟨v, hv, hrow, _⟩, hB, hx, hs⟩ hlt
      have hc := hv.cell
      gi_wp2_with (gi_at_builtin; refine wpListIn_append_own _ rfl _ _ 74 rfl w.heap.size 5 i0 (.int .u8 0) 1 1 Try.underlying74 hi hz0 hz1 hz2 rfl (by decide) _ _ _ rfl (hrow.alloc _) ⟨W.heap.size, 0, none⟩ 1 1 [.int .u8 x] rfl rfl (cell_one_new _ _ _) (by simp [Value.oneCell']) (by unfold maxLen; simp; omega) (by simp; omega) (by have := hB.size; simp; omega) ?_; intro v' w1 hown' hgrow _; obtain ⟨g', cap', rfl⟩ := ownsRow_succ hown'; obtain ⟨hv1, hk2, hp2, hcoll⟩ := Coll.step hv hrow hB (Nat.le_refl _) (by omega) hx hs (by omega) (by omega) hown' hgrow; have hc1 := hv1.cell; have hf1 := hv1.frozen)
      exact ⟨hk2.from _, hp2, hcoll⟩
    case done1 =>
      rintro D ys W hD rfl ⟨⟨v, hv, hrow, _⟩, hB, hx, hs⟩ hK
      have hc := hv.cell
      gi_wp2
      refine ⟨by simp, .inl ⟨_, _, rfl, run_takeDeferred hK, ?_⟩⟩
      refine ⟨_, results_tmp rfl _ _ _, v, rfl, ?_, hB.trans (belowK_b (w := w) (Nat.le_refl _) W D _ _ (by simp at hD; omega) hK rfl rfl)⟩
      have hr := ownsRow_putObj hrow (.deferred none) hK rfl
      simpa [octAll_length] using hr
    case stop1 =>
      rintro D c pre W _ _ h _
      exact h.elim
  · have hmk := make_u8 ((k : Int)) k rfl (by omega)
    gi_wp2_with (refine ⟨trivial, ?_⟩; gi_at_call 86; refine (callsIn_wide.2 (falling_any _ _ _)).mono ?_; rintro e w' ⟨rfl, rfl⟩)
    clear hmk
    have hw1 : (w.alloc (Obj.cells (madeCells #[Value.int IntKind.u8 0] k) 5)).heap.size = w.heap.size + 1 := by simp
    have r0 := World.ownsRow_made (base := w.heap.size) (e := 5) (size := 1) w (madeCells #[.int .u8 0] k) k (Nat.le_refl _) (by unfold maxLen; omega) (by first | (rw [size_madeCells]; done) | (rw [size_madeCells]; omega))
    have bO := Boxed.new (w.alloc (.cells (madeCells #[Value.int .u8 0] k) 5)) 74 (.slice (some ⟨w.heap.size, 0, none⟩) 0 k)
    have bX := Boxed.new ((w.alloc (.cells (madeCells #[Value.int .u8 0] k) 5)).alloc (.cells #[.slice (some ⟨w.heap.size, 0, none⟩) 0 k] 74)) 101 (.int .u64 (IntKind.u64.wrap n))
    have bS := Boxed.new (((w.alloc (.cells (madeCells #[Value.int .u8 0] k) 5)).alloc (.cells #[.slice (some ⟨w.heap.size, 0, none⟩) 0 k] 74)).alloc (.cells #[.int .u64 (IntKind.u64.wrap n)] 101)) 3 (.int .i64 ((k : Int)))
    simp only [World.size_alloc] at bO bX bS
    have bO := (bO.alloc (.cells #[.int .u64 (IntKind.u64.wrap n)] 101)).alloc (.cells #[.int .i64 ((k : Int))] 3)
    have bX := bX.alloc (.cells #[.int .i64 ((k : Int))] 3)
    have r0 := ((r0.alloc (.cells #[.slice (some ⟨w.heap.size, 0, none⟩) 0 k] 74)).alloc (.cells #[.int .u64 (IntKind.u64.wrap n)] 101)).alloc (.cells #[.int .i64 ((k : Int))] 3)
    have hB0 : Below w.heap.size w ((((w.alloc (.cells (madeCells #[Value.int .u8 0] k) 5)).alloc (.cells #[.slice (some ⟨w.heap.size, 0, none⟩) 0 k] 74)).alloc (.cells #[.int .u64 (IntKind.u64.wrap n)] 101)).alloc (.cells #[.int .i64 ((k : Int))] 3)) :=
      ((((Below.refl _ w).alloc (Nat.le_refl _) _).alloc (by simp) _).alloc (by simp; omega) _).alloc (by simp; omega) _
    refine wpIn_rangeFunc_ownG rfl (by omega) (gf := 91) (lb := #[.pointer (some ⟨w.heap.size + 1 + 1 + 1, 0, none⟩), .pointer (some ⟨w.heap.size + 1 + 1, 0, none⟩)]) rfl trivial (enters_of Try.func91 (by kernel_rfl) rfl)
      (fall_stops 2 (by omega) (w.heap.size + 1 + 1) (w.heap.size + 1 + 1 + 1) (IntKind.u64.wrap n) ((k : Int)) k rfl (wrap_u64_range n) hk8 _ (by first | (simp; done) | (simp; omega)) (by simp) bX.cell bS.cell)
      (fun h k => h.trans k) (fun W l o o' hl h _ _ => Keep2.put (by simp at hl; omega) (by simp at hl; omega) h) (Below.refl _ _) (fun _ => rfl)
      (Coll w.heap.size (w.heap.size + 1) (w.heap.size + 1 + 1) (w.heap.size + 1 + 1 + 1) [] (IntKind.u64.wrap n) ((k : Int)) w) (fun _ _ _ => False)
      (Coll.own (Nat.le_refl _) (by simp; omega)) (fun _ _ _ _ _ hs _ _ => hs) ⟨⟨_, bO, r0, trivial⟩, hB0, bX, bS⟩ ?a2 ?assign2 ?body2 ?done2 ?stop2
    case assign2 =>
      intro l x W K hK
      gi_wp2
      exact hK
    case body2 =>
      rintro l pre x W ⟨⟨v, hv, hrow, _⟩, hB, hx, hs⟩ hlt
      have hc := hv.cell
      gi_wp2_with (gi_at_builtin; refine wpListIn_append_own _ rfl _ _ 74 rfl w.heap.size 5 i0 (.int .u8 0) 1 1 Try.underlying74 hi hz0 hz1 hz2 rfl (by decide) _ _ _ rfl (hrow.alloc _) ⟨W.heap.size, 0, none⟩ 1 1 [.int .u8 x] rfl rfl (cell_one_new _ _ _) (by simp [Value.oneCell']) (by unfold maxLen; simp; omega) (by simp; omega) (by have := hB.size; simp; omega) ?_; intro v' w1 hown' hgrow _; obtain ⟨g', cap', rfl⟩ := ownsRow_succ hown'; obtain ⟨hv1, hk2, hp2, hcoll⟩ := Coll.step hv hrow hB (Nat.le_refl _) (by omega) hx hs (by omega) (by omega) hown' hgrow; have hc1 := hv1.cell; have hf1 := hv1.frozen)
      exact ⟨hk2.from _, hp2, hcoll⟩
    case done2 =>
      rintro D ys W hD rfl ⟨⟨v, hv, hrow, _⟩, hB, hx, hs⟩ hK
      have hc := hv.cell
      gi_wp2
      refine ⟨by simp, .inl ⟨_, _, rfl, run_takeDeferred hK, ?_⟩⟩
      refine ⟨_, results_tmp rfl _ _ _, v, rfl, ?_, hB.trans (belowK_b (w := w) (Nat.le_refl _) W D _ _ (by simp at hD; omega) hK rfl rfl)⟩
      have hr := ownsRow_putObj hrow (.deferred none) hK rfl
      simpa [octAll_length] using hr
    case stop2 =>
      rintro D c pre W _ _ h _
      exact h.elim
  · have hmk := make_u8 (0) 0 rfl (by omega)
    gi_wp2_with (refine ⟨trivial, ?_⟩; gi_at_call 86; refine (callsIn_wide.2 (falling_any _ _ _)).mono ?_; rintro e w' ⟨rfl, rfl⟩)
    clear hmk
    have hw1 : (w.alloc (Obj.cells (madeCells #[Value.int IntKind.u8 0] 0) 5)).heap.size = w.heap.size + 1 := by simp
    have r0 := World.ownsRow_made (base := w.heap.size) (e := 5) (size := 1) w (madeCells #[.int .u8 0] 0) 0 (Nat.le_refl _) (by unfold maxLen; omega) (by first | (rw [size_madeCells]; done) | (rw [size_madeCells]; omega))
    have bO := Boxed.new (w.alloc (.cells (madeCells #[Value.int .u8 0] 0) 5)) 74 (.slice (some ⟨w.heap.size, 0, none⟩) 0 0)
    have bX := Boxed.new ((w.alloc (.cells (madeCells #[Value.int .u8 0] 0) 5)).alloc (.cells #[.slice (some ⟨w.heap.size, 0, none⟩) 0 0] 74)) 101 (.int .u64 (IntKind.u64.wrap n))
    have bS := Boxed.new (((w.alloc (.cells (madeCells #[Value.int .u8 0] 0) 5)).alloc (.cells #[.slice (some ⟨w.heap.size, 0, none⟩) 0 0] 74)).alloc (.cells #[.int .u64 (IntKind.u64.wrap n)] 101)) 3 (.int .i64 (0))
    simp only [World.size_alloc] at bO bX bS
    have bO := (bO.alloc (.cells #[.int .u64 (IntKind.u64.wrap n)] 101)).alloc (.cells #[.int .i64 (0)] 3)
    have bX := bX.alloc (.cells #[.int .i64 (0)] 3)
    have r0 := ((r0.alloc (.cells #[.slice (some ⟨w.heap.size, 0, none⟩) 0 0] 74)).alloc (.cells #[.int .u64 (IntKind.u64.wrap n)] 101)).alloc (.cells #[.int .i64 (0)] 3)
    have hB0 : Below w.heap.size w ((((w.alloc (.cells (madeCells #[Value.int .u8 0] 0) 5)).alloc (.cells #[.slice (some ⟨w.heap.size, 0, none⟩) 0 0] 74)).alloc (.cells #[.int .u64 (IntKind.u64.wrap n)] 101)).alloc (.cells #[.int .i64 (0)] 3)) :=
      ((((Below.refl _ w).alloc (Nat.le_refl _) _).alloc (by simp) _).alloc (by simp; omega) _).alloc (by simp; omega) _
    refine wpIn_rangeFunc_ownG rfl (by omega) (gf := 91) (lb := #[.pointer (some ⟨w.heap.size + 1 + 1 + 1, 0, none⟩), .pointer (some ⟨w.heap.size + 1 + 1, 0, none⟩)]) rfl trivial (enters_of Try.func91 (by kernel_rfl) rfl)
      (fall_stops 2 (by omega) (w.heap.size + 1 + 1) (w.heap.size + 1 + 1 + 1) (IntKind.u64.wrap n) (0) 0 rfl (wrap_u64_range n) hk8 _ (by first | (simp; done) | (simp; omega)) (by simp) bX.cell bS.cell)
      (fun h k => h.trans k) (fun W l o o' hl h _ _ => Keep2.put (by simp at hl; omega) (by simp at hl; omega) h) (Below.refl _ _) (fun _ => rfl)
      (Coll w.heap.size (w.heap.size + 1) (w.heap.size + 1 + 1) (w.heap.size + 1 + 1 + 1) [] (IntKind.u64.wrap n) (0) w) (fun _ _ _ => False)
      (Coll.own (Nat.le_refl _) (by simp; omega)) (fun _ _ _ _ _ hs _ _ => hs) ⟨⟨_, bO, r0, trivial⟩, hB0, bX, bS⟩ ?a3 ?assign3 ?body3 ?done3 ?stop3
    case assign3 =>
      intro l x W K hK
      gi_wp2
      exact hK
    case body3 =>
      rintro l pre x W _ hlt
      exact absurd hlt (Nat.not_lt_zero _)
    case done3 =>
      rintro D ys W hD rfl ⟨⟨v, hv, hrow, _⟩, hB, hx, hs⟩ hK
      have hc := hv.cell
      gi_wp2
      refine ⟨by simp, .inl ⟨_, _, rfl, run_takeDeferred hK, ?_⟩⟩
      refine ⟨_, results_tmp rfl _ _ _, v, rfl, ?_, hB.trans (belowK_b (w := w) (Nat.le_refl _) W D _ _ (by simp at hD; omega) hK rfl rfl)⟩
      have hr := ownsRow_putObj hrow (.deferred none) hK rfl
      simpa [octAll_length] using hr
    case stop3 =>
      rintro D c pre W _ _ h _
      exact h.elim
end

section
set_option linter.unusedVariables false
open Go.RowKit

set_option maxHeartbeats 1000000 in
theorem join_any (v : Value) (ls : List (List Int)) (w : World) (hv : Rows8 w v ls) (hlen : ls.length ≤ 9223372036854775807) (hsum : ls.flatten.length ≤ 281474976710656) :
    Calls Try.prog 57 #[v] w fun e w' => e = .returned (.slice (some ⟨w.heap.size, 0, none⟩) ls.flatten.length ls.flatten.length) ∧ w'.ownsRow w.heap.size 5 1 (.slice (some ⟨w.heap.size, 0, none⟩) ls.flatten.length ls.flatten.length) ls.flatten.length (ls.flatten.map (Value.int .u8)) ∧ Below w.heap.size w w' := by
  obtain ⟨i0, hi, hz0, hz1, hz2⟩ := info_parts info_u8
  obtain ⟨a, cap, rfl, hcap, hnil, hcell⟩ := hv
  clear hnil
  have Hcell := Lib.hid hcell
  clear hcell
  go_enter Try.func57, Try.ntmps57
  go_wp2
  go_loop [3, 11] (fun n i => ∃ k : Nat, k ≤ ls.length ∧ i = .int .i64 k ∧ n = .int .i64 ((ls.take k).flatten.length : Int)) (fun _ i => ls.length - (intOf i).toNat)
  case atStart => exact ⟨0, Nat.zero_le _, rfl, rfl⟩
  case round =>
    obtain ⟨k, hk, rfl, rfl⟩ := hrel
    by_cases hlt : k < ls.length
    · rcases Hcell.out with rfl | ⟨b, off, rfl, hc⟩
      · simp at hlt
      obtain ⟨u, hu, a1, c1, rfl, hc1, _, _⟩ := hc k hlt
      have hs := flat_snoc ls k hlt
      have hle := flat_le ls (k + 1)
      obtain ⟨x, hx⟩ : ∃ x, ls[k]?.getD [] = x := ⟨_, rfl⟩
      rw [hx] at hu hs
      have e1 : (ls.take (k + 1)).flatten.length = (ls.take k).flatten.length + x.length := by rw [hs, List.length_append]
      have hle2 : (ls.take k).flatten.length + x.length ≤ 281474976710656 := by omega
      have He := Lib.hid e1
      obtain ⟨m, hm⟩ : ∃ m, (ls.take k).flatten.length = m := ⟨_, rfl⟩
      obtain ⟨xl, hxl⟩ : ∃ xl, x.length = xl := ⟨_, rfl⟩
      rw [hm] at hle2 He ⊢
      rw [hxl] at hu hle2 He
      clear hc hs hx e1 hm hxl hc1 hle
      go_wp2
      go_round
      case rel => exact ⟨k + 1, by omega, by go_num, by rw [He.out]; go_num⟩
      case measure => simp [intOf]; omega
    · obtain rfl : k = ls.length := by omega
      have ht : ls.take ls.length = ls := List.take_length
      rw [ht]
      clear ht
      have hmk := make_u8 (ls.flatten.length : Int) ls.flatten.length rfl (by omega)
      obtain ⟨T, hT⟩ : ∃ T, ls.flatten.length = T := ⟨_, rfl⟩
      have HT := Lib.hid hT
      rw [hT] at hmk hsum ⊢
      clear hT
      go_wp2
      clear hmk
      have r0 := World.ownsRow_made (base := w.heap.size) (e := 5) (size := 1) w (madeCells #[.int .u8 0] T) T (Nat.le_refl _) (by unfold maxLen; omega) (by first | (rw [size_madeCells]; done) | (rw [size_madeCells]; omega))
      have hB0 : Below w.heap.size w (w.alloc (.cells (madeCells #[Value.int .u8 0] T) 5)) := (Below.refl _ w).alloc (Nat.le_refl _) _
      go_loopw [6, 24] (fun o i wr => ∃ k m : Nat, k ≤ ls.length ∧ i = .int .i64 k ∧ o = .slice (some ⟨w.heap.size, 0, none⟩) m T ∧ m = (ls.take k).flatten.length ∧ wr.ownsRow w.heap.size 5 1 (.slice (some ⟨w.heap.size, 0, none⟩) m T) m ((ls.take k).flatten.map (Value.int .u8)) ∧ Below w.heap.size w wr)
        (fun _ i _ => ls.length - (intOf i).toNat)
      case atStart => exact ⟨0, 0, Nat.zero_le _, rfl, rfl, rfl, r0, hB0⟩
      case round =>
        obtain ⟨k, m, hk, rfl, rfl, hm, hrow, hB⟩ := hrel
        clear r0 hB0
        by_cases hlt : k < ls.length
        · rcases Hcell.out with rfl | ⟨b, off, rfl, hc⟩
          · simp at hlt
          obtain ⟨u, hu, hi8⟩ := hc k hlt
          have hu := (hB.cell (p := ⟨b, off + k, none⟩) (World.block_lt_of_cell? w _ hu)).trans hu
          obtain ⟨a1, c1, rfl, hc1, hn1, hcs⟩ := hi8.kept hB
          have hs := flat_snoc ls k hlt
          have hle := flat_le ls (k + 1)
          obtain ⟨x, hx⟩ : ∃ x, ls[k]?.getD [] = x := ⟨_, rfl⟩
          rw [hx] at hu hs hcs hc1
          have e1 : (ls.take (k + 1)).flatten.length = (ls.take k).flatten.length + x.length := by rw [hs, List.length_append]
          have hle2 : m + x.length ≤ T := by rw [hm]; have := HT.out; omega
          have hnews := cells_all (k := .u8) hcs
          have Hx : Hid (∀ u ∈ x.map (Value.int .u8), u.oneCell' = true) := ints_oneCell .u8 x
          have Hs := Lib.hid hs
          have Hm := Lib.hid hm
          have He := Lib.hid e1
          have Hn1 : Hid (a1 = none → x.length = 0 ∧ c1 = 0) := fun h => ⟨by have := hn1 h; omega, hn1 h⟩
          have Hnews := Lib.hid hnews
          clear hc hs hx e1 hm hcs hnews hn1 hle
          go_wp2_with (at_builtin; refine wpList_append_fits_any _ rfl _ _ 74 rfl w.heap.size 5 i0 1 Try.underlying74 hi hz1 w.heap.size m T _ rfl hrow a1 x.length c1 (x.map (Value.int .u8)) rfl (by simp) Hn1.out Hnews.out Hx.out hle2 ?_; intro w1 hrow1 hgrow1)
          go_roundw
          case rel => exact ⟨k + 1, m + x.length, by omega, by go_num, rfl, by rw [He.out, ← Hm.out], by rw [Hs.out, List.map_append]; exact hrow1, hB.grown hgrow1 hB.size (fun j e => by cases e; exact Nat.le_refl _)⟩
          case measure => simp [intOf]; omega
        · obtain rfl : k = ls.length := by omega
          have ht : ls.take ls.length = ls := List.take_length
          rw [ht] at hrow hm
          clear ht
          obtain rfl : m = T := hm.trans HT.out
          clear hm
          go_wp2
          go_ret
          rw [HT.out]
          exact ⟨rfl, hrow, hB⟩
end

section
set_option linter.unusedVariables false
open Go.RowKit

theorem size_u8 : (Try.prog.info? 5).map (·.size) = some 1 := by kernel_rfl

/-- the array behind the copy -/
theorem splice_at (bs : List Int) (p i : Nat) (hi : i < 4) :
    (splice [Value.int .u8 0, .int .u8 0, .int .u8 0, .int .u8 0] 0 (((bs.drop p).take 4).map (Value.int .u8)))[i]? = some (.int .u8 (bs[p + i]?.getD 0)) := by
  simp only [splice, List.take_zero, List.nil_append, Nat.zero_add]
  by_cases h : i < (((bs.drop p).take 4).map (Value.int .u8)).length
  · rw [List.getElem?_append_left h]
    simp only [List.getElem?_map, List.getElem?_take, List.getElem?_drop]
    simp at h
    rw [if_pos hi, List.getElem?_eq_getElem (by omega)]
    simp
  · rw [List.getElem?_append_right (by omega)]
    simp only [List.length_map, List.length_take, List.length_drop] at h ⊢
    rw [List.getElem?_drop, List.getElem?_eq_none (l := bs) (by omega)]
    have e : min 4 (bs.length - p) + (i - min 4 (bs.length - p)) = i := by omega
    rw [e]
    have h2 : i = 0 ∨ i = 1 ∨ i = 2 ∨ i = 3 := by omega
    rcases h2 with rfl | rfl | rfl | rfl <;> rfl

set_option maxHeartbeats 400000 in
theorem word_neg (v : Value) (bs : List Int) (q : Int) (w : World) (hv : Ints .u8 w v bs) (hlen : bs.length ≤ 9223372036854775807) (hq : q < 0 ∨ bs.length ≤ q) :
    Calls Try.prog 92 #[v, .int .i64 q] w fun e w' => e = .returned (.int .u32 0) ∧ w = w' := by
  obtain ⟨a, cap, rfl, hcap, hnil, hcell⟩ := hv
  clear hnil
  clear hcell
  rcases hq with hq | hq
  · go_enter Try.func92, Try.ntmps92
    go_wp2
    go_ret
    exact ⟨rfl, rfl⟩
  · by_cases h0 : q < 0
    · go_enter Try.func92, Try.ntmps92
      go_wp2
      go_ret
      exact ⟨rfl, rfl⟩
    · go_enter Try.func92, Try.ntmps92
      go_wp2
      go_ret
      exact ⟨rfl, rfl⟩

set_option maxHeartbeats 400000 in
theorem word_in (v : Value) (bs : List Int) (p : Nat) (w : World) (hv : Ints .u8 w v bs) (hu : U8s bs) (hlen : bs.length ≤ 9223372036854775807) (hp : p < bs.length) :
    Calls Try.prog 92 #[v, .int .i64 p] w fun e w' => e = .returned (.int .u32 (wordUp bs p 4)) ∧ Below w.heap.size w w' := by
  obtain ⟨a, cap, rfl, hcap, hnil, hcell⟩ := hv
  clear hnil
  rcases hcell with rfl | ⟨b, off, rfl, hc⟩
  · simp at hp
  have Hc := Lib.hid hc
  clear hc
  obtain ⟨cs, hcs⟩ : ∃ cs, cs = ((bs.drop p).take 4).map (Value.int .u8) := ⟨_, rfl⟩
  have hcl : cs.length = min 4 (bs.length - p) := by rw [hcs]; simp
  have hci : ∀ j u, cs[j]? = some u → ∀ wx : World, Below w.heap.size w wx → wx.cell? ((⟨b, off + p, none⟩ : Addr).add j) = some u := by
    intro j u hj wx hb
    have hj' : j < cs.length := (List.getElem?_eq_some_iff.1 hj).1
    have h1 := Hc.out (p + j) (by omega)
    have h2 : ((⟨b, off + p, none⟩ : Addr).add j) = ⟨b, off + (p + j), none⟩ := by unfold Addr.add; split <;> simp_all [Nat.add_assoc]
    rw [h2, (hb.cell (p := ⟨b, off + (p + j), none⟩) (World.block_lt_of_cell? w _ h1)), h1]
    rw [hcs] at hj
    simp only [List.getElem?_map, List.getElem?_take, List.getElem?_drop] at hj
    rw [if_pos (by omega)] at hj
    simp [List.getElem?_eq_getElem (show p + j < bs.length by omega)] at hj ⊢
    exact hj
  have hc1 : ∀ u ∈ cs, u.oneCell' = true := by rw [hcs]; intro u hu; obtain ⟨z, _, rfl⟩ := List.mem_map.1 hu; rfl
  have Hci := Lib.hid hci
  have Hcs := Lib.hid hcs
  have Hcl := Lib.hid hcl
  have Hc1 := Lib.hid hc1
  clear hci hcs hcl hc1
  have Hu := Lib.hid hu
  clear hu
  have hle : p ≤ bs.length := by omega
  have hne : ¬ cap = p := by omega
  go_enter Try.func92, Try.ntmps92
  go_wp2
  go_region_law (refine step_copy_splice rfl (.tmp 16) (.tmp 19) 74 74 rfl 5 Try.underlying74 size_u8 _ _ _ _ _ _ rfl rfl w.heap.size 0 [.int .u8 0, .int .u8 0, .int .u8 0, .int .u8 0] 158 (heap_alloc_new w _) cs (Hcl.out.trans (Nat.min_comm _ _)) (fun _ => ⟨rfl, _, rfl, fun j v hj => Hci.out j v hj _ (((Below.refl _ _).alloc (Nat.le_refl _) _).drew)⟩) (by have := Hcl.out; simp; omega) Hc1.out w.heap.size w (((Below.refl _ _).alloc (Nat.le_refl _) _).drew) (Nat.le_refl _) ?_; intro w4 hg4 hb4)
  have hcell : ∀ i, i < 4 → w4.cell? ⟨w.heap.size, i, none⟩ = some (.int .u8 (bs[p + i]?.getD 0)) := by
    intro i hi
    have h1 := splice_at bs p i hi
    rw [← Hcs.out] at h1
    have h2 := hg4.out
    simp only [World.cell?, h2]
    simpa using h1
  have Hcell := Lib.hid hcell
  clear hcell hg4
  go_wp2
  go_loop [6, 21] (fun n i => ∃ k : Nat, k ≤ 4 ∧ i = .int .i64 k ∧ n = .int .u32 (wordUp bs p k)) (fun _ i => 4 - (intOf i).toNat)
  case atStart => exact ⟨0, Nat.zero_le _, rfl, rfl⟩
  case round =>
    obtain ⟨k, hk, rfl, rfl⟩ := hrel
    by_cases hlt : k < 4
    · have hck := Hcell.out k hlt
      have huk := U8s.at bs Hu.out (p + k)
      have hg := wordUp_small bs Hu.out p k hlt
      have hr := word_round (wordUp bs p k) (bs[p + k]?.getD 0) hg.1 hg.2 huk.1 huk.2
      have Hr := Lib.hid hr
      clear hr
      obtain ⟨o, ho⟩ : ∃ o, bs[p + k]?.getD 0 = o := ⟨_, rfl⟩
      rw [ho] at hck huk Hr
      have Ho := Lib.hid ho
      clear ho
      go_wp2
      go_round
      case rel => exact ⟨k + 1, by omega, by go_num, by rw [wordUp, Ho.out, ← Hr.out]⟩
      case measure => simp [intOf]; omega
    · obtain rfl : k = 4 := by omega
      go_wp2
      go_ret
      exact ⟨rfl, hb4⟩
end

section
set_option linter.unusedVariables false
open Go.RowKit

/-- Word: any place -/
theorem word_any (v : Value) (bs : List Int) (q : Int) (w : World) (hv : Ints .u8 w v bs) (hu : U8s bs) (hlen : bs.length ≤ 9223372036854775807) :
    Calls Try.prog 92 #[v, .int .i64 q] w fun e w' => e = .returned (.int .u32 (wordB bs q)) ∧ Below w.heap.size w w' := by
  by_cases h : q < 0 ∨ bs.length ≤ q
  · have e : wordB bs q = 0 := by
      unfold wordB
      by_cases h0 : q < 0
      · rw [if_pos h0]
      · rw [if_neg h0]; exact wordUp_out bs _ 4 (by omega)
    rw [e]
    exact (word_neg v bs q w hv hlen h).mono fun e w' ⟨he, hw⟩ => ⟨he, by subst hw; exact Below.refl _ _⟩
  · obtain ⟨p, hp⟩ : ∃ p : Nat, (p : Int) = q := ⟨q.toNat, by omega⟩
    have e : wordB bs q = wordUp bs p 4 := by unfold wordB; rw [if_neg (by omega)]; congr 1; omega
    rw [e]; subst hp; exact word_in v bs p w hv hu hlen (by omega)

/-- a slice that a call made, at each later world, as a string -/
def StrAt (W : World) (v : Value) (zs : List Int) : Prop := ∀ wx, Below W.heap.size W wx → (convert 74 9 v).run Try.prog wx = .ok (.string (strOfNums zs)) wx
theorem StrAt.of {W : World} {v : Value} {zs : List Int} (h : Ints .u8 W v zs) : StrAt W v zs := fun wx hb => (h.kept hb).str

/-- the cells of a row -/
theorem row_cells {W : World} {base : Nat} {e : TypeId} {g n cap : Nat} {xs : List Value} (h : W.ownsRow base e 1 (.slice (some ⟨g, 0, none⟩) n cap) n xs) : ∀ j u, xs[j]? = some u → W.cell? ((⟨g, 0, none⟩ : Addr).add j) = some u := by
  intro j u hj
  have hl : xs.length = n := by have := h.1; omega
  have hj' : j < n := by have := (List.getElem?_eq_some_iff.1 hj).1; omega
  have h2 : ((⟨g, 0, none⟩ : Addr).add j) = ⟨g, j, none⟩ := by unfold Addr.add; split <;> simp_all
  rw [h2, h.cellAt j (by omega)]
  exact hj
end

section
set_option linter.unusedVariables false
open Go.RowKit Go.Shelf
attribute [local go_sem] Oper.semAt_some

/-- THE MARKS OF LOOPS OVER FUNCTIONS THAT A FUNCTION HAS LEFT BEHIND. -/
def marks (Ds : List Nat) : List Deferred := Ds.map fun D => { target := .collected D, args := #[] }
/-- each names a block that no call was put into -/
def Open (n₀ : Nat) (Ds : List Nat) (W : World) : Prop := Ds.Nodup ∧ ∀ D, D ∈ Ds → n₀ ≤ D ∧ W.heap[D]? = some (.deferred (some []))

/-- A FUNCTION LEAVES WITH SUCH MARKS: what its return says must abide that each block is shut. -/
theorem leaves_marks {F : Fence} {n : Nat} {P : Program} {fn : Func} {tmps : Array Value} {R : Ending → World → Prop} {n₀ : Nat} (G : World → Prop)
    (hG : ∀ W D, n₀ ≤ D → W.heap[D]? = some (.deferred (some [])) → G W → G (W.putObj D (.deferred none)))
    (hR : ∀ W, G W → LeavesInM F n P fn tmps R [] .returning W) : ∀ (Ds : List Nat) (W : World), Open n₀ Ds W → G W → LeavesInM F n P fn tmps R (marks Ds) .returning W
  | [], W, _, hg => hR W hg
  | D :: Ds, W, ⟨hn, ho⟩, hg => by
    have hD := ho D (by simp)
    refine ⟨by simp, .inl ⟨D, _, rfl, run_takeDeferred hD.2, ?_⟩⟩
    refine leaves_marks G hG hR Ds _ ⟨(List.nodup_cons.1 hn).2, fun E hE => ?_⟩ (hG W D hD.1 hD.2 hg)
    have hE' := ho E (List.mem_cons_of_mem _ hE)
    refine ⟨hE'.1, (World.putObj_heap_other ?_).trans hE'.2⟩
    rintro rfl
    exact (List.nodup_cons.1 hn).1 hE

theorem open_own {β : Type} {n₀ : Nat} {Ds : List Nat} {B : Nat} (hD : ∀ D, D ∈ Ds → D < B) : OwnFrom B (fun (_ : β) W => Open n₀ Ds W) := by
  rintro s W W' row ⟨hn, ho⟩ hg hr
  refine ⟨hn, fun D h => ⟨(ho D h).1, ?_⟩⟩
  have h1 := (ho D h).2
  refine (hg.block D (Array.getElem?_eq_some_iff.1 h1).1 ?_).trans h1
  intro e
  have := (hr D e.symm).1
  have := hD D h
  omega
theorem Open.keeps {n₀ : Nat} {Ds : List Nat} {W W' : World} (h : Open n₀ Ds W) (hk : KeepsOthers W W') : Open n₀ Ds W' :=
  ⟨h.1, fun D hD => ⟨(h.2 D hD).1, hk.same D _ (h.2 D hD).2 rfl⟩⟩
theorem Open.lt {n₀ : Nat} {Ds : List Nat} {W : World} (h : Open n₀ Ds W) : ∀ D, D ∈ Ds → D < W.heap.size := fun D hD => (Array.getElem?_eq_some_iff.1 (h.2 D hD).2).1
theorem Open.cons {n₀ D B : Nat} {Ds : List Nat} {W : World} (h : Open n₀ Ds W) (hB : ∀ E, E ∈ Ds → E < B) (hD : B ≤ D) (hn : n₀ ≤ D) (hk : W.heap[D]? = some (.deferred (some []))) : Open n₀ (D :: Ds) W := by
  refine ⟨List.nodup_cons.2 ⟨fun hm => ?_, h.1⟩, fun E hE => ?_⟩
  · have := hB D hm; omega
  · rcases List.mem_cons.1 hE with rfl | hE
    · exact ⟨hn, hk⟩
    · exact h.2 E hE

set_option maxRecDepth 100000 in
set_option maxHeartbeats 1000000 in
theorem words_any (v : Value) (ws : List Int) (w : World) (hv : Ints .u32 w v ws) (hu : ∀ j, j < ws.length → 0 ≤ ws[j]?.getD 0 ∧ ws[j]?.getD 0 < 4294967296) (hlen : ws.length * 4 ≤ 140737488351232) :
    Calls Try.prog 77 #[v] w fun e w' => ∃ r, e = .returned r ∧ w'.ownsRow w.heap.size 5 1 r (4 * ws.length) ((wordsB ws).map (Value.int .u8)) ∧ Below w.heap.size w w' := by
  obtain ⟨i0, hi, hz0, hz1, hz2⟩ := info_parts info_u8
  obtain ⟨a, cap, rfl, hcap, hnil, hcell⟩ := hv
  clear hnil
  have Hu := Lib.hid hu
  have Hcell := Lib.hid hcell
  clear hu hcell
  refine (callsIn_wide (n := 3)).1 ?_
  refine callsIn_of_wp_marks Try.func77 rfl trivial ?_ rfl
  simp only [Try.ntmps77, List.size_toArray, List.length_cons, List.length_nil, Nat.reduceAdd, Nat.reduceSub, Array.replicate_succ, Array.replicate_zero, List.push_toArray, List.append_toArray, List.nil_append, List.cons_append]
  have hmk := make_u8 (4 * (ws.length : Int)) (4 * ws.length) (by omega) (by omega)
  gi_wp2
  clear hmk
  have r0 := (World.ownsRow_made (base := w.heap.size) (e := 5) (size := 1) w (madeCells #[.int .u8 0] (4 * ws.length)) (4 * ws.length) (Nat.le_refl _) (by unfold maxLen; omega) (by rw [size_madeCells]; omega)).alloc (.cells #[.slice (some ⟨w.heap.size, 0, none⟩) 0 (4 * ws.length)] 74)
  have bO := Boxed.new (w.alloc (.cells (madeCells #[Value.int .u8 0] (4 * ws.length)) 5)) 74 (.slice (some ⟨w.heap.size, 0, none⟩) 0 (4 * ws.length))
  simp only [World.size_alloc] at bO
  have hB0 : Below w.heap.size w ((w.alloc (.cells (madeCells #[Value.int .u8 0] (4 * ws.length)) 5)).alloc (.cells #[.slice (some ⟨w.heap.size, 0, none⟩) 0 (4 * ws.length)] 74)) :=
      ((Below.refl _ w).alloc (Nat.le_refl _) _).alloc (by simp) _
  refine wpIn_loop (fun a' W => ∃ (k : Nat) (Ds : List Nat) (u5 u6 u14 u15 u16 u17 u18 u19 u20 u21 u22 u23 u24 u25 u26 : Value), a' = { tmps := #[Value.slice a ws.length cap, undef, .slice none 0 0, .pointer (some ⟨w.heap.size + 1, 0, none⟩), undef, u5, u6, .slice a ws.length cap, .int .i64 ws.length, .int .i64 (4 * (ws.length : Int)), .slice (some ⟨w.heap.size, 0, none⟩) 0 (4 * ws.length), .slice a ws.length cap, .int .i64 ws.length, .int .i64 k, u14, u15, u16, u17, u18, u19, u20, u21, u22, u23, u24, u25, u26], defers := marks Ds } ∧ k ≤ ws.length ∧
      (∃ v, Boxed W (w.heap.size + 1) 74 v ∧ W.ownsRow w.heap.size 5 1 v (wordsB (ws.take k)).length ((wordsB (ws.take k)).map (Value.int .u8))) ∧ Below w.heap.size w W ∧ Open w.heap.size Ds W)
    (fun a' _ => ws.length - (intOf (a'.tmps.getD 13 undef)).toNat) ?start ?round
  case start =>
    exact ⟨0, [], _, _, _, _, _, _, _, _, _, _, _, _, _, _, _, rfl, Nat.zero_le _, ⟨_, bO, r0⟩, hB0, List.nodup_nil, by simp⟩
  case round =>
    rintro a' W ⟨k, Ds, u5, u6, u14, u15, u16, u17, u18, u19, u20, u21, u22, u23, u24, u25, u26, rfl, hk, ⟨v, hv, hrow⟩, hB, hO⟩
    by_cases hlt : k < ws.length
    · rcases Hcell.out with rfl | ⟨b, off, rfl, hc⟩
      · simp at hlt
      have hck := (hB.cell (p := ⟨b, off + k, none⟩) (World.block_lt_of_cell? w _ (hc k hlt))).trans (hc k hlt)
      have huk := Hu.out k hlt
      have hs : wordsB (ws.take (k + 1)) = wordsB (ws.take k) ++ octAll (ws[k]?.getD 0) 4 := by rw [take_snoc ws k hlt, wordsB_snoc]
      obtain ⟨o, ho⟩ : ∃ o, ws[k]?.getD 0 = o := ⟨_, rfl⟩
      rw [ho] at hck huk hs
      have Hs := Lib.hid hs
      clear hc ho hs
      gi_wp2_with (refine ⟨trivial, ?_⟩; gi_at_call 86; refine (callsIn_wide.2 (falling_any _ _ _)).mono ?_; rintro e w' ⟨rfl, rfl⟩)
      obtain ⟨pre0, hpre⟩ : ∃ pre0, wordsB (ws.take k) = pre0 := ⟨_, rfl⟩
      have hpl : pre0.length = 4 * k := by rw [← hpre, wordsB_length, List.length_take]; omega
      rw [hpre] at hrow Hs
      clear hpre
      have bX := Boxed.new W 101 (.int .u64 o)
      have bS := Boxed.new (W.alloc (.cells #[.int .u64 o] 101)) 3 (.int .i64 4)
      simp only [World.size_alloc] at bS
      have bX := bX.alloc (.cells #[.int .i64 4] 3)
      have bO1 := (hv.alloc (.cells #[.int .u64 o] 101)).alloc (.cells #[.int .i64 4] 3)
      have r1 := (hrow.alloc (.cells #[.int .u64 o] 101)).alloc (.cells #[.int .i64 4] 3)
      have hB1 : Below w.heap.size w ((W.alloc (.cells #[.int .u64 o] 101)).alloc (.cells #[.int .i64 4] 3)) := (hB.alloc hB.size _).alloc (by have := hB.size; simp; omega) _
      have hO1 : Open w.heap.size Ds ((W.alloc (.cells #[.int .u64 o] 101)).alloc (.cells #[.int .i64 4] 3)) := (hO.keeps (KeepsOthers.alloc _ _)).keeps (KeepsOthers.alloc _ _)
      have hlt0 := hv.lt
      have hDs := hO.lt
      refine wpIn_rangeFunc_ownG rfl (by omega) (gf := 91) (lb := #[.pointer (some ⟨W.heap.size + 1, 0, none⟩), .pointer (some ⟨W.heap.size, 0, none⟩)]) rfl trivial (enters_of Try.func91 (by kernel_rfl) rfl)
        (fall_stops 2 (by omega) W.heap.size (W.heap.size + 1) o 4 4 rfl (by omega) (by omega) _ (by simp; omega) (by simp) bX.cell bS.cell)
        (fun h k => h.trans k) (fun W l o o' hl h _ _ => Keep2.put (by simp at hl; omega) (by simp at hl; omega) h) (Below.refl _ _) (fun _ => rfl)
        (fun pre W' => Coll w.heap.size (w.heap.size + 1) W.heap.size (W.heap.size + 1) pre0 o 4 w pre W' ∧ Open w.heap.size Ds W') (fun _ _ _ => False)
        (OwnFrom.and (Coll.own (Nat.le_refl _) (by have := hB.size; simp; omega)) (open_own (fun D hD => by have := hDs D hD; simp; omega))) (fun _ _ _ _ _ hs _ _ => hs) ⟨⟨⟨_, bO1, by simpa using r1, trivial⟩, hB1, bX, bS⟩, hO1⟩ ?act0 ?assign ?body ?done ?stop
      case assign =>
        intro l x W K hK
        gi_wp2
        exact hK
      case body =>
        rintro l pre x W' ⟨⟨⟨v, hv, hrow, _⟩, hB, hx, hs⟩, hO⟩ hlt
        have hc := hv.cell
        have hpl2 : (pre0 ++ pre).length = 4 * k + pre.length := by rw [List.length_append, hpl]
        have Hpl2 := Lib.hid hpl2
        clear hpl2 hpl
        gi_wp2_with (gi_at_builtin; refine wpListIn_append_own _ rfl _ _ 74 rfl w.heap.size 5 i0 (.int .u8 0) 1 1 Try.underlying74 hi hz0 hz1 hz2 rfl (by decide) _ _ _ rfl (hrow.alloc _) ⟨W'.heap.size, 0, none⟩ 1 1 [.int .u8 x] rfl rfl (cell_one_new _ _ _) (by simp [Value.oneCell']) (by unfold maxLen; have := Hpl2.out; omega) (by have := Hpl2.out; omega) (by have := hB.size; simp; omega) ?_; intro v' w1 hown' hgrow _; obtain ⟨g', cap', rfl⟩ := ownsRow_succ hown'; obtain ⟨hv1, hk2, hp2, hcoll⟩ := Coll.step hv hrow hB (Nat.le_refl _) (by omega) hx hs (by omega) (by omega) hown' hgrow; have hc1 := hv1.cell; have hf1 := hv1.frozen)
        rw [show pre0.length + pre.length + 1 = (pre0 ++ pre).length + 1 from by simp]
        exact ⟨hk2.from _, hp2, hcoll, hO.keeps hk2⟩
      case done =>
        rintro D ys W3 hD rfl ⟨⟨⟨v, hv, hrow, _⟩, hB3, hx, hs⟩, hO3⟩ hK
        gi_wp2
        have hD' : W.heap.size + 1 + 1 ≤ D := by simpa using hD
        refine ⟨⟨k + 1, D :: Ds, _, _, _, _, _, _, _, _, _, _, _, _, _, _, _, rfl, by omega, ⟨v, hv, ?_⟩, hB3, hO3.cons hDs (by omega) (by have := hB.size; omega) hK⟩, by simp [intOf]; omega⟩
        rw [Hs.out]; exact hrow
      case stop =>
        rintro D c pre W _ _ h _
        exact h.elim
    · obtain rfl : k = ws.length := by omega
      have ht : ws.take ws.length = ws := List.take_length
      rw [ht] at hrow
      have hc := hv.cell
      clear ht
      gi_wp2
      refine leaves_marks (n₀ := w.heap.size) (fun W => W.ownsRow w.heap.size 5 1 v (4 * ws.length) ((wordsB ws).map (Value.int .u8)) ∧ Below w.heap.size w W) ?_ ?_ Ds W hO ⟨by rw [← wordsB_length]; exact hrow, hB⟩
      · rintro W' D hD hk ⟨hr, hb⟩
        exact ⟨ownsRow_putObj hr _ hk rfl, hb.trans (belowK_b (w := w) (Nat.le_refl _) W' D _ _ hD hk rfl rfl)⟩
      · rintro W' ⟨hr, hb⟩
        exact ⟨_, results_tmp rfl _ _ _, v, rfl, hr, hb⟩
end
end

section
open Go.RowKit
set_option linter.unusedVariables false

end

/-
  What the pages say of octets, as the reference's functions reckon it.
-/
section
set_option linter.unusedVariables false
open Go.RowKit

theorem wrapped_range (n : Int) : 0 ≤ IntKind.u64.wrap n ∧ IntKind.u64.wrap n < 18446744073709551616 := wrap_u64_range n

end
end Go.Proofs.Ytnipkhgaceicbaa
