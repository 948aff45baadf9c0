import Derived.Shelf.Abstract
import Derived.WalkKit
import Derived.OwnWalkIn
import Derived.TacticsInMore
import Derived.LoopNIn
import Derived.LoopIn
import Derived.Outline
import Derived.Shelf.RegionOpen
import Derived.BigGuardIn
import Derived.Test.YtaepdmmlejdifaaAlong
import Derived.Test.YtaepdmmlejdifaaJnFirst
namespace Go.Proofs.Ytaepdmmlejdifaa
/-
  journal: what is gone through of octets; Scan.
-/
section
set_option maxRecDepth 100000
section
set_option linter.unusedVariables false
open Go.RowKit Go.Shelf
attribute [local go_sem] Oper.semAt_some

/-- what the iterator says of a record -/
def RecOk (bs : List Int) (w0 : World) (pre : List (Value × List Int)) (x : Value × List Int) : Prop :=
  (∃ rest, (scan bs).1 = pre.map (·.2) ++ x.2 :: rest) ∧ Ints .u8 w0 x.1 x.2
def rowLn : Value → Nat
  | .slice _ n _ => n
  | _ => 0
set_option maxHeartbeats 2000000 in
theorem records_gives (v : Value) (bs : List Int) (Bl : Nat) (w0 w : World) (hb : Boxed w Bl 22 v) (hw0 : Below w0.heap.size w0 w) (hv : Ints .u8 w0 v bs) (hu : U8s bs) (hlen : bs.length ≤ 4611686018427387904) :
    Gives Try.prog 33 #[.pointer (some ⟨Bl, 0, none⟩)] (fun x : Value × List Int => x.1) (fun pre x _ _ => RecOk bs w0 pre x) (fun _ W => Below w0.heap.size w0 W) (fun xs => xs.map (·.2) = (scan bs).1) w := by
  intro l J Jx W hWw hY0 hJ0
  have hY : ∀ pre W0 W1 a n c r, J pre W0 → Up W0 W1 → (∃ rest, (scan bs).1 = pre.map (·.2) ++ r :: rest) → Ints .u8 w0 (.slice a n c) r →
      YieldAt Fence.wide 1 Try.prog l #[.slice a n c] W1 (TwoWays (fun W' => J (pre ++ [(.slice a n c, r)]) W' ∧ Below w0.heap.size w0 W') (fun W' => Jx (pre ++ [(.slice a n c, r)]) W')) := by
    intro pre W0 W1 a n c r hj hu h1 h2
    exact YieldAt.mono (hY0 pre (.slice a n c, r) W0 W1 hj hu ⟨h1, h2⟩) fun e W' h => TwoWays.of h
  have HY := Lib.hid hY
  have HJ := Lib.hid hJ0
  have Hv := Lib.hid hv
  have Hu := Lib.hid hu
  have HB : Hid (Below w0.heap.size w0 W) := Lib.hid (hw0.trans (Below.mono hWw hw0.size))
  have c0 : W.cell? ⟨Bl, 0, none⟩ = some v := (hWw.cell (p := ⟨Bl, 0, none⟩) hb.lt).trans hb.cell
  obtain ⟨a, cap, rfl, hcap, _, _⟩ := id hv
  clear hY0 hY hWw hw0 hb hJ0 hv hu
  refine callsIn_of_wp Try.func33 rfl trivial ?_ rfl
  simp only [Try.ntmps33, List.size_toArray, List.length_cons, List.length_nil, Nat.reduceAdd, Nat.reduceSub, Array.replicate_succ, Array.replicate_zero, List.push_toArray, List.append_toArray, List.nil_append, List.cons_append]
  gi_wp2
  clear c0
  gi_loopw [3] (fun r wr => ∃ (k : Nat) (a : Option Addr) (c : Nat) (pre : List (Value × List Int)) (W0 : World), k ≤ bs.length ∧ r = .slice a (bs.length - k) c ∧ Ints .u8 w0 (.slice a (bs.length - k) c) (bs.drop k) ∧ (scan bs).1 = pre.map (·.2) ++ (scan (bs.drop k)).1 ∧ J pre W0 ∧ Up W0 wr ∧ Below w0.heap.size w0 wr)
    (fun r _ => rowLn r)
  case atStart => exact ⟨0, a, cap, [], W, Nat.zero_le _, rfl, Hv.out, rfl, HJ.out, Up.refl W, HB.out⟩
  case round =>
    obtain ⟨k, a, c, pre, W0, hk, rfl, hi, hsc, hJ, hU, hB⟩ := hrel
    have hiw : Ints .u8 wr (.slice a (bs.length - k) c) (bs.drop k) := hi.kept hB
    have hdl : (bs.drop k).length = bs.length - k := List.length_drop
    by_cases hw : Whole3 (bs.drop k)
    · have Hf := Lib.hid (first_on _ (bs.drop k) wr hiw (Hu.out.drop k) (by omega) hw)
      obtain ⟨h3, h4, h5⟩ := id hw
      have hg0 := len3_range (bs.drop k)
      rw [scan_on hw] at hsc
      obtain ⟨G, hG⟩ : ∃ G : Nat, (len3 (bs.drop k)).toNat = G := ⟨_, rfl⟩
      have hG1 : G ≤ 16384 := by omega
      have hG2 : 3 + G ≤ bs.length - k := by omega
      rw [hG] at hsc Hf
      have hcc : bs.length - k ≤ c := by
        obtain ⟨_, _, e, hh, _⟩ := hi
        simp only [Value.slice.injEq] at e
        omega
      obtain ⟨a2, c2, hs1, hs2, _⟩ := cut_suf a (bs.length - k) c (3 + G) hG2 hcc
      have hi2 := hs2 w0 _ hi
      have hdd : (bs.drop k).drop (3 + G) = bs.drop (k + (3 + G)) := List.drop_drop
      rw [hdd] at hi2 hsc
      have hsf : ∀ x : World, (Instr.sliceAt 22 (.slice a (bs.length - k) c) (some (.int .i64 (3 + (G : Int)))) none none).run Try.prog x = .ok (.slice a2 (bs.length - k - (3 + G)) c2) x := by
        intro x
        have := hs1 x
        rw [show ((3 + G : Nat) : Int) = 3 + (G : Int) from by omega] at this
        exact this
      have Hi := Lib.hid hi
      have Hi2 := Lib.hid hi2
      have HS := Lib.hid hsc
      have HJk := Lib.hid hJ
      have HU := Lib.hid hU
      have HBk := Lib.hid hB
      have Hsf := Lib.hid hsf
      clear hs1 hs2 hi hi2 hsc hJ hU hB hw h3 h4 h5 hg0 hG hiw hdd hsf
      generalize ((bs.drop k).drop 3).take G = R at Hf HS
      gi_wp2_with (refine ⟨trivial, ?_⟩; gi_at_call 34; refine CallsIn.mono (callsIn_wide.2 Hf.out) ?_; rintro e w2 ⟨⟨a1, c1, rfl, hin⟩, rfl⟩; have hy := HY.out pre W0 wr a1 G c1 R HJk.out HU.out ⟨_, HS.out⟩ (hin _ Hi.out); clear hin; obtain ⟨fnY, tmY, asY, bdY, hyr, hR⟩ := hy)
      refine RoundIn.mono hR ?_
      intro e w3 hTW
      obtain ⟨bb, rfl, hT, hF⟩ := hTW
      have hs3 := Hsf.out w3
      cases bb
      · have hx := hF rfl
        clear hT hF
        gi_wp2
        refine bodyPost_ret (results_none rfl _ _ _) rfl ?_
        exact ⟨⟨_, rfl⟩, .inr ⟨_, _, hx, Up.refl _⟩⟩
      · have hx := hT rfl
        clear hT hF
        gi_wp2
        go_roundw
        case rel => exact ⟨k + (3 + G), a2, c2, pre ++ [(.slice a1 G c1, R)], w3, by omega, by rw [show bs.length - (k + (3 + G)) = bs.length - k - (3 + G) from by omega], by rw [show bs.length - (k + (3 + G)) = bs.length - k - (3 + G) from by omega]; exact Hi2.out, by rw [HS.out]; simp, hx.1, Up.refl _, hx.2⟩
        case measure => simp [rowLn]; omega
    · have Hf := Lib.hid (first_no _ (bs.drop k) wr hiw (Hu.out.drop k) (by omega) hw)
      rw [scan_end hw, List.append_nil] at hsc
      have HS := Lib.hid hsc
      have HJk := Lib.hid hJ
      have HU := Lib.hid hU
      clear hi hiw hsc hJ hU hB hw
      gi_wp2_with (refine ⟨trivial, ?_⟩; gi_at_call 34; refine CallsIn.mono (callsIn_wide.2 Hf.out) ?_; rintro e w2 ⟨rfl, rfl⟩)
      all_goals
        first | (refine ⟨(fun f h => by cases h), ?_⟩) | skip
        gi_wp2
      refine bodyPost_ret (results_none rfl _ _ _) rfl ?_
      exact ⟨⟨_, rfl⟩, .inl ⟨pre, W0, HS.out.symm, HJk.out, HU.out⟩⟩
end
/-
  Scan.
-/
section
set_option linter.unusedVariables false
open Go.RowKit Go.Shelf
attribute [local go_sem] Oper.semAt_some

theorem rows_apart {W : World} {b1 b2 s1 s2 n1 n2 : Nat} {e1 e2 : TypeId} {v1 v2 : Value} {x1 x2 : List Value} (h1 : W.ownsRow b1 e1 s1 v1 n1 x1) (h2 : W.ownsRow b2 e2 s2 v2 n2 x2) (hne : e1 ≠ e2) : v1.ownBlock = none ∨ v1.ownBlock ≠ v2.ownBlock := by
  rcases h1.2 with ⟨rfl, _⟩ | ⟨g, cap, cur, rfl, _, hg, _⟩
  · exact .inl rfl
  · refine .inr fun e => ?_
    rcases h2.2 with ⟨rfl, _⟩ | ⟨g2, cap2, cur2, rfl, _, hg2, _⟩
    · simp [Value.ownBlock] at e
    · obtain rfl : g = g2 := by simpa [Value.ownBlock] using e
      have := hg.symm.trans hg2
      simp at this
      exact hne this.2
/-- values that are rows of octets of their own, each -/
def Recs (n₀ : Nat) (W : World) (us : List Value) (ls : List (List Int)) : Prop :=
  us.length = ls.length ∧ ∀ j, j < ls.length → W.ownsRow n₀ 5 1 (us.getD j undef) (ls[j]?.getD []).length ((ls[j]?.getD []).map (Value.int .u8))
theorem Recs.nil (n₀ : Nat) (W : World) : Recs n₀ W [] [] := ⟨rfl, fun j hj => by simp at hj⟩
theorem Recs.kept {n₀ : Nat} {W W' : World} {us : List Value} {ls : List (List Int)} {row : Option Nat} (h : Recs n₀ W us ls) (hg : W.grownBy W' row) (hne : ∀ j, j < ls.length → (us.getD j undef).ownBlock = none ∨ (us.getD j undef).ownBlock ≠ row) : Recs n₀ W' us ls :=
  ⟨h.1, fun j hj => (h.2 j hj).kept hg (hne j hj)⟩
theorem Recs.up {n₀ : Nat} {W W' : World} {us : List Value} {ls : List (List Int)} (h : Recs n₀ W us ls) (hu : Up W W') : Recs n₀ W' us ls := ⟨h.1, fun j hj => ownsRow_up (h.2 j hj) hu⟩
theorem Recs.snoc {n₀ : Nat} {W : World} {us : List Value} {ls : List (List Int)} (h : Recs n₀ W us ls) {u : Value} {r : List Int} (hu : W.ownsRow n₀ 5 1 u r.length (r.map (Value.int .u8))) : Recs n₀ W (us ++ [u]) (ls ++ [r]) := by
  refine ⟨by simp [h.1], fun j hj => ?_⟩
  rw [List.length_append, List.length_singleton] at hj
  by_cases e : j = ls.length
  · subst e
    rw [show us ++ [u] = us ++ [u] from rfl, ← h.1, last_getD, h.1]
    simpa using hu
  · rw [undef_getD (by have := h.1; omega), List.getElem?_append_left (by omega)]
    exact h.2 j (by omega)
theorem Recs.rows {n₀ : Nat} {W : World} {us : List Value} {ls : List (List Int)} {e : TypeId} {v : Value} {n : Nat} (h : Recs n₀ W us ls) (hr : W.ownsRow n₀ e 1 v n us) : RowsF (fun b => n₀ ≤ b) W v ls :=
  RowsF.of_row hr h.1 (fun b hb => hb) fun j hj => IntsF.of_row (h.2 j hj) (fun b hb => hb)

/-- BETWEEN TWO ROUNDS OF Scan -/
def CollS (n₀ Bl Bs : Nat) (w : World) (pre : List (Value × List Int)) (W : World) : Prop :=
  (∃ v us, Boxed W Bl 26 v ∧ W.ownsRow n₀ 22 1 v pre.length us ∧ Recs n₀ W us (pre.map (·.2))) ∧ Boxed W Bs 3 (.int .i64 ((frames (pre.map (·.2))).length : Nat)) ∧ Below n₀ w W
theorem row_own {W W' : World} {row : Option Nat} {base size n : Nat} {e : TypeId} {v : Value} {xs : List Value} (h : W.ownsRow base e size v n xs) (hg : W.grownBy W' row) (hrow : ∀ r, row = some r → ∃ o : Obj, W.heap[r]? = some o ∧ o.isCells = false) : W'.ownsRow base e size v n xs := by
  refine h.kept hg ?_
  rcases h.2 with ⟨rfl, _⟩ | ⟨g, cap, cur, rfl, _, hgb, _⟩
  · exact .inl rfl
  · refine .inr fun e' => ?_
    obtain ⟨o, ho, hc⟩ := hrow g (by simpa [Value.ownBlock] using e'.symm)
    rw [hgb] at ho; cases ho; cases hc
theorem CollS.own {n₀ Bl Bs : Nat} {w : World} {D : Nat} (h1 : n₀ ≤ w.heap.size) (h2 : n₀ ≤ D) : OwnFrom D (CollS n₀ Bl Bs w) := by
  rintro pre W W' row ⟨⟨v, us, h3, h4, h5⟩, h6, h7⟩ hg hr
  have hr' := fun r e => (hr r e).2
  exact ⟨⟨v, us, boxed_own Bl 26 (fun (_ : Unit) => v) () W W' row h3 hg hr', row_own h4 hg hr', h5.1, fun j hj => row_own (h5.2 j hj) hg hr'⟩,
    boxed_own Bs 3 (fun (_ : Unit) => (.int .i64 ((frames (pre.map (·.2))).length : Nat))) () W W' row h6 hg hr', ownFrom_below (β := Unit) h1 h2 () W W' row h7 hg hr⟩
theorem info_row8 : (Try.prog.info? 22).map (fun i => (i.zero, i.size, i.bytes)) = some (some (.slice none 0 0), 1, 24) := by kernel_rfl
end
section
set_option linter.unusedVariables false
open Go.RowKit Go.Shelf
attribute [local go_sem] Oper.semAt_some
theorem Recs.putObj {n₀ : Nat} {W : World} {us : List Value} {ls : List (List Int)} (h : Recs n₀ W us ls) {l : Nat} {o : Obj} (o' : Obj) (hl : W.heap[l]? = some o) (ho : o.isCells = false) : Recs n₀ (W.putObj l o') us ls :=
  ⟨h.1, fun j hj => ownsRow_putObj (h.2 j hj) o' hl ho⟩
/-- one round: the record's copy is appended, and its length counted -/
theorem CollS.step {n₀ Bl Bs : Nat} {w : World} {pre : List (Value × List Int)} {W w2 w4 : World} {v v' u xv : Value} {us : List Value} {r : List Int} {tmp : Obj}
    (hv : Boxed W Bl 26 v) (hrow : W.ownsRow n₀ 22 1 v pre.length us) (hrec : Recs n₀ W us (pre.map (·.2))) (hs : Boxed W Bs 3 (.int .i64 ((frames (pre.map (·.2))).length : Nat))) (hB : Below n₀ w W) (hn : n₀ ≤ w.heap.size)
    (hl : n₀ ≤ Bl) (hls : n₀ ≤ Bs) (hne : Bs ≠ Bl) (h2 : Up W w2) (hu : w2.ownsRow n₀ 5 1 u r.length (r.map (Value.int .u8)))
    (hown' : w4.ownsRow n₀ 22 1 v' (pre.length + 1) (us ++ [u])) (hgrow : (w2.alloc tmp).grownBy w4 v.ownBlock) :
    Boxed w4 Bl 26 v ∧ Boxed (w4.setCell ⟨Bl, 0, none⟩ v') Bs 3 (.int .i64 ((frames (pre.map (·.2))).length : Nat)) ∧
    (∀ x : Int, x = 3 + (r.length : Int) + ((frames (pre.map (·.2))).length : Nat) → KeepsOthers W ((w4.setCell ⟨Bl, 0, none⟩ v').setCell ⟨Bs, 0, none⟩ (.int .i64 x)) ∧ Below n₀ w ((w4.setCell ⟨Bl, 0, none⟩ v').setCell ⟨Bs, 0, none⟩ (.int .i64 x)) ∧
      CollS n₀ Bl Bs w (pre ++ [(xv, r)]) ((w4.setCell ⟨Bl, 0, none⟩ v').setCell ⟨Bs, 0, none⟩ (.int .i64 x))) := by
  have hv2 : Boxed w2 Bl 26 v := (h2.block Bl hv.lt).trans hv
  have hrow2 := ownsRow_up hrow h2
  have hrec2 := (hrec.up h2).snoc hu
  have hs2 : Boxed w2 Bs 3 (.int .i64 ((frames (pre.map (·.2))).length : Nat)) := (h2.block Bs hs.lt).trans hs
  have hB2 : Below n₀ w w2 := hB.trans (Below.mono h2 (Nat.le_trans hn (Nat.le_trans hB.size (Nat.le_refl _))))
  obtain ⟨q1, q2, q3, q4, q5⟩ := hv2.appended (by decide) hrow2 (Nat.le_trans hn hB2.size) hl hown' hgrow
  have ua : Up w2 (w2.alloc tmp) := Up.alloc (Up.refl w2) _
  have hs4 : Boxed w4 Bs 3 (.int .i64 ((frames (pre.map (·.2))).length : Nat)) := (hs2.alloc tmp).kept hgrow (hs2.not_row (by decide) hrow2)
  have hs5 := hs4.other hne v'
  have hrec4 : Recs n₀ w4 (us ++ [u]) (pre.map (·.2) ++ [r]) := (hrec2.up ua).kept hgrow fun j hj => rows_apart ((hrec2.up ua).2 j hj) (ownsRow_up hrow2 ua) (by decide)
  have hrec5 : Recs n₀ (w4.setCell ⟨Bl, 0, none⟩ v') (us ++ [u]) (pre.map (·.2) ++ [r]) := hrec4.kept (grownBy_setCell' w4 Bl v') fun j hj => .inr ((q1.not_row (by decide) (hrec4.2 j hj)).symm)
  refine ⟨q1, hs5, fun x hx => ?_⟩
  have g6 := grownBy_setCell' (w4.setCell ⟨Bl, 0, none⟩ v') Bs (.int .i64 x)
  have hB6 : Below n₀ w ((w4.setCell ⟨Bl, 0, none⟩ v').setCell ⟨Bs, 0, none⟩ (.int .i64 x)) := (hB2.trans q5).setCell (p := ⟨Bs, 0, none⟩) hls _
  refine ⟨((Up.others h2).trans q4).trans (KeepsOthers.setCell _ _ _), hB6, ⟨v', us ++ [u], q2.other hne.symm _, ?_, ?_⟩, ?_, hB6⟩
  · rw [List.length_append, List.length_singleton]
    exact q3.kept g6 (.inr ((hs5.not_row (by decide) q3).symm))
  · rw [List.map_append]
    exact hrec5.kept g6 fun j hj => .inr ((hs5.not_row (by decide) (hrec5.2 j hj)).symm)
  · have e : (((frames ((pre ++ [(xv, r)]).map (·.2))).length : Nat) : Int) = x := by
      rw [List.map_append, hx]
      simp only [List.map_cons, List.map_nil]
      rw [frames_snoc, List.length_append, frame_length]
      omega
    rw [e]
    exact hs5.set _
theorem build_row1 (a : Option Addr) (n c : Nat) (w : World) : (Instr.buildSlice 26 1 #[(0, .slice a n c)]).run Try.prog w = .ok (.slice (some ⟨w.heap.size, 0, none⟩) 1 1) (w.alloc (.cells #[.slice a n c] 22)) := by
  simp [go_sem]
set_option maxHeartbeats 12000000 in
theorem scan_any (v : Value) (bs : List Int) (w : World) (hv : Ints .u8 w v bs) (hu : U8s bs) (hlen : bs.length ≤ 2000000) :
    Calls Try.prog 8 #[v] w fun e w' => ∃ r, e = .returned (.tuple #[r, .int .i64 ((scan bs).2 : Nat)]) ∧ RowsF (fun b => w.heap.size ≤ b) w' r (scan bs).1 ∧ Up w w' := by
  obtain ⟨i0, hi, hz0, hz1, hz2⟩ := info_parts info_row8
  refine (callsIn_wide (n := 3)).1 ?_
  have HV := Lib.hid hv
  have HU := Lib.hid hu
  have Hsf := Lib.hid (scan_frames_of bs.length bs (Nat.le_refl _) hu)
  obtain ⟨a, cap, rfl, _, _, _⟩ := id hv
  clear hv hu
  have hlen2 : (frames (scan bs).1).length = (scan bs).2 := by
    have h2 := Hsf.out.2.1
    have h3 := Hsf.out.2.2
    rw [h2, List.length_take, Nat.min_eq_left h3]
  have Hlen := Lib.hid hlen2
  clear hlen2
  refine callsIn_of_wp_marks Try.func8 rfl trivial ?_ rfl
  simp only [Try.ntmps8, List.size_toArray, List.length_cons, List.length_nil, Nat.reduceAdd, Nat.reduceSub, Array.replicate_succ, Array.replicate_zero, List.push_toArray, List.append_toArray, List.nil_append, List.cons_append]
  gi_wp2_with (refine ⟨trivial, ?_⟩; gi_at_call 23; refine CallsIn.mono (callsIn_wide.2 (records_any _ _ rfl)) ?_; rintro e w' ⟨rfl, rfl⟩)
  have bL := ((Boxed.new w 26 (.slice none 0 0)).alloc (.cells #[.int .i64 0] 3)).alloc (.cells #[.slice a bs.length cap] 22)
  have bS := (Boxed.new (w.alloc (.cells #[.slice none 0 0] 26)) 3 (.int .i64 0)).alloc (.cells #[.slice a bs.length cap] 22)
  have bR := Boxed.new ((w.alloc (.cells #[.slice none 0 0] 26)).alloc (.cells #[.int .i64 0] 3)) 22 (.slice a bs.length cap)
  have hU0 : Up w (((w.alloc (.cells #[.slice none 0 0] 26)).alloc (.cells #[.int .i64 0] 3)).alloc (.cells #[.slice a bs.length cap] 22)) := Up.alloc (Up.alloc (Up.alloc (Up.refl w) _) _) _
  have hsz : (((w.alloc (.cells #[.slice none 0 0] 26)).alloc (.cells #[.int .i64 0] 3)).alloc (.cells #[.slice a bs.length cap] 22)).heap.size = w.heap.size + 3 := by simp
  simp only [World.size_alloc] at bS bR
  have h0 : CollS w.heap.size w.heap.size (w.heap.size + 1) w [] (((w.alloc (.cells #[.slice none 0 0] 26)).alloc (.cells #[.int .i64 0] 3)).alloc (.cells #[.slice a bs.length cap] 22)) := ⟨⟨_, [], bL, World.ownsRow_nil _ _ _ _, Recs.nil _ _⟩, bS, hU0⟩
  have hGv := records_gives (.slice a bs.length cap) bs (w.heap.size + 1 + 1) w _ bR hU0 HV.out HU.out (by omega)
  generalize (((w.alloc (.cells #[.slice none 0 0] 26)).alloc (.cells #[.int .i64 0] 3)).alloc (.cells #[.slice a bs.length cap] 22)) = w1 at hGv h0 hsz ⊢
  clear bL bS bR hU0
  refine wpIn_over (gf := 33) (lb := #[.pointer (some ⟨w.heap.size + 1 + 1, 0, none⟩)]) rfl (enters_of Try.func33 (by kernel_rfl) rfl) hGv rfl
    (fun pre x n => ownFrom_pure (β := Unit) _ (fun _ => RecOk bs w pre x)) (fun x => ownFrom_below (Nat.le_refl _) (by omega))
    (CollS w.heap.size w.heap.size (w.heap.size + 1) w) (fun _ _ _ => False)
    (CollS.own (Nat.le_refl _) (by omega)) (fun _ _ _ _ _ hs _ _ => hs) h0 ?act0 ?assign ?body ?done ?stop
  case assign =>
    intro l x W K hK
    gi_wp2
    exact hK
  case body =>
    rintro l pre ⟨xv, r⟩ W0 W hl _ _ _ ⟨⟨v, us, hv, hrow, hrec⟩, hs, hB⟩ ⟨⟨rest, hrest⟩, hi8⟩
    simp only at hi8 hrest
    have hfl : 3 + (r.length : Int) + ((frames (pre.map (·.2))).length : Nat) ≤ 2000000 := by
      have h1 := Hlen.out
      have h2 := Hsf.out.2.2
      rw [hrest, show ∀ (a : List (List Int)) x b, a ++ x :: b = (a ++ [x]) ++ b from by simp, frames_append, frames_snoc, List.length_append, List.length_append, frame_length] at h1
      omega
    have hpl : pre.length ≤ 2000000 := by
      have := frames_length (pre.map (·.2))
      rw [List.length_map] at this
      omega
    have HJ : Hid (∀ wx, Up W wx → Calls Try.prog 24 #[.slice (some ⟨wx.heap.size, 0, none⟩) 1 1] (wx.alloc (.cells #[xv] 22)) fun e w' => ∃ a9 c9, e = .returned (.slice a9 r.length c9) ∧ w'.ownsRow w.heap.size 5 1 (.slice a9 r.length c9) r.length (r.map (Value.int .u8)) ∧ Up W w') := Lib.hid fun wx hx => by
      have hxb : Below w.heap.size w wx := hB.trans (Below.mono hx hB.size)
      refine (join_any _ [r] _ (Rows8.new1 wx _ xv r _ rfl (hi8.kept hxb)) (by simp) (by simp; omega)).mono ?_
      rintro e w' ⟨he, h1, h2⟩
      simp only [List.flatten_cons, List.flatten_nil, List.append_nil] at h1 he
      exact ⟨_, _, he, ownsRow_base h1 (by have := hxb.size; simp; omega), Up.trans (Up.alloc hx _) h2⟩
    obtain ⟨a1, c1, rfl, _, _, _⟩ := hi8
    have hc := hv.cell
    have hc2 := hs.cell
    have Hv := Lib.hid hv
    have Hrow := Lib.hid hrow
    have Hrec := Lib.hid hrec
    have Hs := Lib.hid hs
    have HB := Lib.hid hB
    have hq : ((frames (pre.map (·.2))).length : Int) + (3 + (r.length : Int)) ≤ 2000000 := by omega
    generalize hF : (((frames (pre.map (·.2))).length : Nat) : Int) = F at hc2 hq
    have HF := Lib.hid hF
    have Hpos : Hid (0 ≤ F ∧ F + (3 + (r.length : Int)) ≤ 2000000) := Lib.hid ⟨by omega, hq⟩
    clear hv hrow hrec hs hB hrest hfl hF
    have hmx : Try.prog.follows .mixedOrders = true := by kernel_rfl
    have HL : Hid (Up W W.drew) := Lib.hid (Up.drew1 W)
    gi_wp2
    refine region_alongF (ro := some l) (n := 1) (fun X => True) (.read 1 (.fork 0 (.step 2 (.step 3 (.step 4 (.step 5 (.step 6 .nil))))) 2 (.fork 0 (.step 3 (.step 4 (.step 5 (.step 6 .nil)))) 3 (.fork 0 (.step 4 (.step 5 (.step 6 .nil))) 4 (.step 0 (.step 5 (.step 6 .nil)))))))
      hmx rfl (by kernel_rfl) (by kernel_rfl) (by kernel_rfl) (fun c a d v w h => by cases d <;> exact h) trivial ?_
    refine alongF_move (.slice a1 r.length c1) rfl rfl rfl rfl ?_
    change AlongF _ _ _ _ _ _ _ { tmps := #[.slice a bs.length cap, undef, .slice none 0 0, .int .i64 0, .pointer (some ⟨w.heap.size, 0, none⟩), .pointer (some ⟨w.heap.size + 1, 0, none⟩), .slice a1 r.length c1, .slice a bs.length cap, .func (.func 33) #[] #[.pointer (some ⟨w.heap.size + 1 + 1, 0, none⟩)], .slice a1 r.length c1, undef, .slice a1 r.length c1, undef, undef, undef, undef, undef, undef, undef, undef, undef, undef, undef], defers := [] } _
    refine alongF_fork ?_ ?_
    · refine opF_load v Try.isAgg26 rfl rfl rfl (later_cell hc HL.out) rfl trivial ?_
      change AlongF _ _ _ _ _ _ _ { tmps := #[.slice a bs.length cap, undef, .slice none 0 0, .int .i64 0, .pointer (some ⟨w.heap.size, 0, none⟩), .pointer (some ⟨w.heap.size + 1, 0, none⟩), .slice a1 r.length c1, .slice a bs.length cap, .func (.func 33) #[] #[.pointer (some ⟨w.heap.size + 1 + 1, 0, none⟩)], .slice a1 r.length c1, v, .slice a1 r.length c1, undef, undef, undef, undef, undef, undef, undef, undef, undef, undef, undef], defers := [] } _
      refine alongF_step (opF_run (by intro c e; cases e) _ _ rfl rfl (ex_slice1 _ _ (build_row1 a1 r.length c1 _) rfl rfl) trivial ?_)
      change AlongF _ _ _ _ _ _ _ { tmps := #[.slice a bs.length cap, undef, .slice none 0 0, .int .i64 0, .pointer (some ⟨w.heap.size, 0, none⟩), .pointer (some ⟨w.heap.size + 1, 0, none⟩), .slice a1 r.length c1, .slice a bs.length cap, .func (.func 33) #[] #[.pointer (some ⟨w.heap.size + 1 + 1, 0, none⟩)], .slice a1 r.length c1, v, .slice a1 r.length c1, .slice (some ⟨W.drew.heap.size, 0, none⟩) 1 1, undef, undef, undef, undef, undef, undef, undef, undef, undef, undef], defers := [] } _
      refine alongF_step (opF_call (args := [.tmp 12]) (vs := [.slice (some ⟨W.heap.size, 0, none⟩) 1 1]) rfl rfl rfl (enters_of Try.func24 (by kernel_rfl) rfl) rfl ?_)
      refine Calls.mono (HJ.out _ HL.out) ?_
      rintro e w2 ⟨a9, c9, rfl, hj1, hj2⟩
      refine ⟨_, rfl, trivial, ?_⟩
      change AlongF _ _ _ _ _ _ _ { tmps := #[.slice a bs.length cap, undef, .slice none 0 0, .int .i64 0, .pointer (some ⟨w.heap.size, 0, none⟩), .pointer (some ⟨w.heap.size + 1, 0, none⟩), .slice a1 r.length c1, .slice a bs.length cap, .func (.func 33) #[] #[.pointer (some ⟨w.heap.size + 1 + 1, 0, none⟩)], .slice a1 r.length c1, v, .slice a1 r.length c1, .slice (some ⟨W.drew.heap.size, 0, none⟩) 1 1, .slice a9 r.length c9, undef, undef, undef, undef, undef, undef, undef, undef, undef], defers := [] } _
      refine alongF_step (opF_run (by intro c e; cases e) _ _ rfl rfl (ex_slice1 _ _ (build_row1 a9 r.length c9 _) rfl rfl) trivial ?_)
      change AlongF _ _ _ _ _ _ _ { tmps := #[.slice a bs.length cap, undef, .slice none 0 0, .int .i64 0, .pointer (some ⟨w.heap.size, 0, none⟩), .pointer (some ⟨w.heap.size + 1, 0, none⟩), .slice a1 r.length c1, .slice a bs.length cap, .func (.func 33) #[] #[.pointer (some ⟨w.heap.size + 1 + 1, 0, none⟩)], .slice a1 r.length c1, v, .slice a1 r.length c1, .slice (some ⟨W.drew.heap.size, 0, none⟩) 1 1, .slice a9 r.length c9, .slice (some ⟨w2.heap.size, 0, none⟩) 1 1, undef, undef, undef, undef, undef, undef, undef, undef], defers := [] } _
      refine alongF_step (opF_append rfl rfl rfl w.heap.size 22 i0 (.slice none 0 0) 1 24 Try.underlying26 hi hz0 hz1 hz2 rfl (by decide) v pre.length us rfl (ownsRow_up Hrow.out (Up.alloc hj2 _)) ⟨w2.heap.size, 0, none⟩ 1 1 [.slice a9 r.length c9] rfl rfl (cell_one_new _ _ _) (by simp [Value.oneCell']) (by unfold maxLen; omega) (by omega) (by have h1 := HB.out.size; have h2 := hj2.size; simp; omega) ?_)
      intro v' w4 hown' hgrow
      obtain ⟨g', cap', rfl⟩ := ownsRow_succ hown'
      obtain ⟨q1, q2, q3⟩ := CollS.step (xv := .slice a1 r.length c1) Hv.out Hrow.out Hrec.out Hs.out HB.out (Nat.le_refl _) (Nat.le_refl _) (by omega) (by omega) hj2 hj1 hown' hgrow
      rw [HF.out] at q2 q3
      refine ⟨trivial, ?_⟩
      change AlongF _ _ _ _ _ _ _ { tmps := #[.slice a bs.length cap, undef, .slice none 0 0, .int .i64 0, .pointer (some ⟨w.heap.size, 0, none⟩), .pointer (some ⟨w.heap.size + 1, 0, none⟩), .slice a1 r.length c1, .slice a bs.length cap, .func (.func 33) #[] #[.pointer (some ⟨w.heap.size + 1 + 1, 0, none⟩)], .slice a1 r.length c1, v, .slice a1 r.length c1, .slice (some ⟨W.drew.heap.size, 0, none⟩) 1 1, .slice a9 r.length c9, .slice (some ⟨w2.heap.size, 0, none⟩) 1 1, (.slice (some ⟨g', 0, none⟩) (pre.length + 1) cap'), undef, undef, undef, undef, undef, undef, undef], defers := [] } _
      refine alongF_step (opF_store Try.sizeOf26 rfl rfl rfl rfl q1.cell q1.frozen rfl trivial ?_)
      refine alongF_done ?_
      change Exit.then _ _ .normal { tmps := #[.slice a bs.length cap, undef, .slice none 0 0, .int .i64 0, .pointer (some ⟨w.heap.size, 0, none⟩), .pointer (some ⟨w.heap.size + 1, 0, none⟩), .slice a1 r.length c1, .slice a bs.length cap, .func (.func 33) #[] #[.pointer (some ⟨w.heap.size + 1 + 1, 0, none⟩)], .slice a1 r.length c1, v, .slice a1 r.length c1, .slice (some ⟨W.drew.heap.size, 0, none⟩) 1 1, .slice a9 r.length c9, .slice (some ⟨w2.heap.size, 0, none⟩) 1 1, (.slice (some ⟨g', 0, none⟩) (pre.length + 1) cap'), undef, undef, undef, undef, undef, undef, undef], defers := [] } _
      have Q3 := Lib.hid q3
      have q2c := q2.cell
      have q2f := q2.frozen
      clear q1 q2 q3 hown' hgrow hj1 hj2 hc hc2
      gi_wp2
      exact Q3.out _ (by have := Hpos.out; unfold wrap64; omega)
    · refine opF_run (by intro c e; cases e) _ _ rfl rfl (ex_slice1 _ _ (build_row1 a1 r.length c1 _) rfl rfl) trivial ?_
      change AlongF _ _ _ _ _ _ _ { tmps := #[.slice a bs.length cap, undef, .slice none 0 0, .int .i64 0, .pointer (some ⟨w.heap.size, 0, none⟩), .pointer (some ⟨w.heap.size + 1, 0, none⟩), .slice a1 r.length c1, .slice a bs.length cap, .func (.func 33) #[] #[.pointer (some ⟨w.heap.size + 1 + 1, 0, none⟩)], .slice a1 r.length c1, undef, .slice a1 r.length c1, .slice (some ⟨W.drew.heap.size, 0, none⟩) 1 1, undef, undef, undef, undef, undef, undef, undef, undef, undef, undef], defers := [] } _
      refine alongF_fork ?_ ?_
      · refine opF_load v Try.isAgg26 rfl rfl rfl (later_cell hc (Up.alloc HL.out _)) rfl trivial ?_
        change AlongF _ _ _ _ _ _ _ { tmps := #[.slice a bs.length cap, undef, .slice none 0 0, .int .i64 0, .pointer (some ⟨w.heap.size, 0, none⟩), .pointer (some ⟨w.heap.size + 1, 0, none⟩), .slice a1 r.length c1, .slice a bs.length cap, .func (.func 33) #[] #[.pointer (some ⟨w.heap.size + 1 + 1, 0, none⟩)], .slice a1 r.length c1, v, .slice a1 r.length c1, .slice (some ⟨W.drew.heap.size, 0, none⟩) 1 1, undef, undef, undef, undef, undef, undef, undef, undef, undef, undef], defers := [] } _
        refine alongF_step (opF_call (args := [.tmp 12]) (vs := [.slice (some ⟨W.heap.size, 0, none⟩) 1 1]) rfl rfl rfl (enters_of Try.func24 (by kernel_rfl) rfl) rfl ?_)
        refine Calls.mono (HJ.out _ HL.out) ?_
        rintro e w2 ⟨a9, c9, rfl, hj1, hj2⟩
        refine ⟨_, rfl, trivial, ?_⟩
        change AlongF _ _ _ _ _ _ _ { tmps := #[.slice a bs.length cap, undef, .slice none 0 0, .int .i64 0, .pointer (some ⟨w.heap.size, 0, none⟩), .pointer (some ⟨w.heap.size + 1, 0, none⟩), .slice a1 r.length c1, .slice a bs.length cap, .func (.func 33) #[] #[.pointer (some ⟨w.heap.size + 1 + 1, 0, none⟩)], .slice a1 r.length c1, v, .slice a1 r.length c1, .slice (some ⟨W.drew.heap.size, 0, none⟩) 1 1, .slice a9 r.length c9, undef, undef, undef, undef, undef, undef, undef, undef, undef], defers := [] } _
        refine alongF_step (opF_run (by intro c e; cases e) _ _ rfl rfl (ex_slice1 _ _ (build_row1 a9 r.length c9 _) rfl rfl) trivial ?_)
        change AlongF _ _ _ _ _ _ _ { tmps := #[.slice a bs.length cap, undef, .slice none 0 0, .int .i64 0, .pointer (some ⟨w.heap.size, 0, none⟩), .pointer (some ⟨w.heap.size + 1, 0, none⟩), .slice a1 r.length c1, .slice a bs.length cap, .func (.func 33) #[] #[.pointer (some ⟨w.heap.size + 1 + 1, 0, none⟩)], .slice a1 r.length c1, v, .slice a1 r.length c1, .slice (some ⟨W.drew.heap.size, 0, none⟩) 1 1, .slice a9 r.length c9, .slice (some ⟨w2.heap.size, 0, none⟩) 1 1, undef, undef, undef, undef, undef, undef, undef, undef], defers := [] } _
        refine alongF_step (opF_append rfl rfl rfl w.heap.size 22 i0 (.slice none 0 0) 1 24 Try.underlying26 hi hz0 hz1 hz2 rfl (by decide) v pre.length us rfl (ownsRow_up Hrow.out (Up.alloc hj2 _)) ⟨w2.heap.size, 0, none⟩ 1 1 [.slice a9 r.length c9] rfl rfl (cell_one_new _ _ _) (by simp [Value.oneCell']) (by unfold maxLen; omega) (by omega) (by have h1 := HB.out.size; have h2 := hj2.size; simp; omega) ?_)
        intro v' w4 hown' hgrow
        obtain ⟨g', cap', rfl⟩ := ownsRow_succ hown'
        obtain ⟨q1, q2, q3⟩ := CollS.step (xv := .slice a1 r.length c1) Hv.out Hrow.out Hrec.out Hs.out HB.out (Nat.le_refl _) (Nat.le_refl _) (by omega) (by omega) hj2 hj1 hown' hgrow
        rw [HF.out] at q2 q3
        refine ⟨trivial, ?_⟩
        change AlongF _ _ _ _ _ _ _ { tmps := #[.slice a bs.length cap, undef, .slice none 0 0, .int .i64 0, .pointer (some ⟨w.heap.size, 0, none⟩), .pointer (some ⟨w.heap.size + 1, 0, none⟩), .slice a1 r.length c1, .slice a bs.length cap, .func (.func 33) #[] #[.pointer (some ⟨w.heap.size + 1 + 1, 0, none⟩)], .slice a1 r.length c1, v, .slice a1 r.length c1, .slice (some ⟨W.drew.heap.size, 0, none⟩) 1 1, .slice a9 r.length c9, .slice (some ⟨w2.heap.size, 0, none⟩) 1 1, (.slice (some ⟨g', 0, none⟩) (pre.length + 1) cap'), undef, undef, undef, undef, undef, undef, undef], defers := [] } _
        refine alongF_step (opF_store Try.sizeOf26 rfl rfl rfl rfl q1.cell q1.frozen rfl trivial ?_)
        refine alongF_done ?_
        change Exit.then _ _ .normal { tmps := #[.slice a bs.length cap, undef, .slice none 0 0, .int .i64 0, .pointer (some ⟨w.heap.size, 0, none⟩), .pointer (some ⟨w.heap.size + 1, 0, none⟩), .slice a1 r.length c1, .slice a bs.length cap, .func (.func 33) #[] #[.pointer (some ⟨w.heap.size + 1 + 1, 0, none⟩)], .slice a1 r.length c1, v, .slice a1 r.length c1, .slice (some ⟨W.drew.heap.size, 0, none⟩) 1 1, .slice a9 r.length c9, .slice (some ⟨w2.heap.size, 0, none⟩) 1 1, (.slice (some ⟨g', 0, none⟩) (pre.length + 1) cap'), undef, undef, undef, undef, undef, undef, undef], defers := [] } _
        have Q3 := Lib.hid q3
        have q2c := q2.cell
        have q2f := q2.frozen
        clear q1 q2 q3 hown' hgrow hj1 hj2 hc hc2
        gi_wp2
        exact Q3.out _ (by have := Hpos.out; unfold wrap64; omega)
      · refine opF_call (args := [.tmp 12]) (vs := [.slice (some ⟨W.heap.size, 0, none⟩) 1 1]) rfl rfl rfl (enters_of Try.func24 (by kernel_rfl) rfl) rfl ?_
        refine Calls.mono (HJ.out _ HL.out) ?_
        rintro e w2 ⟨a9, c9, rfl, hj1, hj2⟩
        refine ⟨_, rfl, trivial, ?_⟩
        change AlongF _ _ _ _ _ _ _ { tmps := #[.slice a bs.length cap, undef, .slice none 0 0, .int .i64 0, .pointer (some ⟨w.heap.size, 0, none⟩), .pointer (some ⟨w.heap.size + 1, 0, none⟩), .slice a1 r.length c1, .slice a bs.length cap, .func (.func 33) #[] #[.pointer (some ⟨w.heap.size + 1 + 1, 0, none⟩)], .slice a1 r.length c1, undef, .slice a1 r.length c1, .slice (some ⟨W.drew.heap.size, 0, none⟩) 1 1, .slice a9 r.length c9, undef, undef, undef, undef, undef, undef, undef, undef, undef], defers := [] } _
        refine alongF_fork ?_ ?_
        · refine opF_load v Try.isAgg26 rfl rfl rfl (later_cell hc hj2) rfl trivial ?_
          change AlongF _ _ _ _ _ _ _ { tmps := #[.slice a bs.length cap, undef, .slice none 0 0, .int .i64 0, .pointer (some ⟨w.heap.size, 0, none⟩), .pointer (some ⟨w.heap.size + 1, 0, none⟩), .slice a1 r.length c1, .slice a bs.length cap, .func (.func 33) #[] #[.pointer (some ⟨w.heap.size + 1 + 1, 0, none⟩)], .slice a1 r.length c1, v, .slice a1 r.length c1, .slice (some ⟨W.drew.heap.size, 0, none⟩) 1 1, .slice a9 r.length c9, undef, undef, undef, undef, undef, undef, undef, undef, undef], defers := [] } _
          refine alongF_step (opF_run (by intro c e; cases e) _ _ rfl rfl (ex_slice1 _ _ (build_row1 a9 r.length c9 _) rfl rfl) trivial ?_)
          change AlongF _ _ _ _ _ _ _ { tmps := #[.slice a bs.length cap, undef, .slice none 0 0, .int .i64 0, .pointer (some ⟨w.heap.size, 0, none⟩), .pointer (some ⟨w.heap.size + 1, 0, none⟩), .slice a1 r.length c1, .slice a bs.length cap, .func (.func 33) #[] #[.pointer (some ⟨w.heap.size + 1 + 1, 0, none⟩)], .slice a1 r.length c1, v, .slice a1 r.length c1, .slice (some ⟨W.drew.heap.size, 0, none⟩) 1 1, .slice a9 r.length c9, .slice (some ⟨w2.heap.size, 0, none⟩) 1 1, undef, undef, undef, undef, undef, undef, undef, undef], defers := [] } _
          refine alongF_step (opF_append rfl rfl rfl w.heap.size 22 i0 (.slice none 0 0) 1 24 Try.underlying26 hi hz0 hz1 hz2 rfl (by decide) v pre.length us rfl (ownsRow_up Hrow.out (Up.alloc hj2 _)) ⟨w2.heap.size, 0, none⟩ 1 1 [.slice a9 r.length c9] rfl rfl (cell_one_new _ _ _) (by simp [Value.oneCell']) (by unfold maxLen; omega) (by omega) (by have h1 := HB.out.size; have h2 := hj2.size; simp; omega) ?_)
          intro v' w4 hown' hgrow
          obtain ⟨g', cap', rfl⟩ := ownsRow_succ hown'
          obtain ⟨q1, q2, q3⟩ := CollS.step (xv := .slice a1 r.length c1) Hv.out Hrow.out Hrec.out Hs.out HB.out (Nat.le_refl _) (Nat.le_refl _) (by omega) (by omega) hj2 hj1 hown' hgrow
          rw [HF.out] at q2 q3
          refine ⟨trivial, ?_⟩
          change AlongF _ _ _ _ _ _ _ { tmps := #[.slice a bs.length cap, undef, .slice none 0 0, .int .i64 0, .pointer (some ⟨w.heap.size, 0, none⟩), .pointer (some ⟨w.heap.size + 1, 0, none⟩), .slice a1 r.length c1, .slice a bs.length cap, .func (.func 33) #[] #[.pointer (some ⟨w.heap.size + 1 + 1, 0, none⟩)], .slice a1 r.length c1, v, .slice a1 r.length c1, .slice (some ⟨W.drew.heap.size, 0, none⟩) 1 1, .slice a9 r.length c9, .slice (some ⟨w2.heap.size, 0, none⟩) 1 1, (.slice (some ⟨g', 0, none⟩) (pre.length + 1) cap'), undef, undef, undef, undef, undef, undef, undef], defers := [] } _
          refine alongF_step (opF_store Try.sizeOf26 rfl rfl rfl rfl q1.cell q1.frozen rfl trivial ?_)
          refine alongF_done ?_
          change Exit.then _ _ .normal { tmps := #[.slice a bs.length cap, undef, .slice none 0 0, .int .i64 0, .pointer (some ⟨w.heap.size, 0, none⟩), .pointer (some ⟨w.heap.size + 1, 0, none⟩), .slice a1 r.length c1, .slice a bs.length cap, .func (.func 33) #[] #[.pointer (some ⟨w.heap.size + 1 + 1, 0, none⟩)], .slice a1 r.length c1, v, .slice a1 r.length c1, .slice (some ⟨W.drew.heap.size, 0, none⟩) 1 1, .slice a9 r.length c9, .slice (some ⟨w2.heap.size, 0, none⟩) 1 1, (.slice (some ⟨g', 0, none⟩) (pre.length + 1) cap'), undef, undef, undef, undef, undef, undef, undef], defers := [] } _
          have Q3 := Lib.hid q3
          have q2c := q2.cell
          have q2f := q2.frozen
          clear q1 q2 q3 hown' hgrow hj1 hj2 hc hc2
          gi_wp2
          exact Q3.out _ (by have := Hpos.out; unfold wrap64; omega)
        · refine opF_run (by intro c e; cases e) _ _ rfl rfl (ex_slice1 _ _ (build_row1 a9 r.length c9 _) rfl rfl) trivial ?_
          change AlongF _ _ _ _ _ _ _ { tmps := #[.slice a bs.length cap, undef, .slice none 0 0, .int .i64 0, .pointer (some ⟨w.heap.size, 0, none⟩), .pointer (some ⟨w.heap.size + 1, 0, none⟩), .slice a1 r.length c1, .slice a bs.length cap, .func (.func 33) #[] #[.pointer (some ⟨w.heap.size + 1 + 1, 0, none⟩)], .slice a1 r.length c1, undef, .slice a1 r.length c1, .slice (some ⟨W.drew.heap.size, 0, none⟩) 1 1, .slice a9 r.length c9, .slice (some ⟨w2.heap.size, 0, none⟩) 1 1, undef, undef, undef, undef, undef, undef, undef, undef], defers := [] } _
          refine alongF_step (opF_load v Try.isAgg26 rfl rfl rfl (later_cell hc (Up.alloc hj2 _)) rfl trivial ?_)
          change AlongF _ _ _ _ _ _ _ { tmps := #[.slice a bs.length cap, undef, .slice none 0 0, .int .i64 0, .pointer (some ⟨w.heap.size, 0, none⟩), .pointer (some ⟨w.heap.size + 1, 0, none⟩), .slice a1 r.length c1, .slice a bs.length cap, .func (.func 33) #[] #[.pointer (some ⟨w.heap.size + 1 + 1, 0, none⟩)], .slice a1 r.length c1, v, .slice a1 r.length c1, .slice (some ⟨W.drew.heap.size, 0, none⟩) 1 1, .slice a9 r.length c9, .slice (some ⟨w2.heap.size, 0, none⟩) 1 1, undef, undef, undef, undef, undef, undef, undef, undef], defers := [] } _
          refine alongF_step (opF_append rfl rfl rfl w.heap.size 22 i0 (.slice none 0 0) 1 24 Try.underlying26 hi hz0 hz1 hz2 rfl (by decide) v pre.length us rfl (ownsRow_up Hrow.out (Up.alloc hj2 _)) ⟨w2.heap.size, 0, none⟩ 1 1 [.slice a9 r.length c9] rfl rfl (cell_one_new _ _ _) (by simp [Value.oneCell']) (by unfold maxLen; omega) (by omega) (by have h1 := HB.out.size; have h2 := hj2.size; simp; omega) ?_)
          intro v' w4 hown' hgrow
          obtain ⟨g', cap', rfl⟩ := ownsRow_succ hown'
          obtain ⟨q1, q2, q3⟩ := CollS.step (xv := .slice a1 r.length c1) Hv.out Hrow.out Hrec.out Hs.out HB.out (Nat.le_refl _) (Nat.le_refl _) (by omega) (by omega) hj2 hj1 hown' hgrow
          rw [HF.out] at q2 q3
          refine ⟨trivial, ?_⟩
          change AlongF _ _ _ _ _ _ _ { tmps := #[.slice a bs.length cap, undef, .slice none 0 0, .int .i64 0, .pointer (some ⟨w.heap.size, 0, none⟩), .pointer (some ⟨w.heap.size + 1, 0, none⟩), .slice a1 r.length c1, .slice a bs.length cap, .func (.func 33) #[] #[.pointer (some ⟨w.heap.size + 1 + 1, 0, none⟩)], .slice a1 r.length c1, v, .slice a1 r.length c1, .slice (some ⟨W.drew.heap.size, 0, none⟩) 1 1, .slice a9 r.length c9, .slice (some ⟨w2.heap.size, 0, none⟩) 1 1, (.slice (some ⟨g', 0, none⟩) (pre.length + 1) cap'), undef, undef, undef, undef, undef, undef, undef], defers := [] } _
          refine alongF_step (opF_store Try.sizeOf26 rfl rfl rfl rfl q1.cell q1.frozen rfl trivial ?_)
          refine alongF_done ?_
          change Exit.then _ _ .normal { tmps := #[.slice a bs.length cap, undef, .slice none 0 0, .int .i64 0, .pointer (some ⟨w.heap.size, 0, none⟩), .pointer (some ⟨w.heap.size + 1, 0, none⟩), .slice a1 r.length c1, .slice a bs.length cap, .func (.func 33) #[] #[.pointer (some ⟨w.heap.size + 1 + 1, 0, none⟩)], .slice a1 r.length c1, v, .slice a1 r.length c1, .slice (some ⟨W.drew.heap.size, 0, none⟩) 1 1, .slice a9 r.length c9, .slice (some ⟨w2.heap.size, 0, none⟩) 1 1, (.slice (some ⟨g', 0, none⟩) (pre.length + 1) cap'), undef, undef, undef, undef, undef, undef, undef], defers := [] } _
          have Q3 := Lib.hid q3
          have q2c := q2.cell
          have q2f := q2.frozen
          clear q1 q2 q3 hown' hgrow hj1 hj2 hc hc2
          gi_wp2
          exact Q3.out _ (by have := Hpos.out; unfold wrap64; omega)
  case done =>
    rintro D ys W hD hall ⟨⟨v, us, hv, hrow, hrec⟩, hs, hB⟩ hK
    rw [hall] at hrec hs
    rw [Hlen.out] at hs
    have hc := hv.cell
    have hc2 := hs.cell
    have Hrow := Lib.hid hrow
    have Hrec := Lib.hid hrec
    clear hrow hrec hs hv
    simp only [withMark]
    gi_wp2
    gi_region
    gi_wp2
    refine ⟨by simp, .inl ⟨_, _, rfl, run_takeDeferred hK, ?_⟩⟩
    refine ⟨_, results_tmp2 rfl _ _ _, v, rfl, (Hrec.out.putObj (.deferred none) hK rfl).rows (ownsRow_putObj Hrow.out (.deferred none) hK rfl), (Below.drew hB).trans (belowK_b (w := w) (Nat.le_refl _) W.drew D _ _ (by omega) hK rfl rfl)⟩
  case stop =>
    rintro D c pre W _ h _
    exact h.elim
end
end
end Go.Proofs.Ytaepdmmlejdifaa
