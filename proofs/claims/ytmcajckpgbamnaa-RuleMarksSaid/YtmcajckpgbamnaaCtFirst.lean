import Derived.Shelf.Strings.Repeat
import Derived.Laws.StructEq
import Derived.Test.YtmcajckpgbamnaaUps
import Derived.Test.YtmcajckpgbamnaaAlong
import Derived.Test.YtmcajckpgbamnaaStrs
import Derived.Test.YtmcajckpgbamnaaOpen
namespace Go.Proofs.Ytmcajckpgbamnaa
/-
  cert: strings.Repeat, the first cert, marks and their ranks.
-/
section
set_option maxRecDepth 100000
section
set_option linter.unusedVariables false
open Go.RowKit

/-- the first block's name -/
def gen32 : List Int := List.replicate 32 0
theorem info_mk : (Try.prog.info? 26).map (·.size) = some 3 := by kernel_rfl
theorem one_ct (V H : Int) (B : ByteArray) (u : Option Addr) (n c : Nat) : (#[.int .i64 V, .int .i64 H, .string B, .slice u n c] : Array Value).all (·.oneCell') = true := by simp [Value.oneCell']
theorem one_mk (V H : Int) (B : ByteArray) : (#[.int .i64 V, .int .i64 H, .string B] : Array Value).all (·.oneCell') = true := by simp [Value.oneCell']
theorem ct_cells {W : World} {B : Nat} {c0 c1 c2 c3 : Value} {ty : TypeId} {fr : Nat × Nat} (h : W.heap[B]? = some (.cells #[c0, c1, c2, c3] ty fr)) :
    W.cell? ⟨B, 0, none⟩ = some c0 ∧ W.cell? ⟨B, 1, none⟩ = some c1 ∧ W.cell? ⟨B, 2, none⟩ = some c2 ∧ W.cell? ⟨B, 3, none⟩ = some c3 :=
  ⟨cell_of_row _ _ 0 _ _ _ h, cell_of_row _ _ 1 _ _ _ h, cell_of_row _ _ 2 _ _ _ h, cell_of_row _ _ 3 _ _ _ h⟩
theorem results_mk {fn : Func} {p : Tmp} (h : fn.results = #[.cell p 26]) (tmps : Array Value) (w : World) (B : Nat) (cs : Array Value) (hp : tmps.getD p undef = .pointer (some ⟨B, 0, none⟩))
    (hg : w.heap[B]? = some (.cells cs 26 (0, 0))) (hs : cs.size = 3) :
    (results fn tmps).run Try.prog w = .ok (.agg cs) w := by
  have hp' : tmps[p]?.getD undef = .pointer (some ⟨B, 0, none⟩) := by simpa using hp
  have hl := run_loadVar_row (P := Try.prog) w B 26 26 cs (0, 0) _ hg Try.underlying26 rfl (by rw [info_mk, hs])
  simp [results, h, hp', asAddr, hl]

/-- a mark's cells -/
def mkC (V H : Int) (B : ByteArray) : Array Value := #[.int .i64 V, .int .i64 H, .string B]

/-- which is above: -1, 0, 1 -/
def cmpI (a b : Int) : Int := if a < b then -1 else if b < a then 1 else 0
theorem isNaN_any (a : Int) (w : World) : Calls Try.prog 31 #[.int .i64 a] w fun e w' => e = .returned (.bool false) ∧ w' = w := by
  go_enter Try.func31, Try.ntmps31
  go_wp2
  go_ret
  exact ⟨by simp, rfl⟩
set_option maxHeartbeats 400000 in
theorem cmp_any (a b : Int) (w : World) : Calls Try.prog 23 #[.int .i64 a, .int .i64 b] w fun e w' => e = .returned (.int .i64 (cmpI a b)) ∧ w' = w := by
  have H := Lib.hid isNaN_any
  by_cases h1 : a < b
  · rw [show cmpI a b = -1 from if_pos h1]
    go_enter Try.func23, Try.ntmps23
    go_wp2_with fail
    with_reducible refine Calls.mono (H.out _ _) ?_
    rintro e w1 ⟨rfl, rfl⟩
    go_wp2_with fail
    with_reducible refine Calls.mono (H.out _ _) ?_
    rintro e w1 ⟨rfl, rfl⟩
    go_wp2
    go_ret
    exact ⟨rfl, rfl⟩
  · by_cases h2 : b < a
    · rw [show cmpI a b = 1 from (if_neg h1).trans (if_pos h2)]
      go_enter Try.func23, Try.ntmps23
      go_wp2_with fail
      with_reducible refine Calls.mono (H.out _ _) ?_
      rintro e w1 ⟨rfl, rfl⟩
      go_wp2_with fail
      with_reducible refine Calls.mono (H.out _ _) ?_
      rintro e w1 ⟨rfl, rfl⟩
      go_wp2
      go_ret
      exact ⟨rfl, rfl⟩
    · rw [show cmpI a b = 0 from (if_neg h1).trans (if_neg h2)]
      go_enter Try.func23, Try.ntmps23
      go_wp2_with fail
      with_reducible refine Calls.mono (H.out _ _) ?_
      rintro e w1 ⟨rfl, rfl⟩
      go_wp2_with fail
      with_reducible refine Calls.mono (H.out _ _) ?_
      rintro e w1 ⟨rfl, rfl⟩
      go_wp2
      go_ret
      exact ⟨rfl, rfl⟩
end
end

/-
  cert.Higher: of two ranks which is above.
-/
section
set_option maxRecDepth 100000
section
set_option linter.unusedVariables false
open Go.RowKit

theorem ex_slice2 {P : Program} {ρ : Operand → Value} {o : Oper} {v : Value} {x y : Operand} {t : TypeId} {v0 v1 : Value} (w w' : World) (hr : (Instr.buildSlice t 2 #[(0, v0), (1, v1)]).run P w = .ok v w') (hop : o.op = .buildSlice t 2 #[(0, x), (1, y)]) (hx : ρ x = v0) (hy : ρ y = v1) : (execOp ρ o).run P w = .ok (.value v) w' :=
  ex_slice hop (by simp only [List.map_toArray, List.map_cons, List.map_nil, hx, hy]) w w' hr
theorem mk_cells {W : World} {B : Nat} {c0 c1 c2 : Value} {ty : TypeId} {fr : Nat × Nat} (h : W.heap[B]? = some (.cells #[c0, c1, c2] ty fr)) :
    W.cell? ⟨B, 0, none⟩ = some c0 ∧ W.cell? ⟨B, 1, none⟩ = some c1 ∧ W.cell? ⟨B, 2, none⟩ = some c2 :=
  ⟨cell_of_row _ _ 0 _ _ _ h, cell_of_row _ _ 1 _ _ _ h, cell_of_row _ _ 2 _ _ _ h⟩
set_option maxHeartbeats 400000 in
theorem or_any (g : Nat) (x y : Int) (w : World) (h : w.heap[g]? = some (.cells #[.int .i64 x, .int .i64 y] 3 (0, 0))) :
    Calls Try.prog 22 #[.slice (some ⟨g, 0, none⟩) 2 2] w fun e w' => e = .returned (.int .i64 (if x = 0 then y else x)) ∧ w' = w := by
  have h0 : w.cell? ⟨g, 0, none⟩ = some (.int .i64 x) := cell_of_row _ _ 0 _ _ _ h
  have h1 : w.cell? ⟨g, 1, none⟩ = some (.int .i64 y) := cell_of_row _ _ 1 _ _ _ h
  clear h
  have H0 := Lib.hid h0
  have H1 := Lib.hid h1
  clear h0 h1
  by_cases ex : x = 0
  · subst ex
    rw [if_pos rfl]
    by_cases ey : y = 0
    · subst ey
      go_enter Try.func22, Try.ntmps22
      go_wp2
      go_loop [8] (fun vi => ∃ i : Nat, vi = .int .i64 i ∧ i ≤ 2) (fun vi => 2 - (intOf vi).toNat)
      case atStart => exact ⟨0, rfl, by omega⟩
      case round =>
        obtain ⟨i, rfl, hi⟩ := hrel
        match i with
        | 0 =>
          have c0 := H0.out
          go_wp2
          go_round
          case rel => exact ⟨1, rfl, by omega⟩
          case measure => simp [intOf]
        | 1 =>
          have c1 := H1.out
          go_wp2
          go_round
          case rel => exact ⟨2, rfl, by omega⟩
          case measure => simp [intOf]
        | 2 =>
          go_wp2
          go_ret
          exact ⟨rfl, rfl⟩
        | n + 3 => omega
    · have e1 : (y == 0) = false := by simpa using ey
      have e2 : (y != 0) = true := by simpa using ey
      go_enter Try.func22, Try.ntmps22
      go_wp2
      go_loop [8] (fun vi => ∃ i : Nat, vi = .int .i64 i ∧ i ≤ 1) (fun vi => 2 - (intOf vi).toNat)
      case atStart => exact ⟨0, rfl, by omega⟩
      case round =>
        obtain ⟨i, rfl, hi⟩ := hrel
        match i with
        | 0 =>
          have c0 := H0.out
          go_wp2
          go_round
          case rel => exact ⟨1, rfl, by omega⟩
          case measure => simp [intOf]
        | 1 =>
          have c1 := H1.out
          go_wp2
          go_ret
          exact ⟨rfl, rfl⟩
        | n + 2 => omega
  · have e1 : (x == 0) = false := by simpa using ex
    have e2 : (x != 0) = true := by simpa using ex
    rw [if_neg ex]
    go_enter Try.func22, Try.ntmps22
    go_wp2
    go_loop [8] (fun vi => vi = .int .i64 0) (fun vi => 2 - (intOf vi).toNat)
    case atStart => rfl
    case round =>
      obtain rfl := hrel
      have c0 := H0.out
      go_wp2
      go_ret
      exact ⟨rfl, rfl⟩

/-- a rank above another -/
def hiB (V1 H1 V2 H2 : Int) : Bool := decide (V2 < V1 ∨ V1 = V2 ∧ H2 < H1)
theorem hi_cmp (V1 H1 V2 H2 : Int) : decide (0 < (if cmpI V1 V2 = 0 then cmpI H1 H2 else cmpI V1 V2)) = hiB V1 H1 V2 H2 := by
  unfold hiB cmpI
  congr 1
  apply propext
  repeat' split
  all_goals omega

end
end

/-
  cert: whether one is the first; Check of what is so or has no votes; the page's example.
-/
section
set_option maxRecDepth 100000
section
set_option linter.unusedVariables false
open Go.RowKit

theorem toList_dec {a b : ByteArray} : (a.toList == b.toList) = decide (a = b) := by
  by_cases h : a = b
  · subst h; simp
  · rw [decide_eq_false h]; exact beq_eq_false_iff_ne.2 fun e => h (toList_inj e)

end
end

/-
  A mark that came in by value, opened.
-/
section
set_option maxRecDepth 100000
section
set_option linter.unusedVariables false
open Go.ChangeShapes Go.WideShapes Go.ChangeAt Go.RowKit Go.Deep Go.Joins
variable {H : Type} {enc : TypeId × Value → H} {W : World}

theorem array_three {α : Type} {cs : Array α} {c0 c1 c2 : α} (h : cs.size = 3) (h0 : cs[0]? = some c0) (h1 : cs[1]? = some c1) (h2 : cs[2]? = some c2) : cs = #[c0, c1, c2] := by
  apply Array.ext_getElem?
  intro i
  by_cases hi : i < 3
  · have hc : i = 0 ∨ i = 1 ∨ i = 2 := by omega
    rcases hc with rfl | rfl | rfl
    · rw [h0]; rfl
    · rw [h1]; rfl
    · rw [h2]; rfl
  · rw [Array.getElem?_eq_none (by omega), Array.getElem?_eq_none (by simp; omega)]

theorem open_mk {r : Reach} {b0 : Nat} {v : Value} {d : DataW H} {ps : List MemPlace} (hv : Value.okWide Try.prog W r b0 26 v) (h : DataW.Trod enc Try.prog W 0 (fun _ => true) true 26 v d ps) :
    ∃ (V Hh : Int) (B : ByteArray), v = .agg (mkC V Hh B) ∧ (Lit.int .i64 V).wf = true ∧ (Lit.int .i64 Hh).wf = true ∧ B.size ≤ maxLen := by
  obtain ⟨m, cs, ys, rfl, hsz, _, _, hf⟩ := open_agg Try.underlying26 (by kernel_rfl) (by kernel_rfl) hv h
  obtain ⟨c0, y0, k0, _, t0⟩ := hf 0 _ rfl
  obtain ⟨c1, y1, k1, _, t1⟩ := hf 1 _ rfl
  obtain ⟨c2, y2, k2, _, t2⟩ := hf 2 _ rfl
  obtain ⟨x0, e0, _, w0⟩ := DataW.trod_int Try.underlying3 t0
  obtain ⟨x1, e1, _, w1⟩ := DataW.trod_int Try.underlying3 t1
  obtain ⟨s, e2, _, ws⟩ := DataW.trod_string Try.underlying9 t2
  simp only [List.cons.injEq, and_true] at e0 e1 e2
  subst e0 e1 e2
  refine ⟨x0, x1, s, ?_, w0, w1, ws⟩
  rw [array_three hsz k0 k1 k2]
  unfold mkC
  rfl
end
end
end Go.Proofs.Ytmcajckpgbamnaa
