import Derived.Shelf.Strings.Repeat
import Derived.Laws.StructEq
import Derived.Test.YtfenmhddlojahaaUps
import Derived.Test.YtfenmhddlojahaaAlong
import Derived.Test.YtfenmhddlojahaaStrs
import Derived.Test.YtfenmhddlojahaaOpen
namespace Go.Proofs.Ytfenmhddlojahaa
/-
  cert: strings.Repeat, the first cert, marks and their ranks.
-/
section
set_option maxRecDepth 100000
section
set_option linter.unusedVariables false
open Go.RowKit

def repeat105_ren : Go.Shelf.Ren := ⟨fun | 99 => 20 | 105 => 12 | 165 => 21 | 166 => 22 | 169 => 24 | 170 => 23 | 206 => 42 | 212 => 19 | 240 => 43 | 241 => 44 | 263 => 40 | 264 => 41 | 276 => 54 | 277 => 55 | n => n, fun | 0 => 0 | 3 => 3 | 4 => 4 | 5 => 5 | 9 => 9 | 20 => 20 | 37 => 37 | 46 => 53 | 51 => 74 | 53 => 87 | 70 => 57 | 72 => 59 | 75 => 62 | 76 => 63 | 109 => 54 | 127 => 90 | 146 => 85 | 148 => 88 | 164 => 101 | 80 => 33 | n => n, fun | n => n⟩
theorem repeat105 : Go.Proofs.Lays.n105 Try.prog repeat105_ren := {
  mixed := by kernel_rfl
  f99 := Try.func20.trans (congrArg some (by kernel_rfl))
  f105 := Try.func12.trans (congrArg some (by kernel_rfl))
  f165 := Try.func21.trans (congrArg some (by kernel_rfl))
  f166 := Try.func22.trans (congrArg some (by kernel_rfl))
  f169 := Try.func24.trans (congrArg some (by kernel_rfl))
  f170 := Try.func23.trans (congrArg some (by kernel_rfl))
  f206 := Try.func42.trans (congrArg some (by kernel_rfl))
  f212 := Try.func19.trans (congrArg some (by kernel_rfl))
  f240 := Try.func43.trans (congrArg some (by kernel_rfl))
  f241 := Try.func44.trans (congrArg some (by kernel_rfl))
  f263 := Try.func40.trans (congrArg some (by kernel_rfl))
  f264 := Try.func41.trans (congrArg some (by kernel_rfl))
  f276 := Try.func54.trans (congrArg some (by kernel_rfl))
  f277 := Try.func55.trans (congrArg some (by kernel_rfl))
  t0 := Try.underlying0
  a0 := Try.isAgg0
  z0 := Try.sizeOf0
  v0 := Try.zeroValue0
  t3 := Try.underlying3
  a3 := Try.isAgg3
  z3 := Try.sizeOf3
  v3 := Try.zeroValue3
  t4 := Try.underlying4
  a4 := Try.isAgg4
  z4 := Try.sizeOf4
  v4 := Try.zeroValue4
  t5 := Try.underlying5
  a5 := Try.isAgg5
  z5 := Try.sizeOf5
  v5 := Try.zeroValue5
  t9 := Try.underlying9
  a9 := Try.isAgg9
  z9 := Try.sizeOf9
  v9 := Try.zeroValue9
  t20 := Try.underlying20
  a20 := Try.isAgg20
  z20 := Try.sizeOf20
  v20 := Try.zeroValue20
  t37 := Try.underlying37
  a37 := Try.isAgg37
  z37 := Try.sizeOf37
  v37 := Try.zeroValue37
  t46 := Try.underlying53
  a46 := Try.isAgg53
  z46 := Try.sizeOf53
  v46 := Try.zeroValue53
  t51 := Try.underlying74
  a51 := Try.isAgg74
  z51 := Try.sizeOf74
  v51 := Try.zeroValue74
  t53 := Try.underlying87
  a53 := Try.isAgg87
  z53 := Try.sizeOf87
  v53 := Try.zeroValue87
  t70 := Try.underlying57
  a70 := Try.isAgg57
  z70 := Try.sizeOf57
  v70 := Try.zeroValue57
  t72 := Try.underlying59
  a72 := Try.isAgg59
  z72 := Try.sizeOf59
  v72 := Try.zeroValue59
  t75 := Try.underlying62
  a75 := Try.isAgg62
  z75 := Try.sizeOf62
  v75 := Try.zeroValue62
  t76 := Try.underlying63
  a76 := Try.isAgg63
  z76 := Try.sizeOf63
  v76 := Try.zeroValue63
  t109 := Try.underlying54
  a109 := Try.isAgg54
  z109 := Try.sizeOf54
  v109 := Try.zeroValue54
  t127 := Try.underlying90
  a127 := Try.isAgg90
  z127 := Try.sizeOf90
  v127 := Try.zeroValue90
  t146 := Try.underlying85
  a146 := Try.isAgg85
  z146 := Try.sizeOf85
  v146 := Try.zeroValue85
  t148 := Try.underlying88
  a148 := Try.isAgg88
  z148 := Try.sizeOf88
  v148 := Try.zeroValue88
  t164 := Try.underlying101
  a164 := Try.isAgg101
  z164 := Try.sizeOf101
  v164 := Try.zeroValue101 }
theorem repeatExtra : Builder.Extra Try.prog repeat105_ren := {
  sizeBuilder := by kernel_rfl
  liesBuilder := by kernel_rfl
  t5 := Try.underlying5
  a5 := Try.isAgg5
  z5 := Try.sizeOf5
  v5 := Try.zeroValue5
  infoByte := by kernel_rfl
  cellsByte := by kernel_rfl
  sizeByte := by kernel_rfl
  neB5 := by decide }
/-- the first block's name -/
def gen32 : List Int := List.replicate 32 0
theorem repeat_zero (w : World) : Calls Try.prog 12 #[.string ⟨#[0]⟩, .int .i64 32] w fun e w' => e = .returned (.string (strOfNums gen32)) ∧ Below w.heap.size w w' := by
  have h := Any.strings_Repeat repeat105 repeatExtra ⟨#[0]⟩ 32 w (by omega) (by show 1 * 32 ≤ _; omega)
  refine Calls.mono h ?_
  rintro e w' ⟨rfl, hb⟩
  exact ⟨rfl, hb⟩

theorem info_ct : (Try.prog.info? 24).map (·.size) = some 4 := by kernel_rfl
theorem one_ct (V H : Int) (B : ByteArray) (u : Option Addr) (n c : Nat) : (#[.int .i64 V, .int .i64 H, .string B, .slice u n c] : Array Value).all (·.oneCell') = true := by simp [Value.oneCell']
theorem one_mk (V H : Int) (B : ByteArray) : (#[.int .i64 V, .int .i64 H, .string B] : Array Value).all (·.oneCell') = true := by simp [Value.oneCell']
theorem ct_cells {W : World} {B : Nat} {c0 c1 c2 c3 : Value} {ty : TypeId} {fr : Nat × Nat} (h : W.heap[B]? = some (.cells #[c0, c1, c2, c3] ty fr)) :
    W.cell? ⟨B, 0, none⟩ = some c0 ∧ W.cell? ⟨B, 1, none⟩ = some c1 ∧ W.cell? ⟨B, 2, none⟩ = some c2 ∧ W.cell? ⟨B, 3, none⟩ = some c3 :=
  ⟨cell_of_row _ _ 0 _ _ _ h, cell_of_row _ _ 1 _ _ _ h, cell_of_row _ _ 2 _ _ _ h, cell_of_row _ _ 3 _ _ _ h⟩
theorem results_ct {fn : Func} {p : Tmp} (h : fn.results = #[.cell p 24]) (tmps : Array Value) (w : World) (B : Nat) (cs : Array Value) (hp : tmps.getD p undef = .pointer (some ⟨B, 0, none⟩))
    (hg : w.heap[B]? = some (.cells cs 24 (0, 0))) (hs : cs.size = 4) :
    (results fn tmps).run Try.prog w = .ok (.agg cs) w := by
  have hp' : tmps[p]?.getD undef = .pointer (some ⟨B, 0, none⟩) := by simpa using hp
  have hl := run_loadVar_row (P := Try.prog) w B 24 24 cs (0, 0) _ hg Try.underlying24 rfl (by rw [info_ct, hs])
  simp [results, h, hp', asAddr, hl]
/-- a mark's cells -/
def mkC (V H : Int) (B : ByteArray) : Array Value := #[.int .i64 V, .int .i64 H, .string B]

/-- which is above: -1, 0, 1 -/
def cmpI (a b : Int) : Int := if a < b then -1 else if b < a then 1 else 0
end
end

/-
  cert.Higher: of two ranks which is above.
-/
section
set_option maxRecDepth 100000
section
set_option linter.unusedVariables false
open Go.RowKit

theorem ex_slice2 {P : Program} {ρ : Operand → Value} {o : Oper} {v : Value} {x y : Operand} {t : TypeId} {v0 v1 : Value} (w w' : World) (hr : (Instr.buildSlice t 2 #[(0, v0), (1, v1)]).run P w = .ok v w') (hop : o.op = .buildSlice t 2 #[(0, x), (1, y)]) (hx : ρ x = v0) (hy : ρ y = v1) : (execOp ρ o).run P w = .ok (.value v) w' :=
  ex_slice hop (by simp only [List.map_toArray, List.map_cons, List.map_nil, hx, hy]) w w' hr
theorem mk_cells {W : World} {B : Nat} {c0 c1 c2 : Value} {ty : TypeId} {fr : Nat × Nat} (h : W.heap[B]? = some (.cells #[c0, c1, c2] ty fr)) :
    W.cell? ⟨B, 0, none⟩ = some c0 ∧ W.cell? ⟨B, 1, none⟩ = some c1 ∧ W.cell? ⟨B, 2, none⟩ = some c2 :=
  ⟨cell_of_row _ _ 0 _ _ _ h, cell_of_row _ _ 1 _ _ _ h, cell_of_row _ _ 2 _ _ _ h⟩
/-- a rank above another -/
def hiB (V1 H1 V2 H2 : Int) : Bool := decide (V2 < V1 ∨ V1 = V2 ∧ H2 < H1)
theorem hi_cmp (V1 H1 V2 H2 : Int) : decide (0 < (if cmpI V1 V2 = 0 then cmpI H1 H2 else cmpI V1 V2)) = hiB V1 H1 V2 H2 := by
  unfold hiB cmpI
  congr 1
  apply propext
  repeat' split
  all_goals omega

end
end

/-
  cert: whether one is the first; Check of what is so or has no votes; the page's example.
-/
section
set_option maxRecDepth 100000
section
set_option linter.unusedVariables false
open Go.RowKit

theorem toList_dec {a b : ByteArray} : (a.toList == b.toList) = decide (a = b) := by
  by_cases h : a = b
  · subst h; simp
  · rw [decide_eq_false h]; exact beq_eq_false_iff_ne.2 fun e => h (toList_inj e)

end
end

/-
  A mark that came in by value, opened.
-/
section
set_option maxRecDepth 100000
section
set_option linter.unusedVariables false
open Go.ChangeShapes Go.WideShapes Go.ChangeAt Go.RowKit Go.Deep Go.Joins
variable {H : Type} {enc : TypeId × Value → H} {W : World}

theorem array_three {α : Type} {cs : Array α} {c0 c1 c2 : α} (h : cs.size = 3) (h0 : cs[0]? = some c0) (h1 : cs[1]? = some c1) (h2 : cs[2]? = some c2) : cs = #[c0, c1, c2] := by
  apply Array.ext_getElem?
  intro i
  by_cases hi : i < 3
  · have hc : i = 0 ∨ i = 1 ∨ i = 2 := by omega
    rcases hc with rfl | rfl | rfl
    · rw [h0]; rfl
    · rw [h1]; rfl
    · rw [h2]; rfl
  · rw [Array.getElem?_eq_none (by omega), Array.getElem?_eq_none (by simp; omega)]

end
end
end Go.Proofs.Ytfenmhddlojahaa
