import Derived.Shelf.Strings.Repeat
import Derived.Laws.StructEq
import Derived.Test.YtnipkhgaceicbaaUps
import Derived.Test.YtnipkhgaceicbaaAlong
import Derived.Test.YtnipkhgaceicbaaStrs
import Derived.Test.YtnipkhgaceicbaaOpen
namespace Go.Proofs.Ytnipkhgaceicbaa
/-
  cert: strings.Repeat, the first cert, marks and their ranks.
-/
section
set_option maxRecDepth 100000
section
set_option linter.unusedVariables false
open Go.RowKit

def repeat105_ren : Go.Shelf.Ren := ⟨fun | 99 => 34 | 105 => 23 | 165 => 35 | 166 => 36 | 169 => 38 | 170 => 37 | 206 => 50 | 212 => 33 | 240 => 51 | 241 => 52 | 263 => 48 | 264 => 49 | 276 => 61 | 277 => 62 | n => n, fun | 0 => 0 | 3 => 3 | 4 => 4 | 5 => 5 | 9 => 9 | 20 => 20 | 37 => 74 | 46 => 70 | 51 => 98 | 53 => 101 | 70 => 73 | 72 => 76 | 75 => 79 | 76 => 80 | 109 => 71 | 127 => 104 | 146 => 99 | 148 => 102 | 164 => 118 | 80 => 83 | n => n, fun | n => n⟩
theorem repeat105 : Go.Proofs.Lays.n105 Try.prog repeat105_ren := {
  mixed := by kernel_rfl
  f99 := Try.func34.trans (congrArg some (by kernel_rfl))
  f105 := Try.func23.trans (congrArg some (by kernel_rfl))
  f165 := Try.func35.trans (congrArg some (by kernel_rfl))
  f166 := Try.func36.trans (congrArg some (by kernel_rfl))
  f169 := Try.func38.trans (congrArg some (by kernel_rfl))
  f170 := Try.func37.trans (congrArg some (by kernel_rfl))
  f206 := Try.func50.trans (congrArg some (by kernel_rfl))
  f212 := Try.func33.trans (congrArg some (by kernel_rfl))
  f240 := Try.func51.trans (congrArg some (by kernel_rfl))
  f241 := Try.func52.trans (congrArg some (by kernel_rfl))
  f263 := Try.func48.trans (congrArg some (by kernel_rfl))
  f264 := Try.func49.trans (congrArg some (by kernel_rfl))
  f276 := Try.func61.trans (congrArg some (by kernel_rfl))
  f277 := Try.func62.trans (congrArg some (by kernel_rfl))
  t0 := Try.underlying0
  a0 := Try.isAgg0
  z0 := Try.sizeOf0
  v0 := Try.zeroValue0
  t3 := Try.underlying3
  a3 := Try.isAgg3
  z3 := Try.sizeOf3
  v3 := Try.zeroValue3
  t4 := Try.underlying4
  a4 := Try.isAgg4
  z4 := Try.sizeOf4
  v4 := Try.zeroValue4
  t5 := Try.underlying5
  a5 := Try.isAgg5
  z5 := Try.sizeOf5
  v5 := Try.zeroValue5
  t9 := Try.underlying9
  a9 := Try.isAgg9
  z9 := Try.sizeOf9
  v9 := Try.zeroValue9
  t20 := Try.underlying20
  a20 := Try.isAgg20
  z20 := Try.sizeOf20
  v20 := Try.zeroValue20
  t37 := Try.underlying74
  a37 := Try.isAgg74
  z37 := Try.sizeOf74
  v37 := Try.zeroValue74
  t46 := Try.underlying70
  a46 := Try.isAgg70
  z46 := Try.sizeOf70
  v46 := Try.zeroValue70
  t51 := Try.underlying98
  a51 := Try.isAgg98
  z51 := Try.sizeOf98
  v51 := Try.zeroValue98
  t53 := Try.underlying101
  a53 := Try.isAgg101
  z53 := Try.sizeOf101
  v53 := Try.zeroValue101
  t70 := Try.underlying73
  a70 := Try.isAgg73
  z70 := Try.sizeOf73
  v70 := Try.zeroValue73
  t72 := Try.underlying76
  a72 := Try.isAgg76
  z72 := Try.sizeOf76
  v72 := Try.zeroValue76
  t75 := Try.underlying79
  a75 := Try.isAgg79
  z75 := Try.sizeOf79
  v75 := Try.zeroValue79
  t76 := Try.underlying80
  a76 := Try.isAgg80
  z76 := Try.sizeOf80
  v76 := Try.zeroValue80
  t109 := Try.underlying71
  a109 := Try.isAgg71
  z109 := Try.sizeOf71
  v109 := Try.zeroValue71
  t127 := Try.underlying104
  a127 := Try.isAgg104
  z127 := Try.sizeOf104
  v127 := Try.zeroValue104
  t146 := Try.underlying99
  a146 := Try.isAgg99
  z146 := Try.sizeOf99
  v146 := Try.zeroValue99
  t148 := Try.underlying102
  a148 := Try.isAgg102
  z148 := Try.sizeOf102
  v148 := Try.zeroValue102
  t164 := Try.underlying118
  a164 := Try.isAgg118
  z164 := Try.sizeOf118
  v164 := Try.zeroValue118 }
theorem repeatExtra : Builder.Extra Try.prog repeat105_ren := {
  sizeBuilder := by kernel_rfl
  liesBuilder := by kernel_rfl
  t5 := Try.underlying5
  a5 := Try.isAgg5
  z5 := Try.sizeOf5
  v5 := Try.zeroValue5
  infoByte := by kernel_rfl
  cellsByte := by kernel_rfl
  sizeByte := by kernel_rfl
  neB5 := by decide }
/-- the first block's name -/
def gen32 : List Int := List.replicate 32 0
theorem repeat_zero (w : World) : Calls Try.prog 23 #[.string ⟨#[0]⟩, .int .i64 32] w fun e w' => e = .returned (.string (strOfNums gen32)) ∧ Below w.heap.size w w' := by
  have h := Any.strings_Repeat repeat105 repeatExtra ⟨#[0]⟩ 32 w (by omega) (by show 1 * 32 ≤ _; omega)
  refine Calls.mono h ?_
  rintro e w' ⟨rfl, hb⟩
  exact ⟨rfl, hb⟩

theorem info_ct : (Try.prog.info? 38).map (·.size) = some 4 := by kernel_rfl
theorem info_mk : (Try.prog.info? 26).map (·.size) = some 3 := by kernel_rfl
theorem one_ct (V H : Int) (B : ByteArray) (u : Option Addr) (n c : Nat) : (#[.int .i64 V, .int .i64 H, .string B, .slice u n c] : Array Value).all (·.oneCell') = true := by simp [Value.oneCell']
theorem one_mk (V H : Int) (B : ByteArray) : (#[.int .i64 V, .int .i64 H, .string B] : Array Value).all (·.oneCell') = true := by simp [Value.oneCell']
theorem ct_cells {W : World} {B : Nat} {c0 c1 c2 c3 : Value} {ty : TypeId} {fr : Nat × Nat} (h : W.heap[B]? = some (.cells #[c0, c1, c2, c3] ty fr)) :
    W.cell? ⟨B, 0, none⟩ = some c0 ∧ W.cell? ⟨B, 1, none⟩ = some c1 ∧ W.cell? ⟨B, 2, none⟩ = some c2 ∧ W.cell? ⟨B, 3, none⟩ = some c3 :=
  ⟨cell_of_row _ _ 0 _ _ _ h, cell_of_row _ _ 1 _ _ _ h, cell_of_row _ _ 2 _ _ _ h, cell_of_row _ _ 3 _ _ _ h⟩
theorem results_ct {fn : Func} {p : Tmp} (h : fn.results = #[.cell p 38]) (tmps : Array Value) (w : World) (B : Nat) (cs : Array Value) (hp : tmps.getD p undef = .pointer (some ⟨B, 0, none⟩))
    (hg : w.heap[B]? = some (.cells cs 38 (0, 0))) (hs : cs.size = 4) :
    (results fn tmps).run Try.prog w = .ok (.agg cs) w := by
  have hp' : tmps[p]?.getD undef = .pointer (some ⟨B, 0, none⟩) := by simpa using hp
  have hl := run_loadVar_row (P := Try.prog) w B 38 38 cs (0, 0) _ hg Try.underlying38 rfl (by rw [info_ct, hs])
  simp [results, h, hp', asAddr, hl]
theorem results_mk {fn : Func} {p : Tmp} (h : fn.results = #[.cell p 26]) (tmps : Array Value) (w : World) (B : Nat) (cs : Array Value) (hp : tmps.getD p undef = .pointer (some ⟨B, 0, none⟩))
    (hg : w.heap[B]? = some (.cells cs 26 (0, 0))) (hs : cs.size = 3) :
    (results fn tmps).run Try.prog w = .ok (.agg cs) w := by
  have hp' : tmps[p]?.getD undef = .pointer (some ⟨B, 0, none⟩) := by simpa using hp
  have hl := run_loadVar_row (P := Try.prog) w B 26 26 cs (0, 0) _ hg Try.underlying26 rfl (by rw [info_mk, hs])
  simp [results, h, hp', asAddr, hl]

/-- a mark's cells -/
def mkC (V H : Int) (B : ByteArray) : Array Value := #[.int .i64 V, .int .i64 H, .string B]

set_option maxHeartbeats 400000 in
theorem first_any (w : World) : Calls Try.prog 14 #[] w fun e w' => e = .returned (.agg #[.int .i64 0, .int .i64 0, .string (strOfNums gen32), .slice none 0 0]) ∧ Up w w' := by
  have HR : Hid (∀ wx, Calls Try.prog 23 #[.string ⟨#[0]⟩, .int .i64 32] wx fun e w' => e = .returned (.string (strOfNums gen32)) ∧ Up wx w') := fun wx => repeat_zero wx
  generalize strOfNums gen32 = GS at HR ⊢
  have HB0 := Lib.hid (heap_alloc_new w (.cells #[.int .i64 0, .int .i64 0, .string ⟨#[]⟩, .slice none 0 0] 38))
  have HU0 := Lib.hid (Up.alloc (Up.refl w) (.cells #[.int .i64 0, .int .i64 0, .string ⟨#[]⟩, .slice none 0 0] 38))
  go_enter Try.func14, Try.ntmps14
  go_wp2_with fail
  with_reducible refine Calls.mono (HR.out _) ?_
  rintro e w1 ⟨rfl, hU1⟩
  have B1 := Lib.hid ((hU1.block _ (lt_of_block HB0.out)).trans HB0.out)
  have HU1 := Lib.hid (Up.trans HU0.out hU1)
  clear hU1
  go_wp2_with (refine wpList_store_agg rfl 38 (.tmp 0) (.tmp 2) rfl w.heap.size _ #[.int .i64 0, .int .i64 0, .string GS, .slice none 0 0] rfl rfl 38 B1.out info_ct rfl (one_ct _ _ _ _ _ _) ?_; intro w12 hg12 hgr12)
  exact bodyPost_ret (results_ct rfl _ _ _ _ rfl hg12 rfl) rfl ⟨rfl, up_at HU1.out hgr12 (Nat.le_refl _)⟩

set_option maxHeartbeats 400000 in
theorem mark_any (V H : Int) (B : ByteArray) (u : Option Addr) (n c : Nat) (w : World) : Calls Try.prog 13 #[.agg #[.int .i64 V, .int .i64 H, .string B, .slice u n c]] w fun e w' => e = .returned (.agg #[.int .i64 V, .int .i64 H, .string B]) ∧ Up w w' := by
  have HU0 := Lib.hid (Up.alloc (Up.alloc (Up.refl w) (.cells #[.int .i64 V, .int .i64 H, .string B, .slice u n c] 38)) (.cells #[.int .i64 0, .int .i64 0, .string ⟨#[]⟩] 26))
  have hb0 := heap_alloc_new w (.cells #[.int .i64 V, .int .i64 H, .string B, .slice u n c] 38)
  have hb1 := ((Up.alloc (Up.refl (w.alloc (.cells #[.int .i64 V, .int .i64 H, .string B, .slice u n c] 38))) (.cells #[.int .i64 0, .int .i64 0, .string ⟨#[]⟩] 26)).block _ (lt_of_block hb0)).trans hb0
  obtain ⟨hc0, hc1, hc2, hc3⟩ := ct_cells hb1
  have B1 := Lib.hid (heap_alloc_new (w.alloc (.cells #[.int .i64 V, .int .i64 H, .string B, .slice u n c] 38)) (.cells #[.int .i64 0, .int .i64 0, .string ⟨#[]⟩] 26))
  clear hb0 hb1
  go_enter Try.func13, Try.ntmps13
  go_wp2_with (refine wpList_store_agg rfl 26 (.tmp 2) (.tmp 9) rfl (w.alloc (.cells #[.int .i64 V, .int .i64 H, .string B, .slice u n c] 38)).heap.size _ #[.int .i64 V, .int .i64 H, .string B] (by simp; rfl) rfl 26 B1.out info_mk rfl (one_mk _ _ _) ?_; intro w12 hg12 hgr12)
  exact bodyPost_ret (results_mk rfl _ _ _ _ (by simp; rfl) hg12 rfl) rfl ⟨rfl, up_at HU0.out hgr12 (by simp)⟩

/-- which is above: -1, 0, 1 -/
def cmpI (a b : Int) : Int := if a < b then -1 else if b < a then 1 else 0
theorem isNaN_any (a : Int) (w : World) : Calls Try.prog 39 #[.int .i64 a] w fun e w' => e = .returned (.bool false) ∧ w' = w := by
  go_enter Try.func39, Try.ntmps39
  go_wp2
  go_ret
  exact ⟨by simp, rfl⟩
set_option maxHeartbeats 400000 in
theorem cmp_any (a b : Int) (w : World) : Calls Try.prog 25 #[.int .i64 a, .int .i64 b] w fun e w' => e = .returned (.int .i64 (cmpI a b)) ∧ w' = w := by
  have H := Lib.hid isNaN_any
  by_cases h1 : a < b
  · rw [show cmpI a b = -1 from if_pos h1]
    go_enter Try.func25, Try.ntmps25
    go_wp2_with fail
    with_reducible refine Calls.mono (H.out _ _) ?_
    rintro e w1 ⟨rfl, rfl⟩
    go_wp2_with fail
    with_reducible refine Calls.mono (H.out _ _) ?_
    rintro e w1 ⟨rfl, rfl⟩
    go_wp2
    go_ret
    exact ⟨rfl, rfl⟩
  · by_cases h2 : b < a
    · rw [show cmpI a b = 1 from (if_neg h1).trans (if_pos h2)]
      go_enter Try.func25, Try.ntmps25
      go_wp2_with fail
      with_reducible refine Calls.mono (H.out _ _) ?_
      rintro e w1 ⟨rfl, rfl⟩
      go_wp2_with fail
      with_reducible refine Calls.mono (H.out _ _) ?_
      rintro e w1 ⟨rfl, rfl⟩
      go_wp2
      go_ret
      exact ⟨rfl, rfl⟩
    · rw [show cmpI a b = 0 from (if_neg h1).trans (if_neg h2)]
      go_enter Try.func25, Try.ntmps25
      go_wp2_with fail
      with_reducible refine Calls.mono (H.out _ _) ?_
      rintro e w1 ⟨rfl, rfl⟩
      go_wp2_with fail
      with_reducible refine Calls.mono (H.out _ _) ?_
      rintro e w1 ⟨rfl, rfl⟩
      go_wp2
      go_ret
      exact ⟨rfl, rfl⟩
end
end

/-
  cert.Higher: of two ranks which is above.
-/
section
set_option maxRecDepth 100000
section
set_option linter.unusedVariables false
open Go.RowKit

theorem ex_slice2 {P : Program} {ρ : Operand → Value} {o : Oper} {v : Value} {x y : Operand} {t : TypeId} {v0 v1 : Value} (w w' : World) (hr : (Instr.buildSlice t 2 #[(0, v0), (1, v1)]).run P w = .ok v w') (hop : o.op = .buildSlice t 2 #[(0, x), (1, y)]) (hx : ρ x = v0) (hy : ρ y = v1) : (execOp ρ o).run P w = .ok (.value v) w' :=
  ex_slice hop (by simp only [List.map_toArray, List.map_cons, List.map_nil, hx, hy]) w w' hr
theorem mk_cells {W : World} {B : Nat} {c0 c1 c2 : Value} {ty : TypeId} {fr : Nat × Nat} (h : W.heap[B]? = some (.cells #[c0, c1, c2] ty fr)) :
    W.cell? ⟨B, 0, none⟩ = some c0 ∧ W.cell? ⟨B, 1, none⟩ = some c1 ∧ W.cell? ⟨B, 2, none⟩ = some c2 :=
  ⟨cell_of_row _ _ 0 _ _ _ h, cell_of_row _ _ 1 _ _ _ h, cell_of_row _ _ 2 _ _ _ h⟩
set_option maxHeartbeats 400000 in
theorem or_any (g : Nat) (x y : Int) (w : World) (h : w.heap[g]? = some (.cells #[.int .i64 x, .int .i64 y] 3 (0, 0))) :
    Calls Try.prog 24 #[.slice (some ⟨g, 0, none⟩) 2 2] w fun e w' => e = .returned (.int .i64 (if x = 0 then y else x)) ∧ w' = w := by
  have h0 : w.cell? ⟨g, 0, none⟩ = some (.int .i64 x) := cell_of_row _ _ 0 _ _ _ h
  have h1 : w.cell? ⟨g, 1, none⟩ = some (.int .i64 y) := cell_of_row _ _ 1 _ _ _ h
  clear h
  have H0 := Lib.hid h0
  have H1 := Lib.hid h1
  clear h0 h1
  by_cases ex : x = 0
  · subst ex
    rw [if_pos rfl]
    by_cases ey : y = 0
    · subst ey
      go_enter Try.func24, Try.ntmps24
      go_wp2
      go_loop [8] (fun vi => ∃ i : Nat, vi = .int .i64 i ∧ i ≤ 2) (fun vi => 2 - (intOf vi).toNat)
      case atStart => exact ⟨0, rfl, by omega⟩
      case round =>
        obtain ⟨i, rfl, hi⟩ := hrel
        match i with
        | 0 =>
          have c0 := H0.out
          go_wp2
          go_round
          case rel => exact ⟨1, rfl, by omega⟩
          case measure => simp [intOf]
        | 1 =>
          have c1 := H1.out
          go_wp2
          go_round
          case rel => exact ⟨2, rfl, by omega⟩
          case measure => simp [intOf]
        | 2 =>
          go_wp2
          go_ret
          exact ⟨rfl, rfl⟩
        | n + 3 => omega
    · have e1 : (y == 0) = false := by simpa using ey
      have e2 : (y != 0) = true := by simpa using ey
      go_enter Try.func24, Try.ntmps24
      go_wp2
      go_loop [8] (fun vi => ∃ i : Nat, vi = .int .i64 i ∧ i ≤ 1) (fun vi => 2 - (intOf vi).toNat)
      case atStart => exact ⟨0, rfl, by omega⟩
      case round =>
        obtain ⟨i, rfl, hi⟩ := hrel
        match i with
        | 0 =>
          have c0 := H0.out
          go_wp2
          go_round
          case rel => exact ⟨1, rfl, by omega⟩
          case measure => simp [intOf]
        | 1 =>
          have c1 := H1.out
          go_wp2
          go_ret
          exact ⟨rfl, rfl⟩
        | n + 2 => omega
  · have e1 : (x == 0) = false := by simpa using ex
    have e2 : (x != 0) = true := by simpa using ex
    rw [if_neg ex]
    go_enter Try.func24, Try.ntmps24
    go_wp2
    go_loop [8] (fun vi => vi = .int .i64 0) (fun vi => 2 - (intOf vi).toNat)
    case atStart => rfl
    case round =>
      obtain rfl := hrel
      have c0 := H0.out
      go_wp2
      go_ret
      exact ⟨rfl, rfl⟩

/-- a rank above another -/
def hiB (V1 H1 V2 H2 : Int) : Bool := decide (V2 < V1 ∨ V1 = V2 ∧ H2 < H1)
theorem hi_cmp (V1 H1 V2 H2 : Int) : decide (0 < (if cmpI V1 V2 = 0 then cmpI H1 H2 else cmpI V1 V2)) = hiB V1 H1 V2 H2 := by
  unfold hiB cmpI
  congr 1
  apply propext
  repeat' split
  all_goals omega

set_option maxHeartbeats 1000000 in
theorem higher_any (V1 H1 : Int) (B1 : ByteArray) (V2 H2 : Int) (B2 : ByteArray) (w : World) :
    Calls Try.prog 15 #[.agg (mkC V1 H1 B1), .agg (mkC V2 H2 B2)] w fun e w' => e = .returned (.bool (hiB V1 H1 V2 H2)) ∧ Up w w' := by
  have Hc1 := Lib.hid (fun wx => cmp_any V1 V2 wx)
  have Hc2 := Lib.hid (fun wx => cmp_any H1 H2 wx)
  have Hor := Lib.hid (fun g wx h => or_any g (cmpI V1 V2) (cmpI H1 H2) wx h)
  rw [← hi_cmp]
  generalize cmpI V1 V2 = C1 at Hc1 Hor ⊢
  generalize cmpI H1 H2 = C2 at Hc2 Hor ⊢
  generalize (if C1 = 0 then C2 else C1) = C3 at Hor ⊢
  have Hgt : Hid (∀ wx : World, (do eqGuard .gtr 3 (.tmp 16) (.const (.int .i64 0)) (.int .i64 C3) (.int .i64 0); binOp .gtr 3 (.int .i64 C3) (.int .i64 0) : Sem Value).run Try.prog wx = .ok (.bool (decide (0 < C3))) wx) := fun wx => by
    simp [eqGuard, go_sem]
  generalize decide (0 < C3) = D at Hgt ⊢
  have Hbs : Hid (∀ wx : World, (Instr.buildSlice 23 2 #[(0, .int .i64 C1), (1, .int .i64 C2)]).run Try.prog wx = .ok (.slice (some ⟨wx.heap.size, 0, none⟩) 2 2) (wx.alloc (.cells #[.int .i64 C1, .int .i64 C2] 3))) := by
    intro wx
    simp [go_sem]
  unfold mkC
  have ha0 := heap_alloc_new w (.cells #[.int .i64 V1, .int .i64 H1, .string B1] 26)
  have ha := ((Up.alloc (Up.refl (w.alloc (.cells #[.int .i64 V1, .int .i64 H1, .string B1] 26))) (.cells #[.int .i64 V2, .int .i64 H2, .string B2] 26)).block _ (lt_of_block ha0)).trans ha0
  have hb := heap_alloc_new (w.alloc (.cells #[.int .i64 V1, .int .i64 H1, .string B1] 26)) (.cells #[.int .i64 V2, .int .i64 H2, .string B2] 26)
  rw [show (w.alloc (.cells #[.int .i64 V1, .int .i64 H1, .string B1] 26)).heap.size = w.heap.size + 1 by simp] at hb
  have HUz := Lib.hid (Up.alloc (Up.alloc (Up.refl w) (.cells #[.int .i64 V1, .int .i64 H1, .string B1] 26)) (.cells #[.int .i64 V2, .int .i64 H2, .string B2] 26))
  have HA0 := Lib.hid ha
  have HB0 := Lib.hid hb
  clear ha0 ha hb
  go_enter Try.func15, Try.ntmps15
  go_wp2_with fail
  generalize w.heap.size + 1 = BB at HB0 ⊢
  generalize (w.alloc (.cells #[.int .i64 V1, .int .i64 H1, .string B1] 26)).alloc (.cells #[.int .i64 V2, .int .i64 H2, .string B2] 26) = wz at HA0 HB0 HUz ⊢
  generalize w.heap.size = AB at HA0 ⊢
  have HA : Hid (∀ wx, Up wz.drew wx → wx.cell? ⟨AB, 0, none⟩ = some (.int .i64 V1) ∧ wx.cell? ⟨AB, 1, none⟩ = some (.int .i64 H1)) := fun wx hu => by
    have h := (Up.trans (Up.drew1 wz) hu).block _ (lt_of_block HA0.out) |>.trans HA0.out
    exact ⟨(mk_cells h).1, (mk_cells h).2.1⟩
  have HB : Hid (∀ wx, Up wz.drew wx → wx.cell? ⟨BB, 0, none⟩ = some (.int .i64 V2) ∧ wx.cell? ⟨BB, 1, none⟩ = some (.int .i64 H2)) := fun wx hu => by
    have h := (Up.trans (Up.drew1 wz) hu).block _ (lt_of_block HB0.out) |>.trans HB0.out
    exact ⟨(mk_cells h).1, (mk_cells h).2.1⟩
  refine region_alongK (fun x => Up wz.drew x) (.read 0 (.read 1 (.read 2 (.read 3 (.read 5 (.read 6 (.read 7 (.read 8 (.step 4 (.step 9 (.step 10 (.step 11 (.read 12 (.read 13 (.nil))))))))))))))) (by kernel_rfl) rfl (by kernel_rfl) (by kernel_rfl) (fun c a d v w h => by cases d <;> exact h) (Up.refl _) ?_
  refine alongK_read (.pointer (some ⟨AB, 0, none⟩)) rfl rfl (fun wx hS => ex_field rfl rfl wx (by simp [go_sem])) ?_
  change AlongK _ _ _ _ _ { tmps := #[.agg #[.int .i64 V1, .int .i64 H1, .string B1], .agg #[.int .i64 V2, .int .i64 H2, .string B2], .pointer (some ⟨AB, 0, none⟩), .pointer (some ⟨BB, 0, none⟩), .bool false, .pointer (some ⟨AB, 0, none⟩), _, _, _, _, _, _, _, _, _, _, _, _], defers := _ } _
  refine alongK_read (.int .i64 V1) rfl rfl (fun wx hS => ex_load Try.isAgg3 rfl rfl wx ((HA.out wx hS).1)) ?_
  change AlongK _ _ _ _ _ { tmps := #[.agg #[.int .i64 V1, .int .i64 H1, .string B1], .agg #[.int .i64 V2, .int .i64 H2, .string B2], .pointer (some ⟨AB, 0, none⟩), .pointer (some ⟨BB, 0, none⟩), .bool false, .pointer (some ⟨AB, 0, none⟩), .int .i64 V1, _, _, _, _, _, _, _, _, _, _, _], defers := _ } _
  refine alongK_read (.pointer (some ⟨BB, 0, none⟩)) rfl rfl (fun wx hS => ex_field rfl rfl wx (by simp [go_sem])) ?_
  change AlongK _ _ _ _ _ { tmps := #[.agg #[.int .i64 V1, .int .i64 H1, .string B1], .agg #[.int .i64 V2, .int .i64 H2, .string B2], .pointer (some ⟨AB, 0, none⟩), .pointer (some ⟨BB, 0, none⟩), .bool false, .pointer (some ⟨AB, 0, none⟩), .int .i64 V1, .pointer (some ⟨BB, 0, none⟩), _, _, _, _, _, _, _, _, _, _], defers := _ } _
  refine alongK_read (.int .i64 V2) rfl rfl (fun wx hS => ex_load Try.isAgg3 rfl rfl wx ((HB.out wx hS).1)) ?_
  change AlongK _ _ _ _ _ { tmps := #[.agg #[.int .i64 V1, .int .i64 H1, .string B1], .agg #[.int .i64 V2, .int .i64 H2, .string B2], .pointer (some ⟨AB, 0, none⟩), .pointer (some ⟨BB, 0, none⟩), .bool false, .pointer (some ⟨AB, 0, none⟩), .int .i64 V1, .pointer (some ⟨BB, 0, none⟩), .int .i64 V2, _, _, _, _, _, _, _, _, _], defers := _ } _
  refine alongK_read (.pointer (some ⟨AB, 1, none⟩)) rfl rfl (fun wx hS => ex_field rfl rfl wx (by simp [go_sem])) ?_
  change AlongK _ _ _ _ _ { tmps := #[.agg #[.int .i64 V1, .int .i64 H1, .string B1], .agg #[.int .i64 V2, .int .i64 H2, .string B2], .pointer (some ⟨AB, 0, none⟩), .pointer (some ⟨BB, 0, none⟩), .bool false, .pointer (some ⟨AB, 0, none⟩), .int .i64 V1, .pointer (some ⟨BB, 0, none⟩), .int .i64 V2, _, .pointer (some ⟨AB, 1, none⟩), _, _, _, _, _, _, _], defers := _ } _
  refine alongK_read (.int .i64 H1) rfl rfl (fun wx hS => ex_load Try.isAgg3 rfl rfl wx ((HA.out wx hS).2)) ?_
  change AlongK _ _ _ _ _ { tmps := #[.agg #[.int .i64 V1, .int .i64 H1, .string B1], .agg #[.int .i64 V2, .int .i64 H2, .string B2], .pointer (some ⟨AB, 0, none⟩), .pointer (some ⟨BB, 0, none⟩), .bool false, .pointer (some ⟨AB, 0, none⟩), .int .i64 V1, .pointer (some ⟨BB, 0, none⟩), .int .i64 V2, _, .pointer (some ⟨AB, 1, none⟩), .int .i64 H1, _, _, _, _, _, _], defers := _ } _
  refine alongK_read (.pointer (some ⟨BB, 1, none⟩)) rfl rfl (fun wx hS => ex_field rfl rfl wx (by simp [go_sem])) ?_
  change AlongK _ _ _ _ _ { tmps := #[.agg #[.int .i64 V1, .int .i64 H1, .string B1], .agg #[.int .i64 V2, .int .i64 H2, .string B2], .pointer (some ⟨AB, 0, none⟩), .pointer (some ⟨BB, 0, none⟩), .bool false, .pointer (some ⟨AB, 0, none⟩), .int .i64 V1, .pointer (some ⟨BB, 0, none⟩), .int .i64 V2, _, .pointer (some ⟨AB, 1, none⟩), .int .i64 H1, .pointer (some ⟨BB, 1, none⟩), _, _, _, _, _], defers := _ } _
  refine alongK_read (.int .i64 H2) rfl rfl (fun wx hS => ex_load Try.isAgg3 rfl rfl wx ((HB.out wx hS).2)) ?_
  change AlongK _ _ _ _ _ { tmps := #[.agg #[.int .i64 V1, .int .i64 H1, .string B1], .agg #[.int .i64 V2, .int .i64 H2, .string B2], .pointer (some ⟨AB, 0, none⟩), .pointer (some ⟨BB, 0, none⟩), .bool false, .pointer (some ⟨AB, 0, none⟩), .int .i64 V1, .pointer (some ⟨BB, 0, none⟩), .int .i64 V2, _, .pointer (some ⟨AB, 1, none⟩), .int .i64 H1, .pointer (some ⟨BB, 1, none⟩), .int .i64 H2, _, _, _, _], defers := _ } _
  refine alongK_step ?_
  refine opK_call (vs := [.int .i64 V1, .int .i64 V2]) rfl rfl rfl (enters_of Try.func25 (by kernel_rfl) rfl) rfl ?_
  with_reducible refine Calls.mono (Hc1.out _) ?_
  rintro e w4 ⟨rfl, hw4⟩
  subst hw4
  refine ⟨_, rfl, (fun x => Up wz.drew x), (fun x hx => hx), (Up.refl _), ?_⟩
  change AlongK _ _ _ _ _ { tmps := #[.agg #[.int .i64 V1, .int .i64 H1, .string B1], .agg #[.int .i64 V2, .int .i64 H2, .string B2], .pointer (some ⟨AB, 0, none⟩), .pointer (some ⟨BB, 0, none⟩), .bool false, .pointer (some ⟨AB, 0, none⟩), .int .i64 V1, .pointer (some ⟨BB, 0, none⟩), .int .i64 V2, .int .i64 C1, .pointer (some ⟨AB, 1, none⟩), .int .i64 H1, .pointer (some ⟨BB, 1, none⟩), .int .i64 H2, _, _, _, _], defers := _ } _
  refine alongK_step ?_
  refine opK_call (vs := [.int .i64 H1, .int .i64 H2]) rfl rfl rfl (enters_of Try.func25 (by kernel_rfl) rfl) rfl ?_
  with_reducible refine Calls.mono (Hc2.out _) ?_
  rintro e w9 ⟨rfl, hw9⟩
  subst hw9
  refine ⟨_, rfl, (fun x => Up wz.drew x), (fun x hx => hx), (Up.refl _), ?_⟩
  change AlongK _ _ _ _ _ { tmps := #[.agg #[.int .i64 V1, .int .i64 H1, .string B1], .agg #[.int .i64 V2, .int .i64 H2, .string B2], .pointer (some ⟨AB, 0, none⟩), .pointer (some ⟨BB, 0, none⟩), .bool false, .pointer (some ⟨AB, 0, none⟩), .int .i64 V1, .pointer (some ⟨BB, 0, none⟩), .int .i64 V2, .int .i64 C1, .pointer (some ⟨AB, 1, none⟩), .int .i64 H1, .pointer (some ⟨BB, 1, none⟩), .int .i64 H2, .int .i64 C2, _, _, _], defers := _ } _
  refine alongK_step ?_
  have hrun10 := Hbs.out wz.drew
  refine opK_run (.slice (some ⟨wz.drew.heap.size, 0, none⟩) 2 2) _ rfl rfl (ex_slice2 _ _ hrun10 rfl rfl rfl) (fun x => Up (wz.drew.alloc (.cells #[.int .i64 C1, .int .i64 C2] 3)) x) (fun x hx => Up.trans (Up.alloc (Up.refl wz.drew) _) hx) (Up.refl _) ?_
  change AlongK _ _ _ _ _ { tmps := #[.agg #[.int .i64 V1, .int .i64 H1, .string B1], .agg #[.int .i64 V2, .int .i64 H2, .string B2], .pointer (some ⟨AB, 0, none⟩), .pointer (some ⟨BB, 0, none⟩), .bool false, .pointer (some ⟨AB, 0, none⟩), .int .i64 V1, .pointer (some ⟨BB, 0, none⟩), .int .i64 V2, .int .i64 C1, .pointer (some ⟨AB, 1, none⟩), .int .i64 H1, .pointer (some ⟨BB, 1, none⟩), .int .i64 H2, .int .i64 C2, .slice (some ⟨wz.drew.heap.size, 0, none⟩) 2 2, _, _], defers := _ } _
  have hU0 := Up.alloc (Up.drew1 wz) (.cells #[.int .i64 C1, .int .i64 C2] 3)
  have HB5 := Lib.hid (heap_alloc_new wz.drew (.cells #[.int .i64 C1, .int .i64 C2] 3))
  generalize wz.drew.heap.size = b5 at HB5 ⊢
  generalize wz.drew.alloc (.cells #[.int .i64 C1, .int .i64 C2] 3) = w5 at HB5 hU0 ⊢
  refine alongK_step ?_
  refine opK_call (vs := [.slice (some ⟨b5, 0, none⟩) 2 2]) rfl rfl rfl (enters_of Try.func24 (by kernel_rfl) rfl) rfl ?_
  with_reducible refine Calls.mono (Hor.out b5 w5 HB5.out) ?_
  rintro e w11 ⟨rfl, hw11⟩
  have hq11 := hw11.symm
  subst hq11
  refine ⟨_, rfl, (fun x => Up w5 x), (fun x hx => hx), (Up.refl _), ?_⟩
  change AlongK _ _ _ _ _ { tmps := #[.agg #[.int .i64 V1, .int .i64 H1, .string B1], .agg #[.int .i64 V2, .int .i64 H2, .string B2], .pointer (some ⟨AB, 0, none⟩), .pointer (some ⟨BB, 0, none⟩), .bool false, .pointer (some ⟨AB, 0, none⟩), .int .i64 V1, .pointer (some ⟨BB, 0, none⟩), .int .i64 V2, .int .i64 C1, .pointer (some ⟨AB, 1, none⟩), .int .i64 H1, .pointer (some ⟨BB, 1, none⟩), .int .i64 H2, .int .i64 C2, .slice (some ⟨b5, 0, none⟩) 2 2, .int .i64 C3, _], defers := _ } _
  refine alongK_read (.bool D) rfl rfl (fun wx hS => ex_bin rfl rfl rfl wx (Hgt.out wx)) ?_
  change AlongK _ _ _ _ _ { tmps := #[.agg #[.int .i64 V1, .int .i64 H1, .string B1], .agg #[.int .i64 V2, .int .i64 H2, .string B2], .pointer (some ⟨AB, 0, none⟩), .pointer (some ⟨BB, 0, none⟩), .bool false, .pointer (some ⟨AB, 0, none⟩), .int .i64 V1, .pointer (some ⟨BB, 0, none⟩), .int .i64 V2, .int .i64 C1, .pointer (some ⟨AB, 1, none⟩), .int .i64 H1, .pointer (some ⟨BB, 1, none⟩), .int .i64 H2, .int .i64 C2, .slice (some ⟨b5, 0, none⟩) 2 2, .int .i64 C3, .bool D], defers := _ } _
  refine alongK_read (.bool D) rfl rfl (fun wx hS => ex_assign (by rfl) (by rfl) wx) ?_
  change AlongK _ _ _ _ _ { tmps := #[.agg #[.int .i64 V1, .int .i64 H1, .string B1], .agg #[.int .i64 V2, .int .i64 H2, .string B2], .pointer (some ⟨AB, 0, none⟩), .pointer (some ⟨BB, 0, none⟩), .bool D, .pointer (some ⟨AB, 0, none⟩), .int .i64 V1, .pointer (some ⟨BB, 0, none⟩), .int .i64 V2, .int .i64 C1, .pointer (some ⟨AB, 1, none⟩), .int .i64 H1, .pointer (some ⟨BB, 1, none⟩), .int .i64 H2, .int .i64 C2, .slice (some ⟨b5, 0, none⟩) 2 2, .int .i64 C3, .bool D], defers := _ } _
  refine alongK_done ?_
  go_wp2
  go_ret
  exact ⟨rfl, Up.trans HUz.out hU0⟩
end
end

/-
  cert: whether one is the first; Check of what is so or has no votes; the page's example.
-/
section
set_option maxRecDepth 100000
section
set_option linter.unusedVariables false
open Go.RowKit

theorem toList_dec {a b : ByteArray} : (a.toList == b.toList) = decide (a = b) := by
  by_cases h : a = b
  · subst h; simp
  · rw [decide_eq_false h]; exact beq_eq_false_iff_ne.2 fun e => h (toList_inj e)

end
end

/-
  A mark that came in by value, opened.
-/
section
set_option maxRecDepth 100000
section
set_option linter.unusedVariables false
open Go.ChangeShapes Go.WideShapes Go.ChangeAt Go.RowKit Go.Deep Go.Joins
variable {H : Type} {enc : TypeId × Value → H} {W : World}

theorem array_three {α : Type} {cs : Array α} {c0 c1 c2 : α} (h : cs.size = 3) (h0 : cs[0]? = some c0) (h1 : cs[1]? = some c1) (h2 : cs[2]? = some c2) : cs = #[c0, c1, c2] := by
  apply Array.ext_getElem?
  intro i
  by_cases hi : i < 3
  · have hc : i = 0 ∨ i = 1 ∨ i = 2 := by omega
    rcases hc with rfl | rfl | rfl
    · rw [h0]; rfl
    · rw [h1]; rfl
    · rw [h2]; rfl
  · rw [Array.getElem?_eq_none (by omega), Array.getElem?_eq_none (by simp; omega)]

theorem open_mk {r : Reach} {b0 : Nat} {v : Value} {d : DataW H} {ps : List MemPlace} (hv : Value.okWide Try.prog W r b0 26 v) (h : DataW.Trod enc Try.prog W 0 (fun _ => true) true 26 v d ps) :
    ∃ (V Hh : Int) (B : ByteArray), v = .agg (mkC V Hh B) ∧ (Lit.int .i64 V).wf = true ∧ (Lit.int .i64 Hh).wf = true ∧ B.size ≤ maxLen := by
  obtain ⟨m, cs, ys, rfl, hsz, _, _, hf⟩ := open_agg Try.underlying26 (by kernel_rfl) (by kernel_rfl) hv h
  obtain ⟨c0, y0, k0, _, t0⟩ := hf 0 _ rfl
  obtain ⟨c1, y1, k1, _, t1⟩ := hf 1 _ rfl
  obtain ⟨c2, y2, k2, _, t2⟩ := hf 2 _ rfl
  obtain ⟨x0, e0, _, w0⟩ := DataW.trod_int Try.underlying3 t0
  obtain ⟨x1, e1, _, w1⟩ := DataW.trod_int Try.underlying3 t1
  obtain ⟨s, e2, _, ws⟩ := DataW.trod_string Try.underlying9 t2
  simp only [List.cons.injEq, and_true] at e0 e1 e2
  subst e0 e1 e2
  refine ⟨x0, x1, s, ?_, w0, w1, ws⟩
  rw [array_three hsz k0 k1 k2]
  unfold mkC
  rfl
end
end
end Go.Proofs.Ytnipkhgaceicbaa
