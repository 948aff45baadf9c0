import Derived.Shelf.Strings.Repeat
import Derived.Laws.StructEq
import Derived.Test.YtfenmhddlojahaaGreatUps
import Derived.Test.YtfenmhddlojahaaGreatAlong
import Derived.Test.YtfenmhddlojahaaGreatStrs
import Derived.Test.YtfenmhddlojahaaGreatOpen
namespace Go.Proofs.YtfenmhddlojahaaGreat
/-
  cert: strings.Repeat, the first cert, marks and their ranks.
-/
section
set_option maxRecDepth 100000
section
set_option linter.unusedVariables false
open Go.RowKit

def repeat105_ren : Go.Shelf.Ren := ⟨fun | 99 => 92 | 105 => 63 | 165 => 93 | 166 => 94 | 169 => 96 | 170 => 95 | 206 => 126 | 212 => 91 | 240 => 127 | 241 => 128 | 263 => 124 | 264 => 125 | 276 => 139 | 277 => 140 | n => n, fun | 0 => 0 | 3 => 3 | 4 => 4 | 5 => 5 | 9 => 9 | 20 => 20 | 37 => 31 | 46 => 99 | 51 => 147 | 53 => 119 | 70 => 126 | 72 => 128 | 75 => 130 | 76 => 131 | 109 => 123 | 127 => 159 | 146 => 155 | 148 => 157 | 164 => 168 | 80 => 71 | n => n, fun | n => n⟩
theorem repeat105 : Go.Proofs.Lays.n105 Tryz.prog repeat105_ren := {
  mixed := by kernel_rfl
  f99 := Tryz.func92.trans (congrArg some (by kernel_rfl))
  f105 := Tryz.func63.trans (congrArg some (by kernel_rfl))
  f165 := Tryz.func93.trans (congrArg some (by kernel_rfl))
  f166 := Tryz.func94.trans (congrArg some (by kernel_rfl))
  f169 := Tryz.func96.trans (congrArg some (by kernel_rfl))
  f170 := Tryz.func95.trans (congrArg some (by kernel_rfl))
  f206 := Tryz.func126.trans (congrArg some (by kernel_rfl))
  f212 := Tryz.func91.trans (congrArg some (by kernel_rfl))
  f240 := Tryz.func127.trans (congrArg some (by kernel_rfl))
  f241 := Tryz.func128.trans (congrArg some (by kernel_rfl))
  f263 := Tryz.func124.trans (congrArg some (by kernel_rfl))
  f264 := Tryz.func125.trans (congrArg some (by kernel_rfl))
  f276 := Tryz.func139.trans (congrArg some (by kernel_rfl))
  f277 := Tryz.func140.trans (congrArg some (by kernel_rfl))
  t0 := Tryz.underlying0
  a0 := Tryz.isAgg0
  z0 := Tryz.sizeOf0
  v0 := Tryz.zeroValue0
  t3 := Tryz.underlying3
  a3 := Tryz.isAgg3
  z3 := Tryz.sizeOf3
  v3 := Tryz.zeroValue3
  t4 := Tryz.underlying4
  a4 := Tryz.isAgg4
  z4 := Tryz.sizeOf4
  v4 := Tryz.zeroValue4
  t5 := Tryz.underlying5
  a5 := Tryz.isAgg5
  z5 := Tryz.sizeOf5
  v5 := Tryz.zeroValue5
  t9 := Tryz.underlying9
  a9 := Tryz.isAgg9
  z9 := Tryz.sizeOf9
  v9 := Tryz.zeroValue9
  t20 := Tryz.underlying20
  a20 := Tryz.isAgg20
  z20 := Tryz.sizeOf20
  v20 := Tryz.zeroValue20
  t37 := Tryz.underlying31
  a37 := Tryz.isAgg31
  z37 := Tryz.sizeOf31
  v37 := Tryz.zeroValue31
  t46 := Tryz.underlying99
  a46 := Tryz.isAgg99
  z46 := Tryz.sizeOf99
  v46 := Tryz.zeroValue99
  t51 := Tryz.underlying147
  a51 := Tryz.isAgg147
  z51 := Tryz.sizeOf147
  v51 := Tryz.zeroValue147
  t53 := Tryz.underlying119
  a53 := Tryz.isAgg119
  z53 := Tryz.sizeOf119
  v53 := Tryz.zeroValue119
  t70 := Tryz.underlying126
  a70 := Tryz.isAgg126
  z70 := Tryz.sizeOf126
  v70 := Tryz.zeroValue126
  t72 := Tryz.underlying128
  a72 := Tryz.isAgg128
  z72 := Tryz.sizeOf128
  v72 := Tryz.zeroValue128
  t75 := Tryz.underlying130
  a75 := Tryz.isAgg130
  z75 := Tryz.sizeOf130
  v75 := Tryz.zeroValue130
  t76 := Tryz.underlying131
  a76 := Tryz.isAgg131
  z76 := Tryz.sizeOf131
  v76 := Tryz.zeroValue131
  t109 := Tryz.underlying123
  a109 := Tryz.isAgg123
  z109 := Tryz.sizeOf123
  v109 := Tryz.zeroValue123
  t127 := Tryz.underlying159
  a127 := Tryz.isAgg159
  z127 := Tryz.sizeOf159
  v127 := Tryz.zeroValue159
  t146 := Tryz.underlying155
  a146 := Tryz.isAgg155
  z146 := Tryz.sizeOf155
  v146 := Tryz.zeroValue155
  t148 := Tryz.underlying157
  a148 := Tryz.isAgg157
  z148 := Tryz.sizeOf157
  v148 := Tryz.zeroValue157
  t164 := Tryz.underlying168
  a164 := Tryz.isAgg168
  z164 := Tryz.sizeOf168
  v164 := Tryz.zeroValue168 }
theorem repeatExtra : Builder.Extra Tryz.prog repeat105_ren := {
  sizeBuilder := by kernel_rfl
  liesBuilder := by kernel_rfl
  t5 := Tryz.underlying5
  a5 := Tryz.isAgg5
  z5 := Tryz.sizeOf5
  v5 := Tryz.zeroValue5
  infoByte := by kernel_rfl
  cellsByte := by kernel_rfl
  sizeByte := by kernel_rfl
  neB5 := by decide }
/-- the first block's name -/
def gen32 : List Int := List.replicate 32 0
theorem repeat_zero (w : World) : Calls Tryz.prog 63 #[.string ⟨#[0]⟩, .int .i64 32] w fun e w' => e = .returned (.string (strOfNums gen32)) ∧ Below w.heap.size w w' := by
  have h := Any.strings_Repeat repeat105 repeatExtra ⟨#[0]⟩ 32 w (by omega) (by show 1 * 32 ≤ _; omega)
  refine Calls.mono h ?_
  rintro e w' ⟨rfl, hb⟩
  exact ⟨rfl, hb⟩

theorem info_ct : (Tryz.prog.info? 24).map (·.size) = some 4 := by kernel_rfl
theorem info_mk : (Tryz.prog.info? 27).map (·.size) = some 3 := by kernel_rfl
theorem one_ct (V H : Int) (B : ByteArray) (u : Option Addr) (n c : Nat) : (#[.int .i64 V, .int .i64 H, .string B, .slice u n c] : Array Value).all (·.oneCell') = true := by simp [Value.oneCell']
theorem one_mk (V H : Int) (B : ByteArray) : (#[.int .i64 V, .int .i64 H, .string B] : Array Value).all (·.oneCell') = true := by simp [Value.oneCell']
theorem ct_cells {W : World} {B : Nat} {c0 c1 c2 c3 : Value} {ty : TypeId} {fr : Nat × Nat} (h : W.heap[B]? = some (.cells #[c0, c1, c2, c3] ty fr)) :
    W.cell? ⟨B, 0, none⟩ = some c0 ∧ W.cell? ⟨B, 1, none⟩ = some c1 ∧ W.cell? ⟨B, 2, none⟩ = some c2 ∧ W.cell? ⟨B, 3, none⟩ = some c3 :=
  ⟨cell_of_row _ _ 0 _ _ _ h, cell_of_row _ _ 1 _ _ _ h, cell_of_row _ _ 2 _ _ _ h, cell_of_row _ _ 3 _ _ _ h⟩
theorem results_ct {fn : Func} {p : Tmp} (h : fn.results = #[.cell p 24]) (tmps : Array Value) (w : World) (B : Nat) (cs : Array Value) (hp : tmps.getD p undef = .pointer (some ⟨B, 0, none⟩))
    (hg : w.heap[B]? = some (.cells cs 24 (0, 0))) (hs : cs.size = 4) :
    (results fn tmps).run Tryz.prog w = .ok (.agg cs) w := by
  have hp' : tmps[p]?.getD undef = .pointer (some ⟨B, 0, none⟩) := by simpa using hp
  have hl := run_loadVar_row (P := Tryz.prog) w B 24 24 cs (0, 0) _ hg Tryz.underlying24 rfl (by rw [info_ct, hs])
  simp [results, h, hp', asAddr, hl]
theorem results_mk {fn : Func} {p : Tmp} (h : fn.results = #[.cell p 27]) (tmps : Array Value) (w : World) (B : Nat) (cs : Array Value) (hp : tmps.getD p undef = .pointer (some ⟨B, 0, none⟩))
    (hg : w.heap[B]? = some (.cells cs 27 (0, 0))) (hs : cs.size = 3) :
    (results fn tmps).run Tryz.prog w = .ok (.agg cs) w := by
  have hp' : tmps[p]?.getD undef = .pointer (some ⟨B, 0, none⟩) := by simpa using hp
  have hl := run_loadVar_row (P := Tryz.prog) w B 27 27 cs (0, 0) _ hg Tryz.underlying27 rfl (by rw [info_mk, hs])
  simp [results, h, hp', asAddr, hl]

/-- a mark's cells -/
def mkC (V H : Int) (B : ByteArray) : Array Value := #[.int .i64 V, .int .i64 H, .string B]

set_option maxHeartbeats 400000 in
theorem first_any (w : World) : Calls Tryz.prog 35 #[] w fun e w' => e = .returned (.agg #[.int .i64 0, .int .i64 0, .string (strOfNums gen32), .slice none 0 0]) ∧ Up w w' := by
  have HR : Hid (∀ wx, Calls Tryz.prog 63 #[.string ⟨#[0]⟩, .int .i64 32] wx fun e w' => e = .returned (.string (strOfNums gen32)) ∧ Up wx w') := fun wx => repeat_zero wx
  generalize strOfNums gen32 = GS at HR ⊢
  have HB0 := Lib.hid (heap_alloc_new w (.cells #[.int .i64 0, .int .i64 0, .string ⟨#[]⟩, .slice none 0 0] 24))
  have HU0 := Lib.hid (Up.alloc (Up.refl w) (.cells #[.int .i64 0, .int .i64 0, .string ⟨#[]⟩, .slice none 0 0] 24))
  go_enter Tryz.func35, Tryz.ntmps35
  go_wp2_with fail
  with_reducible refine Calls.mono (HR.out _) ?_
  rintro e w1 ⟨rfl, hU1⟩
  have B1 := Lib.hid ((hU1.block _ (lt_of_block HB0.out)).trans HB0.out)
  have HU1 := Lib.hid (Up.trans HU0.out hU1)
  clear hU1
  go_wp2_with (refine wpList_store_agg rfl 24 (.tmp 0) (.tmp 2) rfl w.heap.size _ #[.int .i64 0, .int .i64 0, .string GS, .slice none 0 0] rfl rfl 24 B1.out info_ct rfl (one_ct _ _ _ _ _ _) ?_; intro w12 hg12 hgr12)
  exact bodyPost_ret (results_ct rfl _ _ _ _ rfl hg12 rfl) rfl ⟨rfl, up_at HU1.out hgr12 (Nat.le_refl _)⟩

set_option maxHeartbeats 400000 in
theorem mark_any (V H : Int) (B : ByteArray) (u : Option Addr) (n c : Nat) (w : World) : Calls Tryz.prog 14 #[.agg #[.int .i64 V, .int .i64 H, .string B, .slice u n c]] w fun e w' => e = .returned (.agg #[.int .i64 V, .int .i64 H, .string B]) ∧ Up w w' := by
  have HU0 := Lib.hid (Up.alloc (Up.alloc (Up.refl w) (.cells #[.int .i64 V, .int .i64 H, .string B, .slice u n c] 24)) (.cells #[.int .i64 0, .int .i64 0, .string ⟨#[]⟩] 27))
  have hb0 := heap_alloc_new w (.cells #[.int .i64 V, .int .i64 H, .string B, .slice u n c] 24)
  have hb1 := ((Up.alloc (Up.refl (w.alloc (.cells #[.int .i64 V, .int .i64 H, .string B, .slice u n c] 24))) (.cells #[.int .i64 0, .int .i64 0, .string ⟨#[]⟩] 27)).block _ (lt_of_block hb0)).trans hb0
  obtain ⟨hc0, hc1, hc2, hc3⟩ := ct_cells hb1
  have B1 := Lib.hid (heap_alloc_new (w.alloc (.cells #[.int .i64 V, .int .i64 H, .string B, .slice u n c] 24)) (.cells #[.int .i64 0, .int .i64 0, .string ⟨#[]⟩] 27))
  clear hb0 hb1
  go_enter Tryz.func14, Tryz.ntmps14
  go_wp2_with (refine wpList_store_agg rfl 27 (.tmp 2) (.tmp 9) rfl (w.alloc (.cells #[.int .i64 V, .int .i64 H, .string B, .slice u n c] 24)).heap.size _ #[.int .i64 V, .int .i64 H, .string B] (by simp; rfl) rfl 27 B1.out info_mk rfl (one_mk _ _ _) ?_; intro w12 hg12 hgr12)
  exact bodyPost_ret (results_mk rfl _ _ _ _ (by simp; rfl) hg12 rfl) rfl ⟨rfl, up_at HU0.out hgr12 (by simp)⟩

/-- which is above: -1, 0, 1 -/
def cmpI (a b : Int) : Int := if a < b then -1 else if b < a then 1 else 0
theorem isNaN_any (a : Int) (w : World) : Calls Tryz.prog 62 #[.int .i64 a] w fun e w' => e = .returned (.bool false) ∧ w' = w := by
  go_enter Tryz.func62, Tryz.ntmps62
  go_wp2
  go_ret
  exact ⟨by simp, rfl⟩
set_option maxHeartbeats 400000 in
theorem cmp_any (a b : Int) (w : World) : Calls Tryz.prog 34 #[.int .i64 a, .int .i64 b] w fun e w' => e = .returned (.int .i64 (cmpI a b)) ∧ w' = w := by
  have H := Lib.hid isNaN_any
  by_cases h1 : a < b
  · rw [show cmpI a b = -1 from if_pos h1]
    go_enter Tryz.func34, Tryz.ntmps34
    go_wp2_with fail
    with_reducible refine Calls.mono (H.out _ _) ?_
    rintro e w1 ⟨rfl, rfl⟩
    go_wp2_with fail
    with_reducible refine Calls.mono (H.out _ _) ?_
    rintro e w1 ⟨rfl, rfl⟩
    go_wp2
    go_ret
    exact ⟨rfl, rfl⟩
  · by_cases h2 : b < a
    · rw [show cmpI a b = 1 from (if_neg h1).trans (if_pos h2)]
      go_enter Tryz.func34, Tryz.ntmps34
      go_wp2_with fail
      with_reducible refine Calls.mono (H.out _ _) ?_
      rintro e w1 ⟨rfl, rfl⟩
      go_wp2_with fail
      with_reducible refine Calls.mono (H.out _ _) ?_
      rintro e w1 ⟨rfl, rfl⟩
      go_wp2
      go_ret
      exact ⟨rfl, rfl⟩
    · rw [show cmpI a b = 0 from (if_neg h1).trans (if_neg h2)]
      go_enter Tryz.func34, Tryz.ntmps34
      go_wp2_with fail
      with_reducible refine Calls.mono (H.out _ _) ?_
      rintro e w1 ⟨rfl, rfl⟩
      go_wp2_with fail
      with_reducible refine Calls.mono (H.out _ _) ?_
      rintro e w1 ⟨rfl, rfl⟩
      go_wp2
      go_ret
      exact ⟨rfl, rfl⟩
end
end

/-
  cert.Higher: of two ranks which is above.
-/
section
set_option maxRecDepth 100000
section
set_option linter.unusedVariables false
open Go.RowKit

theorem ex_slice2 {P : Program} {ρ : Operand → Value} {o : Oper} {v : Value} {x y : Operand} {t : TypeId} {v0 v1 : Value} (w w' : World) (hr : (Instr.buildSlice t 2 #[(0, v0), (1, v1)]).run P w = .ok v w') (hop : o.op = .buildSlice t 2 #[(0, x), (1, y)]) (hx : ρ x = v0) (hy : ρ y = v1) : (execOp ρ o).run P w = .ok (.value v) w' :=
  ex_slice hop (by simp only [List.map_toArray, List.map_cons, List.map_nil, hx, hy]) w w' hr
theorem mk_cells {W : World} {B : Nat} {c0 c1 c2 : Value} {ty : TypeId} {fr : Nat × Nat} (h : W.heap[B]? = some (.cells #[c0, c1, c2] ty fr)) :
    W.cell? ⟨B, 0, none⟩ = some c0 ∧ W.cell? ⟨B, 1, none⟩ = some c1 ∧ W.cell? ⟨B, 2, none⟩ = some c2 :=
  ⟨cell_of_row _ _ 0 _ _ _ h, cell_of_row _ _ 1 _ _ _ h, cell_of_row _ _ 2 _ _ _ h⟩
set_option maxHeartbeats 400000 in
theorem or_any (g : Nat) (x y : Int) (w : World) (h : w.heap[g]? = some (.cells #[.int .i64 x, .int .i64 y] 3 (0, 0))) :
    Calls Tryz.prog 33 #[.slice (some ⟨g, 0, none⟩) 2 2] w fun e w' => e = .returned (.int .i64 (if x = 0 then y else x)) ∧ w' = w := by
  have h0 : w.cell? ⟨g, 0, none⟩ = some (.int .i64 x) := cell_of_row _ _ 0 _ _ _ h
  have h1 : w.cell? ⟨g, 1, none⟩ = some (.int .i64 y) := cell_of_row _ _ 1 _ _ _ h
  clear h
  have H0 := Lib.hid h0
  have H1 := Lib.hid h1
  clear h0 h1
  by_cases ex : x = 0
  · subst ex
    rw [if_pos rfl]
    by_cases ey : y = 0
    · subst ey
      go_enter Tryz.func33, Tryz.ntmps33
      go_wp2
      go_loop [8] (fun vi => ∃ i : Nat, vi = .int .i64 i ∧ i ≤ 2) (fun vi => 2 - (intOf vi).toNat)
      case atStart => exact ⟨0, rfl, by omega⟩
      case round =>
        obtain ⟨i, rfl, hi⟩ := hrel
        match i with
        | 0 =>
          have c0 := H0.out
          go_wp2
          go_round
          case rel => exact ⟨1, rfl, by omega⟩
          case measure => simp [intOf]
        | 1 =>
          have c1 := H1.out
          go_wp2
          go_round
          case rel => exact ⟨2, rfl, by omega⟩
          case measure => simp [intOf]
        | 2 =>
          go_wp2
          go_ret
          exact ⟨rfl, rfl⟩
        | n + 3 => omega
    · have e1 : (y == 0) = false := by simpa using ey
      have e2 : (y != 0) = true := by simpa using ey
      go_enter Tryz.func33, Tryz.ntmps33
      go_wp2
      go_loop [8] (fun vi => ∃ i : Nat, vi = .int .i64 i ∧ i ≤ 1) (fun vi => 2 - (intOf vi).toNat)
      case atStart => exact ⟨0, rfl, by omega⟩
      case round =>
        obtain ⟨i, rfl, hi⟩ := hrel
        match i with
        | 0 =>
          have c0 := H0.out
          go_wp2
          go_round
          case rel => exact ⟨1, rfl, by omega⟩
          case measure => simp [intOf]
        | 1 =>
          have c1 := H1.out
          go_wp2
          go_ret
          exact ⟨rfl, rfl⟩
        | n + 2 => omega
  · have e1 : (x == 0) = false := by simpa using ex
    have e2 : (x != 0) = true := by simpa using ex
    rw [if_neg ex]
    go_enter Tryz.func33, Tryz.ntmps33
    go_wp2
    go_loop [8] (fun vi => vi = .int .i64 0) (fun vi => 2 - (intOf vi).toNat)
    case atStart => rfl
    case round =>
      obtain rfl := hrel
      have c0 := H0.out
      go_wp2
      go_ret
      exact ⟨rfl, rfl⟩

/-- a rank above another -/
def hiB (V1 H1 V2 H2 : Int) : Bool := decide (V2 < V1 ∨ V1 = V2 ∧ H2 < H1)
theorem hi_cmp (V1 H1 V2 H2 : Int) : decide (0 < (if cmpI V1 V2 = 0 then cmpI H1 H2 else cmpI V1 V2)) = hiB V1 H1 V2 H2 := by
  unfold hiB cmpI
  congr 1
  apply propext
  repeat' split
  all_goals omega

set_option maxHeartbeats 1000000 in
theorem higher_any (V1 H1 : Int) (B1 : ByteArray) (V2 H2 : Int) (B2 : ByteArray) (w : World) :
    Calls Tryz.prog 15 #[.agg (mkC V1 H1 B1), .agg (mkC V2 H2 B2)] w fun e w' => e = .returned (.bool (hiB V1 H1 V2 H2)) ∧ Up w w' := by
  have Hc1 := Lib.hid (fun wx => cmp_any V1 V2 wx)
  have Hc2 := Lib.hid (fun wx => cmp_any H1 H2 wx)
  have Hor := Lib.hid (fun g wx h => or_any g (cmpI V1 V2) (cmpI H1 H2) wx h)
  rw [← hi_cmp]
  generalize cmpI V1 V2 = C1 at Hc1 Hor ⊢
  generalize cmpI H1 H2 = C2 at Hc2 Hor ⊢
  generalize (if C1 = 0 then C2 else C1) = C3 at Hor ⊢
  have Hgt : Hid (∀ wx : World, (do eqGuard .gtr 3 (.tmp 16) (.const (.int .i64 0)) (.int .i64 C3) (.int .i64 0); binOp .gtr 3 (.int .i64 C3) (.int .i64 0) : Sem Value).run Tryz.prog wx = .ok (.bool (decide (0 < C3))) wx) := fun wx => by
    simp [eqGuard, go_sem]
  generalize decide (0 < C3) = D at Hgt ⊢
  have Hbs : Hid (∀ wx : World, (Instr.buildSlice 96 2 #[(0, .int .i64 C1), (1, .int .i64 C2)]).run Tryz.prog wx = .ok (.slice (some ⟨wx.heap.size, 0, none⟩) 2 2) (wx.alloc (.cells #[.int .i64 C1, .int .i64 C2] 3))) := by
    intro wx
    simp [go_sem]
  unfold mkC
  have ha0 := heap_alloc_new w (.cells #[.int .i64 V1, .int .i64 H1, .string B1] 27)
  have ha := ((Up.alloc (Up.refl (w.alloc (.cells #[.int .i64 V1, .int .i64 H1, .string B1] 27))) (.cells #[.int .i64 V2, .int .i64 H2, .string B2] 27)).block _ (lt_of_block ha0)).trans ha0
  have hb := heap_alloc_new (w.alloc (.cells #[.int .i64 V1, .int .i64 H1, .string B1] 27)) (.cells #[.int .i64 V2, .int .i64 H2, .string B2] 27)
  rw [show (w.alloc (.cells #[.int .i64 V1, .int .i64 H1, .string B1] 27)).heap.size = w.heap.size + 1 by simp] at hb
  have HUz := Lib.hid (Up.alloc (Up.alloc (Up.refl w) (.cells #[.int .i64 V1, .int .i64 H1, .string B1] 27)) (.cells #[.int .i64 V2, .int .i64 H2, .string B2] 27))
  have HA0 := Lib.hid ha
  have HB0 := Lib.hid hb
  clear ha0 ha hb
  go_enter Tryz.func15, Tryz.ntmps15
  go_wp2_with fail
  generalize w.heap.size + 1 = BB at HB0 ⊢
  generalize (w.alloc (.cells #[.int .i64 V1, .int .i64 H1, .string B1] 27)).alloc (.cells #[.int .i64 V2, .int .i64 H2, .string B2] 27) = wz at HA0 HB0 HUz ⊢
  generalize w.heap.size = AB at HA0 ⊢
  have HA : Hid (∀ wx, Up wz.drew wx → wx.cell? ⟨AB, 0, none⟩ = some (.int .i64 V1) ∧ wx.cell? ⟨AB, 1, none⟩ = some (.int .i64 H1)) := fun wx hu => by
    have h := (Up.trans (Up.drew1 wz) hu).block _ (lt_of_block HA0.out) |>.trans HA0.out
    exact ⟨(mk_cells h).1, (mk_cells h).2.1⟩
  have HB : Hid (∀ wx, Up wz.drew wx → wx.cell? ⟨BB, 0, none⟩ = some (.int .i64 V2) ∧ wx.cell? ⟨BB, 1, none⟩ = some (.int .i64 H2)) := fun wx hu => by
    have h := (Up.trans (Up.drew1 wz) hu).block _ (lt_of_block HB0.out) |>.trans HB0.out
    exact ⟨(mk_cells h).1, (mk_cells h).2.1⟩
  refine region_alongK (fun x => Up wz.drew x) (.read 0 (.read 1 (.read 2 (.read 3 (.read 5 (.read 6 (.read 7 (.read 8 (.step 4 (.step 9 (.step 10 (.step 11 (.read 12 (.read 13 (.nil))))))))))))))) (by kernel_rfl) rfl (by kernel_rfl) (by kernel_rfl) (fun c a d v w h => by cases d <;> exact h) (Up.refl _) ?_
  refine alongK_read (.pointer (some ⟨AB, 0, none⟩)) rfl rfl (fun wx hS => ex_field rfl rfl wx (by simp [go_sem])) ?_
  change AlongK _ _ _ _ _ { tmps := #[.agg #[.int .i64 V1, .int .i64 H1, .string B1], .agg #[.int .i64 V2, .int .i64 H2, .string B2], .pointer (some ⟨AB, 0, none⟩), .pointer (some ⟨BB, 0, none⟩), .bool false, .pointer (some ⟨AB, 0, none⟩), _, _, _, _, _, _, _, _, _, _, _, _], defers := _ } _
  refine alongK_read (.int .i64 V1) rfl rfl (fun wx hS => ex_load Tryz.isAgg3 rfl rfl wx ((HA.out wx hS).1)) ?_
  change AlongK _ _ _ _ _ { tmps := #[.agg #[.int .i64 V1, .int .i64 H1, .string B1], .agg #[.int .i64 V2, .int .i64 H2, .string B2], .pointer (some ⟨AB, 0, none⟩), .pointer (some ⟨BB, 0, none⟩), .bool false, .pointer (some ⟨AB, 0, none⟩), .int .i64 V1, _, _, _, _, _, _, _, _, _, _, _], defers := _ } _
  refine alongK_read (.pointer (some ⟨BB, 0, none⟩)) rfl rfl (fun wx hS => ex_field rfl rfl wx (by simp [go_sem])) ?_
  change AlongK _ _ _ _ _ { tmps := #[.agg #[.int .i64 V1, .int .i64 H1, .string B1], .agg #[.int .i64 V2, .int .i64 H2, .string B2], .pointer (some ⟨AB, 0, none⟩), .pointer (some ⟨BB, 0, none⟩), .bool false, .pointer (some ⟨AB, 0, none⟩), .int .i64 V1, .pointer (some ⟨BB, 0, none⟩), _, _, _, _, _, _, _, _, _, _], defers := _ } _
  refine alongK_read (.int .i64 V2) rfl rfl (fun wx hS => ex_load Tryz.isAgg3 rfl rfl wx ((HB.out wx hS).1)) ?_
  change AlongK _ _ _ _ _ { tmps := #[.agg #[.int .i64 V1, .int .i64 H1, .string B1], .agg #[.int .i64 V2, .int .i64 H2, .string B2], .pointer (some ⟨AB, 0, none⟩), .pointer (some ⟨BB, 0, none⟩), .bool false, .pointer (some ⟨AB, 0, none⟩), .int .i64 V1, .pointer (some ⟨BB, 0, none⟩), .int .i64 V2, _, _, _, _, _, _, _, _, _], defers := _ } _
  refine alongK_read (.pointer (some ⟨AB, 1, none⟩)) rfl rfl (fun wx hS => ex_field rfl rfl wx (by simp [go_sem])) ?_
  change AlongK _ _ _ _ _ { tmps := #[.agg #[.int .i64 V1, .int .i64 H1, .string B1], .agg #[.int .i64 V2, .int .i64 H2, .string B2], .pointer (some ⟨AB, 0, none⟩), .pointer (some ⟨BB, 0, none⟩), .bool false, .pointer (some ⟨AB, 0, none⟩), .int .i64 V1, .pointer (some ⟨BB, 0, none⟩), .int .i64 V2, _, .pointer (some ⟨AB, 1, none⟩), _, _, _, _, _, _, _], defers := _ } _
  refine alongK_read (.int .i64 H1) rfl rfl (fun wx hS => ex_load Tryz.isAgg3 rfl rfl wx ((HA.out wx hS).2)) ?_
  change AlongK _ _ _ _ _ { tmps := #[.agg #[.int .i64 V1, .int .i64 H1, .string B1], .agg #[.int .i64 V2, .int .i64 H2, .string B2], .pointer (some ⟨AB, 0, none⟩), .pointer (some ⟨BB, 0, none⟩), .bool false, .pointer (some ⟨AB, 0, none⟩), .int .i64 V1, .pointer (some ⟨BB, 0, none⟩), .int .i64 V2, _, .pointer (some ⟨AB, 1, none⟩), .int .i64 H1, _, _, _, _, _, _], defers := _ } _
  refine alongK_read (.pointer (some ⟨BB, 1, none⟩)) rfl rfl (fun wx hS => ex_field rfl rfl wx (by simp [go_sem])) ?_
  change AlongK _ _ _ _ _ { tmps := #[.agg #[.int .i64 V1, .int .i64 H1, .string B1], .agg #[.int .i64 V2, .int .i64 H2, .string B2], .pointer (some ⟨AB, 0, none⟩), .pointer (some ⟨BB, 0, none⟩), .bool false, .pointer (some ⟨AB, 0, none⟩), .int .i64 V1, .pointer (some ⟨BB, 0, none⟩), .int .i64 V2, _, .pointer (some ⟨AB, 1, none⟩), .int .i64 H1, .pointer (some ⟨BB, 1, none⟩), _, _, _, _, _], defers := _ } _
  refine alongK_read (.int .i64 H2) rfl rfl (fun wx hS => ex_load Tryz.isAgg3 rfl rfl wx ((HB.out wx hS).2)) ?_
  change AlongK _ _ _ _ _ { tmps := #[.agg #[.int .i64 V1, .int .i64 H1, .string B1], .agg #[.int .i64 V2, .int .i64 H2, .string B2], .pointer (some ⟨AB, 0, none⟩), .pointer (some ⟨BB, 0, none⟩), .bool false, .pointer (some ⟨AB, 0, none⟩), .int .i64 V1, .pointer (some ⟨BB, 0, none⟩), .int .i64 V2, _, .pointer (some ⟨AB, 1, none⟩), .int .i64 H1, .pointer (some ⟨BB, 1, none⟩), .int .i64 H2, _, _, _, _], defers := _ } _
  refine alongK_step ?_
  refine opK_call (vs := [.int .i64 V1, .int .i64 V2]) rfl rfl rfl (enters_of Tryz.func34 (by kernel_rfl) rfl) rfl ?_
  with_reducible refine Calls.mono (Hc1.out _) ?_
  rintro e w4 ⟨rfl, hw4⟩
  subst hw4
  refine ⟨_, rfl, (fun x => Up wz.drew x), (fun x hx => hx), (Up.refl _), ?_⟩
  change AlongK _ _ _ _ _ { tmps := #[.agg #[.int .i64 V1, .int .i64 H1, .string B1], .agg #[.int .i64 V2, .int .i64 H2, .string B2], .pointer (some ⟨AB, 0, none⟩), .pointer (some ⟨BB, 0, none⟩), .bool false, .pointer (some ⟨AB, 0, none⟩), .int .i64 V1, .pointer (some ⟨BB, 0, none⟩), .int .i64 V2, .int .i64 C1, .pointer (some ⟨AB, 1, none⟩), .int .i64 H1, .pointer (some ⟨BB, 1, none⟩), .int .i64 H2, _, _, _, _], defers := _ } _
  refine alongK_step ?_
  refine opK_call (vs := [.int .i64 H1, .int .i64 H2]) rfl rfl rfl (enters_of Tryz.func34 (by kernel_rfl) rfl) rfl ?_
  with_reducible refine Calls.mono (Hc2.out _) ?_
  rintro e w9 ⟨rfl, hw9⟩
  subst hw9
  refine ⟨_, rfl, (fun x => Up wz.drew x), (fun x hx => hx), (Up.refl _), ?_⟩
  change AlongK _ _ _ _ _ { tmps := #[.agg #[.int .i64 V1, .int .i64 H1, .string B1], .agg #[.int .i64 V2, .int .i64 H2, .string B2], .pointer (some ⟨AB, 0, none⟩), .pointer (some ⟨BB, 0, none⟩), .bool false, .pointer (some ⟨AB, 0, none⟩), .int .i64 V1, .pointer (some ⟨BB, 0, none⟩), .int .i64 V2, .int .i64 C1, .pointer (some ⟨AB, 1, none⟩), .int .i64 H1, .pointer (some ⟨BB, 1, none⟩), .int .i64 H2, .int .i64 C2, _, _, _], defers := _ } _
  refine alongK_step ?_
  have hrun10 := Hbs.out wz.drew
  refine opK_run (.slice (some ⟨wz.drew.heap.size, 0, none⟩) 2 2) _ rfl rfl (ex_slice2 _ _ hrun10 rfl rfl rfl) (fun x => Up (wz.drew.alloc (.cells #[.int .i64 C1, .int .i64 C2] 3)) x) (fun x hx => Up.trans (Up.alloc (Up.refl wz.drew) _) hx) (Up.refl _) ?_
  change AlongK _ _ _ _ _ { tmps := #[.agg #[.int .i64 V1, .int .i64 H1, .string B1], .agg #[.int .i64 V2, .int .i64 H2, .string B2], .pointer (some ⟨AB, 0, none⟩), .pointer (some ⟨BB, 0, none⟩), .bool false, .pointer (some ⟨AB, 0, none⟩), .int .i64 V1, .pointer (some ⟨BB, 0, none⟩), .int .i64 V2, .int .i64 C1, .pointer (some ⟨AB, 1, none⟩), .int .i64 H1, .pointer (some ⟨BB, 1, none⟩), .int .i64 H2, .int .i64 C2, .slice (some ⟨wz.drew.heap.size, 0, none⟩) 2 2, _, _], defers := _ } _
  have hU0 := Up.alloc (Up.drew1 wz) (.cells #[.int .i64 C1, .int .i64 C2] 3)
  have HB5 := Lib.hid (heap_alloc_new wz.drew (.cells #[.int .i64 C1, .int .i64 C2] 3))
  generalize wz.drew.heap.size = b5 at HB5 ⊢
  generalize wz.drew.alloc (.cells #[.int .i64 C1, .int .i64 C2] 3) = w5 at HB5 hU0 ⊢
  refine alongK_step ?_
  refine opK_call (vs := [.slice (some ⟨b5, 0, none⟩) 2 2]) rfl rfl rfl (enters_of Tryz.func33 (by kernel_rfl) rfl) rfl ?_
  with_reducible refine Calls.mono (Hor.out b5 w5 HB5.out) ?_
  rintro e w11 ⟨rfl, hw11⟩
  have hq11 := hw11.symm
  subst hq11
  refine ⟨_, rfl, (fun x => Up w5 x), (fun x hx => hx), (Up.refl _), ?_⟩
  change AlongK _ _ _ _ _ { tmps := #[.agg #[.int .i64 V1, .int .i64 H1, .string B1], .agg #[.int .i64 V2, .int .i64 H2, .string B2], .pointer (some ⟨AB, 0, none⟩), .pointer (some ⟨BB, 0, none⟩), .bool false, .pointer (some ⟨AB, 0, none⟩), .int .i64 V1, .pointer (some ⟨BB, 0, none⟩), .int .i64 V2, .int .i64 C1, .pointer (some ⟨AB, 1, none⟩), .int .i64 H1, .pointer (some ⟨BB, 1, none⟩), .int .i64 H2, .int .i64 C2, .slice (some ⟨b5, 0, none⟩) 2 2, .int .i64 C3, _], defers := _ } _
  refine alongK_read (.bool D) rfl rfl (fun wx hS => ex_bin rfl rfl rfl wx (Hgt.out wx)) ?_
  change AlongK _ _ _ _ _ { tmps := #[.agg #[.int .i64 V1, .int .i64 H1, .string B1], .agg #[.int .i64 V2, .int .i64 H2, .string B2], .pointer (some ⟨AB, 0, none⟩), .pointer (some ⟨BB, 0, none⟩), .bool false, .pointer (some ⟨AB, 0, none⟩), .int .i64 V1, .pointer (some ⟨BB, 0, none⟩), .int .i64 V2, .int .i64 C1, .pointer (some ⟨AB, 1, none⟩), .int .i64 H1, .pointer (some ⟨BB, 1, none⟩), .int .i64 H2, .int .i64 C2, .slice (some ⟨b5, 0, none⟩) 2 2, .int .i64 C3, .bool D], defers := _ } _
  refine alongK_read (.bool D) rfl rfl (fun wx hS => ex_assign (by rfl) (by rfl) wx) ?_
  change AlongK _ _ _ _ _ { tmps := #[.agg #[.int .i64 V1, .int .i64 H1, .string B1], .agg #[.int .i64 V2, .int .i64 H2, .string B2], .pointer (some ⟨AB, 0, none⟩), .pointer (some ⟨BB, 0, none⟩), .bool D, .pointer (some ⟨AB, 0, none⟩), .int .i64 V1, .pointer (some ⟨BB, 0, none⟩), .int .i64 V2, .int .i64 C1, .pointer (some ⟨AB, 1, none⟩), .int .i64 H1, .pointer (some ⟨BB, 1, none⟩), .int .i64 H2, .int .i64 C2, .slice (some ⟨b5, 0, none⟩) 2 2, .int .i64 C3, .bool D], defers := _ } _
  refine alongK_done ?_
  go_wp2
  go_ret
  exact ⟨rfl, Up.trans HUz.out hU0⟩
end
end

/-
  cert: whether one is the first; Check of what is so or has no votes; the page's example.
-/
section
set_option maxRecDepth 100000
section
set_option linter.unusedVariables false
open Go.RowKit

theorem toList_dec {a b : ByteArray} : (a.toList == b.toList) = decide (a = b) := by
  by_cases h : a = b
  · subst h; simp
  · rw [decide_eq_false h]; exact beq_eq_false_iff_ne.2 fun e => h (toList_inj e)

set_option maxHeartbeats 1000000 in
theorem isFirst_any (V H : Int) (B : ByteArray) (u : Option Addr) (n c : Nat) (b : Bool) (hb : b = decide (V = 0 ∧ H = 0 ∧ B = strOfNums gen32)) (w : World) :
    Calls Tryz.prog 30 #[.agg #[.int .i64 V, .int .i64 H, .string B, .slice u n c]] w fun e w' => e = .returned (.bool (b && ((n : Int) == 0))) ∧ Up w w' := by
  have HM := Lib.hid (fun V H B wx => mark_any V H B u n c wx)
  have HM0 := Lib.hid (fun wx => mark_any 0 0 (strOfNums gen32) none 0 0 wx)
  have HF := Lib.hid (fun wx => first_any wx)
  generalize strOfNums gen32 = GS at hb HM0 HF ⊢
  have HUz := Lib.hid (Up.alloc (Up.refl w) (.cells #[.int .i64 V, .int .i64 H, .string B, .slice u n c] 24))
  have HB0 := Lib.hid (heap_alloc_new w (.cells #[.int .i64 V, .int .i64 H, .string B, .slice u n c] 24))
  have heq : ∀ wx : World, (binOp .eql 27 (.agg #[.int .i64 V, .int .i64 H, .string B]) (.agg #[.int .i64 0, .int .i64 0, .string GS])).run Tryz.prog wx = .ok (.bool b) wx := fun wx => by
    subst hb
    simp [go_sem, toList_dec, Bool.decide_and]
    repeat' split
    all_goals simp [*]
  have heg : ∀ (x y : Operand) (wx : World), (eqGuard .eql 27 x y (.agg #[.int .i64 V, .int .i64 H, .string B]) (.agg #[.int .i64 0, .int .i64 0, .string GS])).run Tryz.prog wx = .ok () wx := fun x y wx => by simp [go_sem]
  clear hb
  obtain ⟨hc0, hc1, hc2, hc3⟩ := ct_cells HB0.out
  go_enter Tryz.func30, Tryz.ntmps30
  go_wp2_with fail
  with_reducible refine Calls.mono (HM.out _ _ _ _) ?_
  rintro e w1 ⟨rfl, hU1⟩
  have B1 := Lib.hid ((hU1.block _ (lt_of_block HB0.out)).trans HB0.out)
  have HU1 := Lib.hid (Up.trans HUz.out hU1)
  clear hU1
  go_wp2_with fail
  with_reducible refine Calls.mono (HF.out _) ?_
  rintro e w2 ⟨rfl, hU2⟩
  have B2 := Lib.hid ((hU2.block _ (lt_of_block B1.out)).trans B1.out)
  have HU2 := Lib.hid (Up.trans HU1.out hU2)
  clear hU2
  go_wp2_with fail
  with_reducible refine Calls.mono (HM0.out _) ?_
  rintro e w3 ⟨rfl, hU3⟩
  have B3 := Lib.hid ((hU3.block _ (lt_of_block B2.out)).trans B2.out)
  have HU3 := Lib.hid (Up.trans HU2.out hU3)
  clear hU3 hc0 hc1 hc2 hc3
  obtain ⟨hc0, hc1, hc2, hc3⟩ := ct_cells B3.out
  cases b with
  | false =>
    go_wp2
    go_ret
    exact ⟨rfl, HU3.out⟩
  | true =>
    go_wp2
    go_ret
    exact ⟨rfl, HU3.out⟩

theorem check_first (w : World) : Calls Tryz.prog 12 #[.agg #[.int .i64 0, .int .i64 0, .string (strOfNums gen32), .slice none 0 0], .slice none 0 0, .int .i64 3] w fun e w' => e = .returned (.int .i64 0) ∧ Up w w' := by
  have HF := Lib.hid (fun wx => isFirst_any 0 0 (strOfNums gen32) none 0 0 true (by simp) wx)
  generalize strOfNums gen32 = GS at HF ⊢
  have HUz := Lib.hid (Up.alloc (Up.refl w) (.cells #[.int .i64 0, .int .i64 0, .string GS, .slice none 0 0] 24))
  have HB0 := Lib.hid (heap_alloc_new w (.cells #[.int .i64 0, .int .i64 0, .string GS, .slice none 0 0] 24))
  obtain ⟨hc0, hc1, hc2, hc3⟩ := ct_cells HB0.out
  go_enter Tryz.func12, Tryz.ntmps12
  go_wp2_with fail
  with_reducible refine Calls.mono (HF.out _) ?_
  rintro e w1 ⟨rfl, hU1⟩
  have HU1 := Lib.hid (Up.trans HUz.out hU1)
  clear hU1
  simp only [Bool.true_and, Int.natCast_zero, beq_self_eq_true]
  go_wp2
  go_ret
  exact ⟨rfl, HU1.out⟩

set_option maxHeartbeats 1000000 in
/-- none votes, some are asked -/
theorem voted_none (V H : Int) (B : ByteArray) (ra : Option Addr) (rn rc : Nat) (w : World) : Calls Tryz.prog 31 #[.agg #[.int .i64 V, .int .i64 H, .string B, .slice none 0 0], .slice ra rn rc, .int .i64 3] w fun e w' => e = .returned (.bool false) ∧ Up w w' := by
  have hb0 := heap_alloc_new w (.cells #[.int .i64 V, .int .i64 H, .string B, .slice none 0 0] 24)
  have hb1 := ((Up.alloc (Up.refl (w.alloc (.cells #[.int .i64 V, .int .i64 H, .string B, .slice none 0 0] 24))) (.cells #[.slice ra rn rc] 25)).block _ (lt_of_block hb0)).trans hb0
  obtain ⟨hc0, hc1, hc2, hc3⟩ := ct_cells hb1
  clear hb0 hb1
  go_enter Tryz.func31, Tryz.ntmps31
  go_wp2
  go_ret
  exact ⟨rfl, Up.alloc (Up.alloc (Up.refl w) _) _⟩
theorem check_none (w : World) : Calls Tryz.prog 12 #[.agg #[.int .i64 0, .int .i64 0, .string ⟨#[]⟩, .slice none 0 0], .slice none 0 0, .int .i64 3] w fun e w' => e = .returned (.int .i64 41) ∧ Up w w' := by
  have HF := Lib.hid (fun wx => isFirst_any 0 0 ⟨#[]⟩ none 0 0 false (decide_eq_false (fun h => by have := congrArg ByteArray.size h.2.2; rw [strOfNums_size] at this; simp [gen32] at this; exact absurd this (by decide))).symm wx)
  have HV := Lib.hid (fun wx => voted_none 0 0 ⟨#[]⟩ none 0 0 wx)
  have HUz := Lib.hid (Up.alloc (Up.refl w) (.cells #[.int .i64 0, .int .i64 0, .string ⟨#[]⟩, .slice none 0 0] 24))
  have HB0 := Lib.hid (heap_alloc_new w (.cells #[.int .i64 0, .int .i64 0, .string ⟨#[]⟩, .slice none 0 0] 24))
  obtain ⟨hc0, hc1, hc2, hc3⟩ := ct_cells HB0.out
  go_enter Tryz.func12, Tryz.ntmps12
  go_wp2_with fail
  with_reducible refine Calls.mono (HF.out _) ?_
  rintro e w1 ⟨rfl, hU1⟩
  have B1 := Lib.hid ((hU1.block _ (lt_of_block HB0.out)).trans HB0.out)
  have HU1 := Lib.hid (Up.trans HUz.out hU1)
  clear hU1 hc0 hc1 hc2 hc3
  obtain ⟨hc0, hc1, hc2, hc3⟩ := ct_cells B1.out
  simp only [Bool.false_and]
  go_wp2_with fail
  with_reducible refine Calls.mono (HV.out _) ?_
  rintro e w2 ⟨rfl, hU2⟩
  have HU2 := Lib.hid (Up.trans HU1.out hU2)
  clear hU2
  go_wp2
  go_ret
  exact ⟨rfl, HU2.out⟩
set_option maxHeartbeats 1000000 in
theorem ctAlive_any (w : World) : Calls Tryz.prog 16 #[] w fun e w' => e = .returned (.bool true) ∧ Up w w' := by
  have H1 := Lib.hid first_any
  have H2 := Lib.hid check_first
  have H3 := Lib.hid check_none
  generalize strOfNums gen32 = GS at H1 H2
  go_enter Tryz.func16, Tryz.ntmps16
  go_wp2_with fail
  with_reducible refine Calls.mono (H1.out _) ?_
  rintro e w1 ⟨rfl, hU1⟩
  have HU1 := Lib.hid hU1
  clear hU1
  go_wp2_with fail
  with_reducible refine Calls.mono (H2.out _) ?_
  rintro e w2 ⟨rfl, hU2⟩
  have HU2 := Lib.hid (Up.trans HU1.out hU2)
  clear hU2
  go_wp2_with fail
  with_reducible refine Calls.mono (H3.out _) ?_
  rintro e w3 ⟨rfl, hU3⟩
  have HU3 := Lib.hid (Up.trans HU2.out hU3)
  clear hU3
  go_wp2
  go_ret
  exact ⟨rfl, HU3.out⟩
end
end

/-
  A mark that came in by value, opened.
-/
section
set_option maxRecDepth 100000
section
set_option linter.unusedVariables false
open Go.ChangeShapes Go.WideShapes Go.ChangeAt Go.RowKit Go.Deep Go.Joins
variable {H : Type} {enc : TypeId × Value → H} {W : World}

theorem array_three {α : Type} {cs : Array α} {c0 c1 c2 : α} (h : cs.size = 3) (h0 : cs[0]? = some c0) (h1 : cs[1]? = some c1) (h2 : cs[2]? = some c2) : cs = #[c0, c1, c2] := by
  apply Array.ext_getElem?
  intro i
  by_cases hi : i < 3
  · have hc : i = 0 ∨ i = 1 ∨ i = 2 := by omega
    rcases hc with rfl | rfl | rfl
    · rw [h0]; rfl
    · rw [h1]; rfl
    · rw [h2]; rfl
  · rw [Array.getElem?_eq_none (by omega), Array.getElem?_eq_none (by simp; omega)]

theorem open_mk {r : Reach} {b0 : Nat} {v : Value} {d : DataW H} {ps : List MemPlace} (hv : Value.okWide Tryz.prog W r b0 27 v) (h : DataW.Trod enc Tryz.prog W 0 (fun _ => true) true 27 v d ps) :
    ∃ (V Hh : Int) (B : ByteArray), v = .agg (mkC V Hh B) ∧ (Lit.int .i64 V).wf = true ∧ (Lit.int .i64 Hh).wf = true ∧ B.size ≤ maxLen := by
  obtain ⟨m, cs, ys, rfl, hsz, _, _, hf⟩ := open_agg Tryz.underlying27 (by kernel_rfl) (by kernel_rfl) hv h
  obtain ⟨c0, y0, k0, _, t0⟩ := hf 0 _ rfl
  obtain ⟨c1, y1, k1, _, t1⟩ := hf 1 _ rfl
  obtain ⟨c2, y2, k2, _, t2⟩ := hf 2 _ rfl
  obtain ⟨x0, e0, _, w0⟩ := DataW.trod_int Tryz.underlying3 t0
  obtain ⟨x1, e1, _, w1⟩ := DataW.trod_int Tryz.underlying3 t1
  obtain ⟨s, e2, _, ws⟩ := DataW.trod_string Tryz.underlying9 t2
  simp only [List.cons.injEq, and_true] at e0 e1 e2
  subst e0 e1 e2
  refine ⟨x0, x1, s, ?_, w0, w1, ws⟩
  rw [array_three hsz k0 k1 k2]
  unfold mkC
  rfl
end
end
end Go.Proofs.YtfenmhddlojahaaGreat
