import Derived.Shelf.Strings.Repeat
import Derived.Test.YtnnjoeppcbbblaaUps
/-
  cert: strings.Repeat, the first cert, marks and their ranks.
-/
namespace Go.Proofs.Ytnnjoeppcbbblaa
set_option maxRecDepth 100000
section
set_option linter.unusedVariables false
open Go.RowKit

def repeat105_ren : Go.Shelf.Ren := ⟨fun | 99 => 37 | 105 => 28 | 165 => 38 | 166 => 39 | 169 => 41 | 170 => 40 | 206 => 49 | 212 => 36 | 240 => 50 | 241 => 51 | 263 => 47 | 264 => 48 | 276 => 68 | 277 => 69 | n => n, fun | 0 => 0 | 3 => 3 | 4 => 4 | 5 => 5 | 9 => 9 | 20 => 20 | 37 => 67 | 46 => 62 | 51 => 83 | 53 => 86 | 70 => 66 | 72 => 69 | 75 => 72 | 76 => 73 | 109 => 63 | 127 => 89 | 146 => 84 | 148 => 87 | 164 => 102 | 80 => 76 | n => n, fun | n => n⟩
theorem repeat105 : Go.Proofs.Lays.n105 Try.prog repeat105_ren := {
  mixed := by kernel_rfl
  f99 := Try.func37.trans (congrArg some (by kernel_rfl))
  f105 := Try.func28.trans (congrArg some (by kernel_rfl))
  f165 := Try.func38.trans (congrArg some (by kernel_rfl))
  f166 := Try.func39.trans (congrArg some (by kernel_rfl))
  f169 := Try.func41.trans (congrArg some (by kernel_rfl))
  f170 := Try.func40.trans (congrArg some (by kernel_rfl))
  f206 := Try.func49.trans (congrArg some (by kernel_rfl))
  f212 := Try.func36.trans (congrArg some (by kernel_rfl))
  f240 := Try.func50.trans (congrArg some (by kernel_rfl))
  f241 := Try.func51.trans (congrArg some (by kernel_rfl))
  f263 := Try.func47.trans (congrArg some (by kernel_rfl))
  f264 := Try.func48.trans (congrArg some (by kernel_rfl))
  f276 := Try.func68.trans (congrArg some (by kernel_rfl))
  f277 := Try.func69.trans (congrArg some (by kernel_rfl))
  t0 := Try.underlying0
  a0 := Try.isAgg0
  z0 := Try.sizeOf0
  v0 := Try.zeroValue0
  t3 := Try.underlying3
  a3 := Try.isAgg3
  z3 := Try.sizeOf3
  v3 := Try.zeroValue3
  t4 := Try.underlying4
  a4 := Try.isAgg4
  z4 := Try.sizeOf4
  v4 := Try.zeroValue4
  t5 := Try.underlying5
  a5 := Try.isAgg5
  z5 := Try.sizeOf5
  v5 := Try.zeroValue5
  t9 := Try.underlying9
  a9 := Try.isAgg9
  z9 := Try.sizeOf9
  v9 := Try.zeroValue9
  t20 := Try.underlying20
  a20 := Try.isAgg20
  z20 := Try.sizeOf20
  v20 := Try.zeroValue20
  t37 := Try.underlying67
  a37 := Try.isAgg67
  z37 := Try.sizeOf67
  v37 := Try.zeroValue67
  t46 := Try.underlying62
  a46 := Try.isAgg62
  z46 := Try.sizeOf62
  v46 := Try.zeroValue62
  t51 := Try.underlying83
  a51 := Try.isAgg83
  z51 := Try.sizeOf83
  v51 := Try.zeroValue83
  t53 := Try.underlying86
  a53 := Try.isAgg86
  z53 := Try.sizeOf86
  v53 := Try.zeroValue86
  t70 := Try.underlying66
  a70 := Try.isAgg66
  z70 := Try.sizeOf66
  v70 := Try.zeroValue66
  t72 := Try.underlying69
  a72 := Try.isAgg69
  z72 := Try.sizeOf69
  v72 := Try.zeroValue69
  t75 := Try.underlying72
  a75 := Try.isAgg72
  z75 := Try.sizeOf72
  v75 := Try.zeroValue72
  t76 := Try.underlying73
  a76 := Try.isAgg73
  z76 := Try.sizeOf73
  v76 := Try.zeroValue73
  t109 := Try.underlying63
  a109 := Try.isAgg63
  z109 := Try.sizeOf63
  v109 := Try.zeroValue63
  t127 := Try.underlying89
  a127 := Try.isAgg89
  z127 := Try.sizeOf89
  v127 := Try.zeroValue89
  t146 := Try.underlying84
  a146 := Try.isAgg84
  z146 := Try.sizeOf84
  v146 := Try.zeroValue84
  t148 := Try.underlying87
  a148 := Try.isAgg87
  z148 := Try.sizeOf87
  v148 := Try.zeroValue87
  t164 := Try.underlying102
  a164 := Try.isAgg102
  z164 := Try.sizeOf102
  v164 := Try.zeroValue102 }
theorem repeatExtra : Builder.Extra Try.prog repeat105_ren := {
  sizeBuilder := by kernel_rfl
  liesBuilder := by kernel_rfl
  t5 := Try.underlying5
  a5 := Try.isAgg5
  z5 := Try.sizeOf5
  v5 := Try.zeroValue5
  infoByte := by kernel_rfl
  cellsByte := by kernel_rfl
  sizeByte := by kernel_rfl
  neB5 := by decide }
/-- the first block's name -/
def gen32 : List Int := List.replicate 32 0
theorem repeat_zero (w : World) : Calls Try.prog 28 #[.string ⟨#[0]⟩, .int .i64 32] w fun e w' => e = .returned (.string (strOfNums gen32)) ∧ Below w.heap.size w w' := by
  have h := Any.strings_Repeat repeat105 repeatExtra ⟨#[0]⟩ 32 w (by omega) (by show 1 * 32 ≤ _; omega)
  refine Calls.mono h ?_
  rintro e w' ⟨rfl, hb⟩
  exact ⟨rfl, hb⟩

theorem info_ct : (Try.prog.info? 26).map (·.size) = some 4 := by kernel_rfl
theorem info_mk : (Try.prog.info? 24).map (·.size) = some 3 := by kernel_rfl
theorem one_ct (V H : Int) (B : ByteArray) (u : Option Addr) (n c : Nat) : (#[.int .i64 V, .int .i64 H, .string B, .slice u n c] : Array Value).all (·.oneCell') = true := by simp [Value.oneCell']
theorem one_mk (V H : Int) (B : ByteArray) : (#[.int .i64 V, .int .i64 H, .string B] : Array Value).all (·.oneCell') = true := by simp [Value.oneCell']
theorem ct_cells {W : World} {B : Nat} {c0 c1 c2 c3 : Value} {ty : TypeId} {fr : Nat × Nat} (h : W.heap[B]? = some (.cells #[c0, c1, c2, c3] ty fr)) :
    W.cell? ⟨B, 0, none⟩ = some c0 ∧ W.cell? ⟨B, 1, none⟩ = some c1 ∧ W.cell? ⟨B, 2, none⟩ = some c2 ∧ W.cell? ⟨B, 3, none⟩ = some c3 :=
  ⟨cell_of_row _ _ 0 _ _ _ h, cell_of_row _ _ 1 _ _ _ h, cell_of_row _ _ 2 _ _ _ h, cell_of_row _ _ 3 _ _ _ h⟩
theorem results_ct {fn : Func} {p : Tmp} (h : fn.results = #[.cell p 26]) (tmps : Array Value) (w : World) (B : Nat) (cs : Array Value) (hp : tmps.getD p undef = .pointer (some ⟨B, 0, none⟩))
    (hg : w.heap[B]? = some (.cells cs 26 (0, 0))) (hs : cs.size = 4) :
    (results fn tmps).run Try.prog w = .ok (.agg cs) w := by
  have hp' : tmps[p]?.getD undef = .pointer (some ⟨B, 0, none⟩) := by simpa using hp
  have hl := run_loadVar_row (P := Try.prog) w B 26 26 cs (0, 0) _ hg Try.underlying26 rfl (by rw [info_ct, hs])
  simp [results, h, hp', asAddr, hl]
theorem results_mk {fn : Func} {p : Tmp} (h : fn.results = #[.cell p 24]) (tmps : Array Value) (w : World) (B : Nat) (cs : Array Value) (hp : tmps.getD p undef = .pointer (some ⟨B, 0, none⟩))
    (hg : w.heap[B]? = some (.cells cs 24 (0, 0))) (hs : cs.size = 3) :
    (results fn tmps).run Try.prog w = .ok (.agg cs) w := by
  have hp' : tmps[p]?.getD undef = .pointer (some ⟨B, 0, none⟩) := by simpa using hp
  have hl := run_loadVar_row (P := Try.prog) w B 24 24 cs (0, 0) _ hg Try.underlying24 rfl (by rw [info_mk, hs])
  simp [results, h, hp', asAddr, hl]

/-- a mark's cells -/
def mkC (V H : Int) (B : ByteArray) : Array Value := #[.int .i64 V, .int .i64 H, .string B]

set_option maxHeartbeats 400000 in
theorem first_any (w : World) : Calls Try.prog 14 #[] w fun e w' => e = .returned (.agg #[.int .i64 0, .int .i64 0, .string (strOfNums gen32), .slice none 0 0]) ∧ Up w w' := by
  have HR : Hid (∀ wx, Calls Try.prog 28 #[.string ⟨#[0]⟩, .int .i64 32] wx fun e w' => e = .returned (.string (strOfNums gen32)) ∧ Up wx w') := fun wx => repeat_zero wx
  generalize strOfNums gen32 = GS at HR ⊢
  have HB0 := Lib.hid (heap_alloc_new w (.cells #[.int .i64 0, .int .i64 0, .string ⟨#[]⟩, .slice none 0 0] 26))
  have HU0 := Lib.hid (Up.alloc (Up.refl w) (.cells #[.int .i64 0, .int .i64 0, .string ⟨#[]⟩, .slice none 0 0] 26))
  go_enter Try.func14, Try.ntmps14
  go_wp2_with fail
  with_reducible refine Calls.mono (HR.out _) ?_
  rintro e w1 ⟨rfl, hU1⟩
  have B1 := Lib.hid ((hU1.block _ (lt_of_block HB0.out)).trans HB0.out)
  have HU1 := Lib.hid (Up.trans HU0.out hU1)
  clear hU1
  go_wp2_with (refine wpList_store_agg rfl 26 (.tmp 0) (.tmp 2) rfl w.heap.size _ #[.int .i64 0, .int .i64 0, .string GS, .slice none 0 0] rfl rfl 26 B1.out info_ct rfl (one_ct _ _ _ _ _ _) ?_; intro w12 hg12 hgr12)
  exact bodyPost_ret (results_ct rfl _ _ _ _ rfl hg12 rfl) rfl ⟨rfl, up_at HU1.out hgr12 (Nat.le_refl _)⟩

set_option maxHeartbeats 400000 in
theorem mark_any (V H : Int) (B : ByteArray) (u : Option Addr) (n c : Nat) (w : World) : Calls Try.prog 32 #[.agg #[.int .i64 V, .int .i64 H, .string B, .slice u n c]] w fun e w' => e = .returned (.agg #[.int .i64 V, .int .i64 H, .string B]) ∧ Up w w' := by
  have HU0 := Lib.hid (Up.alloc (Up.alloc (Up.refl w) (.cells #[.int .i64 V, .int .i64 H, .string B, .slice u n c] 26)) (.cells #[.int .i64 0, .int .i64 0, .string ⟨#[]⟩] 24))
  have hb0 := heap_alloc_new w (.cells #[.int .i64 V, .int .i64 H, .string B, .slice u n c] 26)
  have hb1 := ((Up.alloc (Up.refl (w.alloc (.cells #[.int .i64 V, .int .i64 H, .string B, .slice u n c] 26))) (.cells #[.int .i64 0, .int .i64 0, .string ⟨#[]⟩] 24)).block _ (lt_of_block hb0)).trans hb0
  obtain ⟨hc0, hc1, hc2, hc3⟩ := ct_cells hb1
  have B1 := Lib.hid (heap_alloc_new (w.alloc (.cells #[.int .i64 V, .int .i64 H, .string B, .slice u n c] 26)) (.cells #[.int .i64 0, .int .i64 0, .string ⟨#[]⟩] 24))
  clear hb0 hb1
  go_enter Try.func32, Try.ntmps32
  go_wp2_with (refine wpList_store_agg rfl 24 (.tmp 2) (.tmp 9) rfl (w.alloc (.cells #[.int .i64 V, .int .i64 H, .string B, .slice u n c] 26)).heap.size _ #[.int .i64 V, .int .i64 H, .string B] (by simp; rfl) rfl 24 B1.out info_mk rfl (one_mk _ _ _) ?_; intro w12 hg12 hgr12)
  exact bodyPost_ret (results_mk rfl _ _ _ _ (by simp; rfl) hg12 rfl) rfl ⟨rfl, up_at HU0.out hgr12 (by simp)⟩

/-- which is above: -1, 0, 1 -/
def cmpI (a b : Int) : Int := if a < b then -1 else if b < a then 1 else 0
theorem isNaN_any (a : Int) (w : World) : Calls Try.prog 29 #[.int .i64 a] w fun e w' => e = .returned (.bool false) ∧ w' = w := by
  go_enter Try.func29, Try.ntmps29
  go_wp2
  go_ret
  exact ⟨by simp, rfl⟩
set_option maxHeartbeats 400000 in
theorem cmp_any (a b : Int) (w : World) : Calls Try.prog 16 #[.int .i64 a, .int .i64 b] w fun e w' => e = .returned (.int .i64 (cmpI a b)) ∧ w' = w := by
  have H := Lib.hid isNaN_any
  by_cases h1 : a < b
  · rw [show cmpI a b = -1 from if_pos h1]
    go_enter Try.func16, Try.ntmps16
    go_wp2_with fail
    with_reducible refine Calls.mono (H.out _ _) ?_
    rintro e w1 ⟨rfl, rfl⟩
    go_wp2_with fail
    with_reducible refine Calls.mono (H.out _ _) ?_
    rintro e w1 ⟨rfl, rfl⟩
    go_wp2
    go_ret
    exact ⟨rfl, rfl⟩
  · by_cases h2 : b < a
    · rw [show cmpI a b = 1 from (if_neg h1).trans (if_pos h2)]
      go_enter Try.func16, Try.ntmps16
      go_wp2_with fail
      with_reducible refine Calls.mono (H.out _ _) ?_
      rintro e w1 ⟨rfl, rfl⟩
      go_wp2_with fail
      with_reducible refine Calls.mono (H.out _ _) ?_
      rintro e w1 ⟨rfl, rfl⟩
      go_wp2
      go_ret
      exact ⟨rfl, rfl⟩
    · rw [show cmpI a b = 0 from (if_neg h1).trans (if_neg h2)]
      go_enter Try.func16, Try.ntmps16
      go_wp2_with fail
      with_reducible refine Calls.mono (H.out _ _) ?_
      rintro e w1 ⟨rfl, rfl⟩
      go_wp2_with fail
      with_reducible refine Calls.mono (H.out _ _) ?_
      rintro e w1 ⟨rfl, rfl⟩
      go_wp2
      go_ret
      exact ⟨rfl, rfl⟩
end
end Go.Proofs.Ytnnjoeppcbbblaa
