import Derived.Laws.OwnMore
import Derived.Test.YtaepdmmlejdifaaAlong
import Derived.Test.YtaepdmmlejdifaaJnRef
/-
  JournalTells: the walk.
-/
namespace Go.Proofs.Ytaepdmmlejdifaa
set_option maxRecDepth 100000
section
set_option linter.unusedVariables false
open Go.RowKit

/-- how the octets come: those that came in, or as many zeros -/
def TellsIn (v : Value) (n : Int) (a : Option Addr) (zs : List Int) (cap : Nat) (w w1 : World) : Prop :=
  (v = .slice a zs.length cap ∧ w1 = w ∧ n ≤ 16384) ∨ (v = .slice a zs.length cap ∧ w1 = w ∧ 16384 < n ∧ 16434 ≤ n) ∨
  (∃ a0 n0 c0, v = .slice a0 n0 c0 ∧ 16384 < n ∧ n < 16434 ∧ (Instr.makeSlice 22 (.int .i64 n) (.int .i64 n)).run Try.prog w = .ok (.slice a zs.length cap) w1)

set_option maxHeartbeats 2000000 in
theorem jnTells_short (v : Value) (n : Int) (a : Option Addr) (zs : List Int) (cap : Nat) (w w1 : World) (hin : TellsIn v n a zs cap w w1) (hi : Ints .u8 w1 (.slice a zs.length cap) zs) (hu : U8s zs) (hl : zs.length ≤ 16384) (u1 : Up w w1) :
    Calls Try.prog 3 #[v, .int .i64 n] w fun e w' => e = .returned (.bool true) ∧ Up w w' := by
  have U1 := Lib.hid u1
  have Hf := Lib.hid (frameFn_any _ zs w1 hi hl)
  have Hs : Hid (∀ wx, Up w1 wx → Calls Try.prog 8 #[.slice a zs.length cap] wx fun e w' => ∃ a7 c7, e = .returned (.tuple #[.slice a7 (scan zs).1.length c7, .int .i64 ((scan zs).2 : Nat)]) ∧ Rows8 w' (.slice a7 (scan zs).1.length c7) (scan zs).1 ∧ Up wx w') := Lib.hid fun wx hx => (scan_any _ zs wx (hi.up hx) hu (by omega)).mono fun e w' ⟨r, h1, h2, h3⟩ => by
    obtain ⟨a7, c7, rfl, _, _, _⟩ := id h2
    exact ⟨a7, c7, h1, h2.rows, h3⟩
  have Hr : Hid (∀ wx, Up w1 wx → Calls Try.prog 9 #[.slice a zs.length cap] wx fun e w' => ∃ a7 c7, e = .returned (.tuple #[.slice a7 (scan zs).1.length c7, .int .i64 ((scan zs).2 : Nat)]) ∧ Rows8 w' (.slice a7 (scan zs).1.length c7) (scan zs).1 ∧ Up wx w') := Lib.hid fun wx hx => (refScan_any _ zs wx (hi.up hx) hu (by omega)).mono fun e w' ⟨r, h1, h2, h3⟩ => by
    obtain ⟨a7, c7, rfl, _, _, _⟩ := id h2
    exact ⟨a7, c7, h1, h2, h3⟩
  have hsl : (scan zs).1.length ≤ 9223372036854775807 := by
    have h1 := (scan_frames_of zs.length zs (Nat.le_refl _) hu).2
    have h2 := frames_length (scan zs).1
    rw [h1.1, List.length_take] at h2
    omega
  have HP0 : Hid (∀ wx, Calls Try.prog 12 #[.int .i64 zs.length, .int .i64 3] wx fun e w' => ∃ a9 c9, e = .returned (.slice a9 3 c9) ∧ (∀ wy, Up w' wy → (convert 22 9 (.slice a9 3 c9)).run Try.prog wy = .ok (.string (strOfNums (octAll zs.length 3))) wy) ∧ Up wx w') := Lib.hid fun wx => (refPut_any zs.length 3 (by omega) (by omega) 3 (by omega) wx).mono fun e w' ⟨rv, h1, h2, h3⟩ => by
    obtain ⟨a9, c9, rfl⟩ := row_shape h2
    rw [show IntKind.u64.wrap (zs.length : Int) = zs.length from by rw [IntKind.wrap_u64]; omega] at h2
    exact ⟨a9, c9, h1, fun wy hy => ((Ints.of_row h2).up hy).str, h3⟩
  have CZ1 : Hid (∀ wx, Up w1 wx → (convert 22 9 (.slice a zs.length cap)).run Try.prog wx = .ok (.string (strOfNums zs)) wx) := Lib.hid fun wx hx => (hi.up hx).str
  have HC : Hid (strOfNums (octAll zs.length 3) ++ strOfNums zs = strOfNums (frame zs)) := Lib.hid (strOfNums_append _ _)
  have HCl : Hid ((strOfNums (frame zs)).size ≤ 4611686018427387904) := Lib.hid (by rw [strOfNums_size, frame_length]; omega)
  have Hf2 : Hid (Calls Try.prog 7 #[.slice a zs.length cap] w1 fun e w' => ∃ a5 c5, e = .returned (.tuple #[.slice a5 (frame zs).length c5, .int .i64 0]) ∧ (∀ wx, Up w' wx → (convert 22 9 (.slice a5 (frame zs).length c5)).run Try.prog wx = .ok (.string (strOfNums (frame zs))) wx) ∧ Up w1 w') := Lib.hid (Hf.out.mono fun e w' ⟨a5, c5, h1, h2, h3⟩ => ⟨a5, c5, h1, fun wx hx => ((Ints.of_row h2).up hx).str, h3⟩)
  have hzl : (zs.length : Int) ≤ 16384 := by omega
  clear hi hu u1 Hf hl
  generalize hSC : scan zs = SC at Hs Hr hsl
  clear hSC
  obtain ⟨LS, NS⟩ := SC
  simp only at Hs Hr hsl
  generalize strOfNums (frame zs) = SF at HC HCl Hf2
  generalize strOfNums zs = SZ at HC CZ1
  generalize strOfNums (octAll zs.length 3) = SP at HC HP0
  generalize (frame zs).length = F at Hf2
  generalize hNI : ((NS : Nat) : Int) = NI at Hs Hr
  clear hNI
  rcases hin with ⟨rfl, rfl, h1⟩ | ⟨rfl, rfl, h1, h2⟩ | ⟨a0, n0, c0, rfl, h1, h2, hmk⟩
  all_goals
    go_enter Try.func3, Try.ntmps3
    go_wp2_with fail
    with_reducible refine Calls.mono Hf2.out ?_
    rintro e w2 ⟨a5, c5, rfl, x1, x2⟩
    have Hs2 := Lib.hid (Hs.out w2 x2)
    have X1 := Lib.hid x1
    have X2 := Lib.hid x2
    clear x1 x2
    go_wp2_with fail
    with_reducible refine Calls.mono Hs2.out ?_
    rintro e w3 ⟨a7, c7, rfl, y1, y2⟩
    have Hr3 := Lib.hid (Hr.out w3 (Up.trans X2.out y2))
    have Y1 := Lib.hid y1
    have Y2 := Lib.hid y2
    clear y1 y2
    go_wp2_with fail
    with_reducible refine Calls.mono Hr3.out ?_
    rintro e w4 ⟨a8, c8, rfl, z1, z2⟩
    have U4 : Hid (Up _ w4) := Lib.hid (Up.trans (Up.trans X2.out Y2.out) z2)
    have HL : Hid (∀ wx, Up w4 wx → Calls Try.prog 10 #[.slice a7 LS.length c7, .slice a8 LS.length c8] wx fun e w' => e = .returned (.bool true) ∧ Up wx w') := Lib.hid fun wx hx => lists_any _ _ LS wx ((Y1.out.up z2).up hx) (z1.up hx) hsl
    have CX : Hid (∀ wx, Up w4 wx → (convert 22 9 (.slice a5 F c5)).run Try.prog wx = .ok (.string SF) wx) := Lib.hid fun wx hx => X1.out wx (Up.trans (Up.trans Y2.out z2) hx)
    have CZ : Hid (∀ wx, Up w4 wx → (convert 22 9 (.slice a zs.length cap)).run Try.prog wx = .ok (.string SZ) wx) := Lib.hid fun wx hx => CZ1.out wx (Up.trans U4.out hx)
    have HP : Hid (∀ wx, Up w4 wx → Calls Try.prog 12 #[.int .i64 zs.length, .int .i64 3] wx fun e w' => ∃ a9 c9, e = .returned (.slice a9 3 c9) ∧ (∀ wy, Up w' wy → (convert 22 9 (.slice a9 3 c9)).run Try.prog wy = .ok (.string SP) wy) ∧ Up wx w') := Lib.hid fun wx _ => HP0.out wx
    have HD : Hid (Up w4 w4.drew) := Lib.hid (Up.drew1 w4)
    clear z1 z2
    go_wp2
    refine region_alongK (fun x => Up w4 x) (.read 0 (.read 1 (.read 2 (.read 3 (.read 4 (.read 5 (.read 6 (.read 9 (.read 10 (.step 7 (.read 8 (.read 11 (.read 12 (.read 13 (.read 14 (.read 15 (.read 16 (.step 17 (.read 18 (.read 19 (.read 20 (.read 21 (.read 22 (.read 23 (.read 24 (.step 25 (.read 26 (.read 27 (.nil))))))))))))))))))))))))))))) (by kernel_rfl) rfl (by kernel_rfl) (by kernel_rfl) (fun c a d v w h => by cases d <;> exact h) (HD.out) ?_
    refine alongK_read (.int .i64 0) rfl rfl (fun wx hS => ex_move (by rfl) (by rfl) wx) ?_
    change AlongK _ _ _ _ _ { tmps := #[.slice a zs.length cap, _, _, _, _, .slice a5 F c5, .int .i64 0, .slice a7 LS.length c7, .int .i64 NI, .slice a8 LS.length c8, .int .i64 NI, _, _, _, _, _, _, _, _, _, _, _, _, _, _, _, _, _, _, _, _, _, _, _, _, _, _, _, _, _, _, _, _, _, _, _, _, _, _, _, _, _, _, _, _, _, _, .int .i64 0, _, _, _, _, _, _, _, _, _, _, _, _, _, _, _, _, _, _, _, _, _, _, _, _, _, _], defers := _ } _
    refine alongK_read (.bool true) rfl rfl (fun wx hS => ex_eqi rfl (by rfl) (by rfl) (by simp) wx) ?_
    change AlongK _ _ _ _ _ { tmps := #[.slice a zs.length cap, _, _, _, _, .slice a5 F c5, .int .i64 0, .slice a7 LS.length c7, .int .i64 NI, .slice a8 LS.length c8, .int .i64 NI, _, _, _, _, _, _, _, _, _, _, _, _, _, _, _, _, _, _, _, _, _, _, _, _, _, _, _, _, _, _, _, _, _, _, _, _, _, _, _, _, _, _, _, _, _, _, .int .i64 0, .bool true, _, _, _, _, _, _, _, _, _, _, _, _, _, _, _, _, _, _, _, _, _, _, _, _, _], defers := _ } _
    refine alongK_read (.bool true) rfl rfl (fun wx hS => ex_move (by rfl) (by rfl) wx) ?_
    change AlongK _ _ _ _ _ { tmps := #[.slice a zs.length cap, _, _, _, _, .slice a5 F c5, .int .i64 0, .slice a7 LS.length c7, .int .i64 NI, .slice a8 LS.length c8, .int .i64 NI, _, _, _, _, _, _, _, _, _, _, _, _, _, _, _, _, _, _, _, _, _, _, _, _, _, _, _, _, _, _, _, _, _, _, _, _, _, _, _, _, _, _, _, _, _, _, .int .i64 0, .bool true, .bool true, _, _, _, _, _, _, _, _, _, _, _, _, _, _, _, _, _, _, _, _, _, _, _, _], defers := _ } _
    refine alongK_read (.slice a5 F c5) rfl rfl (fun wx hS => ex_move (by rfl) (by rfl) wx) ?_
    change AlongK _ _ _ _ _ { tmps := #[.slice a zs.length cap, _, _, _, _, .slice a5 F c5, .int .i64 0, .slice a7 LS.length c7, .int .i64 NI, .slice a8 LS.length c8, .int .i64 NI, _, _, _, _, _, _, _, _, _, _, _, _, _, _, _, _, _, _, _, _, _, _, _, _, _, _, _, _, _, _, _, _, _, _, _, _, _, _, _, _, _, _, _, _, _, _, .int .i64 0, .bool true, .bool true, .slice a5 F c5, _, _, _, _, _, _, _, _, _, _, _, _, _, _, _, _, _, _, _, _, _, _, _], defers := _ } _
    refine alongK_read (.string SF) rfl rfl (fun wx hS => ex_conv rfl rfl wx wx (CX.out wx hS)) ?_
    change AlongK _ _ _ _ _ { tmps := #[.slice a zs.length cap, _, _, _, _, .slice a5 F c5, .int .i64 0, .slice a7 LS.length c7, .int .i64 NI, .slice a8 LS.length c8, .int .i64 NI, _, _, _, _, _, _, _, _, _, _, _, _, _, _, _, _, _, _, _, _, _, _, _, _, _, _, _, _, _, _, _, _, _, _, _, _, _, _, _, _, _, _, _, _, _, _, .int .i64 0, .bool true, .bool true, .slice a5 F c5, .string SF, _, _, _, _, _, _, _, _, _, _, _, _, _, _, _, _, _, _, _, _, _, _], defers := _ } _
    refine alongK_read (.slice a zs.length cap) rfl rfl (fun wx hS => ex_move (by rfl) (by rfl) wx) ?_
    change AlongK _ _ _ _ _ { tmps := #[.slice a zs.length cap, _, _, _, _, .slice a5 F c5, .int .i64 0, .slice a7 LS.length c7, .int .i64 NI, .slice a8 LS.length c8, .int .i64 NI, _, _, _, _, _, _, _, _, _, _, _, _, _, _, _, _, _, _, _, _, _, _, _, _, _, _, _, _, _, _, _, _, _, _, _, _, _, _, _, _, _, _, _, _, _, _, .int .i64 0, .bool true, .bool true, .slice a5 F c5, .string SF, .slice a zs.length cap, _, _, _, _, _, _, _, _, _, _, _, _, _, _, _, _, _, _, _, _, _], defers := _ } _
    refine alongK_read (.int .i64 zs.length) rfl rfl (fun wx hS => ex_lensl Try.underlying22 rfl rfl wx) ?_
    change AlongK _ _ _ _ _ { tmps := #[.slice a zs.length cap, _, _, _, _, .slice a5 F c5, .int .i64 0, .slice a7 LS.length c7, .int .i64 NI, .slice a8 LS.length c8, .int .i64 NI, _, _, _, _, _, _, _, _, _, _, _, _, _, _, _, _, _, _, _, _, _, _, _, _, _, _, _, _, _, _, _, _, _, _, _, _, _, _, _, _, _, _, _, _, _, _, .int .i64 0, .bool true, .bool true, .slice a5 F c5, .string SF, .slice a zs.length cap, .int .i64 zs.length, _, _, _, _, _, _, _, _, _, _, _, _, _, _, _, _, _, _, _, _], defers := _ } _
    refine alongK_read (.slice a zs.length cap) rfl rfl (fun wx hS => ex_move (by rfl) (by rfl) wx) ?_
    change AlongK _ _ _ _ _ { tmps := #[.slice a zs.length cap, _, _, _, _, .slice a5 F c5, .int .i64 0, .slice a7 LS.length c7, .int .i64 NI, .slice a8 LS.length c8, .int .i64 NI, _, _, _, _, _, _, _, _, _, _, _, _, _, _, _, _, _, _, _, _, _, _, _, _, _, _, _, _, _, _, _, _, _, _, _, _, _, _, _, _, _, _, _, _, _, _, .int .i64 0, .bool true, .bool true, .slice a5 F c5, .string SF, .slice a zs.length cap, .int .i64 zs.length, _, _, .slice a zs.length cap, _, _, _, _, _, _, _, _, _, _, _, _, _, _, _, _, _], defers := _ } _
    refine alongK_read (.string SZ) rfl rfl (fun wx hS => ex_conv rfl rfl wx wx (CZ.out wx hS)) ?_
    change AlongK _ _ _ _ _ { tmps := #[.slice a zs.length cap, _, _, _, _, .slice a5 F c5, .int .i64 0, .slice a7 LS.length c7, .int .i64 NI, .slice a8 LS.length c8, .int .i64 NI, _, _, _, _, _, _, _, _, _, _, _, _, _, _, _, _, _, _, _, _, _, _, _, _, _, _, _, _, _, _, _, _, _, _, _, _, _, _, _, _, _, _, _, _, _, _, .int .i64 0, .bool true, .bool true, .slice a5 F c5, .string SF, .slice a zs.length cap, .int .i64 zs.length, _, _, .slice a zs.length cap, .string SZ, _, _, _, _, _, _, _, _, _, _, _, _, _, _, _, _], defers := _ } _
    refine alongK_step ?_
    refine opK_call (vs := [.int .i64 zs.length, .int .i64 3]) rfl rfl rfl (enters_of Try.func12 (by kernel_rfl) rfl) rfl ?_
    with_reducible refine Calls.mono (HP.out _ HD.out) ?_
    rintro e w5 ⟨a9, c9, rfl, p1, p2⟩
    have CP : Hid (∀ wx, Up w5 wx → (convert 22 9 (.slice a9 3 c9)).run Try.prog wx = .ok (.string SP) wx) := Lib.hid p1
    have P2 := Lib.hid p2
    clear p1 p2
    refine ⟨_, rfl, (fun x => Up w5 x), (fun x hx => Up.trans (Up.trans HD.out P2.out) hx), Up.refl w5, ?_⟩
    change AlongK _ _ _ _ _ { tmps := #[.slice a zs.length cap, _, _, _, _, .slice a5 F c5, .int .i64 0, .slice a7 LS.length c7, .int .i64 NI, .slice a8 LS.length c8, .int .i64 NI, _, _, _, _, _, _, _, _, _, _, _, _, _, _, _, _, _, _, _, _, _, _, _, _, _, _, _, _, _, _, _, _, _, _, _, _, _, _, _, _, _, _, _, _, _, _, .int .i64 0, .bool true, .bool true, .slice a5 F c5, .string SF, .slice a zs.length cap, .int .i64 zs.length, .slice a9 3 c9, _, .slice a zs.length cap, .string SZ, _, _, _, _, _, _, _, _, _, _, _, _, _, _, _, _], defers := _ } _
    refine alongK_read (.string SP) rfl rfl (fun wx hS => ex_conv rfl rfl wx wx (CP.out wx hS)) ?_
    change AlongK _ _ _ _ _ { tmps := #[.slice a zs.length cap, _, _, _, _, .slice a5 F c5, .int .i64 0, .slice a7 LS.length c7, .int .i64 NI, .slice a8 LS.length c8, .int .i64 NI, _, _, _, _, _, _, _, _, _, _, _, _, _, _, _, _, _, _, _, _, _, _, _, _, _, _, _, _, _, _, _, _, _, _, _, _, _, _, _, _, _, _, _, _, _, _, .int .i64 0, .bool true, .bool true, .slice a5 F c5, .string SF, .slice a zs.length cap, .int .i64 zs.length, .slice a9 3 c9, .string SP, .slice a zs.length cap, .string SZ, _, _, _, _, _, _, _, _, _, _, _, _, _, _, _, _], defers := _ } _
    refine alongK_read (.string SF) rfl rfl (fun wx hS => ex_cat HC.out HCl.out rfl rfl rfl wx) ?_
    change AlongK _ _ _ _ _ { tmps := #[.slice a zs.length cap, _, _, _, _, .slice a5 F c5, .int .i64 0, .slice a7 LS.length c7, .int .i64 NI, .slice a8 LS.length c8, .int .i64 NI, _, _, _, _, _, _, _, _, _, _, _, _, _, _, _, _, _, _, _, _, _, _, _, _, _, _, _, _, _, _, _, _, _, _, _, _, _, _, _, _, _, _, _, _, _, _, .int .i64 0, .bool true, .bool true, .slice a5 F c5, .string SF, .slice a zs.length cap, .int .i64 zs.length, .slice a9 3 c9, .string SP, .slice a zs.length cap, .string SZ, .string SF, _, _, _, _, _, _, _, _, _, _, _, _, _, _, _], defers := _ } _
    refine alongK_read (.bool true) rfl rfl (fun wx hS => ex_eqs rfl (by rfl) (by rfl) wx) ?_
    change AlongK _ _ _ _ _ { tmps := #[.slice a zs.length cap, _, _, _, _, .slice a5 F c5, .int .i64 0, .slice a7 LS.length c7, .int .i64 NI, .slice a8 LS.length c8, .int .i64 NI, _, _, _, _, _, _, _, _, _, _, _, _, _, _, _, _, _, _, _, _, _, _, _, _, _, _, _, _, _, _, _, _, _, _, _, _, _, _, _, _, _, _, _, _, _, _, .int .i64 0, .bool true, .bool true, .slice a5 F c5, .string SF, .slice a zs.length cap, .int .i64 zs.length, .slice a9 3 c9, .string SP, .slice a zs.length cap, .string SZ, .string SF, .bool true, _, _, _, _, _, _, _, _, _, _, _, _, _, _], defers := _ } _
    refine alongK_read (.bool true) rfl rfl (fun wx hS => ex_pickt rfl (by rfl) (by rfl) wx) ?_
    change AlongK _ _ _ _ _ { tmps := #[.slice a zs.length cap, _, _, _, _, .slice a5 F c5, .int .i64 0, .slice a7 LS.length c7, .int .i64 NI, .slice a8 LS.length c8, .int .i64 NI, _, _, _, _, _, _, _, _, _, _, _, _, _, _, _, _, _, _, _, _, _, _, _, _, _, _, _, _, _, _, _, _, _, _, _, _, _, _, _, _, _, _, _, _, _, _, .int .i64 0, .bool true, .bool true, .slice a5 F c5, .string SF, .slice a zs.length cap, .int .i64 zs.length, .slice a9 3 c9, .string SP, .slice a zs.length cap, .string SZ, .string SF, .bool true, .bool true, _, _, _, _, _, _, _, _, _, _, _, _, _], defers := _ } _
    refine alongK_read (.bool true) rfl rfl (fun wx hS => ex_move (by rfl) (by rfl) wx) ?_
    change AlongK _ _ _ _ _ { tmps := #[.slice a zs.length cap, _, _, _, _, .slice a5 F c5, .int .i64 0, .slice a7 LS.length c7, .int .i64 NI, .slice a8 LS.length c8, .int .i64 NI, _, _, _, _, _, _, _, _, _, _, _, _, _, _, _, _, _, _, _, _, _, _, _, _, _, _, _, _, _, _, _, _, _, _, _, _, _, _, _, _, _, _, _, _, _, _, .int .i64 0, .bool true, .bool true, .slice a5 F c5, .string SF, .slice a zs.length cap, .int .i64 zs.length, .slice a9 3 c9, .string SP, .slice a zs.length cap, .string SZ, .string SF, .bool true, .bool true, .bool true, _, _, _, _, _, _, _, _, _, _, _, _], defers := _ } _
    refine alongK_read (.slice a7 LS.length c7) rfl rfl (fun wx hS => ex_move (by rfl) (by rfl) wx) ?_
    change AlongK _ _ _ _ _ { tmps := #[.slice a zs.length cap, _, _, _, _, .slice a5 F c5, .int .i64 0, .slice a7 LS.length c7, .int .i64 NI, .slice a8 LS.length c8, .int .i64 NI, _, _, _, _, _, _, _, _, _, _, _, _, _, _, _, _, _, _, _, _, _, _, _, _, _, _, _, _, _, _, _, _, _, _, _, _, _, _, _, _, _, _, _, _, _, _, .int .i64 0, .bool true, .bool true, .slice a5 F c5, .string SF, .slice a zs.length cap, .int .i64 zs.length, .slice a9 3 c9, .string SP, .slice a zs.length cap, .string SZ, .string SF, .bool true, .bool true, .bool true, .slice a7 LS.length c7, _, _, _, _, _, _, _, _, _, _, _], defers := _ } _
    refine alongK_read (.slice a8 LS.length c8) rfl rfl (fun wx hS => ex_move (by rfl) (by rfl) wx) ?_
    change AlongK _ _ _ _ _ { tmps := #[.slice a zs.length cap, _, _, _, _, .slice a5 F c5, .int .i64 0, .slice a7 LS.length c7, .int .i64 NI, .slice a8 LS.length c8, .int .i64 NI, _, _, _, _, _, _, _, _, _, _, _, _, _, _, _, _, _, _, _, _, _, _, _, _, _, _, _, _, _, _, _, _, _, _, _, _, _, _, _, _, _, _, _, _, _, _, .int .i64 0, .bool true, .bool true, .slice a5 F c5, .string SF, .slice a zs.length cap, .int .i64 zs.length, .slice a9 3 c9, .string SP, .slice a zs.length cap, .string SZ, .string SF, .bool true, .bool true, .bool true, .slice a7 LS.length c7, .slice a8 LS.length c8, _, _, _, _, _, _, _, _, _, _], defers := _ } _
    refine alongK_step ?_
    refine opK_call (vs := [.slice a7 LS.length c7, .slice a8 LS.length c8]) rfl rfl rfl (enters_of Try.func10 (by kernel_rfl) rfl) rfl ?_
    with_reducible refine Calls.mono (HL.out _ (Up.trans HD.out P2.out)) ?_
    rintro e w6 ⟨rfl, l2⟩
    have L2 := Lib.hid l2
    clear l2
    refine ⟨_, rfl, (fun x => Up w6 x), (fun x hx => Up.trans L2.out hx), Up.refl w6, ?_⟩
    change AlongK _ _ _ _ _ { tmps := #[.slice a zs.length cap, _, _, _, _, .slice a5 F c5, .int .i64 0, .slice a7 LS.length c7, .int .i64 NI, .slice a8 LS.length c8, .int .i64 NI, _, _, _, _, _, _, _, _, _, _, _, _, _, _, _, _, _, _, _, _, _, _, _, _, _, _, _, _, _, _, _, _, _, _, _, _, _, _, _, _, _, _, _, _, _, _, .int .i64 0, .bool true, .bool true, .slice a5 F c5, .string SF, .slice a zs.length cap, .int .i64 zs.length, .slice a9 3 c9, .string SP, .slice a zs.length cap, .string SZ, .string SF, .bool true, .bool true, .bool true, .slice a7 LS.length c7, .slice a8 LS.length c8, .bool true, _, _, _, _, _, _, _, _, _], defers := _ } _
    refine alongK_read (.bool true) rfl rfl (fun wx hS => ex_pickt rfl (by rfl) (by rfl) wx) ?_
    change AlongK _ _ _ _ _ { tmps := #[.slice a zs.length cap, _, _, _, _, .slice a5 F c5, .int .i64 0, .slice a7 LS.length c7, .int .i64 NI, .slice a8 LS.length c8, .int .i64 NI, _, _, _, _, _, _, _, _, _, _, _, _, _, _, _, _, _, _, _, _, _, _, _, _, _, _, _, _, _, _, _, _, _, _, _, _, _, _, _, _, _, _, _, _, _, _, .int .i64 0, .bool true, .bool true, .slice a5 F c5, .string SF, .slice a zs.length cap, .int .i64 zs.length, .slice a9 3 c9, .string SP, .slice a zs.length cap, .string SZ, .string SF, .bool true, .bool true, .bool true, .slice a7 LS.length c7, .slice a8 LS.length c8, .bool true, .bool true, _, _, _, _, _, _, _, _], defers := _ } _
    refine alongK_read (.bool true) rfl rfl (fun wx hS => ex_move (by rfl) (by rfl) wx) ?_
    change AlongK _ _ _ _ _ { tmps := #[.slice a zs.length cap, _, _, _, _, .slice a5 F c5, .int .i64 0, .slice a7 LS.length c7, .int .i64 NI, .slice a8 LS.length c8, .int .i64 NI, _, _, _, _, _, _, _, _, _, _, _, _, _, _, _, _, _, _, _, _, _, _, _, _, _, _, _, _, _, _, _, _, _, _, _, _, _, _, _, _, _, _, _, _, _, _, .int .i64 0, .bool true, .bool true, .slice a5 F c5, .string SF, .slice a zs.length cap, .int .i64 zs.length, .slice a9 3 c9, .string SP, .slice a zs.length cap, .string SZ, .string SF, .bool true, .bool true, .bool true, .slice a7 LS.length c7, .slice a8 LS.length c8, .bool true, .bool true, .bool true, _, _, _, _, _, _, _], defers := _ } _
    refine alongK_read (.int .i64 NI) rfl rfl (fun wx hS => ex_move (by rfl) (by rfl) wx) ?_
    change AlongK _ _ _ _ _ { tmps := #[.slice a zs.length cap, _, _, _, _, .slice a5 F c5, .int .i64 0, .slice a7 LS.length c7, .int .i64 NI, .slice a8 LS.length c8, .int .i64 NI, _, _, _, _, _, _, _, _, _, _, _, _, _, _, _, _, _, _, _, _, _, _, _, _, _, _, _, _, _, _, _, _, _, _, _, _, _, _, _, _, _, _, _, _, _, _, .int .i64 0, .bool true, .bool true, .slice a5 F c5, .string SF, .slice a zs.length cap, .int .i64 zs.length, .slice a9 3 c9, .string SP, .slice a zs.length cap, .string SZ, .string SF, .bool true, .bool true, .bool true, .slice a7 LS.length c7, .slice a8 LS.length c8, .bool true, .bool true, .bool true, .int .i64 NI, _, _, _, _, _, _], defers := _ } _
    refine alongK_read (.int .i64 NI) rfl rfl (fun wx hS => ex_move (by rfl) (by rfl) wx) ?_
    change AlongK _ _ _ _ _ { tmps := #[.slice a zs.length cap, _, _, _, _, .slice a5 F c5, .int .i64 0, .slice a7 LS.length c7, .int .i64 NI, .slice a8 LS.length c8, .int .i64 NI, _, _, _, _, _, _, _, _, _, _, _, _, _, _, _, _, _, _, _, _, _, _, _, _, _, _, _, _, _, _, _, _, _, _, _, _, _, _, _, _, _, _, _, _, _, _, .int .i64 0, .bool true, .bool true, .slice a5 F c5, .string SF, .slice a zs.length cap, .int .i64 zs.length, .slice a9 3 c9, .string SP, .slice a zs.length cap, .string SZ, .string SF, .bool true, .bool true, .bool true, .slice a7 LS.length c7, .slice a8 LS.length c8, .bool true, .bool true, .bool true, .int .i64 NI, .int .i64 NI, _, _, _, _, _], defers := _ } _
    refine alongK_read (.bool true) rfl rfl (fun wx hS => ex_eqi rfl (by rfl) (by rfl) (by simp) wx) ?_
    change AlongK _ _ _ _ _ { tmps := #[.slice a zs.length cap, _, _, _, _, .slice a5 F c5, .int .i64 0, .slice a7 LS.length c7, .int .i64 NI, .slice a8 LS.length c8, .int .i64 NI, _, _, _, _, _, _, _, _, _, _, _, _, _, _, _, _, _, _, _, _, _, _, _, _, _, _, _, _, _, _, _, _, _, _, _, _, _, _, _, _, _, _, _, _, _, _, .int .i64 0, .bool true, .bool true, .slice a5 F c5, .string SF, .slice a zs.length cap, .int .i64 zs.length, .slice a9 3 c9, .string SP, .slice a zs.length cap, .string SZ, .string SF, .bool true, .bool true, .bool true, .slice a7 LS.length c7, .slice a8 LS.length c8, .bool true, .bool true, .bool true, .int .i64 NI, .int .i64 NI, .bool true, _, _, _, _], defers := _ } _
    refine alongK_read (.bool true) rfl rfl (fun wx hS => ex_pickt rfl (by rfl) (by rfl) wx) ?_
    change AlongK _ _ _ _ _ { tmps := #[.slice a zs.length cap, _, _, _, _, .slice a5 F c5, .int .i64 0, .slice a7 LS.length c7, .int .i64 NI, .slice a8 LS.length c8, .int .i64 NI, _, _, _, _, _, _, _, _, _, _, _, _, _, _, _, _, _, _, _, _, _, _, _, _, _, _, _, _, _, _, _, _, _, _, _, _, _, _, _, _, _, _, _, _, _, _, .int .i64 0, .bool true, .bool true, .slice a5 F c5, .string SF, .slice a zs.length cap, .int .i64 zs.length, .slice a9 3 c9, .string SP, .slice a zs.length cap, .string SZ, .string SF, .bool true, .bool true, .bool true, .slice a7 LS.length c7, .slice a8 LS.length c8, .bool true, .bool true, .bool true, .int .i64 NI, .int .i64 NI, .bool true, .bool true, _, _, _], defers := _ } _
    refine alongK_read (.bool true) rfl rfl (fun wx hS => ex_move (by rfl) (by rfl) wx) ?_
    change AlongK _ _ _ _ _ { tmps := #[.slice a zs.length cap, _, _, _, _, .slice a5 F c5, .int .i64 0, .slice a7 LS.length c7, .int .i64 NI, .slice a8 LS.length c8, .int .i64 NI, _, _, _, _, _, _, _, _, _, _, _, _, _, _, _, _, _, _, _, _, _, _, _, _, _, _, _, _, _, _, _, _, _, _, _, _, _, _, _, _, _, _, _, _, _, _, .int .i64 0, .bool true, .bool true, .slice a5 F c5, .string SF, .slice a zs.length cap, .int .i64 zs.length, .slice a9 3 c9, .string SP, .slice a zs.length cap, .string SZ, .string SF, .bool true, .bool true, .bool true, .slice a7 LS.length c7, .slice a8 LS.length c8, .bool true, .bool true, .bool true, .int .i64 NI, .int .i64 NI, .bool true, .bool true, .bool true, _, _], defers := _ } _
    refine alongK_step ?_
    refine opK_call (vs := []) rfl rfl rfl (enters_of Try.func11 (by kernel_rfl) rfl) rfl ?_
    with_reducible refine Calls.mono (jnAlive_any _) ?_
    rintro e w7 ⟨rfl, l3⟩
    have L3 := Lib.hid l3
    clear l3
    refine ⟨_, rfl, (fun x => Up w7 x), (fun x hx => Up.trans L3.out hx), Up.refl w7, ?_⟩
    change AlongK _ _ _ _ _ { tmps := #[.slice a zs.length cap, _, _, _, _, .slice a5 F c5, .int .i64 0, .slice a7 LS.length c7, .int .i64 NI, .slice a8 LS.length c8, .int .i64 NI, _, _, _, _, _, _, _, _, _, _, _, _, _, _, _, _, _, _, _, _, _, _, _, _, _, _, _, _, _, _, _, _, _, _, _, _, _, _, _, _, _, _, _, _, _, _, .int .i64 0, .bool true, .bool true, .slice a5 F c5, .string SF, .slice a zs.length cap, .int .i64 zs.length, .slice a9 3 c9, .string SP, .slice a zs.length cap, .string SZ, .string SF, .bool true, .bool true, .bool true, .slice a7 LS.length c7, .slice a8 LS.length c8, .bool true, .bool true, .bool true, .int .i64 NI, .int .i64 NI, .bool true, .bool true, .bool true, .bool true, _], defers := _ } _
    refine alongK_read (.bool true) rfl rfl (fun wx hS => ex_pickt rfl (by rfl) (by rfl) wx) ?_
    change AlongK _ _ _ _ _ { tmps := #[.slice a zs.length cap, _, _, _, _, .slice a5 F c5, .int .i64 0, .slice a7 LS.length c7, .int .i64 NI, .slice a8 LS.length c8, .int .i64 NI, _, _, _, _, _, _, _, _, _, _, _, _, _, _, _, _, _, _, _, _, _, _, _, _, _, _, _, _, _, _, _, _, _, _, _, _, _, _, _, _, _, _, _, _, _, _, .int .i64 0, .bool true, .bool true, .slice a5 F c5, .string SF, .slice a zs.length cap, .int .i64 zs.length, .slice a9 3 c9, .string SP, .slice a zs.length cap, .string SZ, .string SF, .bool true, .bool true, .bool true, .slice a7 LS.length c7, .slice a8 LS.length c8, .bool true, .bool true, .bool true, .int .i64 NI, .int .i64 NI, .bool true, .bool true, .bool true, .bool true, .bool true], defers := _ } _
    refine alongK_read (.bool true) rfl rfl (fun wx hS => ex_assign (by rfl) (by rfl) wx) ?_
    change AlongK _ _ _ _ _ { tmps := #[.slice a zs.length cap, _, _, _, .bool true, .slice a5 F c5, .int .i64 0, .slice a7 LS.length c7, .int .i64 NI, .slice a8 LS.length c8, .int .i64 NI, _, _, _, _, _, _, _, _, _, _, _, _, _, _, _, _, _, _, _, _, _, _, _, _, _, _, _, _, _, _, _, _, _, _, _, _, _, _, _, _, _, _, _, _, _, _, .int .i64 0, .bool true, .bool true, .slice a5 F c5, .string SF, .slice a zs.length cap, .int .i64 zs.length, .slice a9 3 c9, .string SP, .slice a zs.length cap, .string SZ, .string SF, .bool true, .bool true, .bool true, .slice a7 LS.length c7, .slice a8 LS.length c8, .bool true, .bool true, .bool true, .int .i64 NI, .int .i64 NI, .bool true, .bool true, .bool true, .bool true, .bool true], defers := _ } _
    refine alongK_done ?_
    go_wp2
    go_ret
    exact ⟨rfl, Up.trans U1.out (Up.trans U4.out (Up.trans (Up.trans (Up.trans HD.out P2.out) L2.out) L3.out))⟩
set_option maxHeartbeats 2000000 in
theorem jnTells_long (v : Value) (n : Int) (a : Option Addr) (zs : List Int) (cap : Nat) (w w1 : World) (hin : TellsIn v n a zs cap w w1) (hi : Ints .u8 w1 (.slice a zs.length cap) zs) (hu : U8s zs) (hg : 16384 < zs.length) (hl : zs.length ≤ 2000000) (u1 : Up w w1) :
    Calls Try.prog 3 #[v, .int .i64 n] w fun e w' => e = .returned (.bool true) ∧ Up w w' := by
  have U1 := Lib.hid u1
  have Hf := Lib.hid (frameFn_long _ zs w1 hi hg (by omega))
  have Hs : Hid (Calls Try.prog 8 #[.slice a zs.length cap] w1 fun e w' => ∃ a7 c7, e = .returned (.tuple #[.slice a7 (scan zs).1.length c7, .int .i64 ((scan zs).2 : Nat)]) ∧ Rows8 w' (.slice a7 (scan zs).1.length c7) (scan zs).1 ∧ Up w1 w') := Lib.hid ((scan_any _ zs w1 hi hu (by omega)).mono fun e w' ⟨r, h1, h2, h3⟩ => by
    obtain ⟨a7, c7, rfl, _, _, _⟩ := id h2
    exact ⟨a7, c7, h1, h2.rows, h3⟩)
  have Hr : Hid (∀ wx, Up w1 wx → Calls Try.prog 9 #[.slice a zs.length cap] wx fun e w' => ∃ a7 c7, e = .returned (.tuple #[.slice a7 (scan zs).1.length c7, .int .i64 ((scan zs).2 : Nat)]) ∧ Rows8 w' (.slice a7 (scan zs).1.length c7) (scan zs).1 ∧ Up wx w') := Lib.hid fun wx hx => (refScan_any _ zs wx (hi.up hx) hu (by omega)).mono fun e w' ⟨r, h1, h2, h3⟩ => by
    obtain ⟨a7, c7, rfl, _, _, _⟩ := id h2
    exact ⟨a7, c7, h1, h2, h3⟩
  have hsl : (scan zs).1.length ≤ 9223372036854775807 := by
    have h1 := (scan_frames_of zs.length zs (Nat.le_refl _) hu).2
    have h2 := frames_length (scan zs).1
    rw [h1.1, List.length_take] at h2
    omega
  clear hi hu u1 hl
  generalize hSC : scan zs = SC at Hs Hr hsl
  clear hSC
  obtain ⟨LS, NS⟩ := SC
  simp only at Hs Hr hsl
  generalize hNI : ((NS : Nat) : Int) = NI at Hs Hr
  clear hNI
  rcases hin with ⟨rfl, rfl, h1⟩ | ⟨rfl, rfl, h1, h2⟩ | ⟨a0, n0, c0, rfl, h1, h2, hmk⟩
  all_goals
    go_enter Try.func3, Try.ntmps3
    go_wp2_with fail
    with_reducible refine Calls.mono Hf.out ?_
    rintro e w2 ⟨rfl, rfl⟩
    go_wp2_with fail
    with_reducible refine Calls.mono Hs.out ?_
    rintro e w3 ⟨a7, c7, rfl, y1, y2⟩
    have Hr3 := Lib.hid (Hr.out w3 y2)
    have Y1 := Lib.hid y1
    have Y2 := Lib.hid y2
    clear y1 y2
    go_wp2_with fail
    with_reducible refine Calls.mono Hr3.out ?_
    rintro e w4 ⟨a8, c8, rfl, z1, z2⟩
    have U4 : Hid (Up _ w4) := Lib.hid (Up.trans Y2.out z2)
    have HL : Hid (Calls Try.prog 10 #[.slice a7 LS.length c7, .slice a8 LS.length c8] w4 fun e w' => e = .returned (.bool true) ∧ Up w4 w') := Lib.hid (lists_any _ _ LS w4 (Y1.out.up z2) z1 hsl)
    clear z1 z2
    go_wp2_with fail
    with_reducible refine Calls.mono HL.out ?_
    rintro e w5 ⟨rfl, l2⟩
    have L2 := Lib.hid l2
    clear l2
    have Hal := Lib.hid (jnAlive_any w5)
    go_wp2_with fail
    with_reducible refine Calls.mono Hal.out ?_
    rintro e w6 ⟨rfl, l3⟩
    have L3 := Lib.hid l3
    clear l3
    go_wp2
    go_ret
    exact ⟨rfl, Up.trans U1.out (Up.trans U4.out (Up.trans L2.out L3.out))⟩
theorem lawJnTells_any (v : Value) (ys : List Int) (n : Int) (w : World) (hv : Ints .u8 w v ys) (hu : U8s ys) (hl : ys.length ≤ 2000000) :
    Calls Try.prog 3 #[v, .int .i64 n] w fun e w' => e = .returned (.bool true) ∧ Up w w' := by
  obtain ⟨a, cap, rfl, _, _, _⟩ := id hv
  by_cases hn : 16384 < n ∧ n < 16434
  · obtain ⟨K, rfl⟩ : ∃ K : Nat, n = K := ⟨n.toNat, by omega⟩
    obtain ⟨i0, hi, hz0, hz1, hz2⟩ := info_parts info_u8
    have h := run_make (P := Try.prog) w 22 5 i0 (.int .u8 0) Try.underlying22 hi hz0 .i64 .i64 (K : Int) (K : Int) (by omega) (by omega) (by rw [hz2]; omega) (by omega)
    have hI := Ints.newc w .u8 5 (madeCells #[.int .u8 0] K) (List.replicate K 0) _ K rfl (by simp) (by rw [toList_madeCells_one]; simp)
    have hz : (List.replicate K (0 : Int)).length = K := by simp
    have hU := U8s.replicate K
    have hin : TellsIn (.slice a ys.length cap) (K : Int) (some ⟨w.heap.size, 0, none⟩) (List.replicate K 0) K w (w.alloc (.cells (madeCells #[.int .u8 0] K) 5)) :=
      .inr (.inr ⟨_, _, _, rfl, hn.1, hn.2, by rw [hz]; simpa [hz1, Value.cells] using h⟩)
    refine jnTells_long _ _ _ (List.replicate K 0) K w _ hin (by rw [hz]; exact hI) hU (by omega) (by omega) (Up.alloc (Up.refl w) _)
  · have hin : TellsIn (.slice a ys.length cap) n a ys cap w w := by
      by_cases h1 : n ≤ 16384
      · exact .inl ⟨rfl, rfl, h1⟩
      · exact .inr (.inl ⟨rfl, rfl, by omega, by omega⟩)
    by_cases hg : ys.length ≤ 16384
    · exact jnTells_short _ _ _ ys cap w w hin hv hu hg (Up.refl w)
    · exact jnTells_long _ _ _ ys cap w w hin hv hu (by omega) hl (Up.refl w)
end
end Go.Proofs.Ytaepdmmlejdifaa
