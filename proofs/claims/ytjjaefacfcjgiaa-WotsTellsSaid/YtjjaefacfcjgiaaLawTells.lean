import Derived.Test.YtjjaefacfcjgiaaWotsAlive
import Derived.Test.YtjjaefacfcjgiaaRefLeaf
import Derived.Test.YtjjaefacfcjgiaaPlainSame
/-
  WotsTells: the walk returns true.
-/
namespace Go.Proofs.Ytjjaefacfcjgiaa
set_option linter.unusedVariables false
open Go.RowKit

set_option maxHeartbeats 2000000 in
theorem lawTells_any (v : Value) (bs ss : List Int) (steps : Int) (zs : List Int) (leaf place : Int) (w : World) (hv : Ints .u8 w v bs) (hub : U8s bs) (hlb : bs.length ≤ 140737488355200) (hus : U8s ss) (hls : ss.length ≤ 140737488355200) (hu : U8s zs) (hl : zs.length ≤ 140737488355100)
    (hleaf : -9223372036854775808 ≤ leaf ∧ leaf ≤ 9223372036854775807) (hplace : -9223372036854775808 ≤ place ∧ place ≤ 9223372036854775807) :
    Calls Try.prog 3 #[v, .string (strOfNums ss), .int .i64 steps, .string (strOfNums zs), .int .i64 leaf, .int .i64 place] w fun e w' => e = .returned (.bool true) ∧ Up w w' := by
  have Hp := Lib.hid (parts_any v bs w hv hub (by omega))
  have Hrp : Hid (∀ wx, Up w wx → Calls Try.prog 10 #[v] wx fun e w' => ∃ r, e = .returned r ∧ w'.ownsRow wx.heap.size 3 1 r 11 ((partsB bs).map (Value.int .i64)) ∧ Up wx w') := fun wx hx => refParts_any v bs wx (hv.up hx) hub hlb
  have Hc : Hid (∀ wx, Calls Try.prog 11 #[.string (strOfNums ss), .int .i64 steps] wx fun e w' => e = .returned (.string (strOfNums (chainB ss (stepsN steps)))) ∧ Up wx w') := fun wx => chain_any ss steps wx hus (by omega)
  have Hrc : Hid (∀ wx, Calls Try.prog 12 #[.string (strOfNums ss), .int .i64 steps] wx fun e w' => e = .returned (.string (strOfNums (chainB ss (stepsN steps)))) ∧ Up wx w') := fun wx => refChain_any ss steps wx hus hls
  have Hs : Hid (∀ wx, Calls Try.prog 13 #[.string (strOfNums zs), .int .i64 leaf, .int .i64 place] wx fun e w' => e = .returned (.string (strOfNums (secretB zs leaf place))) ∧ Up wx w') := fun wx => secret_any zs leaf place wx hu (by omega) hleaf hplace
  have Hrs : Hid (∀ wx, Calls Try.prog 14 #[.string (strOfNums zs), .int .i64 leaf, .int .i64 place] wx fun e w' => e = .returned (.string (strOfNums (secretB zs leaf place))) ∧ Up wx w') := fun wx => refSecret_any zs leaf place wx hu hl hleaf hplace
  have Hlf : Hid (∀ wx, Calls Try.prog 15 #[.string (strOfNums zs), .int .i64 leaf] wx fun e w' => e = .returned (.string (strOfNums (leafB zs leaf))) ∧ Up wx w') := fun wx => leaf_any zs leaf wx hu (by omega) hleaf
  have Hrl : Hid (∀ wx, Calls Try.prog 16 #[.string (strOfNums zs), .int .i64 leaf] wx fun e w' => e = .returned (.string (strOfNums (leafB zs leaf))) ∧ Up wx w') := fun wx => refLeaf_any zs leaf wx hu hl hleaf
  have Hl11 := Lib.hid (partsB_length bs)
  obtain ⟨a, cap, rfl, _, _, _⟩ := hv
  clear hub hlb hus hls hu hl hleaf hplace
  generalize partsB bs = D at Hp Hrp Hl11
  generalize strOfNums (chainB ss (stepsN steps)) = X1 at Hc Hrc
  generalize strOfNums (secretB zs leaf place) = X2 at Hs Hrs
  generalize strOfNums (leafB zs leaf) = X3 at Hlf Hrl
  go_enter Try.func3, Try.ntmps3
  go_wp2_with fail
  with_reducible refine Calls.mono Hp.out ?_
  rintro e w1 ⟨r1, rfl, hr1, hU1⟩
  obtain ⟨g1, c1, rfl, hc1⟩ := row_slice hr1 (by omega)
  have HS1 := Lib.hid (Ints.of_row hr1)
  clear hr1 Hp
  go_wp2_with fail
  with_reducible refine Calls.mono (Hrp.out _ hU1) ?_
  rintro e w2 ⟨r2, rfl, hr2, hU2⟩
  obtain ⟨g2, c2, rfl, hc2⟩ := row_slice hr2 (by omega)
  have HS2 := Lib.hid (Ints.of_row hr2)
  have HS1 := Lib.hid (HS1.out.up hU2)
  have hU2 := Up.trans hU1 hU2
  clear hr2 Hrp
  go_wp2_with fail
  with_reducible refine Calls.mono (sameInts_any _ _ D w2 HS1.out HS2.out (by rw [Hl11.out]; omega) (by rw [Hl11.out]; omega)) ?_
  rintro e w3 ⟨rfl, hU3⟩
  have hU3 := Up.trans hU2 hU3
  go_wp2_with fail
  with_reducible refine Calls.mono (Hc.out _) ?_
  rintro e w4 ⟨rfl, hU4⟩
  have hU4 := Up.trans hU3 hU4
  go_wp2_with fail
  with_reducible refine Calls.mono (Hrc.out _) ?_
  rintro e w5 ⟨rfl, hU5⟩
  have hU5 := Up.trans hU4 hU5
  go_wp2_with fail
  with_reducible refine Calls.mono (Hs.out _) ?_
  rintro e w6 ⟨rfl, hU6⟩
  have hU6 := Up.trans hU5 hU6
  go_wp2_with fail
  with_reducible refine Calls.mono (Hrs.out _) ?_
  rintro e w7 ⟨rfl, hU7⟩
  have hU7 := Up.trans hU6 hU7
  go_wp2_with fail
  with_reducible refine Calls.mono (Hlf.out _) ?_
  rintro e w8 ⟨rfl, hU8⟩
  have hU8 := Up.trans hU7 hU8
  go_wp2_with fail
  with_reducible refine Calls.mono (Hrl.out _) ?_
  rintro e w9 ⟨rfl, hU9⟩
  have hU9 := Up.trans hU8 hU9
  go_wp2_with fail
  with_reducible refine Calls.mono (alive_any _) ?_
  rintro e w10 ⟨rfl, hU10⟩
  have hU10 := Up.trans hU9 hU10
  go_wp2
  go_ret
  exact ⟨rfl, hU10⟩
theorem lawTells_str (v : Value) (bs : List Int) (s : ByteArray) (steps : Int) (z : ByteArray) (leaf place : Int) (w : World) (hv : Ints .u8 w v bs) (hub : U8s bs) (hlb : bs.length ≤ 140737488351232) (hls : s.size ≤ 140737488351232) (hl : z.size ≤ 140737488351232)
    (hleaf : -9223372036854775808 ≤ leaf ∧ leaf ≤ 9223372036854775807) (hplace : -9223372036854775808 ≤ place ∧ place ≤ 9223372036854775807) :
    Calls Try.prog 3 #[v, .string s, .int .i64 steps, .string z, .int .i64 leaf, .int .i64 place] w fun e w' => e = .returned (.bool true) ∧ Below w.heap.size w w' := by
  have h := lawTells_any v bs (octsOf s) steps (octsOf z) leaf place w hv hub (by omega) (octsOf_u8s s) (by rw [octsOf_length]; omega) (octsOf_u8s z) (by rw [octsOf_length]; omega) hleaf hplace
  rw [strOf_octs, strOf_octs] at h
  exact h
end Go.Proofs.Ytjjaefacfcjgiaa
