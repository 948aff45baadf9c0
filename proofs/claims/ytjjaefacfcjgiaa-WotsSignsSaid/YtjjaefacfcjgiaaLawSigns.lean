import Derived.Test.YtjjaefacfcjgiaaWotsAlive
import Derived.Test.YtjjaefacfcjgiaaWotsOpen
import Derived.Test.YtjjaefacfcjgiaaRefOpen
import Derived.Test.YtjjaefacfcjgiaaPlainSame
/-
  WotsSigns: the walk returns true.
-/
namespace Go.Proofs.Ytjjaefacfcjgiaa
set_option linter.unusedVariables false
open Go.RowKit

set_option maxHeartbeats 1000000 in
theorem lawSigns_any (zs : List Int) (leaf : Int) (v : Value) (bs : List Int) (pv : Value) (ls : List (List Int)) (w : World) (hu : U8s zs) (hl : zs.length ≤ 140737488355100) (hleaf : -9223372036854775808 ≤ leaf ∧ leaf ≤ 9223372036854775807) (hv : Ints .u8 w v bs) (hub : U8s bs) (hlb : bs.length ≤ 140737488355200)
    (hp : Strs w pv ls) (hup : ∀ k : Nat, U8s (ls[k]?.getD [])) (hlp : ls.length ≤ 9223372036854775807) :
    Calls Try.prog 4 #[.string (strOfNums zs), .int .i64 leaf, v, pv] w fun e w' => e = .returned (.bool true) ∧ Up w w' := by
  have Hsg := Lib.hid (sign_any zs leaf v bs w hu (by omega) hleaf hv hub (by omega))
  have Hrs : Hid (∀ wx, Up w wx → Calls Try.prog 20 #[.string (strOfNums zs), .int .i64 leaf, v] wx fun e w' => ∃ r, e = .returned r ∧ w'.ownsRow wx.heap.size 9 1 r 11 (strVs (signB zs leaf bs)) ∧ Up wx w') := fun wx hx => refSign_any zs leaf v bs wx hu hl hleaf (hv.up hx) hub hlb
  have Hop : Hid (∀ wx, Up w wx → Calls Try.prog 21 #[v, pv] wx fun e w' => e = .returned (.string (strOfNums (openB bs ls))) ∧ Up wx w') := fun wx hx => open_any v bs pv ls wx (hv.up hx) hub (by omega) (hp.up hx) hup hlp
  have Hro : Hid (∀ wx, Up w wx → Calls Try.prog 22 #[v, pv] wx fun e w' => e = .returned (.string (strOfNums (openB bs ls))) ∧ Up wx w') := fun wx hx => refOpen_any v bs pv ls wx (hv.up hx) hub hlb (hp.up hx) hup hlp
  have hl11 : (signB zs leaf bs).length = 11 := endsB_length _ _ _
  obtain ⟨a, cap, rfl, _, _, _⟩ := hv
  obtain ⟨pa, pcap, rfl, _, _, _⟩ := hp
  clear hu hl hleaf hub hlb hup hlp
  generalize openB bs ls = Y at Hop Hro
  generalize signB zs leaf bs = S at Hsg Hrs hl11
  have Hl11 := Lib.hid hl11
  clear hl11
  go_enter Try.func4, Try.ntmps4
  go_wp2_with fail
  with_reducible refine Calls.mono Hsg.out ?_
  rintro e w1 ⟨r1, rfl, hr1, hU1⟩
  obtain ⟨g1, c1, rfl, hc1⟩ := row_slice hr1 (by omega)
  have HS1 := Lib.hid (Strs.of_row hr1)
  clear hr1 Hsg
  go_wp2_with fail
  with_reducible refine Calls.mono (Hrs.out _ hU1) ?_
  rintro e w2 ⟨r2, rfl, hr2, hU2⟩
  obtain ⟨g2, c2, rfl, hc2⟩ := row_slice hr2 (by omega)
  have HS2 := Lib.hid (Strs.of_row hr2)
  have HS1 := Lib.hid (HS1.out.up hU2)
  have hU2 := Up.trans hU1 hU2
  clear hr2 Hrs
  go_wp2_with fail
  with_reducible refine Calls.mono (sameTexts_any _ _ S w2 HS1.out HS2.out (by rw [Hl11.out]; omega) (by rw [Hl11.out]; omega)) ?_
  rintro e w3 ⟨rfl, hU3⟩
  have hU3 := Up.trans hU2 hU3
  go_wp2_with fail
  with_reducible refine Calls.mono (Hop.out _ hU3) ?_
  rintro e w4 ⟨rfl, hU4⟩
  have hU4 := Up.trans hU3 hU4
  go_wp2_with fail
  with_reducible refine Calls.mono (Hro.out _ hU4) ?_
  rintro e w5 ⟨rfl, hU5⟩
  have hU5 := Up.trans hU4 hU5
  go_wp2_with fail
  with_reducible refine Calls.mono (alive_any _) ?_
  rintro e w6 ⟨rfl, hU6⟩
  have hU6 := Up.trans hU5 hU6
  go_wp2
  go_ret
  exact ⟨rfl, hU6⟩
theorem lawSigns_str (s : ByteArray) (leaf : Int) (v : Value) (bs : List Int) (pv : Value) (ls : List (List Int)) (w : World) (hl : s.size ≤ 140737488351232) (hleaf : -9223372036854775808 ≤ leaf ∧ leaf ≤ 9223372036854775807) (hv : Ints .u8 w v bs) (hub : U8s bs) (hlb : bs.length ≤ 140737488351232)
    (hp : Strs w pv ls) (hup : ∀ k : Nat, U8s (ls[k]?.getD [])) (hlp : ls.length ≤ maxLen) :
    Calls Try.prog 4 #[.string s, .int .i64 leaf, v, pv] w fun e w' => e = .returned (.bool true) ∧ Below w.heap.size w w' := by
  have h := lawSigns_any (octsOf s) leaf v bs pv ls w (octsOf_u8s s) (by rw [octsOf_length]; omega) hleaf hv hub (by omega) hp hup (by unfold maxLen at hlp; omega)
  rw [strOf_octs] at h
  exact h
end Go.Proofs.Ytjjaefacfcjgiaa
