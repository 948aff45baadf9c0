import Derived.Test.YtjjaefacfcjgiaaWotsAlive
import Derived.Test.YtjjaefacfcjgiaaWotsOpen
/-
  WotsBack: the walk returns true.
-/
namespace Go.Proofs.Ytjjaefacfcjgiaa
set_option linter.unusedVariables false
open Go.RowKit

set_option maxHeartbeats 1000000 in
theorem lawBack_any (zs : List Int) (leaf : Int) (v : Value) (bs : List Int) (w : World) (hu : U8s zs) (hl : zs.length ≤ 140737488355200) (hleaf : -9223372036854775808 ≤ leaf ∧ leaf ≤ 9223372036854775807) (hv : Ints .u8 w v bs) (hub : U8s bs) (hlb : bs.length ≤ 140737488355328) :
    Calls Try.prog 5 #[.string (strOfNums zs), .int .i64 leaf, v] w fun e w' => e = .returned (.bool true) ∧ Up w w' := by
  have Hsg := Lib.hid (sign_any zs leaf v bs w hu hl hleaf hv hub hlb)
  have Hlf : Hid (∀ wx, Calls Try.prog 15 #[.string (strOfNums zs), .int .i64 leaf] wx fun e w' => e = .returned (.string (strOfNums (leafB zs leaf))) ∧ Up wx w') := fun wx => leaf_any zs leaf wx hu hl hleaf
  have Hop : Hid (∀ wx pv, Up w wx → Strs wx pv (signB zs leaf bs) → Calls Try.prog 21 #[v, pv] wx fun e w' => e = .returned (.string (strOfNums (leafB zs leaf))) ∧ Up wx w') := by
    intro wx pv hux hp
    have h := open_any v bs pv (signB zs leaf bs) wx (hv.up hux) hub hlb hp (fun k => by
      by_cases hk : k < 11
      · rw [show signB zs leaf bs = endsB zs leaf (partsB bs) from rfl, endsB_at _ _ _ _ hk]; exact chainB_u8s _ (secretB_u8s _ _ _) _
      · rw [List.getElem?_eq_none (by rw [show signB zs leaf bs = endsB zs leaf (partsB bs) from rfl, endsB_length]; omega)]; exact fun j hj => by simp at hj) (by rw [show signB zs leaf bs = endsB zs leaf (partsB bs) from rfl, endsB_length]; omega)
    rw [open_sign] at h
    exact h
  obtain ⟨a, cap, rfl, _, _, _⟩ := hv
  clear hu hl hleaf hub hlb
  generalize leafB zs leaf = L at Hlf Hop
  generalize signB zs leaf bs = S at Hsg Hop
  go_enter Try.func5, Try.ntmps5
  go_wp2_with fail
  with_reducible refine Calls.mono Hsg.out ?_
  rintro e w1 ⟨r1, rfl, hr1, hU1⟩
  obtain ⟨g1, c1, rfl, hc1⟩ := row_slice hr1 (by omega)
  have HS := Lib.hid (Strs.of_row hr1)
  clear hr1 Hsg
  go_wp2_with fail
  with_reducible refine Calls.mono (Hop.out _ _ hU1 HS.out) ?_
  rintro e w2 ⟨rfl, hU2⟩
  have hU2 := Up.trans hU1 hU2
  go_wp2_with fail
  with_reducible refine Calls.mono (Hlf.out _) ?_
  rintro e w3 ⟨rfl, hU3⟩
  have hU3 := Up.trans hU2 hU3
  go_wp2_with fail
  with_reducible refine Calls.mono (alive_any _) ?_
  rintro e w4 ⟨rfl, hU4⟩
  have hU4 := Up.trans hU3 hU4
  go_wp2
  go_ret
  exact ⟨rfl, hU4⟩
theorem lawBack_str (s : ByteArray) (leaf : Int) (v : Value) (bs : List Int) (w : World) (hl : s.size ≤ 140737488351232) (hleaf : -9223372036854775808 ≤ leaf ∧ leaf ≤ 9223372036854775807) (hv : Ints .u8 w v bs) (hub : U8s bs) (hlb : bs.length ≤ 140737488351232) :
    Calls Try.prog 5 #[.string s, .int .i64 leaf, v] w fun e w' => e = .returned (.bool true) ∧ Below w.heap.size w w' := by
  have h := lawBack_any (octsOf s) leaf v bs w (octsOf_u8s s) (by rw [octsOf_length]; omega) hleaf hv hub (by omega)
  rw [strOf_octs] at h
  exact h
end Go.Proofs.Ytjjaefacfcjgiaa
