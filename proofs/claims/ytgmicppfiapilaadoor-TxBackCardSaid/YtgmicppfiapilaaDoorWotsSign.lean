import Derived.Test.YtgmicppfiapilaaDoorWotsSigs
namespace Go.Proofs.YtgmicppfiapilaaDoor
set_option maxRecDepth 100000
/-
  Sign.
-/
section
set_option linter.unusedVariables false
open Go.RowKit

def signEnd (zs : List Int) (leaf : Int) (ds : List Int) (i : Nat) : List Int := chainB (secretB zs leaf i) (stepsN (ds[i]?.getD 0))
theorem signEnd_8 (zs : List Int) (leaf : Int) (ds : List Int) (i : Nat) : (signEnd zs leaf ds i).length = 8 := chainB_length _ (secretB_length _ _ _) _
theorem signEnd_u8s (zs : List Int) (leaf : Int) (ds : List Int) (i : Nat) : U8s (signEnd zs leaf ds i) := chainB_u8s _ (secretB_u8s _ _ _) _
theorem signB_eq (zs : List Int) (leaf : Int) (text : List Int) : upTo (signEnd zs leaf (partsB text)) 11 = signB zs leaf text := rfl

set_option maxHeartbeats 1000000 in
theorem sign_any (zs : List Int) (leaf : Int) (v : Value) (bs : List Int) (w : World) (hu : U8s zs) (hl : zs.length ≤ 140737488355200) (hleaf : -9223372036854775808 ≤ leaf ∧ leaf ≤ 9223372036854775807) (hv : Ints .u8 w v bs) (hub : U8s bs) (hlb : bs.length ≤ 140737488355328) :
    Calls Tryd.prog 38 #[.string (strOfNums zs), .int .i64 leaf, v] w fun e w' => ∃ r, e = .returned r ∧ w'.ownsRow w.heap.size 9 1 r 11 (strVs (signB zs leaf bs)) ∧ Up w w' := by
  obtain ⟨i0, hi, hz0, hz1, hz2⟩ := info_parts info_strg
  have hmk := make_strs 11 11 rfl (by omega)
  have Hpa : Hid (∀ wx, Up w wx → Calls Tryd.prog 63 #[v] wx fun e w' => ∃ r, e = .returned r ∧ w'.ownsRow wx.heap.size 3 1 r 11 ((partsB bs).map (Value.int .i64)) ∧ Up wx w') := fun wx hux => parts_any v bs wx (hv.up hux) hub hlb
  have Hsec : Hid (∀ (k : Nat) wx, k < 11 → Calls Tryd.prog 58 #[.string (strOfNums zs), .int .i64 leaf, .int .i64 k] wx fun e w' => e = .returned (.string (strOfNums (secretB zs leaf k))) ∧ Up wx w') := fun k wx hk => secret_any zs leaf k wx hu hl hleaf (by omega)
  have Hs8 : Hid (∀ k : Nat, (secretB zs leaf k).length = 8) := fun k => secretB_length _ _ _
  have Hsu : Hid (∀ k : Nat, U8s (secretB zs leaf k)) := fun k => secretB_u8s _ _ _
  have Hpl := Lib.hid (partsB_length bs)
  have Hend : Hid (∀ k : Nat, chainB (secretB zs leaf k) (stepsN ((partsB bs)[k]?.getD 0)) = signEnd zs leaf (partsB bs) k) := fun k => rfl
  rw [← signB_eq]
  obtain ⟨a, cap, rfl, _, _, _⟩ := hv
  clear hu hl hleaf hub hlb
  generalize signEnd zs leaf (partsB bs) = E at Hend ⊢
  generalize partsB bs = D at Hpa Hend Hpl
  go_enter Tryd.func38, Tryd.ntmps38
  go_wp2_with fail
  clear hmk
  have r0 := World.ownsRow_made (base := w.heap.size) (e := 9) (size := 1) w (madeCells #[.string ⟨#[]⟩] 11) 11 (Nat.le_refl _) (by unfold maxLen; omega) (by first | (rw [size_madeCells]; done) | (rw [size_madeCells]; omega))
  have hB0 : Up w (w.alloc (.cells (madeCells #[Value.string ⟨#[]⟩] 11) 9)) := Up.alloc (Up.refl w) _
  with_reducible refine Calls.mono (Hpa.out _ hB0) ?_
  rintro e w1 ⟨r1, rfl, hr1, hU1⟩
  have r1 := ownsRow_up r0 hU1
  have hB1 := Up.trans hB0 hU1
  obtain ⟨g1, c1, rfl, hc1⟩ := row_slice hr1 (by omega)
  have hI1 := Ints.of_row hr1
  have hg1 : w.heap.size < g1 := by have := hr1.2; rcases this with ⟨h, _⟩ | ⟨g, _, _, h, hg, _⟩; · simp at h
                                    · simp only [Value.slice.injEq, Option.some.injEq, Addr.mk.injEq, and_true] at h; simp at hg; omega
  clear hr1 r0 hB0 hU1
  go_wp2
  go_loopw [7, 14] (fun o i wr => ∃ k : Nat, k ≤ 11 ∧ i = .int .i64 k ∧ o = .slice (some ⟨w.heap.size, 0, none⟩) k 11 ∧ wr.ownsRow w.heap.size 9 1 (.slice (some ⟨w.heap.size, 0, none⟩) k 11) k (strVs (upTo E k)) ∧ Up w wr ∧ Ints .i64 wr (.slice (some ⟨g1, 0, none⟩) 11 c1) D)
    (fun _ i _ => 11 - (intOf i).toNat)
  case atStart => exact ⟨0, Nat.zero_le _, rfl, rfl, r1, hB1, hI1⟩
  case round =>
    obtain ⟨k, hk, rfl, rfl, hrow, hB, hID⟩ := hrel
    clear r1 hB1 hI1
    by_cases hlt : k < 11
    · have hs := upTo_succ E k
      have Hs := Lib.hid hs
      have Hrow := Lib.hid hrow
      have hck := hID.at0 k (by rw [Hpl.out]; exact hlt)
      have HID := Lib.hid hID
      have hend := Hend.out k
      generalize D[k]?.getD 0 = d at hck hend
      have Hd := Lib.hid hend
      clear hs hrow hend hID
      go_wp2_with fail
      with_reducible refine Calls.mono (Hsec.out k _ hlt) ?_
      rintro e w2 ⟨rfl, hU2⟩
      have Hch := Lib.hid (chain_any (secretB zs leaf k) d w2 (Hsu.out k) (by rw [Hs8.out k]; omega))
      rw [Hd.out] at Hch
      clear hck
      go_wp2_with fail
      with_reducible refine Calls.mono Hch.out ?_
      rintro e w3 ⟨rfl, hU3⟩
      have hB3 := Up.trans (Up.trans hB hU2) hU3
      have hrow := ownsRow_up Hrow.out (Up.trans hU2 hU3)
      have HID3 := Lib.hid (HID.out.up (Up.trans hU2 hU3))
      clear Hch hU2 hU3
      generalize E k = X at Hs ⊢
      go_wp2_with (at_builtin; refine wpList_append_fits_any _ rfl (.tmp 19) (.tmp 26) 25 rfl w.heap.size 9 i0 1 Tryd.underlying25 hi hz1 w.heap.size k 11 _ rfl (hrow.alloc _) (some ⟨w3.heap.size, 0, none⟩) 1 1 [.string (strOfNums X)] rfl (by simp) (by simp) (fun ad had => by cases had; exact cell_one_new _ _ _) (by simp [Value.oneCell']) (by omega) ?_; intro w4 hown' hgrow)
      go_roundw
      case rel => exact ⟨k + 1, by omega, by go_num, rfl, by rw [Hs.out, strVs_snoc]; exact hown', (Up.alloc hB3 _).grown hgrow (by have := hB3.size; simp; omega) (fun q e => by cases e; exact Nat.le_refl _), (HID3.out.alloc _).grownBy hgrow (by omega)⟩
      case measure => simp [intOf]; omega
    · obtain rfl : k = 11 := by omega
      go_wp2
      go_ret
      exact ⟨_, rfl, hrow, hB⟩
end

end Go.Proofs.YtgmicppfiapilaaDoor
