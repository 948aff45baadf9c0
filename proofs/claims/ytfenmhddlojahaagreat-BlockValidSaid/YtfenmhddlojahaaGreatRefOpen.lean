import Derived.Deep.QuietTactic
import Derived.BigQuiet
import Derived.IntWalk
import Derived.Test.YtfenmhddlojahaaGreatRefSha
import Derived.Test.YtfenmhddlojahaaGreatWots
import Derived.Test.YtfenmhddlojahaaGreatWotsSigs
import Derived.Test.YtfenmhddlojahaaGreatOct
import Derived.Test.YtfenmhddlojahaaGreatGrowth
import Derived.Test.YtfenmhddlojahaaGreatRefWots
namespace Go.Proofs.YtfenmhddlojahaaGreat
set_option maxRecDepth 100000
/-
  The reference: Open.
-/
section
set_option linter.unusedVariables false
open Go.RowKit

set_option maxHeartbeats 2000000 in
theorem refOpen_any (v : Value) (bs : List Int) (pv : Value) (ls : List (List Int)) (w : World) (hv : Ints .u8 w v bs) (hub : U8s bs) (hlb : bs.length ≤ 140737488355200) (hp : Strs w pv ls) (hup : ∀ k : Nat, U8s (ls[k]?.getD [])) (hlp : ls.length ≤ 9223372036854775807) :
    Calls Tryz.prog 65 #[v, pv] w fun e w' => e = .returned (.string (strOfNums (openB bs ls))) ∧ Up w w' := by
  obtain ⟨i0, hi, hz0, hz1, hz2⟩ := info_parts info_u8
  have Hpa := Lib.hid (refParts_any v bs w hv hub hlb)
  obtain ⟨a, cap, rfl, _, _, _⟩ := hv
  by_cases h11 : ls.length = 11
  · have Hup := Lib.hid hup
    have Hpl := Lib.hid (partsB_length bs)
    have Hpr := Lib.hid (partsB_range bs)
    have Hend : Hid (∀ k : Nat, chainB (ls[k]?.getD []) (stepsN (3 - (partsB bs)[k]?.getD 0)) = openEnd ls (partsB bs) k) := fun k => rfl
    have HE8 : Hid (∀ k : Nat, (ls[k]?.getD []).length = 8 → (openEnd ls (partsB bs) k).length = 8) := fun k h => chainB_length _ h _
    have HEu : Hid (∀ k : Nat, U8s (openEnd ls (partsB bs) k)) := fun k => chainB_u8s _ (hup k) _
    have H8 : Hid ((∀ j, j < 11 → (ls[j]?.getD []).length = 8) → (upTo (openEnd ls (partsB bs)) 11).flatten.length = 88) := fun h => upTo_flat _ 11 fun i hi => chainB_length _ (h i hi) _
    have H8u : Hid (U8s (upTo (openEnd ls (partsB bs)) 11).flatten) := upTo_u8s _ 11 fun i _ => chainB_u8s _ (hup i) _
    have HYes : Hid ((∀ j, j < 11 → (ls[j]?.getD []).length = 8) → shortB (upTo (openEnd ls (partsB bs)) 11).flatten = openB bs ls) := fun h => openB_yes bs ls (formed_true h11 fun k hk => h k (by omega))
    have HNo : Hid (∀ k, k < 11 → (ls[k]?.getD []).length ≠ 8 → strOfNums (openB bs ls) = ⟨#[]⟩) := fun k hk h => by rw [openB_no bs ls (formed_false_at k (by omega) h)]; rfl
    have Hp := Lib.hid hp
    have hp2 := hp
    obtain ⟨pa, pcap, rfl, hpcap, _, hpc⟩ := hp2
    rcases hpc with rfl | ⟨pb, po, rfl, _⟩
    · simp at h11
    generalize openB bs ls = Y at HYes HNo ⊢
    have H11 := Lib.hid h11
    clear hup hub hlb hp hlp
    generalize openEnd ls (partsB bs) = E at Hend H8 H8u HYes HE8 HEu
    generalize partsB bs = D at Hpa Hend Hpl Hpr
    rw [h11] at Hp hpcap ⊢
    clear h11
    go_enter Tryz.func65, Tryz.ntmps65
    go_wp2_with fail
    with_reducible refine Calls.mono Hpa.out ?_
    rintro e w1 ⟨r1, rfl, hr1, hB1⟩
    obtain ⟨g1, c1, rfl, hc1⟩ := row_slice hr1 (by omega)
    have HI1 := Lib.hid (Ints.of_row hr1)
    have Hp1 := Lib.hid (Hp.out.up hB1)
    clear hr1 Hpa Hp
    go_wp2
    go_loopw [6, 7] (fun o i wr => ∃ k m : Nat, k ≤ 11 ∧ m = 8 * k ∧ i = .int .i64 k ∧ (∀ j, j < k → (ls[j]?.getD []).length = 8) ∧ wr.ownsRow w1.heap.size 5 1 o m ((upTo E k).flatten.map (Value.int .u8)) ∧ Up w1 wr)
      (fun _ i _ => 11 - (intOf i).toNat)
    case atStart => exact ⟨0, 0, Nat.zero_le _, rfl, rfl, fun j hj => by omega, World.ownsRow_nil _ _ _ _, Up.refl w1⟩
    case round =>
      obtain ⟨k, m, hk, hm, rfl, hj8, hrow, hB⟩ := hrel
      have Hj8 := Lib.hid hj8
      have Hrow := Lib.hid hrow
      have Hm := Lib.hid hm
      clear hj8 hrow
      by_cases hlt : k < 11
      · have hs := upTo_flat_succ E k
        have hcpall : ∀ w', Up w1 w' → w'.cell? ⟨pb, po + k, none⟩ = some (.string (strOfNums (ls[k]?.getD []))) := fun w' h => by
          obtain ⟨_, _, he, _, _, hc⟩ := Hp1.out.up h
          simp only [Value.slice.injEq] at he
          obtain ⟨rfl, _, _⟩ := he
          rcases hc with hc | ⟨b, off, he, hc⟩
          · have := H11.out; rw [hc] at this; simp at this
          · simp only [Option.some.injEq, Addr.mk.injEq, and_true] at he
            obtain ⟨rfl, rfl⟩ := he
            exact hc k (by rw [H11.out]; exact hlt)
        have hckall : ∀ w', Up w1 w' → w'.cell? ⟨g1, 0 + k, none⟩ = some (.int .i64 (D[k]?.getD 0)) := fun w' h => by rw [Nat.zero_add]; exact (HI1.out.up h).at0 k (by rw [Hpl.out]; exact hlt)
        have hend := Hend.out k
        have hdr := Hpr.out k
        have hpu := Hup.out k
        have hE8 := HE8.out k
        have hno := HNo.out k hlt
        have hxc := strCells_of (E k) (HEu.out k)
        obtain ⟨p, hpk⟩ : ∃ p, ls[k]?.getD [] = p := ⟨_, rfl⟩
        rw [hpk] at hcpall hend hpu hE8 hno
        generalize D[k]?.getD 0 = d at hckall hend hdr
        have hsz := strOfNums_size p
        have hcp := hcpall wr hB
        have Hcp := Lib.hid hcpall
        have Hck := Lib.hid hckall
        have Hd := Lib.hid hend
        have Hpu := Lib.hid hpu
        have HE8 := Lib.hid hE8
        have Hno := Lib.hid hno
        have Hs := Lib.hid hs
        have Hxc := Lib.hid hxc
        have Hpk := Lib.hid hpk
        have hm2 : m ≤ 88 := by omega
        clear hs hcpall hckall hend hpu hE8 hno hxc hpk hm
        by_cases hx8 : p.length = 8
        · have hd2 : ((p.length : Int) != 8) = false := by simp; omega
          have Hp8 := Lib.hid hx8
          clear hx8
          go_wp2
          clear hd2 hsz hcp
          have hx8 : (strOfNums (E k)).size = 8 := by rw [strOfNums_size]; exact HE8.out Hp8.out
          refine region_alongS (S := Up w1) [(0, true), (1, true), (2, true), (3, true), (4, true), (5, true), (6, true), (7, true), (8, true), (9, true), (10, false), (11, false), (12, true)] (by kernel_rfl) rfl (by kernel_rfl) (by kernel_rfl) (fun c a d v w h => by cases d <;> exact h) (Up.drew hB) ?_
          refine alongS_move (u6) rfl rfl rfl rfl ?_
          change AlongS _ _ _ _ _ { tmps := #[_, .slice (some ⟨pb, po, none⟩) 11 pcap, _, _, _, .slice (some ⟨g1, 0, none⟩) 11 c1, u6, .int .i64 k, _, _, _, _, _, _, _, _, _, _, _, _, _, _, _, u6, _, _, _, _, _, _, _, _, _, _, _, _, _], defers := _ } _
          refine alongS_move (.slice (some ⟨pb, po, none⟩) 11 pcap) rfl rfl rfl rfl ?_
          change AlongS _ _ _ _ _ { tmps := #[_, .slice (some ⟨pb, po, none⟩) 11 pcap, _, _, _, .slice (some ⟨g1, 0, none⟩) 11 c1, u6, .int .i64 k, _, _, _, _, _, _, _, _, _, _, _, _, _, _, _, u6, .slice (some ⟨pb, po, none⟩) 11 pcap, _, _, _, _, _, _, _, _, _, _, _, _], defers := _ } _
          refine alongS_move (.int .i64 k) rfl rfl rfl rfl ?_
          change AlongS _ _ _ _ _ { tmps := #[_, .slice (some ⟨pb, po, none⟩) 11 pcap, _, _, _, .slice (some ⟨g1, 0, none⟩) 11 c1, u6, .int .i64 k, _, _, _, _, _, _, _, _, _, _, _, _, _, _, _, u6, .slice (some ⟨pb, po, none⟩) 11 pcap, .int .i64 k, _, _, _, _, _, _, _, _, _, _, _], defers := _ } _
          refine alongS_index Tryz.underlying25 Tryz.sizeOf9 rfl rfl rfl rfl hlt rfl ?_
          change AlongS _ _ _ _ _ { tmps := #[_, .slice (some ⟨pb, po, none⟩) 11 pcap, _, _, _, .slice (some ⟨g1, 0, none⟩) 11 c1, u6, .int .i64 k, _, _, _, _, _, _, _, _, _, _, _, _, _, _, _, u6, .slice (some ⟨pb, po, none⟩) 11 pcap, .int .i64 k, .pointer (some ⟨pb, po + k, none⟩), _, _, _, _, _, _, _, _, _, _], defers := _ } _
          refine alongS_load (.string (strOfNums p)) Tryz.isAgg9 rfl rfl rfl Hcp.out rfl ?_
          change AlongS _ _ _ _ _ { tmps := #[_, .slice (some ⟨pb, po, none⟩) 11 pcap, _, _, _, .slice (some ⟨g1, 0, none⟩) 11 c1, u6, .int .i64 k, _, _, _, _, _, _, _, _, _, _, _, _, _, _, _, u6, .slice (some ⟨pb, po, none⟩) 11 pcap, .int .i64 k, .pointer (some ⟨pb, po + k, none⟩), .string (strOfNums p), _, _, _, _, _, _, _, _, _], defers := _ } _
          refine alongS_move (.slice (some ⟨g1, 0, none⟩) 11 c1) rfl rfl rfl rfl ?_
          change AlongS _ _ _ _ _ { tmps := #[_, .slice (some ⟨pb, po, none⟩) 11 pcap, _, _, _, .slice (some ⟨g1, 0, none⟩) 11 c1, u6, .int .i64 k, _, _, _, _, _, _, _, _, _, _, _, _, _, _, _, u6, .slice (some ⟨pb, po, none⟩) 11 pcap, .int .i64 k, .pointer (some ⟨pb, po + k, none⟩), .string (strOfNums p), .slice (some ⟨g1, 0, none⟩) 11 c1, _, _, _, _, _, _, _, _], defers := _ } _
          refine alongS_move (.int .i64 k) rfl rfl rfl rfl ?_
          change AlongS _ _ _ _ _ { tmps := #[_, .slice (some ⟨pb, po, none⟩) 11 pcap, _, _, _, .slice (some ⟨g1, 0, none⟩) 11 c1, u6, .int .i64 k, _, _, _, _, _, _, _, _, _, _, _, _, _, _, _, u6, .slice (some ⟨pb, po, none⟩) 11 pcap, .int .i64 k, .pointer (some ⟨pb, po + k, none⟩), .string (strOfNums p), .slice (some ⟨g1, 0, none⟩) 11 c1, .int .i64 k, _, _, _, _, _, _, _], defers := _ } _
          refine alongS_index Tryz.underlying96 Tryz.sizeOf3 rfl rfl rfl rfl hlt rfl ?_
          change AlongS _ _ _ _ _ { tmps := #[_, .slice (some ⟨pb, po, none⟩) 11 pcap, _, _, _, .slice (some ⟨g1, 0, none⟩) 11 c1, u6, .int .i64 k, _, _, _, _, _, _, _, _, _, _, _, _, _, _, _, u6, .slice (some ⟨pb, po, none⟩) 11 pcap, .int .i64 k, .pointer (some ⟨pb, po + k, none⟩), .string (strOfNums p), .slice (some ⟨g1, 0, none⟩) 11 c1, .int .i64 k, .pointer (some ⟨g1, 0 + k, none⟩), _, _, _, _, _, _], defers := _ } _
          refine alongS_load (.int .i64 d) Tryz.isAgg3 rfl rfl rfl Hck.out rfl ?_
          change AlongS _ _ _ _ _ { tmps := #[_, .slice (some ⟨pb, po, none⟩) 11 pcap, _, _, _, .slice (some ⟨g1, 0, none⟩) 11 c1, u6, .int .i64 k, _, _, _, _, _, _, _, _, _, _, _, _, _, _, _, u6, .slice (some ⟨pb, po, none⟩) 11 pcap, .int .i64 k, .pointer (some ⟨pb, po + k, none⟩), .string (strOfNums p), .slice (some ⟨g1, 0, none⟩) 11 c1, .int .i64 k, .pointer (some ⟨g1, 0 + k, none⟩), .int .i64 d, _, _, _, _, _], defers := _ } _
          refine alongS_sub (s := 3 - d) (IntWalk.i64_in _ (by omega)) rfl rfl rfl rfl rfl ?_
          change AlongS _ _ _ _ _ { tmps := #[_, .slice (some ⟨pb, po, none⟩) 11 pcap, _, _, _, .slice (some ⟨g1, 0, none⟩) 11 c1, u6, .int .i64 k, _, _, _, _, _, _, _, _, _, _, _, _, _, _, _, u6, .slice (some ⟨pb, po, none⟩) 11 pcap, .int .i64 k, .pointer (some ⟨pb, po + k, none⟩), .string (strOfNums p), .slice (some ⟨g1, 0, none⟩) 11 c1, .int .i64 k, .pointer (some ⟨g1, 0 + k, none⟩), .int .i64 d, .int .i64 (3 - d), _, _, _, _], defers := _ } _
          refine alongS_call (vs := [.string (strOfNums p), .int .i64 (3 - d)]) rfl rfl rfl (enters_of Tryz.func99 (by kernel_rfl) rfl) rfl ?_
          have Hch := Lib.hid (refChain_any p (3 - d) wr.drew Hpu.out (by rw [Hp8.out]; omega))
          rw [Hd.out] at Hch
          with_reducible refine Calls.mono Hch.out ?_
          rintro e w3 ⟨rfl, hU3⟩
          have hB3 : Up w1 w3 := Up.trans (Up.drew hB) hU3
          have hrow := ownsRow_up Hrow.out (Up.trans (Up.drew1 wr) hU3)
          refine ⟨_, rfl, hB3, ?_⟩
          generalize E k = X at Hs Hxc hx8 ⊢
          change AlongS _ _ _ _ _ { tmps := #[_, .slice (some ⟨pb, po, none⟩) 11 pcap, _, _, _, .slice (some ⟨g1, 0, none⟩) 11 c1, u6, .int .i64 k, _, _, _, _, _, _, _, _, _, _, _, _, _, _, _, u6, .slice (some ⟨pb, po, none⟩) 11 pcap, .int .i64 k, .pointer (some ⟨pb, po + k, none⟩), .string (strOfNums p), .slice (some ⟨g1, 0, none⟩) 11 c1, .int .i64 k, .pointer (some ⟨g1, 0 + k, none⟩), .int .i64 d, .int .i64 (3 - d), .string (strOfNums X), _, _, _], defers := _ } _
          refine alongS_appendstr rfl rfl rfl w1.heap.size 5 i0 Tryz.underlying31 Tryz.underlying9 hi hz0 hz1 hz2 u6 m _ rfl hrow (strOfNums X) rfl (by rw [hx8]; unfold maxLen; omega) (by rw [hx8]; omega) hB3.size ?_
          intro v4 w4 hown' hgrow
          rw [Hxc.out, hx8] at hown'
          have hB4 : Up w1 w4 := Below.grown hB3 hgrow hB3.size (fun q e => (hrow.lt q e).1)
          refine ⟨hB4, ?_⟩
          change AlongS _ _ _ _ _ { tmps := #[_, .slice (some ⟨pb, po, none⟩) 11 pcap, _, _, _, .slice (some ⟨g1, 0, none⟩) 11 c1, u6, .int .i64 k, _, _, _, _, _, _, _, _, _, _, _, _, _, _, _, u6, .slice (some ⟨pb, po, none⟩) 11 pcap, .int .i64 k, .pointer (some ⟨pb, po + k, none⟩), .string (strOfNums p), .slice (some ⟨g1, 0, none⟩) 11 c1, .int .i64 k, .pointer (some ⟨g1, 0 + k, none⟩), .int .i64 d, .int .i64 (3 - d), .string (strOfNums X), v4, _, _], defers := _ } _
          refine alongS_assign (v4) rfl rfl rfl rfl ?_
          change AlongS _ _ _ _ _ { tmps := #[_, .slice (some ⟨pb, po, none⟩) 11 pcap, _, _, _, .slice (some ⟨g1, 0, none⟩) 11 c1, v4, .int .i64 k, _, _, _, _, _, _, _, _, _, _, _, _, _, _, _, u6, .slice (some ⟨pb, po, none⟩) 11 pcap, .int .i64 k, .pointer (some ⟨pb, po + k, none⟩), .string (strOfNums p), .slice (some ⟨g1, 0, none⟩) 11 c1, .int .i64 k, .pointer (some ⟨g1, 0 + k, none⟩), .int .i64 d, .int .i64 (3 - d), .string (strOfNums X), v4, _, _], defers := _ } _
          refine alongS_done ?_
          go_wp2
          go_roundw
          case rel => exact ⟨k + 1, m + 8, by omega, by have := Hm.out; omega, by go_num, fun j hj => by
            rcases Nat.lt_or_ge j k with h | h
            · exact Hj8.out j h
            · obtain rfl : j = k := by omega
              rw [Hpk.out]; exact Hp8.out, by rw [Hs.out, List.map_append]; exact hown', hB4⟩
          case measure => simp [intOf]; omega
        · have hd2 : ((p.length : Int) != 8) = true := by simp; omega
          have hY := Hno.out hx8
          have HYe := Lib.hid hY
          have hB4 := Up.trans hB1 hB
          clear hY hx8
          go_wp2
          go_ret
          exact ⟨by rw [HYe.out]; rfl, hB4⟩
      · obtain rfl : k = 11 := by omega
        have hl8 := H8.out Hj8.out
        have Hj := Lib.hid (refShort_any _ _ wr (Ints.of_row Hrow.out) H8u.out (by rw [hl8]; omega))
        rw [HYes.out Hj8.out] at Hj
        clear hm hl8
        go_wp2_with fail
        with_reducible refine Calls.mono Hj.out ?_
        rintro e w2 ⟨rfl, hU2⟩
        have hB2 := Up.trans (Up.trans hB1 hB) hU2
        go_wp2
        go_ret
        exact ⟨rfl, hB2⟩
  · have hd : ((ls.length : Int) != 11) = true := by simp; omega
    have hY : strOfNums (openB bs ls) = ⟨#[]⟩ := by rw [openB_no bs ls (formed_false_len h11)]; rfl
    rw [hY]
    obtain ⟨pa, pcap, rfl, _, _, _⟩ := hp
    clear hup hub hlb h11 hY Hpa
    go_enter Tryz.func65, Tryz.ntmps65
    go_wp2
    go_ret
    exact ⟨rfl, Up.refl _⟩
end
end Go.Proofs.YtfenmhddlojahaaGreat
