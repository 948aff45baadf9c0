import Derived.Test.YtpapkilhigicgaaLaws
import Derived.Test.YtpapkilhigicgaaOctJoin
import Derived.Test.YtpapkilhigicgaaOctAlive
/-
  OctetsOwn: for every two lists of octets the walk returns true.
-/
namespace Go.Proofs.Ytpapkilhigicgaa
set_option linter.unusedVariables false
open Go.RowKit

set_option maxHeartbeats 1000000 in
theorem lawOwn_any (va vb : Value) (za zb : List Int) (w : World) (ha : Ints .u8 w va za) (hb : Ints .u8 w vb zb) (la : za.length ≤ 140737488351232) (lb : zb.length ≤ 140737488351232) :
    Calls Try.prog 5 #[va, vb] w fun e w' => e = .returned (.bool true) ∧ Below w.heap.size w w' := by
  obtain ⟨i0, hi, hz0, hz1, hz2⟩ := info_parts info_u8
  have ha0 := ha
  have hb0 := hb
  obtain ⟨aa, ca, rfl, hca, hna, _⟩ := ha0
  obtain ⟨ab, cb, rfl, hcb, hnb, _⟩ := hb0
  have Hna : Hid (aa = none → za.length = 0 ∧ ca = 0) := fun h => ⟨by have := hna h; omega, hna h⟩
  have Hia := Lib.hid ha
  have Hib := Lib.hid hb
  clear hna hnb
  go_enter Try.func5, Try.ntmps5
  go_wp2_with fail
  refine (alive_any w).mono ?_
  rintro e w1 ⟨rfl, hB1⟩
  have ha1 := ha.kept hB1
  have hb1 := hb.kept hB1
  clear ha hb
  obtain ⟨_, _, ea, _, _, hca1⟩ := ha1
  simp only [Value.slice.injEq, true_and] at ea
  obtain ⟨rfl, rfl⟩ := ea
  have Hnews := Lib.hid (cells_all (k := .u8) hca1)
  have Hone : Hid (∀ u ∈ za.map (Value.int .u8), u.oneCell' = true) := ints_oneCell .u8 za
  clear hca1
  go_wp2_with (first | (go_at_call 14; fail) | (at_builtin; refine wpList_append_own_src _ rfl _ _ 22 rfl w1.heap.size 5 i0 (.int .u8 0) 1 1 Try.underlying22 hi hz0 hz1 hz2 rfl (by decide) (.slice (some ⟨w1.heap.size, 0, none⟩) 0 0) 0 [] rfl (ownsRow_empty _ _) aa za.length ca (za.map (Value.int .u8)) rfl Hna.out (by simp) (fun ad h j u hj => by have h1 := Hnews.out ad h j u hj; exact (Below.cell (B := w1.heap.size) ((Below.refl _ w1).alloc (Nat.le_refl _) _) (World.block_lt_of_cell? w1 _ h1)).trans h1) Hone.out (by unfold maxLen; omega) (by omega) (by simp) ?_; intro vi w2 hri hgi hne; obtain ⟨g, cg, rfl, hg1, hg2⟩ := ownsRow_addr hri (fun e => by simpa using hne e); clear hne; simp only [Nat.zero_add, List.nil_append] at hri ⊢))
  have hB2 : Below w.heap.size w w2 := (hB1.alloc hB1.size _).grown hgi (by have := hB1.size; simp; omega) (fun k e => by cases e; exact hB1.size)
  have hi2 := Ints.of_row hri
  have hbb : Below w1.heap.size w1 w2 := ((Below.refl _ w1).alloc (Nat.le_refl _) _).grown hgi (by simp) (fun k e => by cases e; exact Nat.le_refl _)
  have hb2 := hb1.kept hbb
  have hR : Rows8 (w2.alloc (.cells #[Value.slice (some ⟨g, 0, none⟩) za.length cg, Value.slice ab zb.length cb] 22)) (.slice (some ⟨w2.heap.size, 0, none⟩) 2 2) [za, zb] :=
    Rows8.new w2 22 [_, _] [za, zb] rfl (fun j hj => by
      match j, hj with
      | 0, _ => exact hi2
      | 1, _ => exact hb2)
  have hfl : [za, zb].flatten = za ++ zb := by simp
  have hjoin := join_any _ _ _ hR (by simp) (by rw [hfl, List.length_append]; omega)
  rw [hfl] at hjoin
  simp only [World.size_alloc] at hjoin
  refine hjoin.mono ?_
  clear hjoin hR hfl hb2 hi2 hgi hbb hb1
  rintro e w3 ⟨rfl, hrc, hB3⟩
  have hB3' : Below w.heap.size w w3 := (hB2.alloc hB2.size _).trans (hB3.mono (by have := hB2.size; simp; omega))
  have hrg : w3.ownsRow w1.heap.size 5 1 (.slice (some ⟨g, 0, none⟩) za.length cg) za.length (za.map (Value.int .u8)) :=
    (hri.alloc _).kept (row := none) ⟨hB3.os, hB3.tape, hB3.output, hB3.size, fun k hk _ => hB3.block k (by simpa using hk)⟩ (.inr (by simp [Value.ownBlock]))
  clear hri hB3
  have Hrc := Lib.hid hrc
  clear hrc
  go_wp2
  go_loopw [7] (fun i wr => ∃ (k : Nat) (zs : List Int), k ≤ za.length ∧ i = .int .i64 k ∧ zs.length = za.length ∧ wr.ownsRow w1.heap.size 5 1 (.slice (some ⟨g, 0, none⟩) za.length cg) za.length (zs.map (Value.int .u8)) ∧ w3.grownBy wr (some g))
    (fun i _ => za.length - (intOf i).toNat)
  case atStart => exact ⟨0, za, Nat.zero_le _, rfl, rfl, hrg, World.grownBy.refl _ _⟩
  case round =>
    obtain ⟨k, zs, hk, rfl, hzs, hrow, hgw⟩ := hrel
    by_cases hlt : k < za.length
    · have hck := hrow.cellAt k (by omega)
      have hfr := hrow.frozenAt k
      have hst := fun u => hrow.stored k u
      have hz : (zs.map (Value.int .u8))[k]? = some (.int .u8 (zs[k]'(by omega))) := by simp
      obtain ⟨y, hy⟩ : ∃ y, zs[k]'(by omega) = y := ⟨_, rfl⟩
      rw [hz, hy] at hck
      have Hst := Lib.hid hst
      clear hst hz hy
      go_wp2
      go_roundw
      case rel =>
        obtain ⟨h1, h2⟩ := Hst.out (.int .u8 ((y + 1) % 256))
        refine ⟨k + 1, zs.set k ((y + 1) % 256), by omega, by go_num, by simpa using hzs, ?_, grownBy_trans hgw h2⟩
        rw [List.map_set]; exact h1
      case measure => simp [intOf]; omega
    · obtain rfl : k = za.length := by omega
      obtain ⟨wo, rfl⟩ : ∃ wo : World, wo = wr := ⟨_, rfl⟩
      have hgb : ∀ j, some g = some j → w.heap.size ≤ j := fun j e => by cases e; have := hB1.size; omega
      have hBr : Below w.heap.size w wo := hB3'.grown hgw hB3'.size hgb
      have hi3 := Ints.of_row hrow
      rw [← hzs] at hi3
      have hc3 := Hrc.out.kept hgw (.inr (by simp [Value.ownBlock]; omega))
      have hci := (Ints.of_row hc3).kept ((Below.refl _ wo).alloc (Nat.le_refl _) (.cells #[.slice (some ⟨g, 0, none⟩) zs.length cg] 22))
      have hR : Rows8 (wo.alloc (.cells #[Value.slice (some ⟨g, 0, none⟩) zs.length cg] 22)) (.slice (some ⟨wo.heap.size, 0, none⟩) 1 1) [zs] :=
        Rows8.new wo 22 [_] [zs] rfl (fun j hj => by
          match j, hj with
          | 0, _ => exact hi3)
      have hfl : [zs].flatten = zs := by simp
      have hjoin := join_any _ _ _ hR (by simp) (by rw [hfl, hzs]; omega)
      rw [hfl] at hjoin
      simp only [World.size_alloc, hzs] at hjoin hci
      have Hci := Lib.hid hci
      have Hj := Lib.hid hjoin
      have Hzs := Lib.hid hzs
      clear hjoin hR hfl hi3 hc3 hci hrow hgw hgb hzs
      go_wp2_with (go_at_call 14; refine Hj.out.mono ?_; rintro e w5 ⟨rfl, hrd, hB5⟩)
      have hB5' : Below w.heap.size w w5 := (hBr.alloc hBr.size _).trans (hB5.mono (by have := hBr.size; simp; omega))
      have HB5 := Lib.hid hB5
      clear hB5
      go_loopw [9] (fun i wr => ∃ (k : Nat) (ys : List Int), k ≤ za.length ∧ i = .int .i64 k ∧ ys.length = za.length ∧ wr.ownsRow (wo.heap.size + 1) 5 1 (.slice (some ⟨wo.heap.size + 1, 0, none⟩) za.length za.length) za.length (ys.map (Value.int .u8)) ∧ Below (wo.heap.size + 1) w5 wr)
        (fun i _ => za.length - (intOf i).toNat)
      case atStart => exact ⟨0, zs, Nat.zero_le _, rfl, Hzs.out, hrd, Below.refl _ _⟩
      case round =>
        obtain ⟨k, ys, hk, rfl, hys, hrow, hgw⟩ := hrel
        by_cases hlt : k < za.length
        · have hck := hrow.cellAt k (by omega)
          have hfr := hrow.frozenAt k
          have hst := fun u => hrow.stored k u
          have hz : (ys.map (Value.int .u8))[k]? = some (.int .u8 (ys[k]'(by omega))) := by simp
          obtain ⟨y, hy⟩ : ∃ y, ys[k]'(by omega) = y := ⟨_, rfl⟩
          rw [hz, hy] at hck
          have Hst := Lib.hid hst
          clear hst hz hy
          go_wp2
          go_roundw
          case rel =>
            obtain ⟨h1, h2⟩ := Hst.out (.int .u8 ((y + 1) % 256))
            refine ⟨k + 1, ys.set k ((y + 1) % 256), by omega, by go_num, by simpa using hys, ?_, hgw.setCell (p := ⟨wo.heap.size + 1, k, none⟩) (Nat.le_refl _) _⟩
            rw [List.map_set]; exact h1
          case measure => simp [intOf]; omega
        · obtain rfl : k = za.length := by omega
          have hBq : Below w.heap.size w wr := hB5'.trans (hgw.mono (by have := hBr.size; omega))
          have sa := (Hia.out.kept hBq).str
          have sb := (Hib.out.kept hBq).str
          have sc := (Hci.out.kept (by simpa using HB5.out.trans hgw)).str
          rw [List.length_append] at sc
          clear hrow hgw
          have happ := strOfNums_append za zb
          have hsz : ¬ (9223372036854775807 < (strOfNums za).size + (strOfNums zb).size) := by rw [strOfNums_size, strOfNums_size]; omega
          go_wp2
          go_ret
          exact ⟨rfl, hBq⟩
end Go.Proofs.Ytpapkilhigicgaa
