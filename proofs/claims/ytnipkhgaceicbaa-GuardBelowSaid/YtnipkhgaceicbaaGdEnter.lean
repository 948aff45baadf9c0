import Derived.Test.YtnipkhgaceicbaaGdRank
/-
  guard.Enter; the reference's Higher.
-/
namespace Go.Proofs.Ytnipkhgaceicbaa
set_option maxRecDepth 100000
section
set_option linter.unusedVariables false
open Go.RowKit Go.Sort Go.Lib

set_option maxHeartbeats 1000000 in
theorem enter_any (s : Gs) (v : Int) (w : World) : Calls Try.prog 9 #[.agg (gsA s), .int .i64 v] w fun e w' => e = .returned (.tuple #[.agg (gsA (enterG s v)), .bool (decide (s.V < v))]) ∧ Up w w' := by
  have hput : ((gsA s).setIfInBounds 0 (.int .i64 v)).setIfInBounds 10 (.bool false) = gsA { s with V := v, sp := false } := rfl
  have hc0 : (gsA s)[0]? = some (.int .i64 s.V) := rfl
  have hc10 : (gsA s)[10]? = some (.bool s.sp) := rfl
  have hsz : (gsA s).size = 11 := rfl
  have hsz' : (gsA { s with V := v, sp := false }).size = 11 := rfl
  have hone := gsA_one s
  have hone' := gsA_one { s with V := v, sp := false }
  unfold enterG
  obtain ⟨cs', hcs'⟩ : ∃ c, gsA { s with V := v, sp := false } = c := ⟨_, rfl⟩
  have hres : gsA (if s.V < v then { s with V := v, sp := false } else s) = if s.V < v then cs' else gsA s := by rw [← hcs']; split <;> rfl
  rw [hres]
  rw [hcs'] at hput hsz' hone'
  clear hres hcs'
  generalize s.V = V at hc0 ⊢
  generalize s.sp = SP at hc10
  generalize gsA s = cs at hput hc0 hc10 hsz hone ⊢
  have ha := heap_alloc_new w (.cells cs 28)
  have hu1 := Up.alloc (Up.refl (w.alloc (.cells cs 28))) (.cells #[.int .i64 0, .int .i64 0, .int .i64 0, .string ⟨#[]⟩, .int .i64 0, .int .i64 0, .string ⟨#[]⟩, .int .i64 0, .int .i64 0, .string ⟨#[]⟩, .bool false] 28)
  have hc := heap_alloc_new (w.alloc (.cells cs 28)) (.cells #[.int .i64 0, .int .i64 0, .int .i64 0, .string ⟨#[]⟩, .int .i64 0, .int .i64 0, .string ⟨#[]⟩, .int .i64 0, .int .i64 0, .string ⟨#[]⟩, .bool false] 28)
  have HA := Lib.hid ((hu1.block _ (lt_of_block ha)).trans ha)
  have HC := Lib.hid hc
  have HU := Lib.hid ((Up.alloc (Up.refl w) (.cells cs 28)).trans hu1)
  clear ha hc hu1
  rw [show (w.alloc (.cells cs 28)).heap.size = w.heap.size + 1 by simp] at HC
  by_cases hlt : V < v
  · have hd : (decide (v ≤ V)) = false := decide_eq_false (by omega)
    rw [if_pos hlt, decide_eq_true hlt]
    go_enter Try.func9, Try.ntmps9
    go_upto_region 1 with fail
    generalize (w.alloc (.cells cs 28)).alloc (.cells #[.int .i64 0, .int .i64 0, .int .i64 0, .string ⟨#[]⟩, .int .i64 0, .int .i64 0, .string ⟨#[]⟩, .int .i64 0, .int .i64 0, .string ⟨#[]⟩, .bool false] 28) = w3 at HA HC HU ⊢
    obtain ⟨A, hA⟩ : ∃ A, w.heap.size = A := ⟨_, rfl⟩
    have HG : Hid (w.heap.size ≤ A ∧ w.heap.size ≤ A + 1) := Lib.hid ⟨Nat.le_of_eq hA, by omega⟩
    rw [hA] at HA HC ⊢
    clear hA
    have hl0 : w3.cell? ⟨A, 0, none⟩ = some (.int .i64 V) := by rw [cell_of_row _ _ 0 _ _ _ HA.out]; exact hc0
    have hl10 : w3.cell? ⟨A, 10, none⟩ = some (.bool SP) := by rw [cell_of_row _ _ 10 _ _ _ HA.out]; exact hc10
    have hf0 : w3.frozen? ⟨A, 0, none⟩ = false := frozen_of_row w3 A 0 cs _ HA.out
    have hf10 : w3.frozen? ⟨A, 10, none⟩ = false := frozen_of_row w3 A 10 cs _ HA.out
    have hg1 : w3.grownBy ((w3.setCell ⟨A, 0, none⟩ (.int .i64 v)).setCell ⟨A, 10, none⟩ (.bool false)) (some A) := (grownBy_setCell w3 ⟨A, 0, none⟩ (.int .i64 v)).trans (grownBy_setCell _ ⟨A, 10, none⟩ (.bool false))
    have HA5 : Hid (((w3.setCell ⟨A, 0, none⟩ (.int .i64 v)).setCell ⟨A, 10, none⟩ (.bool false)).heap[A]? = some (.cells cs' 28 (0, 0))) := Lib.hid (set_field (set_field HA.out 0 _ rfl) 10 _ hput)
    have HC5 := Lib.hid ((hg1.block _ (lt_of_block HC.out) (fun e => by injection e with e; omega)).trans HC.out)
    have HU5 := Lib.hid (up_at HU.out hg1 HG.out.1)
    clear hg1
    go_upto_region 4 with fail
    generalize (w3.setCell ⟨A, 0, none⟩ (.int .i64 v)).setCell ⟨A, 10, none⟩ (.bool false) = w5 at HA5 HC5 HU5 ⊢
    clear hl0 hl10 hf0 hf10 HA HC HU
    go_wp2_with (first | (refine wpList_ex rfl (.agg cs') w5 (ex_loadrow (x := .tmp 2) rfl rfl _ 28 HA5.out Try.underlying28 rfl (by rw [info_gs, hsz'])) ?_) | (refine wpList_store_agg rfl 28 (.tmp 4) (.tmp 14) rfl (A + 1) _ cs' rfl rfl 28 HC5.out (by rw [info_gs, hsz']) (by rw [hsz']; rfl) hone' ?_; intro w12 hg12 hgr12))
    refine bodyPost_ret (results_gs2 rfl _ _ _ _ rfl hg12 hsz') rfl ⟨rfl, up_at HU5.out hgr12 HG.out.2⟩
  · have hd : (decide (v ≤ V)) = true := decide_eq_true (by omega)
    rw [if_neg hlt, decide_eq_false hlt]
    go_enter Try.func9, Try.ntmps9
    go_upto_region 1 with fail
    generalize (w.alloc (.cells cs 28)).alloc (.cells #[.int .i64 0, .int .i64 0, .int .i64 0, .string ⟨#[]⟩, .int .i64 0, .int .i64 0, .string ⟨#[]⟩, .int .i64 0, .int .i64 0, .string ⟨#[]⟩, .bool false] 28) = w3 at HA HC HU ⊢
    obtain ⟨A, hA⟩ : ∃ A, w.heap.size = A := ⟨_, rfl⟩
    have HG : Hid (w.heap.size ≤ A ∧ w.heap.size ≤ A + 1) := Lib.hid ⟨Nat.le_of_eq hA, by omega⟩
    rw [hA] at HA HC ⊢
    clear hA
    have hl0 : w3.cell? ⟨A, 0, none⟩ = some (.int .i64 V) := by rw [cell_of_row _ _ 0 _ _ _ HA.out]; exact hc0
    go_wp2_with (first | (refine wpList_ex rfl (.agg cs) w3 (ex_loadrow (x := .tmp 2) rfl rfl _ 28 HA.out Try.underlying28 rfl (by rw [info_gs, hsz])) ?_) | (refine wpList_store_agg rfl 28 (.tmp 4) (.tmp 10) rfl (A + 1) _ cs rfl rfl 28 HC.out (by rw [info_gs, hsz]) (by rw [hsz]; rfl) hone ?_; intro w12 hg12 hgr12))
    refine bodyPost_ret (results_gs2 rfl _ _ _ _ rfl hg12 hsz) rfl ⟨rfl, up_at HU.out hgr12 HG.out.2⟩

set_option maxHeartbeats 1000000 in
/-- the reference's -/
theorem refHi_any (m k : Mk) (w : World) : Calls Try.prog 8 #[.agg m.l.toArray, .agg k.l.toArray] w fun e w' => e = .returned (.bool (hiB m.V m.H k.V k.H)) ∧ Up w w' := by
  obtain ⟨MV, MH, MB⟩ := m
  obtain ⟨KV, KH, KB⟩ := k
  show Calls Try.prog 8 #[.agg #[.int .i64 MV, .int .i64 MH, .string MB], .agg #[.int .i64 KV, .int .i64 KH, .string KB]] w fun e w' => e = .returned (.bool (hiB MV MH KV KH)) ∧ Up w w'
  have ha0 := heap_alloc_new w (.cells #[.int .i64 MV, .int .i64 MH, .string MB] 26)
  have hu1 := Up.alloc (Up.refl (w.alloc (.cells #[.int .i64 MV, .int .i64 MH, .string MB] 26))) (.cells #[.int .i64 KV, .int .i64 KH, .string KB] 26)
  have ha := (hu1.block _ (lt_of_block ha0)).trans ha0
  have hb := heap_alloc_new (w.alloc (.cells #[.int .i64 MV, .int .i64 MH, .string MB] 26)) (.cells #[.int .i64 KV, .int .i64 KH, .string KB] 26)
  rw [show (w.alloc (.cells #[.int .i64 MV, .int .i64 MH, .string MB] 26)).heap.size = w.heap.size + 1 by simp] at hb
  have HU := Lib.hid ((Up.alloc (Up.refl w) (.cells #[.int .i64 MV, .int .i64 MH, .string MB] 26)).trans hu1)
  obtain ⟨a0, a1, a2⟩ := mk_cells ha
  obtain ⟨b0, b1, b2⟩ := mk_cells hb
  clear ha0 hu1 ha hb
  have h1 : hiB MV MH KV KH = if KV < MV then true else if MV = KV then decide (KH < MH) else false := by
    unfold hiB
    split
    · exact decide_eq_true (.inl ‹_›)
    · split
      · rename_i h1 h2
        rw [decide_eq_decide]; omega
      · rename_i h1 h2
        exact decide_eq_false (by omega)
  rw [h1]
  clear h1
  by_cases c1 : KV < MV
  · rw [if_pos c1]
    go_enter Try.func8, Try.ntmps8
    go_upto_region 1 with fail
    generalize (w.alloc (.cells #[.int .i64 MV, .int .i64 MH, .string MB] 26)).alloc (.cells #[.int .i64 KV, .int .i64 KH, .string KB] 26) = w3 at a0 a1 a2 b0 b1 b2 HU ⊢
    generalize w.heap.size + 1 = B at b0 b1 b2 ⊢
    generalize w.heap.size = A at a0 a1 a2 ⊢
    go_wp2
    go_ret
    exact ⟨rfl, HU.out⟩
  · rw [if_neg c1]
    by_cases c2 : MV = KV
    · rw [if_pos c2]
      subst c2
      go_enter Try.func8, Try.ntmps8
      go_upto_region 1 with fail
      generalize (w.alloc (.cells #[.int .i64 MV, .int .i64 MH, .string MB] 26)).alloc (.cells #[.int .i64 MV, .int .i64 KH, .string KB] 26) = w3 at a0 a1 a2 b0 b1 b2 HU ⊢
      generalize w.heap.size + 1 = B at b0 b1 b2 ⊢
      generalize w.heap.size = A at a0 a1 a2 ⊢
      go_wp2
      go_ret
      exact ⟨rfl, HU.out⟩
    · rw [if_neg c2]
      go_enter Try.func8, Try.ntmps8
      go_upto_region 1 with fail
      generalize (w.alloc (.cells #[.int .i64 MV, .int .i64 MH, .string MB] 26)).alloc (.cells #[.int .i64 KV, .int .i64 KH, .string KB] 26) = w3 at a0 a1 a2 b0 b1 b2 HU ⊢
      generalize w.heap.size + 1 = B at b0 b1 b2 ⊢
      generalize w.heap.size = A at a0 a1 a2 ⊢
      go_wp2
      go_ret
      exact ⟨rfl, HU.out⟩
end
end Go.Proofs.Ytnipkhgaceicbaa
