import Derived.Test.YtnipkhgaceicbaaGdKit
/-
  guard.Lock and guard.Enter; the reference's Higher.
-/
namespace Go.Proofs.Ytnipkhgaceicbaa
set_option maxRecDepth 100000
section
set_option linter.unusedVariables false
open Go.RowKit Go.Sort Go.Lib

def lockG (s : Gs) (m : Mk) : Gs := if hiB m.V m.H s.c.V s.c.H then { s with c := m } else s
def enterG (s : Gs) (v : Int) : Gs := if s.V < v then { s with V := v, sp := false } else s
theorem gs_lock (s : Gs) : At (gsA s) 7 s.c.l := by
  intro j v hj
  match j, hj with
  | 0, h => exact h
  | 1, h => exact h
  | 2, h => exact h
  | j + 3, h => simp [Mk.l] at h
theorem mk_one (m : Mk) : ∀ v ∈ m.l, v.oneCell' = true := by simp [Mk.l, Value.oneCell']
theorem gs_zero : (zeroValue 28).run Try.prog = fun w => .ok (.agg (gsA ⟨0, mk0, mk0, mk0, false⟩)) w := by
  funext w; kernel_rfl
theorem isAgg_mk (w : World) : (isAgg 26).run Try.prog w = .ok true w := by kernel_rfl
theorem sizeOf_mk (w : World) : (sizeOf 26).run Try.prog w = .ok 3 w := by kernel_rfl
set_option maxHeartbeats 1000000 in
theorem lock_any (s : Gs) (m : Mk) (w : World) : Calls Try.prog 7 #[.agg (gsA s), .agg m.l.toArray] w fun e w' => e = .returned (.tuple #[.agg (gsA (lockG s m)), .bool (hiB m.V m.H s.c.V s.c.H)]) ∧ Up w w' := by
  have HH : Hid (∀ wx, Calls Try.prog 15 #[.agg m.l.toArray, .agg s.c.l.toArray] wx fun e w' => e = .returned (.bool (hiB m.V m.H s.c.V s.c.H)) ∧ Up wx w') := Lib.hid fun wx => higher_any m.V m.H m.B s.c.V s.c.H s.c.B wx
  have hat := gs_lock s
  have hput : putAt (gsA s) 7 m.l = gsA { s with c := m } := rfl
  have hsz : (gsA s).size = 11 := rfl
  have hsz' : (gsA { s with c := m }).size = 11 := rfl
  have hone := gsA_one s
  have hone' := gsA_one { s with c := m }
  have hml : m.l.length = 3 := rfl
  have hcl : s.c.l.length = 3 := rfl
  have hm1 := mk_one m
  unfold lockG
  generalize hiB m.V m.H s.c.V s.c.H = D at HH ⊢
  obtain ⟨cs', hcs'⟩ : ∃ c, gsA { s with c := m } = c := ⟨_, rfl⟩
  have hres : gsA (if D = true then { s with c := m } else s) = if D = true then cs' else gsA s := by rw [← hcs']; cases D <;> rfl
  rw [hres]
  rw [hcs'] at hput hsz' hone'
  clear hres hcs'
  generalize gsA s = cs at hat hput hsz hone ⊢
  generalize s.c.l = cl at HH hat hcl ⊢
  generalize m.l = ml at HH hput hml hm1 ⊢
  have ha := heap_alloc_new w (.cells cs 28)
  have hu1 := Up.alloc (Up.refl (w.alloc (.cells cs 28))) (.cells ml.toArray 26)
  have hb := heap_alloc_new (w.alloc (.cells cs 28)) (.cells ml.toArray 26)
  have hu2 := Up.alloc (Up.refl ((w.alloc (.cells cs 28)).alloc (.cells ml.toArray 26))) (.cells #[.int .i64 0, .int .i64 0, .int .i64 0, .string ⟨#[]⟩, .int .i64 0, .int .i64 0, .string ⟨#[]⟩, .int .i64 0, .int .i64 0, .string ⟨#[]⟩, .bool false] 28)
  have hc := heap_alloc_new ((w.alloc (.cells cs 28)).alloc (.cells ml.toArray 26)) (.cells #[.int .i64 0, .int .i64 0, .int .i64 0, .string ⟨#[]⟩, .int .i64 0, .int .i64 0, .string ⟨#[]⟩, .int .i64 0, .int .i64 0, .string ⟨#[]⟩, .bool false] 28)
  have HA := Lib.hid (((hu1.trans hu2).block _ (lt_of_block ha)).trans ha)
  have HB := Lib.hid ((hu2.block _ (lt_of_block hb)).trans hb)
  have HC := Lib.hid hc
  have HU := Lib.hid (((Up.alloc (Up.refl w) (.cells cs 28)).trans hu1).trans hu2)
  clear ha hb hc hu1 hu2
  rw [show (w.alloc (.cells cs 28)).heap.size = w.heap.size + 1 by simp] at HB
  rw [show ((w.alloc (.cells cs 28)).alloc (.cells ml.toArray 26)).heap.size = w.heap.size + 2 by simp] at HC
  go_enter Try.func7, Try.ntmps7
  go_upto_region 1 with fail
  generalize ((w.alloc (.cells cs 28)).alloc (.cells ml.toArray 26)).alloc (.cells #[.int .i64 0, .int .i64 0, .int .i64 0, .string ⟨#[]⟩, .int .i64 0, .int .i64 0, .string ⟨#[]⟩, .int .i64 0, .int .i64 0, .string ⟨#[]⟩, .bool false] 28) = w3 at HA HB HC HU ⊢
  have hge1 : w.heap.size ≤ w.heap.size + 1 + 1 := by omega
  have hge2 : w.heap.size + 1 + 1 ≠ w.heap.size := by omega
  have hge3 : w.heap.size + 1 ≠ w.heap.size := by omega
  obtain ⟨A, hA⟩ : ∃ A, w.heap.size = A := ⟨_, rfl⟩
  have HG : Hid (w.heap.size ≤ A ∧ w.heap.size ≤ A + 1 + 1) := Lib.hid ⟨Nat.le_of_eq hA, by omega⟩
  rw [hA] at HA HB HC ⊢
  clear hA hge1 hge2 hge3
  go_wp2_with (first | (refine wpList_ex rfl (.agg ml.toArray) w3 (ex_loadrow (x := .tmp 3) rfl rfl _ 26 HB.out Try.underlying26 rfl (by rw [info_mk]; simp [hml])) ?_) | (refine wpList_ex rfl (.agg cl.toArray) w3 (ex_loadpart (x := .tmp 7) 3 isAgg_mk sizeOf_mk rfl rfl _ HA.out hat hcl) ?_))
  with_reducible refine Calls.mono (HH.out _) ?_
  rintro e w4 ⟨rfl, hU4⟩
  have HA4 := Lib.hid ((hU4.block _ (lt_of_block HA.out)).trans HA.out)
  have HB4 := Lib.hid ((hU4.block _ (lt_of_block HB.out)).trans HB.out)
  have HC4 := Lib.hid ((hU4.block _ (lt_of_block HC.out)).trans HC.out)
  have HU4 := Lib.hid (HU.out.trans hU4)
  clear hU4 HA HB HC HU HH
  cases D with
  | false =>
    go_wp2_with (first | (refine wpList_ex rfl (.agg cs) w4 (ex_loadrow (x := .tmp 2) rfl rfl _ 28 HA4.out Try.underlying28 rfl (by rw [info_gs, hsz])) ?_) | (refine wpList_store_agg rfl 28 (.tmp 4) (.tmp 11) rfl (A + 1 + 1) _ cs rfl rfl 28 HC4.out (by rw [info_gs, hsz]) (by rw [hsz]; rfl) hone ?_; intro w12 hg12 hgr12))
    refine bodyPost_ret (results_gs2 rfl _ _ _ _ rfl hg12 hsz) rfl ⟨rfl, up_at HU4.out hgr12 HG.out.2⟩
  | true =>
    have hgr5 := grownBy_setRow w4 A cs'
    have HA5 : Hid ((w4.setRow A cs').heap[A]? = some (.cells cs' 28 (0, 0))) := Lib.hid (setRow_heap w4 A cs cs' 28 (0, 0) HA4.out)
    have HC5 := Lib.hid ((hgr5.block _ (lt_of_block HC4.out) (fun e => by injection e with e; omega)).trans HC4.out)
    have HU5 := Lib.hid (up_at HU4.out hgr5 HG.out.1)
    have HP : Hid (∀ ρ o, o.op = .store 26 (.tmp 13) (.tmp 12) → ρ (.tmp 13) = .pointer (some ⟨A, 7, none⟩) → ρ (.tmp 12) = .agg ml.toArray → (execOp ρ o).run Try.prog w4 = .ok .skip (w4.setRow A cs')) := Lib.hid fun ρ o h1 h2 h3 => by
      rw [← hput]
      exact ex_storepart (l := ml) (fun wx => by rw [hml]; exact sizeOf_mk wx) h1 h2 h3 _ HA4.out (by rw [hml, hsz]; decide) hm1
    clear hgr5 hput
    go_wp2_with (first | (refine wpList_ex rfl (.agg ml.toArray) w4 (ex_loadrow (x := .tmp 3) rfl rfl _ 26 HB4.out Try.underlying26 rfl (by rw [info_mk]; simp [hml])) ?_) | (refine wpList_exs rfl (w4.setRow A cs') (HP.out _ _ rfl rfl rfl) ?_; generalize w4.setRow A cs' = w5 at HA5 HC5 HU5 ⊢) | (refine wpList_ex rfl (.agg cs') _ (ex_loadrow (x := .tmp 2) rfl rfl _ 28 HA5.out Try.underlying28 rfl (by rw [info_gs, hsz'])) ?_) | (refine wpList_store_agg rfl 28 (.tmp 4) (.tmp 14) rfl (A + 1 + 1) _ cs' rfl rfl 28 HC5.out (by rw [info_gs, hsz']) (by rw [hsz']; rfl) hone' ?_; intro w12 hg12 hgr12))
    refine bodyPost_ret (results_gs2 rfl _ _ _ _ rfl hg12 hsz') rfl ⟨rfl, up_at HU5.out hgr12 HG.out.2⟩
/-- a part of a state is set, then the whole goes out: Enter -/
theorem gs_enter (s : Gs) (v : Int) : putAt (putAt (gsA s) 0 [.int .i64 v]) 10 [.bool false] = gsA { s with V := v, sp := false } := rfl
end
end Go.Proofs.Ytnipkhgaceicbaa
