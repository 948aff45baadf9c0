import Derived.Test.YtenhjjbbmmomaaaVtCheck
import Derived.Test.YtenhjjbbmmomaaaVtRead
import Derived.Test.YtenhjjbbmmomaaaTxMake
import Derived.Test.YtenhjjbbmmomaaaSgNew
import Derived.Test.YtenhjjbbmmomaaaSgSign
import Derived.Test.YtenhjjbbmmomaaaSgVerify
namespace Go.Proofs.Ytenhjjbbmmomaaa
/-
  vote: a replica's key.
-/
section
set_option maxRecDepth 100000
section
set_option linter.unusedVariables false
open Go.RowKit

/-- the seed of a replica -/
def repB (c : Int) : List Int := [114, 101, 112, 108, 105, 99, 97, 48 + c]
theorem repB_u8s (c : Int) (h : 0 ≤ c ∧ c ≤ 6) : U8s (repB c) := by
  intro j hj
  have hc : j = 0 ∨ j = 1 ∨ j = 2 ∨ j = 3 ∨ j = 4 ∨ j = 5 ∨ j = 6 ∨ j = 7 := by simp [repB] at hj; omega
  rcases hc with rfl | rfl | rfl | rfl | rfl | rfl | rfl | rfl
  all_goals simp [repB]
  omega

theorem vtKey_none (c : Int) (w : World) (h : c < 0 ∨ 6 < c) :
    Calls Try.prog 4 #[.int .i64 c] w fun e w' => e = .returned (.agg noKey) ∧ Up w w' := by
  have Hw := Lib.hid (fun wx => within_no (n := c) (least := 0) (most := 6) (by omega) wx)
  clear h
  go_enter Try.func4, Try.ntmps4
  go_wp2_with fail
  with_reducible refine Calls.mono (Hw.out _) ?_
  rintro e w1 ⟨rfl, rfl⟩
  go_wp2
  exact bodyPost_ret (v := .agg noKey) (by simp [results, Try.results4, noKey, go_sem]) rfl ⟨rfl, Up.alloc (Up.refl w) _⟩

set_option maxHeartbeats 1000000 in
theorem vtKey_some (c : Int) (w : World) (h : 0 ≤ c ∧ c ≤ 6) :
    Calls Try.prog 4 #[.int .i64 c] w fun e w' => ∃ v, e = .returned (keyV (repB c) v 0) ∧ w'.ownsRow w.heap.size 9 1 v 16 (strVs (leavesB (repB c) 16)) ∧ Up w w' := by
  have Hnew : Hid (∀ wx, Calls Try.prog 9 #[.string (strOfNums (repB c)), .int .i64 4] wx fun e w' => ∃ v, e = .returned (.tuple #[keyV (repB c) v 0, .int .i64 0]) ∧ w'.ownsRow wx.heap.size 9 1 v 16 (strVs (leavesB (repB c) 16)) ∧ Up wx w') := fun wx => new_ok (repB c) 4 wx (repB_u8s c h) (by simp [repB]) (by omega)
  have hcv : (convert 28 9 (.slice (some ⟨w.heap.size + 1, 0, none⟩) 1 1)).run Try.prog ((w.alloc (.cells noKey 24)).alloc (.cells #[.int .u8 (48 + c)] 5)) = .ok (.string (strOfNums [48 + c])) ((w.alloc (.cells noKey 24)).alloc (.cells #[.int .u8 (48 + c)] 5)) :=
    (Ints.newc (w.alloc (.cells noKey 24)) .u8 5 #[.int .u8 (48 + c)] [48 + c] _ 1 (by simp) rfl rfl).str
  unfold noKey at hcv
  have hcat : (⟨#[114, 101, 112, 108, 105, 99, 97]⟩ : ByteArray) ++ strOfNums [48 + c] = strOfNums (repB c) := by
    rw [show (⟨#[114, 101, 112, 108, 105, 99, 97]⟩ : ByteArray) = strOfNums [114, 101, 112, 108, 105, 99, 97] from rfl, strOfNums_append]; rfl
  have Hw := Lib.hid (fun wx => within_yes (n := c) (least := 0) (most := 6) h wx)
  obtain ⟨h1, h2⟩ := h
  go_enter Try.func4, Try.ntmps4
  go_wp2_with fail
  with_reducible refine Calls.mono (Hw.out _) ?_
  rintro e w0 ⟨rfl, rfl⟩
  go_wp2_with fail
  with_reducible refine Calls.mono (Hnew.out _) ?_
  rintro e w1 ⟨v, rfl, hrow, hU⟩
  have HU := Lib.hid (Up.trans (Up.alloc (Up.alloc (Up.refl w) _) _) hU)
  have hres := (hU.block w.heap.size (lt_alloc2 w _ _)).trans (heap_alloc2_old w _ _)
  have Hrow := Lib.hid (ownsRow_base (base' := w.heap.size) hrow (by simp; omega))
  obtain ⟨g, c2, rfl, _⟩ := row_slice hrow (by omega)
  have hone := one_key (repB c) _ 0 (row_one hrow)
  clear hrow hU hcv hcat
  have hres2 := ((Up.alloc (Up.refl w1) (.cells #[.string (strOfNums (repB c)), .slice (some ⟨g, 0, none⟩) 16 c2, .int .i64 0] 24)).block w.heap.size (lt_of_block hres)).trans hres
  have HU2 := Lib.hid (Up.trans HU.out (Up.alloc (Up.refl w1) (.cells #[.string (strOfNums (repB c)), .slice (some ⟨g, 0, none⟩) 16 c2, .int .i64 0] 24)))
  have Hrow2 := Lib.hid (ownsRow_up Hrow.out (Up.alloc (Up.refl w1) (.cells #[.string (strOfNums (repB c)), .slice (some ⟨g, 0, none⟩) 16 c2, .int .i64 0] 24)))
  have Hoff := Lib.hid (block_off hres2 (by decide) Hrow2.out)
  unfold keyV
  clear hres
  go_wp2_with (refine wpList_store_agg rfl 24 (.tmp 2) (.tmp 19) rfl w.heap.size _ #[.string (strOfNums (repB c)), .slice (some ⟨g, 0, none⟩) 16 c2, .int .i64 0] rfl rfl 24 hres2 info_key rfl hone ?_; intro w4 hg4 hgr4)
  refine bodyPost_ret (results_keyc rfl _ _ _ _ rfl hg4 rfl) rfl ⟨_, rfl, Hrow2.out.kept hgr4 (.inr Hoff.out.symm), ?_⟩
  exact up_at HU2.out hgr4 (Nat.le_refl _)
end
end

/-
  vote: Sign with a key that has a leaf left; and of what may not be.
-/
section
set_option maxRecDepth 100000
section
set_option linter.unusedVariables false
open Go.RowKit

/-- three results: a statement and a key in memory, and a number -/
theorem results_vsign {fn : Func} {p q s : Tmp} (h : fn.results = #[.cell p 37, .cell q 24, .tmp s]) (tmps : Array Value) (w : World) (A B : Nat) (cs ds : Array Value) (u : Value) (hp : tmps.getD p undef = .pointer (some ⟨A, 0, none⟩)) (hq : tmps.getD q undef = .pointer (some ⟨B, 0, none⟩)) (ht : tmps.getD s undef = u)
    (hA : w.heap[A]? = some (.cells cs 37 (0, 0))) (hcs : cs.size = 7) (hB : w.heap[B]? = some (.cells ds 24 (0, 0))) (hds : ds.size = 3) :
    (results fn tmps).run Try.prog w = .ok (.tuple #[.agg cs, .agg ds, u]) w := by
  have hp' : tmps[p]?.getD undef = .pointer (some ⟨A, 0, none⟩) := by simpa using hp
  have hq' : tmps[q]?.getD undef = .pointer (some ⟨B, 0, none⟩) := by simpa using hq
  have ht' : tmps[s]?.getD undef = u := by simpa using ht
  have hl := run_loadVar_row (P := Try.prog) w A 37 37 cs (0, 0) _ hA Try.underlying37 rfl (by rw [info_vt, hcs])
  have hk := run_loadVar_row (P := Try.prog) w B 24 24 ds (0, 0) _ hB Try.underlying24 rfl (by rw [info_key, hds])
  simp [results, h, hp', hq', ht', asAddr, hl, hk]

end
end

/-
  vote: Valid, of whatever statement and roots.
-/
section
set_option maxRecDepth 100000
section
set_option linter.unusedVariables false
open Go.RowKit

def VtGood (v : Vt) (sig : List Int) (ls : List (List Int)) : Prop :=
  vtE v (strOfNums sig) = 0 ∧ v.G.toNat < ls.length ∧ GoodSig (strOfNums (ls[v.G.toNat]?.getD [])) 4 (vtT v) sig

end
end
end Go.Proofs.Ytenhjjbbmmomaaa
