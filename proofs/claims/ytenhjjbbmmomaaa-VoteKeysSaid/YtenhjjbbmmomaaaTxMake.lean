import Derived.Test.YtenhjjbbmmomaaaTxCheck
import Derived.Test.YtenhjjbbmmomaaaSgNew
import Derived.Test.YtenhjjbbmmomaaaTxRead
import Derived.Test.YtenhjjbbmmomaaaSgSign
import Derived.Test.YtenhjjbbmmomaaaSgVerify
namespace Go.Proofs.Ytenhjjbbmmomaaa
/-
  tx: a client's key.
-/
section
set_option maxRecDepth 100000
section
set_option linter.unusedVariables false
open Go.RowKit

/-- the seed of a client -/
def cliB (c : Int) : List Int := [99, 108, 105, 101, 110, 116, 48 + c]
theorem cliB_u8s (c : Int) (h : 0 ≤ c ∧ c ≤ 3) : U8s (cliB c) := by
  intro j hj
  have hc : j = 0 ∨ j = 1 ∨ j = 2 ∨ j = 3 ∨ j = 4 ∨ j = 5 ∨ j = 6 := by simp [cliB] at hj; omega
  rcases hc with rfl | rfl | rfl | rfl | rfl | rfl | rfl
  all_goals simp [cliB]
  omega

/-- one result, a key in memory -/
theorem results_keyc {fn : Func} {p : Tmp} (h : fn.results = #[.cell p 24]) (tmps : Array Value) (w : World) (B : Nat) (cs : Array Value) (hp : tmps.getD p undef = .pointer (some ⟨B, 0, none⟩))
    (hg : w.heap[B]? = some (.cells cs 24 (0, 0))) (hs : cs.size = 3) :
    (results fn tmps).run Try.prog w = .ok (.agg cs) w := by
  have hp' : tmps[p]?.getD undef = .pointer (some ⟨B, 0, none⟩) := by simpa using hp
  have hl := run_loadVar_row (P := Try.prog) w B 24 24 cs (0, 0) _ hg Try.underlying24 rfl (by rw [info_key, hs])
  simp [results, h, hp', asAddr, hl]
end
end

/-
  tx: Make with a key that has a leaf left; and of what may not be.
-/
section
set_option maxRecDepth 100000
section
set_option linter.unusedVariables false
open Go.RowKit

theorem one_keyB (s : ByteArray) (v : Value) (k : Int) (hv : v.oneCell' = true) : (#[.string s, v, .int .i64 k] : Array Value).all (·.oneCell') = true := by
  have h1 : (Value.string s).oneCell' = true := by simp [Value.oneCell']
  have h2 : (Value.int .i64 k).oneCell' = true := by simp [Value.oneCell']
  simp [h1, h2, hv]
theorem alloc4 (w : World) (A B C D : Obj) : let W := (((w.alloc A).alloc B).alloc C).alloc D
    W.heap[w.heap.size]? = some A ∧ W.heap[w.heap.size + 1]? = some B ∧ W.heap[w.heap.size + 1 + 1]? = some C ∧ W.heap[w.heap.size + 1 + 1 + 1]? = some D ∧ Up w W := by
  intro W
  have h1 := heap_alloc_new w A
  have h2 := heap_alloc_new (w.alloc A) B
  have h3 := heap_alloc_new ((w.alloc A).alloc B) C
  have h4 := heap_alloc_new (((w.alloc A).alloc B).alloc C) D
  have s1 : (w.alloc A).heap.size = w.heap.size + 1 := by simp
  have s2 : ((w.alloc A).alloc B).heap.size = w.heap.size + 1 + 1 := by simp
  have s3 : (((w.alloc A).alloc B).alloc C).heap.size = w.heap.size + 1 + 1 + 1 := by simp
  rw [s1] at h2
  rw [s2] at h3
  rw [s3] at h4
  have u4 := Up.alloc (Up.refl (((w.alloc A).alloc B).alloc C)) D
  have u3 := Up.trans (Up.alloc (Up.refl ((w.alloc A).alloc B)) C) u4
  have u2 := Up.trans (Up.alloc (Up.refl (w.alloc A)) B) u3
  exact ⟨(u2.block _ (lt_of_block h1)).trans h1, (u3.block _ (lt_of_block h2)).trans h2, (u4.block _ (lt_of_block h3)).trans h3, h4, Up.trans (Up.alloc (Up.refl w) A) u2⟩

end
end

/-
  tx: Valid, of whatever transaction and roots.
-/
section
set_option maxRecDepth 100000
section
set_option linter.unusedVariables false
open Go.RowKit

def TxGood (f t a n : Int) (sig : List Int) (ls : List (List Int)) : Prop :=
  txE f t a n (strOfNums sig) = 0 ∧ f.toNat < ls.length ∧ GoodSig (strOfNums (ls[f.toNat]?.getD [])) 2 (txT f t a n) sig
theorem txE_f {f t a n : Int} {S : ByteArray} (h : txE f t a n S = 0) : 0 ≤ f ∧ f ≤ 3 := by
  unfold txE at h
  split at h
  · rename_i h2; exact h2.1.1
  · cases h
theorem txE_nine {f t a n : Int} {S : ByteArray} (h : txE f t a n S ≠ 0) : txE f t a n S = 9 := by
  unfold txE at h ⊢
  split
  · rename_i h2; rw [if_pos h2] at h; exact absurd rfl h
  · rfl

end
end
end Go.Proofs.Ytenhjjbbmmomaaa
