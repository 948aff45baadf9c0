import Derived.Lib.SlBuf
import Derived.Laws.CopyRow
import Derived.Laws.OwnMore
import Derived.Test.YtkelbilcjgndmaaBnDo
/-
  bank.copied; copy of structs.
-/
namespace Go.Proofs.Ytkelbilcjgndmaa
set_option maxRecDepth 100000
section
set_option linter.unusedVariables false
open Go.RowKit Go.Sort Go.Lib

theorem make_ac (k : Nat) (hk : k ≤ 8796093022208) (u : World) : (Instr.makeSlice 22 (.int .i64 k) (.int .i64 k)).run Try.prog u =
      .ok (.slice (some ⟨u.heap.size, 0, none⟩) k k) (u.alloc (.cells (madeCells (acA (0, 0)) (k * 2)) 49)) := by
  obtain ⟨i0, hi, hz0, hz1, hz2⟩ := info_partsT info_acd
  have h := run_make (P := Try.prog) u 22 49 i0 (.agg (acA (0, 0))) Try.underlying22 hi hz0 .i64 .i64 (k : Int) (k : Int) (by omega) (by omega) (by rw [hz2]; omega) (by omega)
  simpa [hz1, Value.cells] using h
/-- copy where an element has several cells -/
theorem run_copy_rowk {P : Program} (w : World) (dT sT ty elem : TypeId) (sz g dLen dCap : Nat) (a : Addr) (sLen sCap : Nat) (cur : Array Value) (t : TypeId) (cs : List Value)
    (hu : P.underlying dT = some (.slice elem)) (hs : (P.info? elem).map (·.size) = some sz)
    (hg : w.heap[g]? = some (.cells cur t (0, 0))) (hn : cs.length = Nat.min sLen dLen * sz)
    (hsrc : ∀ j v, cs[j]? = some v → w.cell? (a.add j) = some v) (hfit : cs.length ≤ cur.size) (h1 : ∀ v ∈ cs, v.oneCell' = true) :
    (Builtin.copy_ #[dT, sT] ty #[.slice (some ⟨g, 0, none⟩) dLen dCap, .slice (some a) sLen sCap]).run P w =
      .ok (goInt (Nat.min sLen dLen)) (w.setRow g (cs ++ cur.toList.drop cs.length).toArray) := by
  have hl := run_loadCells_list (P := P) w a cs hsrc
  have hst := run_storeCells_at P g 0 t cs 0 cur w hg (by simpa using hfit) h1
  cases hq : P.info? elem with
  | none => simp [hq] at hs
  | some i =>
    have hi : i.size = sz := by simpa [hq] using hs
    simp [Builtin.copy_, run_underlying hu, Builtin.lenOf, Builtin.firstCells, sizeOf, typeInfo, hq, hi, ← hn, hl, hst]
theorem run_copy_nilk {P : Program} (w : World) (dT sT ty elem : TypeId) (sz : Nat) (a : Addr) (dLen dCap : Nat) (hu : P.underlying dT = some (.slice elem)) (hs : (P.info? elem).map (·.size) = some sz) :
    (Builtin.copy_ #[dT, sT] ty #[.slice (some a) dLen dCap, .slice none 0 0]).run P w = .ok (goInt 0) w :=
  run_copy_nil P w dT sT ty elem a dLen dCap hu (by rw [hs]; rfl)
theorem copy_ac {W : World} {g n cap : Nat} {a : Option Addr} {xs : List Ac} {cur : Array Value} (hg : W.heap[g]? = some (.cells cur 49 (0, 0))) (hc : cur.size = n * 2) (ha : AArg W (.slice a n cap) xs) (hl : xs.length = n) (ty : TypeId) :
    ∃ W', (Builtin.copy_ #[22, 22] ty #[.slice (some ⟨g, 0, none⟩) n n, .slice a n cap]).run Try.prog W = .ok (.int .i64 (n : Int)) W' ∧ AcRow W' g xs ∧ But g W W' := by
  have hcells := aarg_cells ha
  obtain ⟨a', cap', e, h1, h2, h3⟩ := ha
  cases e
  cases a with
  | none =>
    obtain rfl := h2 rfl
    obtain rfl : xs = [] := List.eq_nil_of_length_eq_zero (by omega)
    exact ⟨W, run_copy_nilk W _ _ ty 49 2 _ _ _ Try.underlying22 info_ac, ⟨cur, hg, fun i x hx => by simp at hx⟩, KeptBut.refl _ _⟩
  | some ad =>
    have hr := run_copy_rowk (P := Try.prog) W 22 22 ty 49 2 g xs.length xs.length ad xs.length cap cur _ (acF xs) Try.underlying22 info_ac hg (by rw [acF_length]; simp) (fun j v hj => hcells ad rfl j v hj) (by rw [acF_length, hc]; exact Nat.le_refl _) (acF_one xs)
    have hdrop : cur.toList.drop (acF xs).length = [] := List.drop_eq_nil_of_le (by simp [hc, acF_length])
    rw [hdrop, List.append_nil] at hr
    have hm : Nat.min xs.length xs.length = xs.length := Nat.min_self _
    rw [hm] at hr
    refine ⟨_, hr, ⟨(acF xs).toArray, setRow_heap W g cur _ _ _ hg, fun i x hx => ?_⟩, ⟨rfl, rfl, rfl, by simp [World.setRow], fun k hk hne => setRow_other W g k _ hne⟩⟩
    have := acF_get xs i x hx
    simpa using this

set_option maxHeartbeats 400000 in
theorem bnCopied_any (v : Value) (ac : List Ac) (w : World) (ha : AArg w v ac) (hn : ac.length ≤ 8796093022208) :
    Calls Try.prog 16 #[v] w fun e w' => ∃ g, e = .returned (.slice (some ⟨g, 0, none⟩) ac.length ac.length) ∧ AcRow w' g ac ∧ w.heap.size ≤ g ∧ Up w w' := by
  obtain ⟨a, cap, rfl, _⟩ := id ha
  obtain ⟨n, hnl⟩ : ∃ n, ac.length = n := ⟨_, rfl⟩
  rw [hnl] at hn ha ⊢
  have hmk := make_ac n hn w
  have hu1 := Up.alloc (Up.refl w) (.cells (madeCells (acA (0, 0)) (n * 2)) 49)
  obtain ⟨W', hcp, hR, hK⟩ := copy_ac (heap_alloc_new w (.cells (madeCells (acA (0, 0)) (n * 2)) 49)) (by simp [madeCells]) (ha.up hu1) hnl 3
  have hU : Up w W' := up_kept hu1 hK (Nat.le_refl _)
  clear hK ha hu1
  go_enter Try.func16, Try.ntmps16
  go_wp2_with (at_builtin; refine Lib.wpList_copy_run _ rfl _ _ 22 22 rfl _ _ rfl rfl hcp ?_)
  go_ret
  exact ⟨_, rfl, hR, Nat.le_refl _, hU⟩
end
end Go.Proofs.Ytkelbilcjgndmaa
