import Derived.Shelf.Strings.OnBuilder
import Derived.Test.YtbdjbmgeelleiaaDoorRows
import Derived.Test.YtbdjbmgeelleiaaDoorWots
namespace Go.Proofs.YtbdjbmgeelleiaaDoor
set_option maxRecDepth 100000
/-
  strings.Join by its contract.
-/
section
set_option linter.unusedVariables false
open Go.RowKit

def join156_ren : Go.Shelf.Ren := ⟨fun | 156 => 23 | 165 => 41 | 166 => 42 | 169 => 43 | 240 => 61 | 241 => 62 | 276 => 71 | 277 => 72 | n => n, fun | 31 => 22 | 9 => 9 | 3 => 3 | 4 => 4 | 0 => 0 | 20 => 20 | 72 => 72 | 76 => 76 | 70 => 70 | 37 => 25 | 75 => 75 | 127 => 91 | 164 => 109 | 5 => 5 | 80 => 78 | n => n, fun | n => n⟩
theorem join156 : Go.Proofs.Lays.n156 Tryd.prog join156_ren := {
  mixed := by kernel_rfl
  f156 := Tryd.func23.trans (congrArg some (by kernel_rfl))
  f165 := Tryd.func41.trans (congrArg some (by kernel_rfl))
  f166 := Tryd.func42.trans (congrArg some (by kernel_rfl))
  f169 := Tryd.func43.trans (congrArg some (by kernel_rfl))
  f240 := Tryd.func61.trans (congrArg some (by kernel_rfl))
  f241 := Tryd.func62.trans (congrArg some (by kernel_rfl))
  f276 := Tryd.func71.trans (congrArg some (by kernel_rfl))
  f277 := Tryd.func72.trans (congrArg some (by kernel_rfl))
  t0 := Tryd.underlying0
  a0 := Tryd.isAgg0
  z0 := Tryd.sizeOf0
  v0 := Tryd.zeroValue0
  t3 := Tryd.underlying3
  a3 := Tryd.isAgg3
  z3 := Tryd.sizeOf3
  v3 := Tryd.zeroValue3
  t4 := Tryd.underlying4
  a4 := Tryd.isAgg4
  z4 := Tryd.sizeOf4
  v4 := Tryd.zeroValue4
  t9 := Tryd.underlying9
  a9 := Tryd.isAgg9
  z9 := Tryd.sizeOf9
  v9 := Tryd.zeroValue9
  t20 := Tryd.underlying20
  a20 := Tryd.isAgg20
  z20 := Tryd.sizeOf20
  v20 := Tryd.zeroValue20
  t31 := Tryd.underlying22
  a31 := Tryd.isAgg22
  z31 := Tryd.sizeOf22
  v31 := Tryd.zeroValue22
  t37 := Tryd.underlying25
  a37 := Tryd.isAgg25
  z37 := Tryd.sizeOf25
  v37 := Tryd.zeroValue25
  t70 := Tryd.underlying70
  a70 := Tryd.isAgg70
  z70 := Tryd.sizeOf70
  v70 := Tryd.zeroValue70
  t72 := Tryd.underlying72
  a72 := Tryd.isAgg72
  z72 := Tryd.sizeOf72
  v72 := Tryd.zeroValue72
  t75 := Tryd.underlying75
  a75 := Tryd.isAgg75
  z75 := Tryd.sizeOf75
  v75 := Tryd.zeroValue75
  t76 := Tryd.underlying76
  a76 := Tryd.isAgg76
  z76 := Tryd.sizeOf76
  v76 := Tryd.zeroValue76
  t127 := Tryd.underlying91
  a127 := Tryd.isAgg91
  z127 := Tryd.sizeOf91
  v127 := Tryd.zeroValue91
  t164 := Tryd.underlying109
  a164 := Tryd.isAgg109
  z164 := Tryd.sizeOf109
  v164 := Tryd.zeroValue109 }
theorem joinExtra : Builder.Extra Tryd.prog join156_ren := {
  sizeBuilder := by kernel_rfl
  liesBuilder := by kernel_rfl
  t5 := Tryd.underlying5
  a5 := Tryd.isAgg5
  z5 := Tryd.sizeOf5
  v5 := Tryd.zeroValue5
  infoByte := by kernel_rfl
  cellsByte := by kernel_rfl
  sizeByte := by kernel_rfl
  neB5 := by decide }
theorem strJoin_many (bk o c : Nat) (xs : List ByteArray) (sep : ByteArray) (w : World) (hcells : ∀ (j : Nat) x, xs[j]? = some x → w.cell? ⟨bk, o + j, none⟩ = some (.string x)) (hbk : bk < w.heap.size) (hN : xs.length ≤ 140737488355328) (hcap : xs.length ≤ c) (hlen : (Lib.join (xs.map (·.data.toList)) sep.data.toList).length ≤ 140737488355328) :
    Calls Tryd.prog 23 #[.slice (some ⟨bk, o, none⟩) xs.length c, .string sep] w fun e w' => e = .returned (.string ⟨(Lib.join (xs.map (·.data.toList)) sep.data.toList).toArray⟩) ∧ Below w.heap.size w w' := Any.strings_Join join156 joinExtra bk o c xs sep w hcells hbk hN hcap hlen
end

/-
  formed and joined.
-/
section
set_option linter.unusedVariables false
open Go.RowKit

theorem join_none (l : List (List UInt8)) : Lib.join l [] = l.flatten := by
  cases l with
  | nil => rfl
  | cons x r =>
    rw [Lib.join_cons, List.flatten_cons]
    congr 1
    unfold Lib.joinTail
    congr 1
    simp
theorem join_strs (ls : List (List Int)) : (⟨(Lib.join ((ls.map strOfNums).map (·.data.toList)) (ByteArray.mk #[]).data.toList).toArray⟩ : ByteArray) = strOfNums ls.flatten := by
  show (⟨(Lib.join _ []).toArray⟩ : ByteArray) = _
  rw [join_none]
  unfold strOfNums
  congr 2
  rw [List.map_map, List.map_flatten]
  congr 1
theorem strJoin_any (ls : List (List Int)) (b off c : Nat) (w : World) (hc : ∀ j, j < ls.length → w.cell? ⟨b, off + j, none⟩ = some (.string (strOfNums (ls[j]?.getD [])))) (h0 : 0 < ls.length) (hl : ls.length ≤ 100) (hcap : ls.length ≤ c) (hx : ls.flatten.length ≤ 140737488355328) :
    Calls Tryd.prog 23 #[.slice (some ⟨b, off, none⟩) ls.length c, .string ⟨#[]⟩] w fun e w' => e = .returned (.string (strOfNums ls.flatten)) ∧ Up w w' := by
  have hlen : (Lib.join ((ls.map strOfNums).map (·.data.toList)) (ByteArray.mk #[]).data.toList).length = ls.flatten.length := by
    have h := congrArg ByteArray.size (join_strs ls)
    rw [strOfNums_size] at h
    simpa [ByteArray.size] using h
  have h := strJoin_many b off c (ls.map strOfNums) ⟨#[]⟩ w (fun j x hj => by
    have hj' : j < ls.length := by have := (List.getElem?_eq_some_iff.1 hj).1; simpa using this
    rw [hc j hj']
    simp [hj'] at hj ⊢
    exact hj) (World.block_lt_of_cell? w _ (hc 0 h0)) (by rw [List.length_map]; omega) (by rw [List.length_map]; exact hcap) (by rw [hlen]; exact hx)
  rw [List.length_map, join_strs] at h
  exact h

theorem formed_false_len {ls : List (List Int)} (h : ls.length ≠ 11) : formedB ls = false := by simp [formedB, h]
theorem formed_false_at {ls : List (List Int)} (k : Nat) (hk : k < ls.length) (h : (ls[k]?.getD []).length ≠ 8) : formedB ls = false := by
  unfold formedB
  rw [Bool.and_eq_false_iff]
  right
  rw [List.all_eq_false]
  refine ⟨ls[k], List.getElem_mem hk, ?_⟩
  simp [hk] at h
  simpa using h
theorem formed_true {ls : List (List Int)} (h : ls.length = 11) (h8 : ∀ k, k < ls.length → (ls[k]?.getD []).length = 8) : formedB ls = true := by
  unfold formedB
  simp only [h, beq_self_eq_true, Bool.true_and, List.all_eq_true]
  intro p hp
  obtain ⟨k, hk, rfl⟩ := List.getElem_of_mem hp
  have := h8 k hk
  simp [hk] at this
  simpa using this

end

/-
  Leaf, Sign, Open.
-/
section
set_option linter.unusedVariables false
open Go.RowKit

def leafEnd (zs : List Int) (leaf : Int) (i : Nat) : List Int := chainB (secretB zs leaf i) (stepsN 3)
theorem leafEnd_8 (zs : List Int) (leaf : Int) (i : Nat) : (leafEnd zs leaf i).length = 8 := chainB_length _ (secretB_length _ _ _) _
theorem leafEnd_u8s (zs : List Int) (leaf : Int) (i : Nat) : U8s (leafEnd zs leaf i) := chainB_u8s _ (secretB_u8s _ _ _) _
theorem leafB_eq (zs : List Int) (leaf : Int) : shortB (upTo (leafEnd zs leaf) 11).flatten = leafB zs leaf := rfl

end

/-
  Open.
-/
section
set_option linter.unusedVariables false
open Go.RowKit

def openEnd (ls : List (List Int)) (ds : List Int) (i : Nat) : List Int := chainB (ls[i]?.getD []) (stepsN (3 - ds[i]?.getD 0))
theorem openB_no (text : List Int) (ls : List (List Int)) (h : formedB ls = false) : openB text ls = [] := by simp [openB, h]
theorem openB_yes (text : List Int) (ls : List (List Int)) (h : formedB ls = true) : shortB (upTo (openEnd ls (partsB text)) 11).flatten = openB text ls := by unfold openB; rw [if_pos h]; rfl
theorem formed_len {ls : List (List Int)} (h : formedB ls = true) : ls.length = 11 := by
  unfold formedB at h
  simp only [Bool.and_eq_true, beq_iff_eq] at h
  exact h.1
theorem formed_at {ls : List (List Int)} (h : formedB ls = true) (k : Nat) (hk : k < ls.length) : (ls[k]?.getD []).length = 8 := by
  unfold formedB at h
  simp only [Bool.and_eq_true, List.all_eq_true, beq_iff_eq] at h
  simp only [List.getElem?_eq_getElem hk, Option.getD_some]
  exact h.2 _ (List.getElem_mem hk)

end
end Go.Proofs.YtbdjbmgeelleiaaDoor
