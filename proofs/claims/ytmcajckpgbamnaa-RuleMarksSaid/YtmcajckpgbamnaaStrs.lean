import Derived.Lib.ConvBytes
import Derived.Lib.AppendStr
import Derived.Lib.Join
import Derived.Laws.MakeOwn
import Derived.SliceStrings
import Derived.ChangeMaps5
import Derived.Test.YtmcajckpgbamnaaBase
import Derived.Test.YtmcajckpgbamnaaUps
import Derived.Test.YtmcajckpgbamnaaOct
import Derived.Test.YtmcajckpgbamnaaOpen
namespace Go.Proofs.Ytmcajckpgbamnaa
/-
  Strings as lists of octets; '[]byte(s)'; slices of strings.
-/
section
set_option linter.unusedVariables false
open Go.RowKit

def octsOf (s : ByteArray) : List Int := s.data.toList.map fun b => (b.toNat : Int)
theorem byte_of (x : Int) (h : 0 ≤ x ∧ x < 256) : ((UInt8.ofNat x.toNat).toNat : Int) = x := by
  rw [UInt8.toNat_ofNat']; omega
theorem of_byte (b : UInt8) : UInt8.ofNat ((b.toNat : Int).toNat) = b := by simp
theorem strOf_octs (s : ByteArray) : strOfNums (octsOf s) = s := by
  apply ByteArray.ext
  apply Array.toList_inj.1
  rw [strOfNums_data]
  unfold octsOf
  rw [List.map_map]
  conv => rhs; rw [← List.map_id s.data.toList]
  apply List.map_congr_left
  intro b _
  exact of_byte b
theorem octsOf_u8s (s : ByteArray) : U8s (octsOf s) := by
  intro j hj
  unfold octsOf at hj ⊢
  simp only [List.length_map] at hj
  simp only [List.getElem?_map, List.getElem?_eq_getElem hj, Option.map_some, Option.getD_some]
  have := (s.data.toList[j]).toNat_lt
  omega
theorem octsOf_length (s : ByteArray) : (octsOf s).length = s.size := by
  unfold octsOf; rw [List.length_map]; rfl
theorem strCells_of (zs : List Int) (hu : U8s zs) : Lib.strCells (strOfNums zs) = zs.map (Value.int .u8) := by
  unfold Lib.strCells
  rw [strOfNums_data, List.map_map]
  apply List.ext_getElem (by simp)
  intro j h1 h2
  have hj : j < zs.length := by simpa using h2
  have h := hu j hj
  simp only [List.getElem?_eq_getElem hj, Option.getD_some] at h
  simp only [List.getElem_map, Function.comp_apply]
  rw [byte_of _ h]
theorem strOf_inj (a b : List Int) (ha : U8s a) (hb : U8s b) (h : strOfNums a = strOfNums b) : a = b := by
  have h1 := strCells_of a ha
  rw [h, strCells_of b hb] at h1
  have h2 : (b.map (Value.int .u8)).length = (a.map (Value.int .u8)).length := by rw [h1]
  simp only [List.length_map] at h2
  apply List.ext_getElem h2.symm
  intro j ha' hb'
  have h3 : (b.map (Value.int .u8))[j]? = (a.map (Value.int .u8))[j]? := by rw [h1]
  simp only [List.getElem?_map, List.getElem?_eq_getElem ha', List.getElem?_eq_getElem hb', Option.map_some, Option.some.injEq, Value.int.injEq, true_and] at h3
  exact h3.symm

theorem toList_inj {a b : ByteArray} (h : a.toList = b.toList) : a = b := by
  rw [ByteArray.toList_eq, ByteArray.toList_eq] at h
  exact ByteArray.ext (Array.toList_inj.1 h)
theorem Up.bytes (W : World) (e : TypeId) (s : ByteArray) : Up W (Lib.bytesWorld W e s) :=
  ⟨rfl, rfl, rfl, by rw [Lib.bytesWorld_size]; omega, fun j hj => Lib.bytesWorld_at_old W e s j hj⟩

/-- v IS A SLICE OF STRINGS THAT READS AS ls. -/
def Strs (W : World) (v : Value) (ls : List (List Int)) : Prop :=
  ∃ a cap, v = .slice a ls.length cap ∧ ls.length ≤ cap ∧ (a = none → cap = 0) ∧ (ls = [] ∨ ∃ b off, a = some ⟨b, off, none⟩ ∧ ∀ j, j < ls.length → W.cell? ⟨b, off + j, none⟩ = some (.string (strOfNums (ls[j]?.getD []))))
theorem Strs.kept {W W' : World} {v : Value} {ls : List (List Int)} (h : Strs W v ls) (hb : Below W.heap.size W W') : Strs W' v ls := by
  obtain ⟨a, cap, rfl, hcap, hnil, h⟩ := h
  refine ⟨a, cap, rfl, hcap, hnil, h.imp id ?_⟩
  rintro ⟨b, off, rfl, hc⟩
  exact ⟨b, off, rfl, fun j hj => (hb.cell (p := ⟨b, off + j, none⟩) (World.block_lt_of_cell? W _ (hc j hj))).trans (hc j hj)⟩
theorem Strs.up {W W' : World} {v : Value} {ls : List (List Int)} (h : Strs W v ls) (hu : Up W W') : Strs W' v ls := h.kept hu
def strVs (ls : List (List Int)) : List Value := ls.map fun l => .string (strOfNums l)
theorem strVs_length (ls : List (List Int)) : (strVs ls).length = ls.length := by simp [strVs]
theorem strVs_snoc (ls : List (List Int)) (x : List Int) : strVs (ls ++ [x]) = strVs ls ++ [.string (strOfNums x)] := by simp [strVs]
theorem Strs.of_row {W : World} {base : Nat} {e : TypeId} {v : Value} {n : Nat} {ls : List (List Int)} (h : W.ownsRow base e 1 v n (strVs ls)) : Strs W v ls := by
  have hn : n = ls.length := by have := h.1; simpa [strVs] using this.symm
  subst hn
  rcases h.2 with ⟨rfl, h0⟩ | ⟨g, cap, cur, rfl, hg, hh, hle, _⟩
  · obtain rfl : ls = [] := List.eq_nil_of_length_eq_zero h0
    exact ⟨none, 0, rfl, Nat.le_refl _, fun _ => rfl, .inl rfl⟩
  · refine ⟨_, cap, rfl, hle, by simp, .inr ⟨g, 0, rfl, fun j hj => ?_⟩⟩
    have := h.cellAt j (by omega)
    rw [Nat.zero_add, this]
    simp [strVs, hj]
theorem info_strg : (Try.prog.info? 9).map (fun i => (i.zero, i.size, i.bytes)) = some (some (.string ⟨#[]⟩), 1, 16) := by kernel_rfl
/-- some ends -/
def upTo (f : Nat → List Int) (k : Nat) : List (List Int) := (List.range k).map f
theorem upTo_succ (f : Nat → List Int) (k : Nat) : upTo f (k + 1) = upTo f k ++ [f k] := by simp [upTo, List.range_succ]
theorem upTo_length (f : Nat → List Int) (k : Nat) : (upTo f k).length = k := by simp [upTo]
theorem upTo_flat (f : Nat → List Int) (k : Nat) (h : ∀ i, i < k → (f i).length = 8) : (upTo f k).flatten.length = 8 * k := by
  induction k with
  | zero => rfl
  | succ k ih => rw [upTo_succ, List.flatten_append, List.length_append, ih (fun i hi => h i (by omega))]; simp [h k (by omega)]; omega
theorem upTo_u8s (f : Nat → List Int) (k : Nat) (h : ∀ i, i < k → U8s (f i)) : U8s (upTo f k).flatten := by
  induction k with
  | zero => intro j hj; simp [upTo] at hj
  | succ k ih => rw [upTo_succ, List.flatten_append]; exact (ih fun i hi => h i (by omega)).append (by simpa using h k (by omega))

theorem strs_cell {W : World} {b off n c : Nat} {ls : List (List Int)} (h : Strs W (.slice (some ⟨b, off, none⟩) n c) ls) (j : Nat) (hj : j < ls.length) : ∀ W', Up W W' → W'.cell? ⟨b, off + j, none⟩ = some (.string (strOfNums (ls[j]?.getD []))) := by
  intro W' hu
  obtain ⟨_, _, he, _, _, hc⟩ := h
  simp only [Value.slice.injEq] at he
  obtain ⟨rfl, _, _⟩ := he
  rcases hc with rfl | ⟨b', off', he, hc⟩
  · simp at hj
  · simp only [Option.some.injEq, Addr.mk.injEq, and_true] at he
    obtain ⟨rfl, rfl⟩ := he
    exact (hu.cell (p := ⟨b, off + j, none⟩) (World.block_lt_of_cell? W _ (hc j hj))).trans (hc j hj)
/-- a slice of strings that was just laid -/
theorem strs_new (w : World) (t : TypeId) (c : Array Value) (ls : List (List Int)) (b n : Nat) (hb : b = w.heap.size) (hn : n = ls.length) (hc : c.toList = strVs ls) : Strs (w.alloc (.cells c t)) (.slice (some ⟨b, 0, none⟩) n n) ls := by
  subst hn; subst hb
  refine ⟨_, _, rfl, Nat.le_refl _, by simp, .inr ⟨w.heap.size, 0, rfl, fun j hj => ?_⟩⟩
  rw [Nat.zero_add, cell_of_row _ _ j c t (0, 0) (heap_alloc_new w _), ← Array.getElem?_toList, hc]
  simp [strVs, hj]
end

section
/-
  Strings and slices of strings that came in, opened.
-/
section
set_option linter.unusedVariables false
open Go.ChangeShapes Go.WideShapes Go.ChangeAt Go.RowKit Go.Deep

section
variable {H : Type} {enc : TypeId × Value → H} {W : World}

/-- what the form's own reach says of one string -/
theorem reach_str {P : Program} {ts : List TypeId} {ds : List (DataW H)} {j : Nat} {t : TypeId} {s : ByteArray} (h : (DataW.weightsEach P ts ds).all (· ≤ reachBytes) = true) (ht : ts[j]? = some t) (hd : ds[j]? = some (.lit (.string s.data.toList))) : s.size ≤ 140737488351232 := by
  have h1 := sized_string h ht hd
  have h2 : s.data.toList.length = s.size := rfl
  rw [h2] at h1
  exact h1
end
end

/-
  A slice of strings that came in: how long each string can be; how many letters they have together.
-/
section
set_option linter.unusedVariables false
open Go.ChangeShapes Go.WideShapes Go.ChangeAt Go.RowKit Go.Deep

theorem addr_add (b off j : Nat) : ((⟨b, off, none⟩ : Addr).add j) = ⟨b, off + j, none⟩ := by unfold Addr.add; split <;> simp_all

section
variable {H : Type} {enc : TypeId × Value → H} {W : World}

/-- d is the reading of a slice of strings that reads as ls -/
def StrsD (d : DataW H) (ls : List (List Int)) : Prop := (d = .nil ∧ ls = []) ∨ ∃ ss spare, ls = ss.map octsOf ∧ d = .slice (strs ss) spare

theorem weights_all {P : Program} {e : TypeId} {d : DataW H} {n : Nat} : ∀ {ds : List (DataW H)}, d ∈ ds → n ∈ d.weights P e → n ∈ DataW.weightsAll P e ds
  | x :: r, h, hn => by
    simp only [DataW.weightsAll, List.mem_append]
    rcases List.mem_cons.1 h with rfl | h
    · exact .inl hn
    · exact .inr (weights_all h hn)
theorem fits_of {ls : List (List Int)} (h1 : ∀ k : Nat, U8s (ls[k]?.getD [])) (h2 : ∀ k : Nat, (ls[k]?.getD []).length ≤ 140737488351232) : ∀ k : Nat, U8s (ls[k]?.getD []) ∧ (ls[k]?.getD []).length ≤ 140737488351232 := fun k => ⟨h1 k, h2 k⟩
/-- how many letters there are -/
theorem bulk_strs {ls : List (List Int)} {d : DataW H} (hD : StrsD d ls) : ls.length + ls.flatten.length + 1 ≤ Rows.uptoBulk d := by
  rcases hD with ⟨rfl, rfl⟩ | ⟨ss, spare, rfl, rfl⟩
  · simp [Rows.uptoBulk]
  · simp only [Rows.uptoBulk]
    have key : ∀ ss : List ByteArray, (ss.map octsOf).length + (ss.map octsOf).flatten.length ≤ Rows.uptoBulkAll (strs (H := H) ss) := by
      intro ss
      induction ss with
      | nil => simp [strs, Rows.uptoBulkAll]
      | cons s r ih =>
        have e : strs (H := H) (s :: r) = .lit (.string s.data.toList) :: strs r := rfl
        rw [e]
        simp only [List.map_cons, List.length_cons, List.flatten_cons, List.length_append, Rows.uptoBulkAll, Rows.uptoBulk, octsOf_length]
        have hs : s.data.toList.length = s.size := rfl
        simp only [List.length_map] at ih ⊢
        omega
    have := key ss
    omega
end
end
end
end Go.Proofs.Ytmcajckpgbamnaa
