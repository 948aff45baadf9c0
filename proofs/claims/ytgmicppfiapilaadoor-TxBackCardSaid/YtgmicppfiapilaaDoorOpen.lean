import Derived.ProofKit
import Derived.OpenShut
import Derived.ChangeOld
import Derived.Below
import Derived.Deep.Slices
import Derived.SizedLaws
import Derived.Test.YtgmicppfiapilaaDoorBase
/-
  What came in, opened: slices of numbers, slices of slices of octets; and how many values a reading holds.
-/
namespace Go.Proofs.YtgmicppfiapilaaDoor
set_option linter.unusedVariables false
open Go.ChangeShapes Go.WideShapes Go.ChangeAt Go.RowKit Go.Deep

theorem own : ownKnob Tryd.prog.godebug = none := by kernel_rfl
theorem laidOut : laidOutB Tryd.prog = true := by kernel_rfl

section
variable {H : Type} {enc : TypeId × Value → H} {W : World}

theorem trod_below {t : TypeId} {v : Value} {d : DataW H} {ps : List MemPlace} (h : DataW.Trod enc Tryd.prog W 0 (fun _ => true) true t v d ps) : ∀ x ∈ ps, x.block < W.heap.size := by
  obtain ⟨m, hm⟩ := h; exact DataW.trod_lt m _ _ _ hm

/-- a slice of numbers of one kind -/
theorem open_row {P : Program} {t e : TypeId} {k : IntKind} {v : Value} {d : DataW H} {ps : List MemPlace} (ht : P.underlying t = some (.slice e)) (he : P.underlying e = some (.int k)) (hc : P.cellsOf e = 1)
    {a : Option Addr} {len cap : Nat} (hv : v = .slice a len cap) (h : DataW.Trod enc P W 0 (fun _ => true) true t v d ps) :
    ∃ zs, Ints k W v zs ∧ (∀ j, j < zs.length → (Lit.int k (zs[j]?.getD 0)).wf = true) ∧ zs.length ≤ maxLen ∧ ((d = .nil ∧ zs = []) ∨ ∃ spare, d = .slice (lits k zs) spare) := by
  obtain ⟨fuel, hf⟩ := h
  rw [hv] at hf
  rcases open_ints ht he hc hf with ⟨hcs, hx⟩ | ⟨x, l, c, zs, hcs, _, hl, hm, hz, hx, hcell, hwz⟩
  · simp [Value.cells] at hcs
    obtain ⟨rfl, rfl, rfl⟩ := hcs
    simp only [Prod.mk.injEq] at hx
    exact ⟨[], ⟨none, 0, hv, Nat.le_refl _, fun _ => rfl, .inl rfl⟩, fun j hj => by simp at hj, by simp, .inl ⟨hx.1, rfl⟩⟩
  · simp [Value.cells] at hcs
    obtain ⟨rfl, rfl, rfl⟩ := hcs
    simp only [if_true] at hz
    simp only [Prod.mk.injEq] at hx
    have htl : (zs.take len).length = len := by rw [List.length_take]; omega
    refine ⟨zs.take len, ⟨some x, cap, by rw [htl]; exact hv, by rw [htl]; exact hl, by simp, ?_⟩, ?_, by rw [htl]; omega, .inr ⟨_, hx.1⟩⟩
    · by_cases h0 : len = 0
      · subst h0; exact .inl (by simp)
      · right
        obtain ⟨b, off, spot⟩ := x
        have hc0 := hcell 0 (by omega)
        have hspot : spot = none := by simpa [Addr.add] using World.cell?_spot hc0
        subst hspot
        refine ⟨b, off, rfl, fun j hj => ?_⟩
        rw [htl] at hj
        have h1 := hcell j (by omega)
        have h2 : ((⟨b, off, none⟩ : Addr).add j) = ⟨b, off + j, none⟩ := by unfold Addr.add; split <;> simp_all
        rw [h2] at h1
        rw [h1]
        simp [List.getD, hj]
    · intro j hj
      rw [htl] at hj
      have h3 : j < zs.length := by omega
      have h4 : (zs.take len)[j]?.getD 0 = zs[j] := by simp [hj, h3]
      rw [h4]
      exact hwz _ (List.getElem_mem h3)

theorem U8s.of_wf {zs : List Int} (h : ∀ j, j < zs.length → (Lit.int .u8 (zs[j]?.getD 0)).wf = true) : U8s zs := by
  intro j hj
  have := h j hj
  simp [Lit.wf, IntKind.min, IntKind.max, IntKind.signed, IntKind.bits] at this
  constructor <;> omega
theorem u32s_of_wf {zs : List Int} (h : ∀ j, j < zs.length → (Lit.int .u32 (zs[j]?.getD 0)).wf = true) : ∀ j, j < zs.length → 0 ≤ zs[j]?.getD 0 ∧ zs[j]?.getD 0 < 4294967296 := by
  intro j hj
  have := h j hj
  simp [Lit.wf, IntKind.min, IntKind.max, IntKind.signed, IntKind.bits] at this
  constructor <;> omega
theorem i64_of_wf {a : Int} (h : (Lit.int .i64 a).wf = true) : -9223372036854775808 ≤ a ∧ a ≤ 9223372036854775807 := by
  simpa [Lit.wf, IntKind.min, IntKind.max, IntKind.signed, IntKind.bits] using h
/-- what the form's own reach says of one slice of numbers -/
theorem reach_row {P : Program} {ts : List TypeId} {ds : List (DataW H)} {j : Nat} {t e : TypeId} {k : IntKind} {zs : List Int} {d : DataW H} {n : Nat} (hb : P.bytesOf e = n) (hD : (d = .nil ∧ zs = []) ∨ ∃ spare, d = .slice (lits k zs) spare)
    (hu : P.underlying t = some (.slice e)) (h : (DataW.weightsEach P ts ds).all (· ≤ reachBytes) = true) (ht : ts[j]? = some t) (hd : ds[j]? = some d) : zs.length * n ≤ 140737488351232 := by
  rcases hD with ⟨_, rfl⟩ | ⟨spare, rfl⟩
  · simp
  · have h1 := sized_slice h (j := j) (t := t) (e := e) ht hd hu
    rw [hb] at h1
    simp only [lits, List.length_map, reachBytes] at h1
    have h2 : zs.length * n ≤ (zs.length + spare.length) * n := Nat.mul_le_mul_right _ (by omega)
    omega
end
theorem bytes_u8 : Tryd.prog.bytesOf 5 = 1 := by kernel_rfl
theorem bytes_u32 : Tryd.prog.bytesOf 115 = 4 := by kernel_rfl
end Go.Proofs.YtgmicppfiapilaaDoor
