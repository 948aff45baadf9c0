/- BlockValid answers true for every block and every config, and nothing that was there turns. No condition but the form's own. -/
import Derived.Deep.CondSized
import Derived.JoinedCond
import Derived.Test.YtfenmhddlojahaaGreatLawBlockValid
import Derived.Test.YtfenmhddlojahaaGreatBkArgV
import Derived.Test.YtfenmhddlojahaaGreatOpen
namespace Go.Proofs.YtfenmhddlojahaaGreat.blockValid
open Go.ChangeShapes Go.WideShapes Go.ChangeAt Go.RowKit
set_option linter.unusedVariables false

set_option maxRecDepth 100000 in
theorem lifted (os : Os) (started : os.Started) (H : Type) (enc : TypeId × Value → H) :
    ReturnsInHanded {} Tryz.checked os 5 .any (Rows.blockValidSpec.pre6 enc Tryz.prog Tryz.f5 Rows.blockValidRow.domain false) (Rows.blockValidSpec.post enc Tryz.prog Tryz.f5 false true false false) := by
  refine returnsInHanded_of_change_sized (C := Tryz.checked) own started (by kernel_rfl) Tryz.func5
    (ChangeSpec.witness6 (enc := enc) (C := Tryz.checked) false ⟨#[], #[.agg #[.int .i64 0, .int .i64 0, .string .empty, .int .i64 0, .int .i64 0, .string .empty, .slice none 0 0, .slice none 0 0, .string .empty], .agg #[.slice none 0 0, .slice none 0 0, .int .i64 0, .int .i64 0, .int .i64 0]], []⟩ 8 (by kernel_rfl) (by kernel_rfl) (by kernel_rfl) (by kernel_rfl)) ?_
  intro W base args ds gs before hval0 hW hcnd hsz0 _
  have hval : ∀ (j : Nat) t v, Tryz.f5.params[j]? = some t → args[j]? = some v → Value.okWide Tryz.prog W .any base t v := hval0
  have hsz : (DataW.weightsEach Tryz.prog (Tryz.f5.params.toList ++ Rows.blockValidSpec.plain.varTypes Tryz.prog) (ds ++ gs)).all (· ≤ reachBytes) = true := hsz0
  have hW' := hW
  obtain ⟨p, q, hA0, hV, rfl, hfz, hnd⟩ := hW
  have hA : DataW.TrodAll enc Tryz.prog W 0 (fun _ => true) true Tryz.f5.params.toList args.toList ds p := hA0
  rw [Tryz.params5] at hA hval hsz
  obtain ⟨v0, vs0, d0, ds0, p0, q0, hargs, rfl, rfl, h0, r0⟩ := trodAll_cons hA
  obtain ⟨v1, vs1, d1, ds1, p1, q1, rfl, rfl, rfl, h1, r1⟩ := trodAll_cons r0
  obtain ⟨rfl, rfl, rfl⟩ := trodAll_nil r1
  obtain rfl : args = #[v0, v1] := by cases args; simp_all
  obtain ⟨rfl, rfl⟩ := trodVars_none hV
  have k0 := h0
  have lt0 := trod_below k0
  obtain ⟨V0, Hh0, P0, JV0, JH0, JB0, ja0, jn0, jc0, ta0, n0, tc0, S0, x0, rfl, I0, sz0, y0, J0, yn0, yo0, D0⟩ := open_bkv (hval 0 55 v0 rfl rfl) h0
  have k1 := h1
  have lt1 := trod_below k1
  obtain ⟨ra1, rc1, ca1, cc1, qq1, bb1, cp1, l1, m1, rfl, I1, J1, ll1, mm1⟩ := open_cfg (hval 1 57 v1 rfl rfl) h1
  clear hA0 hval0
  simp only [List.append_nil] at hW'
  refine (lawBlockValid_any V0 Hh0 P0 JV0 JH0 JB0 ja0 jn0 jc0 ta0 n0 tc0 S0 x0 y0 ra1 rc1 ca1 cc1 qq1 bb1 cp1 l1 m1 W sz0 I0 J0 yn0 (reach_bk (j := 0) D0 hsz rfl rfl) yo0 I1 ll1 J1 mm1).mono fun e W' ⟨he, bel⟩ => ?_
  subst he
  exact ⟨_, rfl, _, _, _, [], _, [], hW', trodAll_mk1 (shut_bool Tryz.underlying4 _), (trodAll_cons_mk (Below.trod laidOut (by kernel_rfl) (of_decide_eq_true (by kernel_rfl)) k0 bel lt0) (trodAll_cons_mk (Below.trod laidOut (by kernel_rfl) (of_decide_eq_true (by kernel_rfl)) k1 bel lt1) trodAll_mk0)), rfl, bel.frame _, fun h => by cases h⟩

theorem over : Rows.blockValidRow.holds Tryz.pinned (OpenSpec.ofChange Rows.blockValidSpec) :=
  OpenClaim.holds_of_wide 5 Tryz.f5 rfl rfl rfl rfl rfl rfl rfl ⟨rfl, rfl, rfl, rfl, rfl⟩ rfl rfl rfl rfl rfl (by kernel_rfl) Tryz.func5 (by kernel_rfl)
    (of_decide_eq_true (by kernel_rfl)) (by unfold Func.isWrapper; first | (rw [if_pos (by decide +kernel)]; kernel_rfl) | (rw [if_neg (by decide +kernel)]; exact ⟨rfl, rfl⟩))
    (fun os started H enc _ => lifted os started H enc)

theorem proved : Rows.BlockValidSaid := over
end Go.Proofs.YtfenmhddlojahaaGreat.blockValid
