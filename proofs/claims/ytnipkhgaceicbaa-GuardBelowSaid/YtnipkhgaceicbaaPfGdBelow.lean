/- GuardBelow answers true for any state, blocks, block and mark, and nothing that was there turns: where the lock ranks above the block's Justify MayVote refuses it, and in a view that is spoilt MayVote and MayCommit refuse all. No condition but the form's own. -/
import Derived.Deep.CondSized
import Derived.JoinedCond
import Derived.Test.YtnipkhgaceicbaaGdNo
import Derived.Test.YtnipkhgaceicbaaGdOpen
import Derived.Test.YtnipkhgaceicbaaTrArg
import Derived.Test.YtnipkhgaceicbaaOpen
namespace Go.Proofs.Ytnipkhgaceicbaa.guardBelow
open Go.ChangeShapes Go.WideShapes Go.ChangeAt Go.RowKit
set_option linter.unusedVariables false

set_option maxRecDepth 100000 in
theorem lifted (os : Os) (started : os.Started) (H : Type) (enc : TypeId × Value → H) :
    ReturnsInHanded {} Try.checked os 4 .any (Rows.guardBelowSpec.pre6 enc Try.prog Try.f4 Rows.guardBelowRow.domain false) (Rows.guardBelowSpec.post enc Try.prog Try.f4 false true false false) := by
  refine returnsInHanded_of_change_sized (C := Try.checked) own started (by kernel_rfl) Try.func4
    (ChangeSpec.witness6 (enc := enc) (C := Try.checked) false ⟨#[], #[.agg #[.int .i64 0, .int .i64 0, .int .i64 0, .string .empty, .int .i64 0, .int .i64 0, .string .empty, .int .i64 0, .int .i64 0, .string .empty, .bool false], .slice none 0 0, .agg #[.int .i64 0, .int .i64 0, .string .empty, .int .i64 0, .int .i64 0, .string .empty, .slice none 0 0, .slice none 0 0, .string .empty], .agg #[.int .i64 0, .int .i64 0, .string .empty]], []⟩ 8 (by kernel_rfl) (by kernel_rfl) (by kernel_rfl) (by kernel_rfl)) ?_
  intro W base args ds gs before hval0 hW hcnd hsz0 _
  have hval : ∀ (j : Nat) t v, Try.f4.params[j]? = some t → args[j]? = some v → Value.okWide Try.prog W .any base t v := hval0
  have hsz : (DataW.weightsEach Try.prog (Try.f4.params.toList ++ Rows.guardBelowSpec.plain.varTypes Try.prog) (ds ++ gs)).all (· ≤ reachBytes) = true := hsz0
  have hW' := hW
  obtain ⟨p, q, hA0, hV, rfl, hfz, hnd⟩ := hW
  have hA : DataW.TrodAll enc Try.prog W 0 (fun _ => true) true Try.f4.params.toList args.toList ds p := hA0
  rw [Try.params4] at hA hval hsz
  obtain ⟨v0, vs0, d0, ds0, p0, q0, hargs, rfl, rfl, h0, r0⟩ := trodAll_cons hA
  obtain ⟨v1, vs1, d1, ds1, p1, q1, rfl, rfl, rfl, h1, r1⟩ := trodAll_cons r0
  obtain ⟨v2, vs2, d2, ds2, p2, q2, rfl, rfl, rfl, h2, r2⟩ := trodAll_cons r1
  obtain ⟨v3, vs3, d3, ds3, p3, q3, rfl, rfl, rfl, h3, r3⟩ := trodAll_cons r2
  obtain ⟨rfl, rfl, rfl⟩ := trodAll_nil r3
  obtain rfl : args = #[v0, v1, v2, v3] := by cases args; simp_all
  obtain ⟨rfl, rfl⟩ := trodVars_none hV
  have k0 := h0
  have lt0 := trod_below k0
  obtain ⟨s0, rfl, ws0, wa0, wb0, wc0⟩ := open_gs (hval 0 28 v0 rfl rfl) h0
  obtain ⟨ad1, len1, cap1, hv1⟩ := okWide_slice Try.underlying35 (hval 1 35 v1 rfl rfl)
  have k1 := h1
  have lt1 := trod_below k1
  obtain ⟨z1, I1, f1, m1, D1⟩ := open_tbs hv1 h1
  have k2 := h2
  have lt2 := trod_below k2
  obtain ⟨x2, rfl, I2, O2, D2⟩ := open_tb (hval 2 41 v2 rfl rfl) h2
  have k3 := h3
  have lt3 := trod_below k3
  obtain ⟨V3, H3, B3, rfl, wv3, wh3, wb3⟩ := open_mk (hval 3 26 v3 rfl rfl) h3
  clear hA0 hval0
  simp only [List.append_nil] at hW'
  refine (guardBelow_of voteNo commitNo s0 v1 z1 x2 ⟨V3, H3, B3⟩ W I1 (fun j x hx => by have h := reach_tbs (j := 1) D1 hsz rfl rfl j x hx; exact ⟨by omega, by omega, (f1 j x hx).p⟩) (by have := reach_tbsl (j := 1) D1 hsz rfl rfl; omega) I2 (by have h := reach_tb (j := 2) D2 hsz rfl rfl; exact ⟨by omega, by omega, O2.p⟩) O2 ⟨wv3, wh3, wb3⟩).mono fun e W' ⟨he, bel⟩ => ?_
  subst he
  exact ⟨_, rfl, _, _, _, [], _, [], hW', trodAll_mk1 (shut_bool Try.underlying4 _), (trodAll_cons_mk (Below.trod laidOut (by kernel_rfl) (of_decide_eq_true (by kernel_rfl)) k0 bel lt0) (trodAll_cons_mk (Below.trod laidOut (by kernel_rfl) (of_decide_eq_true (by kernel_rfl)) k1 bel lt1) (trodAll_cons_mk (Below.trod laidOut (by kernel_rfl) (of_decide_eq_true (by kernel_rfl)) k2 bel lt2) (trodAll_cons_mk (Below.trod laidOut (by kernel_rfl) (of_decide_eq_true (by kernel_rfl)) k3 bel lt3) trodAll_mk0)))), rfl, bel.frame _, fun h => by cases h⟩

theorem over : Rows.guardBelowRow.holds Try.pinned (OpenSpec.ofChange Rows.guardBelowSpec) :=
  OpenClaim.holds_of_wide 4 Try.f4 rfl rfl rfl rfl rfl rfl rfl ⟨rfl, rfl, rfl, rfl, rfl⟩ rfl rfl rfl rfl rfl (by kernel_rfl) Try.func4 (by kernel_rfl)
    (of_decide_eq_true (by kernel_rfl)) (by unfold Func.isWrapper; first | (rw [if_pos (by decide +kernel)]; kernel_rfl) | (rw [if_neg (by decide +kernel)]; exact ⟨rfl, rfl⟩))
    (fun os started H enc _ => lifted os started H enc)

theorem proved : Rows.GuardBelowSaid := over
end Go.Proofs.Ytnipkhgaceicbaa.guardBelow
