import Derived.Test.YtpnmoeohbbngcaaRefVerify
/-
  SignerVerifies: the walk returns true.
-/
namespace Go.Proofs.Ytpnmoeohbbngcaa
set_option maxRecDepth 100000
section
set_option linter.unusedVariables false
open Go.RowKit

set_option maxHeartbeats 1000000 in
theorem lawVerifies_any (root : ByteArray) (h : Int) (v : Value) (text : List Int) (sig : List Int) (w : World) (hv : Ints .u8 w v text) (hut : U8s text) (hlt : text.length ≤ 140737488355200) (hu : U8s sig) (hl : sig.length ≤ 9223372036854775807) :
    Calls Try.prog 3 #[.string root, .int .i64 h, v, .string (strOfNums sig)] w fun e w' => e = .returned (.bool true) ∧ Up w w' := by
  have Hv := Lib.hid (verify_any root h v text sig w hv hut (by omega) hu hl)
  have Hr : Hid (∀ wx, Up w wx → Calls Try.prog 6 #[.string root, .int .i64 h, v, .string (strOfNums sig)] wx (SigTold root h text sig wx)) := fun wx hx => refVerify_any root h v text sig wx (hv.up hx) hut hlt hu hl
  obtain ⟨a, cap, rfl, _, _, _⟩ := hv
  clear hut hlt hu hl
  generalize strOfNums sig = S at Hv Hr ⊢
  go_enter Try.func3, Try.ntmps3
  go_wp2_with fail
  with_reducible refine Calls.mono Hv.out ?_
  rintro e w1 ⟨⟨x, ok, rfl, h1, h2⟩, hU1⟩
  have H12 := Lib.hid (And.intro h1 h2)
  clear h1 h2
  go_wp2_with fail
  with_reducible refine Calls.mono (Hr.out _ hU1) ?_
  rintro e w2 ⟨⟨y, is, rfl, h3, h4⟩, hU2⟩
  obtain ⟨rfl, rfl⟩ : y = x ∧ is = ok := by
    by_cases hg : GoodSig root h text sig
    · have a1 := H12.out.1 hg
      have a2 := h3 hg
      exact ⟨a2.1.trans a1.1.symm, a2.2.trans a1.2.symm⟩
    · have a1 := H12.out.2 hg
      have a2 := h4 hg
      exact ⟨a2.1.trans a1.1.symm, a2.2.trans a1.2.symm⟩
  have HU2 := Lib.hid (Up.trans hU1 hU2)
  clear H12 h3 h4 hU1 hU2
  go_wp2_with fail
  with_reducible refine Calls.mono (sgAlive_any _) ?_
  rintro e w3 ⟨rfl, rfl⟩
  go_wp2
  go_ret
  exact ⟨rfl, HU2.out⟩
theorem lawVerifies_str (root : ByteArray) (h : Int) (v : Value) (text : List Int) (sig : ByteArray) (w : World) (hv : Ints .u8 w v text) (hut : U8s text) (hlt : text.length ≤ 140737488355200) (hl : sig.size ≤ 9223372036854775807) :
    Calls Try.prog 3 #[.string root, .int .i64 h, v, .string sig] w fun e w' => e = .returned (.bool true) ∧ Below w.heap.size w w' := by
  have h := lawVerifies_any root h v text (octsOf sig) w hv hut hlt (octsOf_u8s sig) (by rw [octsOf_length]; exact hl)
  rwa [strOf_octs] at h
end
end Go.Proofs.Ytpnmoeohbbngcaa
