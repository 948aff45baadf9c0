import Derived.Test.YtmohlfeobdfhdaaPoSlots
/-
  mempool: the slots of a list's transactions, the slots that accounts wait for.
-/
namespace Go.Proofs.Ytmohlfeobdfhdaa
set_option maxRecDepth 100000
section
set_option linter.unusedVariables false
open Go.RowKit Go.Sort Go.Lib

/-- is there one of that From and Nonce? -/
def metS (xs : List Ts) (f k : Int) : Bool := xs.any fun x => decide (f = x.1.F) && decide (k = x.1.N)
theorem metS_snoc (xs : List Ts) (x : Ts) (f k : Int) : metS (xs ++ [x]) f k = ((decide (f = x.1.F) && decide (k = x.1.N)) || metS xs f k) := by
  unfold metS
  rw [List.any_append, List.any_cons, List.any_nil, Bool.or_false, Bool.or_comm]
theorem take_oneT (xs : List Ts) (i : Nat) (x : Ts) (h : xs[i]? = some x) : xs.take (i + 1) = xs.take i ++ [x] := by
  rw [List.take_add_one, h]; rfl

set_option maxHeartbeats 400000 in
theorem met_any (v : Value) (xs : List Ts) (w : World) (hx : TArg w v xs) (hok : ∀ (j : Nat) (x : Ts), xs[j]? = some x → TsOk x) (hn : xs.length < 4611686018427387904) :
    Calls Try.prog 21 #[v] w fun e w' => e = .returned (.map (some w.heap.size)) ∧ Up w w' ∧ SlotSet w' w.heap.size xs.length (metS xs) := by
  obtain ⟨a, cap, rfl, hcap, hnone, _⟩ := id hx
  have HX := Lib.hid hx
  have HOK := Lib.hid hok
  obtain ⟨n, hnl⟩ : ∃ n, xs.length = n := ⟨_, rfl⟩
  have HN := Lib.hid hnl
  rw [hnl] at hn hcap ⊢
  have hmm := @run_makeMap Try.prog
  have HU0 := Lib.hid (Up.alloc (Up.refl w) (.map #[] 0))
  have HS0 := Lib.hid (SlotSet.new w)
  clear hx hok hnl hnone hcap
  go_enter Try.func21, Try.ntmps21
  go_wp2
  go_loopw [9] (fun vi wr => ∃ i : Nat, vi = .int .i64 (i : Nat) ∧ i ≤ n ∧ Hid (Up w wr) ∧ Hid (SlotSet wr w.heap.size i (metS (xs.take i)))) (fun vi _ => n - (RowKit.intOf vi).toNat)
  case atStart => exact ⟨0, rfl, Nat.zero_le _, HU0, HS0⟩
  case round =>
    obtain ⟨i, rfl, hi, HU, HS⟩ := hrel
    by_cases hlt : i < n
    · have hz : (i : Int) < (n : Int) := by omega
      obtain ⟨x, hxi⟩ : ∃ x, xs[i]? = some x := ⟨_, List.getElem?_eq_getElem (by rw [HN.out]; exact hlt)⟩
      have HTx := Lib.hid (take_oneT xs i x hxi)
      obtain ⟨b, off, rfl⟩ := HX.out.ptr (by have := HN.out; omega)
      have Hl := Lib.hid ((HX.out.up HU.out).load hxi)
      have Hok := Lib.hid (HOK.out i x hxi)
      have HUA := Lib.hid (Up.alloc HU.out (.cells (tsA x) 29))
      have HSA := Lib.hid (HS.out.up (Up.alloc (Up.refl wr) (.cells (tsA x) 29)))
      have HB := Lib.hid (heap_alloc_new wr (.cells (tsA x) 29))
      have Hc := Lib.hid (slotOf_any x.1.F x.1.T x.1.A x.1.N x.2 (wr.alloc (.cells (tsA x) 29)))
      change Hid (Calls Try.prog 23 #[.agg (tsA x)] _ _) at Hc
      clear hxi HS HU
      go_wp2_with (first | (refine wpList_ex rfl (.agg (tsA x)) wr (ex_ldt (x := .tmp 11) rfl rfl Hl.out) ?_) | (refine wpList_exs rfl _ (ex_fillT (x := .tmp 5) (y := .tmp 12) (W := wr) rfl rfl rfl rfl) ?_) | (refine wpList_ex rfl (.agg (tsA x)) _ (ex_loadrow (x := .tmp 5) rfl rfl _ 29 HB.out Try.underlying29 rfl info_tx) ?_))
      with_reducible refine Calls.mono Hc.out ?_
      rintro e w2 ⟨rfl, hG2⟩
      have HU2 := Lib.hid (HUA.out.trans hG2.up)
      have HS2 := Lib.hid (HSA.out.up hG2.up)
      clear hG2 HUA HSA Hl HB Hc
      go_wp2_with (at_mapUpdate; refine wpList_slotPut rfl _ _ _ rfl HS2.out (by unfold maxLen; omega) Hok.out.1 Hok.out.2.2.2.1 rfl rfl rfl ?_; intro w3 hs3 hg3; have HS3 := Lib.hid hs3; have HG3 := Lib.hid hg3; clear hs3 hg3)
      go_roundw
      case rel => exact ⟨i + 1, by go_num, hlt, Lib.hid (up_at HU2.out HG3.out (Nat.le_refl _)), Lib.hid (HS3.out.congr fun f k _ _ => by rw [HTx.out, metS_snoc])⟩
      case measure => simp [RowKit.intOf]; omega
    · obtain rfl : i = n := by omega
      go_wp2
      go_ret
      refine ⟨rfl, HU.out, ?_⟩
      have := HS.out
      rwa [List.take_of_length_le (by rw [HN.out]; exact Nat.le_refl _)] at this
end
end Go.Proofs.Ytmohlfeobdfhdaa
