import Derived.Test.YtmohlfeobdfhdaaPoMet
import Derived.Test.YtmohlfeobdfhdaaAcKit
/-
  mempool: the slots that accounts wait for.
-/
namespace Go.Proofs.Ytmohlfeobdfhdaa
set_option maxRecDepth 100000
section
set_option linter.unusedVariables false
open Go.RowKit Go.Sort Go.Lib

/-- is that the slot that an account waits for, by their nonces? -/
def nextS (ns : List Int) (f k : Int) : Bool := decide (0 ≤ f) && decide (ns[f.toNat]? = some k)
theorem nextS_iff {ns : List Int} {f k : Int} : nextS ns f k = true ↔ 0 ≤ f ∧ ns[f.toNat]? = some k := by unfold nextS; simp
theorem nextS_snoc (ns : List Int) (i : Nat) (k0 : Int) (h : ns[i]? = some k0) (f k : Int) : nextS (ns.take (i + 1)) f k = ((decide (f = (i : Int)) && decide (k = k0)) || nextS (ns.take i) f k) := by
  have hi : i < ns.length := (List.getElem?_eq_some_iff.1 h).1
  have hl : (ns.take i).length = i := by rw [List.length_take]; omega
  rw [Bool.eq_iff_iff, Bool.or_eq_true, Bool.and_eq_true, decide_eq_true_iff, decide_eq_true_iff, nextS_iff, nextS_iff, List.take_add_one, h]
  show (0 ≤ f ∧ (ns.take i ++ [k0])[f.toNat]? = some k) ↔ _
  by_cases e : f = (i : Int)
  · subst e
    rw [show ((i : Int)).toNat = i by omega, List.getElem?_append_right (by omega), hl, Nat.sub_self, List.getElem?_eq_none (l := ns.take i) (by omega)]
    simp only [List.getElem?_cons_zero, Option.some.injEq]
    constructor
    · intro h2; exact .inl ⟨trivial, h2.2.symm⟩
    · rintro (h2 | h2)
      · exact ⟨by omega, h2.2.symm⟩
      · cases h2.2
  · constructor
    · intro h2
      refine .inr ⟨h2.1, ?_⟩
      have hlt : f.toNat < (ns.take i ++ [k0]).length := (List.getElem?_eq_some_iff.1 h2.2).1
      rw [List.length_append, hl, List.length_singleton] at hlt
      rw [← h2.2, List.getElem?_append_left (by omega)]
    · rintro (h2 | h2)
      · exact absurd h2.1 e
      · refine ⟨h2.1, ?_⟩
        have hlt : f.toNat < (ns.take i).length := (List.getElem?_eq_some_iff.1 h2.2).1
        rw [List.getElem?_append_left hlt]; exact h2.2
theorem nextS_pass (ns : List Int) (f n : Int) (h : nextS ns f n = true) (f' k' : Int) : passS f n (nextS ns) f' k' = nextS (ns.set f.toNat (wrap64 (n + 1))) f' k' := by
  obtain ⟨h0, h1⟩ := nextS_iff.1 h
  have hl : f.toNat < ns.length := (List.getElem?_eq_some_iff.1 h1).1
  rw [Bool.eq_iff_iff]
  unfold passS
  rw [Bool.or_eq_true, Bool.and_eq_true, Bool.and_eq_true, decide_eq_true_iff, decide_eq_true_iff, nextS_iff, nextS_iff]
  by_cases e : f' = f
  · subst e
    rw [List.getElem?_set_self hl, h1]
    simp only [Option.some.injEq, true_and, decide_true, Bool.true_and]
    constructor
    · rintro (h2 | h2)
      · exact ⟨h0, h2.symm⟩
      · obtain ⟨h3, _, h4⟩ := h2
        rw [h4] at h3; simp at h3
    · intro h2; exact .inl h2.2.symm
  · simp only [e, false_and, false_or, decide_false, Bool.false_and, Bool.not_false, true_and]
    by_cases h2 : 0 ≤ f'
    · rw [List.getElem?_set_ne (by omega)]
    · simp [h2]

set_option maxHeartbeats 400000 in
theorem awaited_any (v : Value) (ac : List Ac) (w : World) (hx : AArg w v ac) (hok : ∀ (j : Nat) (x : Ac), ac[j]? = some x → AcOk x) (hn : ac.length < 4611686018427387904) :
    Calls Try.prog 13 #[v] w fun e w' => e = .returned (.map (some w.heap.size)) ∧ Up w w' ∧ SlotSet w' w.heap.size ac.length (nextS (ac.map (·.2))) := by
  obtain ⟨a, cap, rfl, hcap, hnone, _⟩ := id hx
  have HX := Lib.hid hx
  have HOK := Lib.hid hok
  obtain ⟨n, hnl⟩ : ∃ n, ac.length = n := ⟨_, rfl⟩
  have HN := Lib.hid hnl
  rw [hnl] at hn hcap ⊢
  have hmm := @run_makeMap Try.prog
  have HU0 := Lib.hid (Up.alloc (Up.refl w) (.map #[] 0))
  have HS0 := Lib.hid ((SlotSet.new w).congr (T := nextS ((ac.map (·.2)).take 0)) fun f k _ _ => by simp [nextS])
  clear hx hok hnl hnone hcap
  go_enter Try.func13, Try.ntmps13
  go_wp2
  go_loopw [9] (fun vi wr => ∃ i : Nat, vi = .int .i64 (i : Nat) ∧ i ≤ n ∧ Hid (Up w wr) ∧ Hid (SlotSet wr w.heap.size i (nextS ((ac.map (·.2)).take i)))) (fun vi _ => n - (RowKit.intOf vi).toNat)
  case atStart => exact ⟨0, rfl, Nat.zero_le _, HU0, HS0⟩
  case round =>
    obtain ⟨i, rfl, hi, HU, HS⟩ := hrel
    by_cases hlt : i < n
    · have hz : (i : Int) < (n : Int) := by omega
      obtain ⟨x, hxi⟩ : ∃ x, ac[i]? = some x := ⟨_, List.getElem?_eq_getElem (by rw [HN.out]; exact hlt)⟩
      have HNx := Lib.hid (nextS_snoc (ac.map (·.2)) i x.2 (by rw [List.getElem?_map, hxi]; rfl))
      obtain ⟨b, off, rfl⟩ := HX.out.ptr (by have := HN.out; omega)
      have Hl := Lib.hid ((HX.out.up HU.out).load hxi)
      have Hok := Lib.hid (HOK.out i x hxi)
      have HUA := Lib.hid (Up.alloc HU.out (.cells (acA x) 34))
      have HSA := Lib.hid (HS.out.up (Up.alloc (Up.refl wr) (.cells (acA x) 34)))
      have c1 := tx_cell (heap_alloc_new wr (.cells (acA x) 34)) 1 (v := .int .i64 x.2) rfl
      have Hwi : Hid ((Lit.int .i64 ((i : Nat) : Int)).wf = true) := Lib.hid (WalkArith.wf_i64 (by omega))
      clear hxi HS HU
      go_wp2_with (first | (refine wpList_ex rfl (.agg (acA x)) wr (ex_lda (x := .tmp 12) rfl rfl Hl.out) ?_) | (refine wpList_exs rfl _ (ex_fillA (x := .tmp 5) (y := .tmp 13) (W := wr) rfl rfl rfl rfl) ?_) | (at_mapUpdate; refine wpList_slotPut rfl _ _ _ rfl HSA.out (by unfold maxLen; omega) Hwi.out Hok.out.2 rfl rfl rfl ?_; intro w3 hs3 hg3; have HS3 := Lib.hid hs3; have HG3 := Lib.hid hg3; clear hs3 hg3))
      go_roundw
      case rel => exact ⟨i + 1, by go_num, hlt, Lib.hid (up_at HUA.out HG3.out (Nat.le_refl _)), Lib.hid (HS3.out.congr fun f k _ _ => (HNx.out f k).symm)⟩
      case measure => simp [RowKit.intOf]; omega
    · obtain rfl : i = n := by omega
      go_wp2
      go_ret
      refine ⟨rfl, HU.out, ?_⟩
      have := HS.out
      rwa [List.take_of_length_le (by rw [List.length_map, HN.out]; exact Nat.le_refl _)] at this
end
end Go.Proofs.Ytmohlfeobdfhdaa
