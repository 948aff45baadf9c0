import Derived.Test.YtmcajckpgbamnaaRlSort
/-
  rule.Marks.
-/
namespace Go.Proofs.Ytmcajckpgbamnaa
set_option maxRecDepth 100000
section
set_option linter.unusedVariables false
open Go.RowKit Go.Sort Go.Lib

/-- is it a commit-vote, or a report? -/
def kOk (x : Vs) : Bool := decide (2 ≤ x.1.K) && decide (x.1.K ≤ 3)
/-- what such statements are about, each once, as they come -/
noncomputable def mks : List Mr → List Vs → List Mr
  | L, [] => L
  | L, x :: t => mks (if kOk x then addM L (aboutV x) else L) t
theorem mks_append : ∀ (l l' : List Vs) (L : List Mr), mks L (l ++ l') = mks (mks L l) l'
  | [], _, _ => rfl
  | x :: t, l', L => mks_append t l' _
theorem addM_mem {L : List Mr} {k j : Mr} : j ∈ addM L k ↔ j ∈ L ∨ j = k := by
  unfold addM
  by_cases e : k ∈ L
  · simp only [e, if_true]; exact ⟨.inl, fun h => h.elim id (fun h => h ▸ e)⟩
  · simp [e]
theorem mks_mem : ∀ (l : List Vs) (L : List Mr) (j : Mr), j ∈ mks L l ↔ j ∈ L ∨ ∃ x ∈ l, kOk x = true ∧ aboutV x = j
  | [], L, j => by simp [mks]
  | x :: t, L, j => by
    rw [mks, mks_mem t]
    by_cases e : kOk x = true
    · simp only [e, if_true, addM_mem, List.mem_cons, exists_eq_or_imp]
      constructor
      · rintro ((h | h) | h)
        · exact .inl h
        · exact .inr (.inl ⟨trivial, h.symm⟩)
        · exact .inr (.inr h)
      · rintro (h | h | h)
        · exact .inl (.inl h)
        · exact .inl (.inr h.2.symm)
        · exact .inr h
    · simp only [e, List.mem_cons, exists_eq_or_imp, Bool.false_eq_true, if_false, false_and, false_or]
theorem mks_len : ∀ (l : List Vs) (L : List Mr), (mks L l).length ≤ L.length + l.length
  | [], L => by simp [mks]
  | x :: t, L => by
    rw [mks]
    have := mks_len t (if kOk x then addM L (aboutV x) else L)
    have h2 : (if kOk x then addM L (aboutV x) else L).length ≤ L.length + 1 := by
      unfold addM; split
      · split <;> simp
      · omega
    simp only [List.length_cons]; omega
theorem nodup_leM : ∀ {l l' : List Mr}, l.Nodup → (∀ x ∈ l, x ∈ l') → l.length ≤ l'.length
  | [], _, _, _ => Nat.zero_le _
  | x :: t, l', h, hs => by
    have hx := hs x (by simp)
    rw [List.nodup_cons] at h
    have := nodup_leM (l' := l'.erase x) h.2 (fun y hy => (List.mem_erase_of_ne (by rintro rfl; exact h.1 hy)).2 (hs y (by simp [hy])))
    rw [List.length_erase_of_mem hx] at this
    have : 0 < l'.length := List.length_pos_of_mem hx
    simp only [List.length_cons]; omega

set_option maxHeartbeats 1000000 in
theorem rlMarks_any (v : Value) (xs : List Vs) (w : World) (hx : VArg w v xs) (hn : xs.length * 72 ≤ 140737488355328) (hok : ∀ x ∈ xs, MrOk (aboutV x)) :
    Calls Try.prog 5 #[v] w fun e w' => ∃ u ms, e = .returned u ∧ (∀ y, y ∈ ms ↔ ∃ x ∈ xs, kOk x = true ∧ aboutV x = y) ∧ ms.Pairwise LtM ∧ ms.length ≤ 4000000000000 ∧ MsAt w' u ms ∧ Up w w' := by
  obtain ⟨a, cap, rfl, hcap, hnone, _⟩ := id hx
  have HX := Lib.hid hx
  have HOK := Lib.hid hok
  have HNn := Lib.hid hn
  have hn : xs.length < 4611686018427387904 := by omega
  obtain ⟨n, hnl⟩ : ∃ n, xs.length = n := ⟨_, rfl⟩
  have HN := Lib.hid hnl
  rw [hnl] at hn hcap ⊢
  have hmm := @run_makeMap Try.prog
  have HU0 := Lib.hid (Up.alloc (Up.refl w) (.map #[] 0))
  have HS0 := Lib.hid (MarkSet.new w)
  clear hx hok hnl hnone hcap
  go_enter Try.func5, Try.ntmps5
  go_wp2
  go_loopw [9] (fun vi wr => ∃ i : Nat, vi = .int .i64 (i : Nat) ∧ i ≤ n ∧ Hid (Up w wr) ∧ Hid (MarkSet wr w.heap.size i (mks [] (xs.take i)))) (fun vi _ => n - (RowKit.intOf vi).toNat)
  case atStart => exact ⟨0, rfl, Nat.zero_le _, HU0, HS0⟩
  case round =>
    obtain ⟨i, rfl, hi, HU, HS⟩ := hrel
    by_cases hlt : i < n
    · have hz : (i : Int) < (n : Int) := by omega
      obtain ⟨x, hxi⟩ : ∃ x, xs[i]? = some x := ⟨_, List.getElem?_eq_getElem (by rw [HN.out]; exact hlt)⟩
      have hxm : x ∈ xs := List.mem_of_getElem? hxi
      have HNx : Hid (mks [] (xs.take (i + 1)) = if kOk x then addM (mks [] (xs.take i)) (aboutV x) else mks [] (xs.take i)) := by
        refine Lib.hid ?_
        rw [List.take_add_one, hxi, mks_append]; rfl
      obtain ⟨b, off, rfl⟩ := HX.out.ptr (by have := HN.out; omega)
      have Hl := Lib.hid ((HX.out.up HU.out).load hxi)
      have Hok := Lib.hid (HOK.out x hxm)
      have HUA := Lib.hid (Up.alloc HU.out (.cells (vsA x) 28))
      have HSA := Lib.hid (HS.out.up (Up.alloc (Up.refl wr) (.cells (vsA x) 28)))
      have HB := Lib.hid (heap_alloc_new wr (.cells (vsA x) 28))
      have c0 := rl_cell HB.out 0 (v := .int .i64 x.1.K) rfl
      have Hi : Hid (i < maxLen) := Lib.hid (by unfold maxLen; omega)
      have HW := Lib.hid (fun wx => rlWithin_any x.1.K 2 3 wx)
      have HAb : Hid (∀ wx, Calls Try.prog 11 #[.agg (vsA x)] wx fun e w' => e = .returned (.agg (mrA (aboutV x))) ∧ Gr wx w') := Lib.hid (fun wx => about_gr x.1.K x.1.V x.1.H (strOfNums x.1.B) x.1.T x.1.G x.2 wx)
      clear hxi HS HU hxm
      generalize mks [] (xs.take i) = L at HSA HNx
      change Hid (∀ wx, Calls Try.prog 10 _ _ fun e w' => e = .returned (.bool (kOk x)) ∧ w' = wx) at HW
      generalize kOk x = q at HW HNx
      cases q with
      | true =>
        go_wp2_with (first | (refine wpList_ex rfl (.agg (vsA x)) wr (ex_ldv (x := .tmp 11) rfl rfl Hl.out) ?_) | (refine wpList_exs rfl _ (ex_fill (x := .tmp 5) (y := .tmp 12) (W := wr) (u := x) rfl rfl rfl rfl) ?_) | (go_at_call 10; refine (HW.out _).mono ?_; rintro e w' ⟨rfl, rfl⟩) | (refine wpList_ex rfl (.agg (vsA x)) _ (ex_loadrow (x := .tmp 5) rfl rfl _ 28 HB.out Try.underlying28 rfl info_vt) ?_) | (go_at_call 11; with_reducible refine Calls.mono (HAb.out _) ?_; rintro e w2 ⟨rfl, hG2⟩; have HS2 := Lib.hid (HSA.out.up hG2.up); have HU2 := Lib.hid (HUA.out.trans hG2.up); clear hG2) | (at_mapUpdate; refine wpList_markPut rfl _ _ _ rfl HS2.out Hi.out Hok.out rfl rfl rfl ?_; intro w3 hs3 hg3; have HS3 := Lib.hid hs3; have HG3 := Lib.hid hg3; clear hs3 hg3))
        go_roundw
        case rel => exact ⟨i + 1, by go_num, hlt, Lib.hid (up_at HU2.out HG3.out (Nat.le_refl _)), by rw [HNx.out]; exact HS3⟩
        case measure => simp [RowKit.intOf]; omega
      | false =>
        go_wp2_with (first | (refine wpList_ex rfl (.agg (vsA x)) wr (ex_ldv (x := .tmp 11) rfl rfl Hl.out) ?_) | (refine wpList_exs rfl _ (ex_fill (x := .tmp 5) (y := .tmp 12) (W := wr) (u := x) rfl rfl rfl rfl) ?_) | (go_at_call 10; refine (HW.out _).mono ?_; rintro e w' ⟨rfl, rfl⟩))
        go_roundw
        case rel => exact ⟨i + 1, by go_num, hlt, HUA, by rw [HNx.out]; exact Lib.hid (HSA.out.mono (Nat.le_succ _))⟩
        case measure => simp [RowKit.intOf]; omega
    · obtain rfl : i = n := by omega
      have hL : mks [] (xs.take i) = mks [] xs := by rw [List.take_of_length_le (by rw [HN.out]; exact Nat.le_refl _)]
      rw [hL] at HS
      have hll := mks_len xs []
      have HK := Lib.hid (fun wx => rlKeys_any w.heap.size wx)
      have hmem := fun j => mks_mem xs [] j
      have HSo : Hid (∀ W : World, Up wr W → W.heap[W.heap.size - 1]? = W.heap[W.heap.size - 1]? → Calls Try.prog 12 #[.func (.func 21) #[] #[.pointer (some ⟨wr.heap.size, 0, none⟩)], .func (.func 14) #[] #[]] (wr.alloc (.cells #[.map (some w.heap.size)] 37)) fun e w' =>
          ∃ v ms, e = .returned v ∧ (∀ y, y ∈ ms ↔ y ∈ mks [] xs) ∧ ms.Pairwise LtM ∧ ms.length ≤ 4000000000000 ∧ MsAt w' v ms ∧ Up (wr.alloc (.cells #[.map (some w.heap.size)] 37)) w') := by
        refine Lib.hid (fun W _ _ => rlSorted_any wr.heap.size w.heap.size i (mks [] xs) _ (by simp) (rl_cell (heap_alloc_new wr _) 0 rfl) (HS.out.up (Up.alloc (Up.refl _) _)) ?_ ?_ ?_)
        · have := HNn.out; simp only [List.length_nil] at hll; omega
        · intro y hy
          rcases (hmem y).1 hy with h | ⟨x, hx, _, rfl⟩
          · cases h
          · exact HOK.out x hx
        · intro ss hss
          have := nodup_leM hss.1 (fun y hy => (hss.2.2 y (hss.2.1 y hy)).1 hy)
          have := HNn.out; simp only [List.length_nil] at hll; omega
      have HSo2 := Lib.hid (HSo.out wr (Up.refl _) rfl)
      have HM := Lib.hid hmem
      clear hll hmem HS HSo
      go_wp2_with (first | (go_at_call 13; refine (HK.out _).mono ?_; rintro e w' ⟨rfl, rfl⟩) | (go_at_call 12; with_reducible refine Calls.mono HSo2.out ?_; rintro e w4 ⟨u, ms, rfl, h1, h2, h3, h4, h5⟩; have H1 := Lib.hid (And.intro h1 (And.intro h2 (And.intro h3 (And.intro h4 h5)))); clear h1 h2 h3 h4 h5))
      go_ret
      obtain ⟨h1, h2, h3, h4, h5⟩ := H1.out
      refine ⟨u, ms, rfl, fun y => ?_, h2, h3, h4, HU.out.trans ((Up.alloc (Up.refl _) _).trans h5)⟩
      rw [h1 y, HM.out y]
      simp
end
end Go.Proofs.Ytmcajckpgbamnaa
