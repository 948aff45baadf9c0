import Derived.Test.YtjjaefacfcjgiaaQuietTail
/-
  As QuietTail, where the first operation is a copy that only the tail looks at.
-/
namespace Go.Proofs.Ytjjaefacfcjgiaa
set_option linter.unusedVariables false

section
variable {P : Program} {ops : Array Oper} {md : Region.Mode} {C : World → Prop}

/-- while one of the head but the first is to come, none of the tail may come up -/
def Waits (md : Region.Mode) (ops : Array Oper) (n : Nat) : Prop :=
  ∀ (done : Array Bool) (i : Nat), HeadInv md ops n done → 1 ≤ i → i < n → done.getD i true = false → ∀ t, n ≤ t → t ∉ Region.ready md ops done

/-- each of the head but the first is waited for by one that comes behind it in the head, or by the tail's first -/
def sinkB1 (md : Region.Mode) (ops : Array Oper) (n : Nat) : Bool :=
  (List.range n).all fun i => i == 0 || (List.range (n + 1)).any fun j => decide (i < j) && Region.waitsFor md ops j i

theorem ready_after {j i : Nat} {done : Array Bool} (hj : j ∈ Region.ready md ops done) (hw : Region.waitsFor md ops j i = true) : done.getD i false = true := by
  obtain ⟨_, o, ho, hall⟩ := mem_ready.1 hj
  obtain ⟨o', ho', e, he, hb, hon⟩ := Region.waitsFor_spec hw
  obtain rfl := Option.some.inj (ho.symm.trans ho')
  rw [← hon]; exact hall e he hb

theorem waits_of {n : Nat} (hs : sinkB1 md ops n = true) (hc : Region.chainB md ops n = true) (hn : n < ops.size) : Waits md ops n := by
  intro done i inv
  generalize hd : n - i = d
  induction d using Nat.strongRecOn generalizing i with
  | _ d ih =>
    intro h1 hin hun t ht hr
    have hun' : done.getD i false = false := getD_both hun
    have htl : t < ops.size := by
      obtain ⟨_, o, ho, _⟩ := mem_ready.1 hr
      exact (Array.getElem?_eq_some_iff.1 ho).1
    have s1 := List.all_eq_true.1 hs i (List.mem_range.2 hin)
    have hi0 : (i == 0) = false := by simp; omega
    rw [hi0, Bool.false_or] at s1
    obtain ⟨j, hj, hj2⟩ := List.any_eq_true.1 s1
    simp only [Bool.and_eq_true, decide_eq_true_eq] at hj2
    have hjn := List.mem_range.1 hj
    by_cases e : j = n
    · by_cases et : t = n
      · rw [et, ← e] at hr
        rw [ready_after hr hj2.2] at hun'; cases hun'
      · have c1 := List.all_eq_true.1 hc t (List.mem_range.2 htl)
        simp only [Bool.or_eq_true, decide_eq_true_eq] at c1
        rcases c1 with c1 | c1
        · omega
        · have := ready_after hr c1
          rw [getD_both (inv.tail (t - 1) (by omega) (by omega))] at this
          cases this
    · have hjs : j < done.size := by rw [inv.size]; omega
      have hju : done.getD j false = false := by
        cases hl : done.getD j false with
        | false => rfl
        | true =>
          obtain ⟨o', ho', x, hx, hb, hon⟩ := Region.waitsFor_spec hj2.2
          have := inv.closed j o' ho' hl x hx hb
          rw [hon, hun'] at this; cases this
      exact ih (n - j) (by omega) j rfl (by omega) (by omega) (getD_in hjs hju) t ht hr

/-- one that may come up may be taken first -/
theorem headQ_first1 {n i : Nat} {o : Oper} {v : Value} {L : Array Bool → Act → Prop} (ho : ops[i]? = some o) (hs : Region.noSelect ops = true)
    (hT : Waits md ops n) (hin : i < n) (h1 : 1 ≤ i) (hL : ∀ done a, L done a → ∀ j ∈ Region.ready md ops done, n ≤ j) :
    ∀ (f : Nat) (done : Array Bool) (a : Act), HeadInv md ops n done →
      (∀ j oj, ops[j]? = some oj → j ≠ i → done.getD j true = false → (∀ e ∈ oj.after, Region.binds md e = true → e.on ≠ i) → o.apart ops oj = true) →
      i ∈ Region.ready md ops done → YieldsIn P ops C o v a →
      HeadQ P md ops C n L f (done.setIfInBounds i true) (a.put o.dst v) → HeadQ P md ops C n L (f + 1) done a := by
  intro f
  induction f with
  | zero =>
    intro done a inv _ hr hy H
    have hun := (mem_ready.1 hr).1
    refine ⟨fun e => by simp [e] at hr, fun j hj => ?_⟩
    have hjn : j < n := Nat.lt_of_not_le fun hle => hT done i inv h1 hin hun j hle hj
    refine ⟨hjn, ?_⟩
    by_cases e : j = i
    · rw [e]; exact hy.qOp ho H
    · have := hL _ _ H j (ready_mono hj e); omega
  | succ f ih =>
    intro done a inv hfree hr hy H
    have hun := (mem_ready.1 hr).1
    refine ⟨fun e => by simp [e] at hr, fun j hj => ?_⟩
    have hjn : j < n := Nat.lt_of_not_le fun hle => hT done i inv h1 hin hun j hle hj
    refine ⟨hjn, ?_⟩
    by_cases e : j = i
    · rw [e]; exact hy.qOp ho H
    obtain ⟨hju, oj, hoj, hall⟩ := mem_ready.1 hj
    have hnot : ∀ x ∈ oj.after, Region.binds md x = true → x.on ≠ i := by
      intro x hx hb hxi
      have hd := hall x hx hb
      rw [hxi, getD_both hun] at hd
      exact Bool.false_ne_true hd
    have step := qOp_put hoj (hfree j oj hoj e hju hnot) (fun cs b => Region.noSelect_spec hs i o cs b ho) (fun cs b => Region.noSelect_spec hs j oj cs b hoj) hy (H.2 j (ready_mono hj e)).2
    refine qOp_mono (fun a' k => ih _ a' (inv.set hj hjn) (fun m om hm hmi hmu hmo => hfree m om hm hmi ?_ hmo) (ready_mono hr (Ne.symm e)) k.1 ?_) step
    · by_cases ejm : j = m
      · rw [← ejm]; exact hju
      · rwa [getD_set_ne true ejm] at hmu
    · rw [Array.setIfInBounds_comm _ _ e]; exact k.2

theorem headQ_lex1 {n g : Nat} {L : Act → Prop} (hs : Region.noSelect ops = true) (hT : Waits md ops n) :
    ∀ (l : List Oper) (k : Nat) (done : Array Bool) (a : Act), 1 ≤ k → (∀ j, j < l.length → l[j]? = ops[k + j]?) → k + l.length = n → HeadInv md ops n done →
    Region.lexHead md ops g l.length k done = true → wpQuiet P ops C L l a →
    HeadQ P md ops C n (fun done a' => Region.seqB md ops g n done = true ∧ L a') l.length done a
  | [], k, done, a, _, _, hk, _, hB, h => by
    obtain rfl : k = n := by simpa using hk
    exact ⟨by simpa [Region.lexHead] using hB, h⟩
  | o :: l, k, done, a, h1, hl, hk, inv, hB, h => by
    have ho : ops[k]? = some o := by simpa using (hl 0 (by simp)).symm
    simp only [List.length_cons] at hk
    simp only [List.length_cons, Region.lexHead, Bool.and_eq_true] at hB
    have hr : k ∈ Region.ready md ops done := by simpa using hB.1.1
    obtain ⟨v, hy, hK⟩ := yieldsIn_of_qOp (K := wpQuiet P ops C L l) ho (by unfold qOp; simp only [ho]; exact h)
    refine headQ_first1 ho hs hT (by omega) h1 (fun _ _ k => seqB_ready k.1) l.length done a inv (Region.free_spec ho hB.1.2) hr hy ?_
    exact headQ_lex1 hs hT l (k + 1) _ _ (by omega) (fun j hj => by rw [Nat.add_assoc, Nat.add_comm 1 j]; simpa using hl (j + 1) (by simp; omega)) (by omega) (inv.set hr (by omega)) hB.2 hK

/-- the check -/
def tailB1 (md : Region.Mode) (ops : Array Oper) (n : Nat) : Bool :=
  Region.noSelect ops && decide (0 < n) && decide (n < ops.size) && sinkB1 md ops n && Region.chainB md ops n &&
    (Region.ready md ops (Array.replicate ops.size false)).contains 0 && Region.free md ops (Array.replicate ops.size false) 0 &&
    Region.lexHead md ops (ops.size - n) (n - 1) 1 ((Array.replicate ops.size false).setIfInBounds 0 true)

/-- A REGION whose first operation is a copy: it is taken first; then n - 1 operations that only read or call quietly, then a forced row. -/
theorem region_quiet_tail1 {id : Nat} {Q : Exit → Act → World → Prop} {a : Act} {w : World} {o : Oper} {l : List Oper} (n : Nat) (x : Operand) (hop : o.op = .move x) (hgd : o.guard = none) (hm : P.follows .mixedOrders = true) (hB : tailB1 .any (o :: l).toArray n = true)
    (hQ : ∀ c a d v w, Q (.panic c) (Act.put a d v) w → Q (.panic c) a w)
    (h : wpQuiet P (o :: l).toArray (fun w' => ∃ n, w' = w.drewN n) (fun a' => ∀ q, wpList P (o :: l).toArray Q (l.drop (n - 1)) a' (w.drewN q)) (l.take (n - 1)) (a.put o.dst (a.eval x))) : (Code.region id (o :: l).toArray true).wp P Q a w := by
  simp only [tailB1, Bool.and_eq_true, decide_eq_true_eq] at hB
  obtain ⟨⟨⟨⟨⟨⟨⟨hs, h0⟩, hn⟩, hsink⟩, hch⟩, hr⟩, hf⟩, hlex⟩ := hB
  have hn' : n < l.length + 1 := by simpa using hn
  have ht : (l.take (n - 1)).length = n - 1 := by simp; omega
  have hd : (l.drop (n - 1)).length = (o :: l).toArray.size - n := by simp; omega
  have hr' : 0 ∈ Region.ready .any (o :: l).toArray (Array.replicate (o :: l).toArray.size false) := by simpa using hr
  have inv0 : HeadInv .any (o :: l).toArray n (Array.replicate (o :: l).toArray.size false) :=
    ⟨by simp, fun j oj _ e => absurd (getD_replicate_false _ _ ▸ e) Bool.false_ne_true, fun t _ hlt => getD_in (by simpa using hlt) (getD_replicate_false _ _)⟩
  have inv := inv0.set hr' h0
  have H := headQ_lex1 (md := .any) (g := (o :: l).toArray.size - n) hs (waits_of hsink hch hn) (l.take (n - 1)) 1 _ (a.put o.dst (a.eval x)) (Nat.le_refl _) (fun j hj => by rw [ht] at hj; simp [hj, Nat.add_comm 1 j]) (by omega) inv (by rw [ht]; exact hlex) h
  refine wp_region_any hm ?_
  have R := wpAny_of_headQ (Q := Q) (g := (o :: l).toArray.size - n) (fun done a' w' hw' k => by
    obtain ⟨q, rfl⟩ := hw'
    have := wpAny_of_seq (md := .any) (Q' := Q) (l.drop (n - 1)) n done a' (w.drewN q) (fun j => by simp [List.getElem?_drop, show n + j = (n - 1 + j) + 1 from by omega]) (by rw [hd]; exact k.1) (k.2 q)
    rwa [hd] at this) _ _ _ w.drew ⟨1, rfl⟩ H
  rw [ht, show n - 1 + ((o :: l).toArray.size - n) = l.length from by simp; omega] at R
  have hsz : (o :: l).toArray.size = l.length + 1 := by simp
  rw [hsz] at R hf hr ⊢
  refine wpAny_take (oi := o) (by simp) hs hf hr (fun c a w => hQ c a _ _ w) (.inl ⟨?_, fun w' => by simp [execOp, hop, Sem.run_pure]⟩) R
  unfold Region.wanted; rw [hgd]
end
end Go.Proofs.Ytjjaefacfcjgiaa
