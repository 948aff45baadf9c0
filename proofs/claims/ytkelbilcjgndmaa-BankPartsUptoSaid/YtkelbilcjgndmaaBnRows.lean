import Derived.Test.YtkelbilcjgndmaaBnFold
/-
  Rows of blocks of one's own.
-/
namespace Go.Proofs.Ytkelbilcjgndmaa
set_option maxRecDepth 100000
section
set_option linter.unusedVariables false
open Go.RowKit Go.Sort Go.Lib

/-- all cells of so many blocks -/
def bbF (bs : List Bb) : List Value := bs.flatMap bbC
theorem bbF_append (a b : List Bb) : bbF (a ++ b) = bbF a ++ bbF b := by unfold bbF; rw [List.flatMap_append]
theorem bbF_single (x : Bb) : bbF [x] = bbC x := by simp [bbF]
theorem bbF_get : ∀ (bs : List Bb) (i : Nat) (x : Bb) (k : Nat), bs[i]? = some x → k < 9 → (bbF bs)[i * 9 + k]? = some ((bbC x)[k]!)
  | [], i, x, k, h, _ => by simp at h
  | y :: t, i, x, k, h, hk => by
    have e : bbF (y :: t) = bbC y ++ bbF t := by unfold bbF; rw [List.flatMap_cons]
    rw [e]
    cases i with
    | zero =>
      rw [List.getElem?_cons_zero] at h
      cases h
      rw [Nat.zero_mul, Nat.zero_add, List.getElem?_append_left (by rw [bbC_len]; exact hk), getElem!_pos (bbC y) k (by rw [bbC_len]; exact hk)]
      exact List.getElem?_eq_getElem _
    | succ i =>
      rw [List.getElem?_cons_succ] at h
      rw [List.getElem?_append_right (by rw [bbC_len]; omega), bbC_len, show (i + 1) * 9 + k - 9 = i * 9 + k by omega]
      exact bbF_get t i x k h hk
theorem bbF_length : ∀ bs : List Bb, (bbF bs).length = bs.length * 9
  | [] => rfl
  | x :: t => by
    have := bbF_length t
    unfold bbF at this ⊢
    rw [List.flatMap_cons, List.length_append, this, bbC_len, List.length_cons]; omega
theorem bbF_one {bs : List Bb} (h : ∀ x ∈ bs, BbOne x) : ∀ v ∈ bbF bs, v.oneCell' = true := by
  intro v hv
  unfold bbF at hv
  rw [List.mem_flatMap] at hv
  obtain ⟨x, hx, hv⟩ := hv
  exact h x hx v hv
theorem BArg.one {W : World} {v : Value} {bs : List Bb} (h : BArg W v bs) : ∀ x ∈ bs, BbOne x := by
  obtain ⟨a', cap', e, h1, h2, h0, h3⟩ := h
  exact fun x hx => (h0 x hx).2
theorem barg_of_own {W : World} {base n c : Nat} {a : Option Addr} {D : List Bb} (h : W.ownsRow base 47 9 (.slice a n c) n (bbF D)) (hn : D.length = n) (hin : ∀ x ∈ D, BbIn W x) : BArg W (.slice a n c) D := by
  subst hn
  rcases h.2 with ⟨he, h0⟩ | ⟨g, cap, cur, he, _, hg, hc, _, hs, ht⟩
  · simp only [Value.slice.injEq] at he
    obtain ⟨rfl, _, rfl⟩ := he
    exact ⟨none, 0, rfl, Nat.le_of_eq h0, fun _ => rfl, hin, .inl (List.eq_nil_of_length_eq_zero h0)⟩
  · cases he
    refine ⟨_, c, rfl, hc, (fun e => by cases e), hin, .inr ⟨g, 0, rfl, fun i x hx k hk => ?_⟩⟩
    have hi := (List.getElem?_eq_some_iff.1 hx).1
    rw [Nat.zero_add, cell_of_row _ _ (i * 9 + k) _ _ _ hg, ← bbF_get D i x k hx hk, ← ht, List.getElem?_take_of_lt (by omega), Array.getElem?_toList]
/-- all cells of a slice that came in -/
theorem barg_cells {W : World} {a : Option Addr} {n cap : Nat} {xs : List Bb} (h : BArg W (.slice a n cap) xs) : ∀ ad, a = some ad → ∀ j u, (bbF xs)[j]? = some u → W.cell? (ad.add j) = some u := by
  intro ad had j u hj
  have hjl : j < xs.length * 9 := by have := (List.getElem?_eq_some_iff.1 hj).1; rwa [bbF_length] at this
  obtain ⟨a', cap', e, h1, h2, h0, h3⟩ := h
  cases e
  rcases h3 with rfl | ⟨b, off, e, hc⟩
  · simp at hjl
  · rw [had] at e
    obtain rfl := Option.some.inj e
    have hi : j / 9 < xs.length := by omega
    have hk : j % 9 < 9 := by omega
    have h4 := hc (j / 9) xs[j / 9] (List.getElem?_eq_getElem hi) (j % 9) hk
    have h5 := bbF_get xs (j / 9) xs[j / 9] (j % 9) (List.getElem?_eq_getElem hi) hk
    rw [show j / 9 * 9 + j % 9 = j by omega] at h4 h5
    have ha : ((⟨b, off, none⟩ : Addr).add j) = ⟨b, off + j, none⟩ := by unfold Addr.add; split <;> simp_all
    rw [ha, h4, ← h5, hj]
/-- a block of these transactions and nothing else -/
def bbT (a : Option Addr) (c : Nat) (xs : List Ts) : Bb := ⟨.int .i64 0, .int .i64 0, .string ⟨#[]⟩, .int .i64 0, .int .i64 0, .string ⟨#[]⟩, .slice none 0 0, a, c, xs, .string ⟨#[]⟩⟩
theorem bbT_one (a : Option Addr) (c : Nat) (xs : List Ts) : BbOne (bbT a c xs) := by
  intro v hv
  simp [bbT, bbC] at hv
  rcases hv with rfl | rfl | rfl | rfl | rfl | rfl | rfl | rfl | rfl <;> rfl
theorem info_bbd : (Try.prog.info? 47).map (fun i => (i.zero, i.size, i.bytes)) = some (some (.agg (bbA (bbT none 0 []))), 9, 128) := by kernel_rfl
theorem cells_new (w : World) (cs : List Value) (t : TypeId) : ∀ j y, cs[j]? = some y → (w.alloc (.cells cs.toArray t)).cell? ((⟨w.heap.size, 0, none⟩ : Addr).add j) = some y := by
  intro j y hy
  have hadd : (⟨w.heap.size, 0, none⟩ : Addr).add j = ⟨w.heap.size, j, none⟩ := by unfold Addr.add; split <;> simp_all
  rw [hadd]
  exact tx_cell (heap_alloc_new w (.cells cs.toArray t)) j (by simpa using hy)
end
end Go.Proofs.Ytkelbilcjgndmaa
