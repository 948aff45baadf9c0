import Derived.Lib.SmallJoins
import Derived.SizedLaws
import Derived.Test.YtnipkhgaceicbaaTxCheck
import Derived.Test.YtnipkhgaceicbaaAlong
import Derived.Test.YtnipkhgaceicbaaOpen
import Derived.Test.YtnipkhgaceicbaaStrs
import Derived.Test.YtnipkhgaceicbaaCtKit
/-
  A slice of transactions that came in.
-/
namespace Go.Proofs.Ytnipkhgaceicbaa
set_option maxRecDepth 100000
section
set_option linter.unusedVariables false
open Go.ChangeShapes Go.WideShapes Go.ChangeAt Go.RowKit Go.Deep Go.Joins Go.Sort

structure Tt where
  F : Int
  T : Int
  A : Int
  N : Int
instance ttInhabited : Inhabited Tt := ⟨⟨0, 0, 0, 0⟩⟩
/-- a transaction with its Sig -/
abbrev Ts := Tt × ByteArray
def tsC (x : Ts) : List Value := [.int .i64 x.1.F, .int .i64 x.1.T, .int .i64 x.1.A, .int .i64 x.1.N, .string x.2]
def tsA (x : Ts) : Array Value := txC x.1.F x.1.T x.1.A x.1.N x.2
def tsE (x : Ts) : Int := txE x.1.F x.1.T x.1.A x.1.N x.2
theorem tsA_eq (x : Ts) : tsA x = (tsC x).toArray := rfl
theorem tsC_len (x : Ts) : (tsC x).length = 5 := rfl
theorem tsA_one (x : Ts) : (tsA x).all (·.oneCell') = true := by simp [tsA, txC, Value.oneCell']
theorem zero_ts : tsA default = #[.int .i64 0, .int .i64 0, .int .i64 0, .int .i64 0, .string ⟨#[]⟩] := rfl
/-- a slice of transactions that came in -/
def TArg (W : World) (v : Value) (xs : List Ts) : Prop := ∃ a cap, v = .slice a xs.length cap ∧ xs.length ≤ cap ∧ (a = none → cap = 0) ∧ (xs = [] ∨ ∃ b off, a = some ⟨b, off, none⟩ ∧ ∀ i x, xs[i]? = some x → ∀ k, k < 5 → W.cell? ⟨b, off + (i * 5 + k), none⟩ = some ((tsC x)[k]!))
theorem TArg.up {W W' : World} {v : Value} {xs : List Ts} (h : TArg W v xs) (hu : Up W W') : TArg W' v xs := by
  obtain ⟨a, cap, h1, h2, h3, h4⟩ := h
  refine ⟨a, cap, h1, h2, h3, h4.imp id ?_⟩
  rintro ⟨b, off, h5, h6⟩
  exact ⟨b, off, h5, fun i x hx k hk => later_cellF (h6 i x hx k hk) hu⟩
theorem TArg.ptr {W : World} {a : Option Addr} {n cap : Nat} {xs : List Ts} (h : TArg W (.slice a n cap) xs) (hx : 0 < xs.length) : ∃ b off, a = some ⟨b, off, none⟩ := by
  obtain ⟨a', cap', e, h1, h2, h3⟩ := h
  cases e
  rcases h3 with rfl | ⟨b, off, e, _⟩
  · simp at hx
  · exact ⟨b, off, e⟩
theorem TArg.len {W : World} {a : Option Addr} {n cap : Nat} {xs : List Ts} (h : TArg W (.slice a n cap) xs) : xs.length = n := by
  obtain ⟨a', cap', e, _⟩ := h
  cases e; rfl
theorem TArg.load {W : World} {b off n cap : Nat} {xs : List Ts} (h : TArg W (.slice (some ⟨b, off, none⟩) n cap) xs) {i : Nat} {x : Ts} (hx : xs[i]? = some x) : (loadVar 90 ⟨b, off + i * 5, none⟩).run Try.prog W = .ok (.agg (tsA x)) W := by
  obtain ⟨a', cap', e, h1, h2, h3⟩ := h
  cases e
  have hi : i < xs.length := (List.getElem?_eq_some_iff.1 hx).1
  rcases h3 with rfl | ⟨b', off', e, h4⟩
  · simp at hi
  · cases e
    have hcell : ∀ j v, (tsC x)[j]? = some v → W.cell? ((⟨b, off + i * 5, none⟩ : Addr).add j) = some v := by
      intro j v hv
      have hj : j < 5 := by have := (List.getElem?_eq_some_iff.1 hv).1; rwa [tsC_len] at this
      have ha : ((⟨b, off + i * 5, none⟩ : Addr).add j) = ⟨b, off + (i * 5 + j), none⟩ := by unfold Addr.add; split <;> simp_all [Nat.add_assoc]
      rw [ha, h4 i x hx j hj, getElem!_pos (tsC x) j (by rw [tsC_len]; exact hj)]
      rw [List.getElem?_eq_getElem (by rw [tsC_len]; exact hj)] at hv
      exact hv
    have h5 := run_loadCellsFrom_list Try.prog W ⟨b, off + i * 5, none⟩ (tsC x) 5 (tsC_len x) hcell
    simp [loadVar, loadCells, Try.isAgg90, Try.sizeOf90, h5, Result.andThen, tsA_eq]
theorem targ_lt {W : World} {a : Option Addr} {n cap : Nat} {xs : List Ts} (h : TArg W (.slice a n cap) xs) (hx : xs ≠ []) (b off : Nat) (ha : a = some ⟨b, off, none⟩) : b < W.heap.size := by
  obtain ⟨a', cap', e, h2, h3, h4⟩ := h
  cases e
  subst ha
  rcases h4 with h4 | ⟨b', off', e, h4⟩
  · exact absurd h4 hx
  · cases e
    have hl : 0 < xs.length := List.length_pos_iff.2 hx
    exact World.block_lt_of_cell? W _ (h4 0 xs[0] (List.getElem?_eq_getElem hl) 0 (by omega))
theorem targ_below {base : Nat} {W W' : World} {a : Option Addr} {n cap : Nat} {xs : List Ts} (h : TArg W (.slice a n cap) xs) (hu : Below base W W') (hb : xs ≠ [] → ∀ b off, a = some ⟨b, off, none⟩ → b < base) : TArg W' (.slice a n cap) xs := by
  obtain ⟨a', cap', e, h2, h3, h4⟩ := h
  cases e
  by_cases hx : xs = []
  · exact ⟨a, cap, rfl, h2, h3, .inl hx⟩
  refine ⟨a, cap, rfl, h2, h3, h4.imp id ?_⟩
  rintro ⟨b, off, h5, h6⟩
  refine ⟨b, off, h5, fun i x hi k hk => ?_⟩
  rw [← h6 i x hi k hk]
  exact World.cell?_of_block (a := ⟨b, off + (i * 5 + k), none⟩) (hu.block b (hb hx b off h5))

/-- what the form says of a transaction -/
def TsOk (x : Ts) : Prop := (Lit.int .i64 x.1.F).wf = true ∧ (Lit.int .i64 x.1.T).wf = true ∧ (Lit.int .i64 x.1.A).wf = true ∧ (Lit.int .i64 x.1.N).wf = true ∧ x.2.size ≤ maxLen
section
variable {H : Type} {enc : TypeId × Value → H} {W : World}
theorem addr_addt (b off k : Nat) : (⟨b, off, none⟩ : Addr).add k = ⟨b, off + k, none⟩ := by unfold Addr.add; split <;> simp_all
theorem open_txs {v : Value} {d : DataW H} {ps : List MemPlace} {a : Option Addr} {len cap : Nat} (hv : v = .slice a len cap) (h : DataW.Trod enc Try.prog W 0 (fun _ => true) true 39 v d ps) :
    ∃ xs : List Ts, TArg W v xs ∧ (∀ (j : Nat) (x : Ts), xs[j]? = some x → TsOk x) ∧ xs.length ≤ maxLen := by
  obtain ⟨h1, h2, h3, h4⟩ := open_structs Try.underlying39 Try.underlying90 (by kernel_rfl) (by kernel_rfl) hv h
  cases a with
  | none =>
    obtain ⟨rfl, rfl, h5⟩ := h3 rfl
    exact ⟨[], ⟨none, 0, hv, Nat.le_refl _, fun _ => rfl, .inl rfl⟩, fun j f hj => by simp at hj, by simp⟩
  | some ad =>
    obtain ⟨D, spare, hd, hi⟩ := h4 ad rfl
    have each : ∀ i, i < len → ∃ f : Ts, TsOk f ∧ ∀ k, k < 5 → W.cell? ((ad.add (i * 5)).add k) = some ((tsC f)[k]!) := by
      intro i him
      obtain ⟨n, vs, ys, _, _, _, hf⟩ := hi i him
      obtain ⟨c0, y0, _, _, k0, t0⟩ := hf 0 _ rfl
      obtain ⟨c1, y1, _, _, k1, t1⟩ := hf 1 _ rfl
      obtain ⟨c2, y2, _, _, k2, t2⟩ := hf 2 _ rfl
      obtain ⟨c3, y3, _, _, k3, t3⟩ := hf 3 _ rfl
      obtain ⟨c4, y4, _, _, k4, t4⟩ := hf 4 _ rfl
      obtain ⟨x0, e0, _, w0⟩ := DataW.trod_int Try.underlying3 t0
      obtain ⟨x1, e1, _, w1⟩ := DataW.trod_int Try.underlying3 t1
      obtain ⟨x2, e2, _, w2⟩ := DataW.trod_int Try.underlying3 t2
      obtain ⟨x3, e3, _, w3⟩ := DataW.trod_int Try.underlying3 t3
      obtain ⟨s, e4, _, ws⟩ := DataW.trod_string Try.underlying9 t4
      simp only [List.cons.injEq, and_true] at e0 e1 e2 e3 e4
      subst e0 e1 e2 e3 e4
      refine ⟨(⟨x0, x1, x2, x3⟩, s), ⟨w0, w1, w2, w3, ws⟩, fun k hk => ?_⟩
      have hc : k = 0 ∨ k = 1 ∨ k = 2 ∨ k = 3 ∨ k = 4 := by omega
      rcases hc with rfl | rfl | rfl | rfl | rfl
      · exact k0
      · exact k1
      · exact k2
      · exact k3
      · exact k4
    obtain ⟨F, hF⟩ := choose_lt (α := Ts) (p := fun i f => TsOk f ∧ ∀ k, k < 5 → W.cell? ((ad.add (i * 5)).add k) = some ((tsC f)[k]!)) each
    have hlen : ((List.range len).map F).length = len := by simp
    have hget : ∀ j f, ((List.range len).map F)[j]? = some f → j < len ∧ f = F j := by
      intro j f hj
      have hj2 : j < len := by have := (List.getElem?_eq_some_iff.1 hj).1; simpa using this
      simp [hj2] at hj
      exact ⟨hj2, hj.symm⟩
    refine ⟨(List.range len).map F, ⟨some ad, cap, by rw [hlen]; exact hv, by rw [hlen]; exact h1, (fun e => by cases e), ?_⟩, ?_, by rw [hlen]; exact h2⟩
    · by_cases h0 : len = 0
      · subst h0; exact .inl rfl
      · right
        obtain ⟨b, off, spot⟩ := ad
        have hspot : spot = none := by
          have := addr_plain ((hF 0 (by omega)).2 0 (by omega))
          simpa [Addr.add] using this
        subst hspot
        refine ⟨b, off, rfl, fun i x hx k hk => ?_⟩
        obtain ⟨hj2, rfl⟩ := hget i x hx
        have := (hF i hj2).2 k hk
        rw [addr_addt, addr_addt, Nat.add_assoc] at this
        exact this
    · intro j f hj
      obtain ⟨hj2, rfl⟩ := hget j f hj
      exact (hF j hj2).1
end
end
section
set_option linter.unusedVariables false
open Go.RowKit Go.Sort Go.Lib
theorem ex_ldt {o : Oper} {x : Operand} {ρ : Operand → Value} {ad : Addr} {v : Value} {W : World} (hop : o.op = .load 90 x) (hx : ρ x = .pointer (some ad)) (hl : (loadVar 90 ad).run Try.prog W = .ok v W) : (execOp ρ o).run Try.prog W = .ok (.value v) W := by
  unfold execOp; rw [hop]; simp only [hx]
  simp [Instr.loadAt, Instr.sureAddr, hl, Result.andThen]

set_option maxHeartbeats 1000000 in
theorem tsIndex_any (g : FuncId) (cb : Array Value) (eg : ∀ args w, (callFunc g args).run Try.prog w = .ok (.enter g args) w) (S : Nat → World → Prop) (u : Nat → Ts) (p : Nat → Bool) (blk off n cap : Nat) (hn : n < 4611686018427387904)
    (hl : ∀ i W, i < n → S i W → (loadVar 90 ⟨blk, off + i * 5, none⟩).run Try.prog W = .ok (.agg (tsA (u i))) W)
    (hc : ∀ i W, i < n → S i W → Calls Try.prog g (#[.agg (tsA (u i))] ++ cb) W fun e w' => e = .returned (.bool (p i)) ∧ S (i + 1) w') (w : World) (hS : S 0 w) :
    Calls Try.prog 88 #[.slice (some ⟨blk, off, none⟩) n cap, .func (.func g) #[] cb] w fun e w' => ∃ k : Nat, k ≤ n ∧ (∀ j, j < k → p j = false) ∧ (k < n → p k = true) ∧ e = .returned (.int .i64 (if k < n then (k : Int) else -1)) ∧ S (if k < n then k + 1 else n) w' := by
  have HL := Lib.hid hl
  have HC := Lib.hid hc
  have HS := Lib.hid hS
  clear hl hc hS
  go_enter Try.func88, Try.ntmps88
  go_wp2
  go_loopw [8] (fun vi wr => ∃ i : Nat, vi = .int .i64 (i : Nat) ∧ i ≤ n ∧ Hid (∀ j, j < i → p j = false) ∧ Hid (S i wr)) (fun vi _ => n - (RowKit.intOf vi).toNat)
  case atStart => exact ⟨0, rfl, Nat.zero_le _, Lib.hid (fun j hj => absurd hj (Nat.not_lt_zero _)), HS⟩
  case round =>
    obtain ⟨i, rfl, hi, HP, HSi⟩ := hrel
    by_cases hlt : i < n
    · have hz : (i : Int) < (n : Int) := by omega
      have Hl := Lib.hid (HL.out i wr hlt HSi.out)
      have Hc := Lib.hid (HC.out i wr hlt HSi.out)
      generalize hpi : p i = b at Hc
      have HPI := Lib.hid hpi
      clear hpi
      generalize u i = x at Hl Hc
      go_wp2_with (refine wpList_ex rfl (.agg (tsA x)) wr (ex_ldt (x := .tmp 14) rfl rfl Hl.out) ?_)
      with_reducible refine Calls.mono Hc.out ?_
      rintro e w1 ⟨rfl, hS1⟩
      have HS1 := Lib.hid hS1
      clear hS1 Hc Hl
      cases b with
      | true =>
        go_wp2
        go_ret
        exact ⟨i, hi, HP.out, fun _ => HPI.out, by rw [if_pos hlt]; rfl, by rw [if_pos hlt]; exact HS1.out⟩
      | false =>
        go_wp2
        go_roundw
        case rel => exact ⟨i + 1, by go_num, hlt, Lib.hid (fun j hj => (Nat.lt_succ_iff_lt_or_eq.1 hj).elim (HP.out j) (fun e => e ▸ HPI.out)), HS1⟩
        case measure => simp [RowKit.intOf]; omega
    · obtain rfl : i = n := by omega
      go_wp2
      go_ret
      exact ⟨i, hi, HP.out, fun h => absurd h hlt, by rw [if_neg hlt]; rfl, by rw [if_neg hlt]; exact HSi.out⟩

/-- is there one? -/
theorem tsContains_any (g : FuncId) (cb : Array Value) (eg : ∀ args w, (callFunc g args).run Try.prog w = .ok (.enter g args) w) (S : Nat → World → Prop) (u : Nat → Ts) (p : Nat → Bool) (blk off n cap : Nat) (hn : n < 4611686018427387904)
    (hl : ∀ i W, i < n → S i W → (loadVar 90 ⟨blk, off + i * 5, none⟩).run Try.prog W = .ok (.agg (tsA (u i))) W)
    (hc : ∀ i W, i < n → S i W → Calls Try.prog g (#[.agg (tsA (u i))] ++ cb) W fun e w' => e = .returned (.bool (p i)) ∧ S (i + 1) w') (w : World) (hS : S 0 w) :
    Calls Try.prog 80 #[.slice (some ⟨blk, off, none⟩) n cap, .func (.func g) #[] cb] w fun e w' => ∃ k : Nat, k ≤ n ∧ (∀ j, j < k → p j = false) ∧ (k < n → p k = true) ∧ e = .returned (.bool (decide (k < n))) ∧ S (if k < n then k + 1 else n) w' := by
  have Hc := Lib.hid (tsIndex_any g cb eg S u p blk off n cap hn hl hc w hS)
  clear hl hc hS eg
  go_enter Try.func80, Try.ntmps80
  go_wp2_with fail
  with_reducible refine Calls.mono Hc.out ?_
  rintro e w1 ⟨k, h1, h2, h3, rfl, h5⟩
  have H2 := Lib.hid (And.intro h2 (And.intro h3 h5))
  clear h2 h3 h5
  by_cases hk : k < n
  · rw [if_pos hk]
    have hz : (0 : Int) ≤ (k : Int) := by omega
    go_wp2
    go_ret
    exact ⟨k, h1, H2.out.1, H2.out.2.1, by simp [hk], H2.out.2.2⟩
  · rw [if_neg hk]
    go_wp2
    go_ret
    exact ⟨k, h1, H2.out.1, H2.out.2.1, by simp [hk], H2.out.2.2⟩
end
end Go.Proofs.Ytnipkhgaceicbaa
