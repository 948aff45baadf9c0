import Derived.Test.YtkelbilcjgndmaaBnCalls
import Derived.Test.YtkelbilcjgndmaaTsArg
/-
  Blocks of which the transactions alone are looked at: a slice of them, as it came in or of one's own.
-/
namespace Go.Proofs.Ytkelbilcjgndmaa
set_option maxRecDepth 100000
section
set_option linter.unusedVariables false
open Go.RowKit Go.Sort Go.Lib

/-- a block: its cells, and the transactions -/
structure Bb where
  c0 : Value
  c1 : Value
  c2 : Value
  c3 : Value
  c4 : Value
  c5 : Value
  c6 : Value
  a : Option Addr
  c : Nat
  tx : List Ts
  s : Value
def bbC (x : Bb) : List Value := [x.c0, x.c1, x.c2, x.c3, x.c4, x.c5, x.c6, .slice x.a x.tx.length x.c, x.s]
def bbA (x : Bb) : Array Value := (bbC x).toArray
theorem bbC_len (x : Bb) : (bbC x).length = 9 := rfl
/-- each cell is one -/
def BbOne (x : Bb) : Prop := ∀ v ∈ bbC x, v.oneCell' = true
/-- the transactions lie there -/
def BbIn (W : World) (x : Bb) : Prop := TArg W (.slice x.a x.tx.length x.c) x.tx ∧ BbOne x
theorem BbIn.up {W W' : World} {x : Bb} (h : BbIn W x) (hu : Up W W') : BbIn W' x := ⟨h.1.up hu, h.2⟩
/-- v is a slice of blocks that reads as bs -/
def BArg (W : World) (v : Value) (bs : List Bb) : Prop := ∃ a cap, v = .slice a bs.length cap ∧ bs.length ≤ cap ∧ (a = none → cap = 0) ∧ (∀ x ∈ bs, BbIn W x) ∧ (bs = [] ∨ ∃ b off, a = some ⟨b, off, none⟩ ∧ ∀ i x, bs[i]? = some x → ∀ k, k < 9 → W.cell? ⟨b, off + (i * 9 + k), none⟩ = some ((bbC x)[k]!))
theorem BArg.up {W W' : World} {v : Value} {bs : List Bb} (h : BArg W v bs) (hu : Up W W') : BArg W' v bs := by
  obtain ⟨a, cap, h1, h2, h3, h0, h4⟩ := h
  refine ⟨a, cap, h1, h2, h3, fun x hx => (h0 x hx).up hu, h4.imp id ?_⟩
  rintro ⟨b, off, h5, h6⟩
  exact ⟨b, off, h5, fun i x hx k hk => later_cellF (h6 i x hx k hk) hu⟩
theorem BArg.ptr {W : World} {a : Option Addr} {n cap : Nat} {bs : List Bb} (h : BArg W (.slice a n cap) bs) (hx : 0 < bs.length) : ∃ b off, a = some ⟨b, off, none⟩ := by
  obtain ⟨a', cap', e, h1, h2, h0, h3⟩ := h
  cases e
  rcases h3 with rfl | ⟨b, off, e, _⟩
  · simp at hx
  · exact ⟨b, off, e⟩
theorem BArg.num {W : World} {a : Option Addr} {n cap : Nat} {bs : List Bb} (h : BArg W (.slice a n cap) bs) : bs.length = n := by
  obtain ⟨a', cap', e, _⟩ := h
  cases e; rfl
theorem BArg.txs {W : World} {v : Value} {bs : List Bb} (h : BArg W v bs) {i : Nat} {x : Bb} (hx : bs[i]? = some x) : BbIn W x := by
  obtain ⟨a', cap', e, h1, h2, h0, h3⟩ := h
  exact h0 x (List.mem_of_getElem? hx)
theorem BArg.cell {W : World} {b off n cap : Nat} {bs : List Bb} (h : BArg W (.slice (some ⟨b, off, none⟩) n cap) bs) {i : Nat} {x : Bb} (hx : bs[i]? = some x) (k : Nat) (hk : k < 9) :
    W.cell? ⟨b, off + (i * 9 + k), none⟩ = some ((bbC x)[k]!) := by
  obtain ⟨a', cap', e, h1, h2, h0, h3⟩ := h
  cases e
  have hi : i < bs.length := (List.getElem?_eq_some_iff.1 hx).1
  rcases h3 with rfl | ⟨b', off', e, h4⟩
  · simp at hi
  · cases e
    exact h4 i x hx k hk
theorem BArg.load {W : World} {b off n cap : Nat} {bs : List Bb} (h : BArg W (.slice (some ⟨b, off, none⟩) n cap) bs) {i : Nat} {x : Bb} (hx : bs[i]? = some x) : (loadVar 47 ⟨b, off + i * 9, none⟩).run Try.prog W = .ok (.agg (bbA x)) W := by
  have hcell : ∀ j v, (bbC x)[j]? = some v → W.cell? ((⟨b, off + i * 9, none⟩ : Addr).add j) = some v := by
    intro j v hv
    have hj : j < 9 := by have := (List.getElem?_eq_some_iff.1 hv).1; rwa [bbC_len] at this
    have ha : ((⟨b, off + i * 9, none⟩ : Addr).add j) = ⟨b, off + (i * 9 + j), none⟩ := by unfold Addr.add; split <;> simp_all [Nat.add_assoc]
    rw [ha, h.cell hx j hj, getElem!_pos (bbC x) j (by rw [bbC_len]; exact hj)]
    rw [List.getElem?_eq_getElem (by rw [bbC_len]; exact hj)] at hv
    exact hv
  have h5 := run_loadCellsFrom_list Try.prog W ⟨b, off + i * 9, none⟩ (bbC x) 9 (bbC_len x) hcell
  simp [loadVar, loadCells, Try.isAgg47, Try.sizeOf47, h5, Result.andThen, bbA]
theorem info_bb : (Try.prog.info? 47).map (·.size) = some 9 := by kernel_rfl
theorem ex_ldb {o : Oper} {x : Operand} {ρ : Operand → Value} {ad : Addr} {v : Value} {W : World} (hop : o.op = .load 47 x) (hx : ρ x = .pointer (some ad)) (hl : (loadVar 47 ad).run Try.prog W = .ok v W) : (execOp ρ o).run Try.prog W = .ok (.value v) W := by
  unfold execOp; rw [hop]; simp only [hx]
  simp [Instr.loadAt, Instr.sureAddr, hl, Result.andThen]
theorem bbA_one {x : Bb} (h : BbOne x) : (bbA x).all (·.oneCell') = true := by
  rw [Array.all_eq_true]
  intro i hi
  exact h _ (by simp [bbA])
theorem ex_fillB {o : Oper} {x y : Operand} {ρ : Operand → Value} {W : World} {c0 : Array Value} {u : Bb} (hu : BbOne u) (hop : o.op = .store 47 x y) (hx : ρ x = .pointer (some ⟨W.heap.size, 0, none⟩)) (hy : ρ y = .agg (bbA u)) (h0 : c0.size = 9) :
    (execOp ρ o).run Try.prog (W.alloc (.cells c0 47)) = .ok .skip (W.alloc (.cells (bbA u) 47)) := by
  have h1 := ex_storerow (P := Try.prog) (g := W.heap.size) (c0 := c0) (c1 := bbA u) hop hx hy (W.alloc (.cells c0 47)) 47 (heap_alloc_new W _) info_bb h0 (bbA_one hu)
  rwa [World.setRow_alloc_new] at h1
/-- all transactions of blocks -/
def allTx (bs : List Bb) : List Ts := bs.flatMap (·.tx)
theorem allTx_append (a b : List Bb) : allTx (a ++ b) = allTx a ++ allTx b := by unfold allTx; rw [List.flatMap_append]
theorem allTx_one (x : Bb) : allTx [x] = x.tx := by simp [allTx]
theorem take_oneX (bs : List Bb) (i : Nat) (x : Bb) (h : bs[i]? = some x) : bs.take (i + 1) = bs.take i ++ [x] := by
  rw [List.take_add_one, h]; rfl
theorem allTx_take (bs : List Bb) (i : Nat) (x : Bb) (h : bs[i]? = some x) : allTx (bs.take (i + 1)) = allTx (bs.take i) ++ x.tx := by
  rw [take_oneX bs i x h, allTx_append, allTx_one]
theorem allTx_le (bs : List Bb) (i : Nat) : (allTx (bs.take i)).length ≤ (allTx bs).length := by
  have : allTx bs = allTx (bs.take i) ++ allTx (bs.drop i) := by rw [← allTx_append, List.take_append_drop]
  rw [this, List.length_append]; omega
section
open Go.ChangeShapes Go.WideShapes Go.ChangeAt Go.Deep Go.Joins
variable {H : Type} {enc : TypeId × Value → H} {W : World}
theorem bulk_mapT {α : Type} {n : Nat} (D : Nat → DataW H) (Z : Nat → List α) (h : ∀ i, i < n → (Z i).length + 1 ≤ Rows.uptoBulk (D i)) :
    n + ((List.range n).flatMap Z).length ≤ Rows.uptoBulkAll ((List.range n).map D) := by
  induction n with
  | zero => simp [Rows.uptoBulkAll]
  | succ n ih =>
    have h1 := ih fun i hi => h i (by omega)
    have h2 := h n (by omega)
    have app : ∀ l r : List (DataW H), Rows.uptoBulkAll (l ++ r) = Rows.uptoBulkAll l + Rows.uptoBulkAll r := by
      intro l r
      induction l with
      | nil => simp [Rows.uptoBulkAll]
      | cons x l ih => simp only [List.cons_append, Rows.uptoBulkAll, ih]; omega
    rw [List.range_succ, List.map_append, List.flatMap_append, app, List.length_append]
    simp only [List.map_cons, List.map_nil, Rows.uptoBulkAll, List.flatMap_cons, List.flatMap_nil, List.append_nil]
    omega
theorem bulk_txs {d : DataW H} {xs : List Ts} (hD : TxsD d xs) : xs.length + 1 ≤ Rows.uptoBulk d := by
  rcases hD with ⟨rfl, rfl⟩ | ⟨ds, spare, rfl, hl⟩
  · simp [Rows.uptoBulk]
  · simp only [Rows.uptoBulk]
    have h := bulkAll_len ds
    omega
theorem trod_blk {m0 : Nat} {l : List Value} {d : DataW H} {pl : List MemPlace} (hsz : l.length = 9) (hf : DataW.trod enc Try.prog W 0 (fun _ => true) true m0 47 l = some (d, pl)) :
    ∃ x : Bb, l = bbC x ∧ BbIn W x ∧ x.tx.length + 1 ≤ Rows.uptoBulk d := by
  have kC : Try.prog.cellsOf 45 = 4 := by kernel_rfl
  have ki : Try.prog.cellsOf 3 = 1 := by kernel_rfl
  have ks : Try.prog.cellsOf 9 = 1 := by kernel_rfl
  have kt : Try.prog.cellsOf 26 = 1 := by kernel_rfl
  have kv : Try.prog.cellsOf 43 = 1 := by kernel_rfl
  match l, hsz, hf with
  | [c0, c1, c2, c3, c4, c5, c6, c7, c8], _, hf =>
    obtain ⟨ys, m, _, hx, _, hyl, hfld⟩ := DataW.trod_struct Try.underlying47 hf
    have hyl6 : ys.length = 6 := hyl
    have get : ∀ i, i < 6 → ∃ y, ys[i]? = some y := fun i hi => ⟨ys[i]'(by omega), List.getElem?_eq_getElem _⟩
    obtain ⟨y0, j0⟩ := get 0 (by decide)
    have t0 : DataW.trod enc Try.prog W 0 (fun _ => true) true m 3 [c0] = some y0 := by
      have q : DataW.trod enc Try.prog W 0 (fun _ => true) true m 3 (([c0, c1, c2, c3, c4, c5, c6, c7, c8].drop 0).take (Try.prog.cellsOf 3)) = ys[0]? := hfld 0 _ rfl
      rw [ki] at q
      rw [j0] at q
      exact q
    obtain ⟨y1, j1⟩ := get 1 (by decide)
    have t1 : DataW.trod enc Try.prog W 0 (fun _ => true) true m 3 [c1] = some y1 := by
      have q : DataW.trod enc Try.prog W 0 (fun _ => true) true m 3 (([c0, c1, c2, c3, c4, c5, c6, c7, c8].drop 1).take (Try.prog.cellsOf 3)) = ys[1]? := hfld 1 _ rfl
      rw [ki] at q
      rw [j1] at q
      exact q
    obtain ⟨y2, j2⟩ := get 2 (by decide)
    have t2 : DataW.trod enc Try.prog W 0 (fun _ => true) true m 9 [c2] = some y2 := by
      have q : DataW.trod enc Try.prog W 0 (fun _ => true) true m 9 (([c0, c1, c2, c3, c4, c5, c6, c7, c8].drop 2).take (Try.prog.cellsOf 9)) = ys[2]? := hfld 2 _ rfl
      rw [ks] at q
      rw [j2] at q
      exact q
    obtain ⟨y3, j3⟩ := get 3 (by decide)
    have t3 : DataW.trod enc Try.prog W 0 (fun _ => true) true m 45 [c3, c4, c5, c6] = some y3 := by
      have q : DataW.trod enc Try.prog W 0 (fun _ => true) true m 45 (([c0, c1, c2, c3, c4, c5, c6, c7, c8].drop 3).take (Try.prog.cellsOf 45)) = ys[3]? := hfld 3 _ rfl
      rw [kC] at q
      rw [j3] at q
      exact q
    obtain ⟨y4, j4⟩ := get 4 (by decide)
    have t4 : DataW.trod enc Try.prog W 0 (fun _ => true) true m 26 [c7] = some y4 := by
      have q : DataW.trod enc Try.prog W 0 (fun _ => true) true m 26 (([c0, c1, c2, c3, c4, c5, c6, c7, c8].drop 7).take (Try.prog.cellsOf 26)) = ys[4]? := hfld 4 _ rfl
      rw [kt] at q
      rw [j4] at q
      exact q
    obtain ⟨y5, j5⟩ := get 5 (by decide)
    have t5 : DataW.trod enc Try.prog W 0 (fun _ => true) true m 9 [c8] = some y5 := by
      have q : DataW.trod enc Try.prog W 0 (fun _ => true) true m 9 (([c0, c1, c2, c3, c4, c5, c6, c7, c8].drop 8).take (Try.prog.cellsOf 9)) = ys[5]? := hfld 5 _ rfl
      rw [ks] at q
      rw [j5] at q
      exact q
    obtain ⟨x0, e0, _, w0⟩ := DataW.trod_int Try.underlying3 t0
    obtain ⟨x1, e1, _, w1⟩ := DataW.trod_int Try.underlying3 t1
    obtain ⟨x2, e2, _, w2⟩ := DataW.trod_string Try.underlying9 t2
    obtain ⟨x8, e8, _, w8⟩ := DataW.trod_string Try.underlying9 t5
    obtain ⟨a7, l7, c7', e7⟩ := slice_form Try.underlying26 t4
    simp only [List.cons.injEq, and_true] at e0 e1 e2 e7 e8
    subst e0 e1 e2 e7 e8
    obtain ⟨zs, m2, _, hx2, _, hzl, hfld2⟩ := DataW.trod_struct Try.underlying45 t3
    have hzl4 : zs.length = 4 := hzl
    have get2 : ∀ i, i < 4 → ∃ y, zs[i]? = some y := fun i hi => ⟨zs[i]'(by omega), List.getElem?_eq_getElem _⟩
    obtain ⟨z0, k0⟩ := get2 0 (by decide)
    have s0 : DataW.trod enc Try.prog W 0 (fun _ => true) true m2 3 [c3] = some z0 := by
      have q : DataW.trod enc Try.prog W 0 (fun _ => true) true m2 3 (([c3, c4, c5, c6].drop 0).take (Try.prog.cellsOf 3)) = zs[0]? := hfld2 0 _ rfl
      rw [ki] at q
      rw [k0] at q
      exact q
    obtain ⟨z1, k1⟩ := get2 1 (by decide)
    have s1 : DataW.trod enc Try.prog W 0 (fun _ => true) true m2 3 [c4] = some z1 := by
      have q : DataW.trod enc Try.prog W 0 (fun _ => true) true m2 3 (([c3, c4, c5, c6].drop 1).take (Try.prog.cellsOf 3)) = zs[1]? := hfld2 1 _ rfl
      rw [ki] at q
      rw [k1] at q
      exact q
    obtain ⟨z2, k2⟩ := get2 2 (by decide)
    have s2 : DataW.trod enc Try.prog W 0 (fun _ => true) true m2 9 [c5] = some z2 := by
      have q : DataW.trod enc Try.prog W 0 (fun _ => true) true m2 9 (([c3, c4, c5, c6].drop 2).take (Try.prog.cellsOf 9)) = zs[2]? := hfld2 2 _ rfl
      rw [ks] at q
      rw [k2] at q
      exact q
    obtain ⟨z3, k3⟩ := get2 3 (by decide)
    have s3 : DataW.trod enc Try.prog W 0 (fun _ => true) true m2 43 [c6] = some z3 := by
      have q : DataW.trod enc Try.prog W 0 (fun _ => true) true m2 43 (([c3, c4, c5, c6].drop 3).take (Try.prog.cellsOf 43)) = zs[3]? := hfld2 3 _ rfl
      rw [kv] at q
      rw [k3] at q
      exact q
    obtain ⟨x3, e3, _, w3⟩ := DataW.trod_int Try.underlying3 s0
    obtain ⟨x4, e4, _, w4⟩ := DataW.trod_int Try.underlying3 s1
    obtain ⟨x5, e5, _, w5⟩ := DataW.trod_string Try.underlying9 s2
    obtain ⟨a6, l6, c6', e6⟩ := slice_form Try.underlying43 s3
    simp only [List.cons.injEq, and_true] at e3 e4 e5 e6
    subst e3 e4 e5 e6
    obtain ⟨xs, g1, _, _, g4⟩ := open_txsD (enc := enc) (W := W) (d := y4.1) (ps := y4.2) rfl ⟨m, by simpa [Value.cells] using t4⟩
    have hl7 := g1.len
    refine ⟨⟨.int .i64 x0, .int .i64 x1, .string x2, .int .i64 x3, .int .i64 x4, .string x5, .slice a6 l6 c6', a7, c7', xs, .string x8⟩, by simp [bbC, hl7], ⟨by show TArg W (.slice a7 xs.length c7') xs; rw [hl7]; exact g1, ?_⟩, ?_⟩
    · intro v hv
      simp [bbC] at hv
      rcases hv with rfl | rfl | rfl | rfl | rfl | rfl | rfl | rfl | rfl <;> rfl
    · simp only [Prod.mk.injEq] at hx
      rw [hx.1]
      simp only [Rows.uptoBulk]
      have h1 := bulk_txs g4
      have h2 : y4.1 ∈ ys.map (·.1) := List.mem_map.2 ⟨y4, List.mem_of_getElem? j4, rfl⟩
      have h3 := bulk_mem h2
      show xs.length + 1 ≤ _
      omega
theorem open_blks {v : Value} {d : DataW H} {ps : List MemPlace} {a : Option Addr} {len cap : Nat} (hv : v = .slice a len cap) (h : DataW.Trod enc Try.prog W 0 (fun _ => true) true 25 v d ps) :
    ∃ bs : List Bb, BArg W v bs ∧ True ∧ bs.length ≤ maxLen ∧ bs.length + (allTx bs).length ≤ Rows.uptoBulk d := by
  obtain ⟨fuel, hf⟩ := h
  rw [hv] at hf
  have kB : Try.prog.cellsOf 47 = 9 := by kernel_rfl
  rcases open_slice Try.underlying25 hf with ⟨hcs, hx⟩ | ⟨x, l, c, m, n, D, Pl, hcs, _, hl, hm, hmm, hx, hi⟩
  · simp [Value.cells] at hcs
    obtain ⟨rfl, rfl, rfl⟩ := hcs
    have := bulk_pos d
    exact ⟨[], ⟨none, 0, hv, Nat.le_refl _, fun _ => rfl, fun x hx => by simp at hx, .inl rfl⟩, trivial, by simp, by simp [allTx]⟩
  · simp [Value.cells] at hcs
    obtain ⟨rfl, rfl, rfl⟩ := hcs
    simp only [if_true] at hmm
    simp only [Prod.mk.injEq] at hx
    have each : ∀ i, i < len → ∃ y : Bb, BbIn W y ∧ (∀ k, k < 9 → W.cell? ((x.add (i * 9)).add k) = some ((bbC y)[k]!)) ∧ y.tx.length + 1 ≤ Rows.uptoBulk (D i) := by
      intro i him
      obtain ⟨cs', hc, ht'⟩ := hi i (by omega)
      rw [kB] at hc
      have hc0 : W.cells? 0 (x.add (i * 9)) 9 = some cs' := hc
      obtain ⟨_, hcl, hat⟩ := World.cells?_some hc0
      obtain ⟨y, rfl, h1, h2⟩ := trod_blk hcl ht'
      refine ⟨y, h1, fun k hk => ?_, h2⟩
      rw [hat k hk, getElem!_pos (bbC y) k (by rw [bbC_len]; exact hk)]
      exact List.getElem?_eq_getElem _
    have ib : Inhabited Bb := ⟨⟨undef, undef, undef, undef, undef, undef, undef, none, 0, [], undef⟩⟩
    obtain ⟨F, hF⟩ := choose_lt (α := Bb) (p := fun i y => BbIn W y ∧ (∀ k, k < 9 → W.cell? ((x.add (i * 9)).add k) = some ((bbC y)[k]!)) ∧ y.tx.length + 1 ≤ Rows.uptoBulk (D i)) each
    have hlen : ((List.range len).map F).length = len := by simp
    have hget : ∀ j f, ((List.range len).map F)[j]? = some f → j < len ∧ f = F j := by
      intro j f hj
      have hj2 : j < len := by have := (List.getElem?_eq_some_iff.1 hj).1; simpa using this
      simp [hj2] at hj
      exact ⟨hj2, hj.symm⟩
    refine ⟨(List.range len).map F, ⟨some x, cap, by rw [hlen]; exact hv, by rw [hlen]; exact hl, (fun e => by cases e), ?_, ?_⟩, trivial, by rw [hlen]; exact Nat.le_trans hl hm, ?_⟩
    · intro y hy
      obtain ⟨j, hj⟩ := List.mem_iff_getElem?.1 hy
      obtain ⟨hj2, rfl⟩ := hget j y hj
      exact (hF j hj2).1
    · by_cases h0 : len = 0
      · subst h0; exact .inl rfl
      · right
        obtain ⟨b, off, spot⟩ := x
        have hspot : spot = none := by
          have := addr_plain ((hF 0 (by omega)).2.1 0 (by omega))
          simpa [Addr.add] using this
        subst hspot
        refine ⟨b, off, rfl, fun i y hy k hk => ?_⟩
        obtain ⟨hj2, rfl⟩ := hget i y hy
        have := (hF i hj2).2.1 k hk
        rwa [addr_addt, addr_addt, Nat.add_assoc] at this
    · rw [hlen, hx.1]
      have h1 := bulk_mapT (H := H) D (fun i => (F i).tx) (fun i hi => (hF i hi).2.2)
      have h2 : allTx ((List.range len).map F) = (List.range len).flatMap fun i => (F i).tx := by
        unfold allTx; rw [List.flatMap_map]
      rw [h2]
      simp only [Rows.uptoBulk]
      omega
end
end
end Go.Proofs.Ytkelbilcjgndmaa
