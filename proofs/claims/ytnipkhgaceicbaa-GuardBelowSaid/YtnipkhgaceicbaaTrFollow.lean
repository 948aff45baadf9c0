import Derived.Test.YtnipkhgaceicbaaTrWay
/-
  tree.follow, tree.Extends.
-/
namespace Go.Proofs.Ytnipkhgaceicbaa
set_option maxRecDepth 100000
section
set_option linter.unusedVariables false
open Go.RowKit Go.Sort Go.Lib Go.Shelf
attribute [local go_sem] Oper.semAt_some

/-- a mark -/
abbrev Mk3 := Int × Int × ByteArray
def mkOf {T : ByteArray → Option Tb} (x : TP T) : Mk3 := (x.1.2.V, x.1.2.H, x.1.1)
def jmk (b : Tb) : Mk3 := (b.JV, b.JH, b.JB)
instance : DecidableEq Mk3 := inferInstance
/-- as far as the marks fit: the blocks, and the mark that is wanted next -/
def followL {T : ByteArray → Option Tb} : List (TP T) → Mk3 → List Tb × Mk3
  | [], nx => ([], nx)
  | x :: r, nx => if mkOf x = nx then (x.1.2 :: (followL r (jmk x.1.2)).1, (followL r (jmk x.1.2)).2) else ([], nx)
/-- all marks fit -/
def fitsL {T : ByteArray → Option Tb} : List (TP T) → Mk3 → Option (List Tb × Mk3)
  | [], nx => some ([], nx)
  | x :: r, nx => if mkOf x = nx then (fitsL r (jmk x.1.2)).map fun q => (x.1.2 :: q.1, q.2) else none
theorem fits_snoc {T : ByteArray → Option Tb} : ∀ (pre : List (TP T)) (x : TP T) (nx0 nx : Mk3) (bl : List Tb), fitsL pre nx0 = some (bl, nx) → mkOf x = nx → fitsL (pre ++ [x]) nx0 = some (bl ++ [x.1.2], jmk x.1.2)
  | [], x, nx0, nx, bl, h, hx => by
    simp only [fitsL, Option.some.injEq, Prod.mk.injEq] at h
    obtain ⟨rfl, rfl⟩ := h
    simp [fitsL, hx]
  | y :: t, x, nx0, nx, bl, h, hx => by
    unfold fitsL at h
    by_cases hy : mkOf y = nx0
    · rw [if_pos hy] at h
      cases hq : fitsL t (jmk y.1.2) with
      | none => rw [hq] at h; cases h
      | some q =>
        rw [hq] at h
        simp only [Option.map_some, Option.some.injEq, Prod.mk.injEq] at h
        obtain ⟨rfl, rfl⟩ := h
        have := fits_snoc t x (jmk y.1.2) q.2 q.1 hq hx
        show (if mkOf y = nx0 then (fitsL (t ++ [x]) (jmk y.1.2)).map _ else none) = _
        rw [if_pos hy, this]; rfl
    · rw [if_neg hy] at h; cases h
theorem follow_fits {T : ByteArray → Option Tb} : ∀ (pre t : List (TP T)) (nx0 nx : Mk3) (bl : List Tb), fitsL pre nx0 = some (bl, nx) → followL (pre ++ t) nx0 = (bl ++ (followL t nx).1, (followL t nx).2)
  | [], t, nx0, nx, bl, h => by
    simp only [fitsL, Option.some.injEq, Prod.mk.injEq] at h
    obtain ⟨rfl, rfl⟩ := h
    rfl
  | y :: r, t, nx0, nx, bl, h => by
    unfold fitsL at h
    by_cases hy : mkOf y = nx0
    · rw [if_pos hy] at h
      cases hq : fitsL r (jmk y.1.2) with
      | none => rw [hq] at h; cases h
      | some q =>
        rw [hq] at h
        simp only [Option.map_some, Option.some.injEq, Prod.mk.injEq] at h
        obtain ⟨rfl, rfl⟩ := h
        have := follow_fits r t (jmk y.1.2) q.2 q.1 hq
        show (if mkOf y = nx0 then (y.1.2 :: (followL (r ++ t) (jmk y.1.2)).1, (followL (r ++ t) (jmk y.1.2)).2) else ([], nx0)) = _
        rw [if_pos hy, this]; rfl
    · rw [if_neg hy] at h; cases h
/-- what a chain's closure has found: was it the other one, or one's parent? -/
def foundL (f0 : Bool) (other : ByteArray) (bl : List Tb) : Bool := f0 || bl.any fun b => decide (b.P = other)
theorem foundL_snoc (f0 : Bool) (other : ByteArray) (bl : List Tb) (b : Tb) : foundL f0 other (bl ++ [b]) = (foundL f0 other bl || decide (b.P = other)) := by
  unfold foundL
  rw [List.any_append, List.any_cons, List.any_nil, Bool.or_false, Bool.or_assoc]
theorem TreeC.get {W : World} {g mb n : Nat} {T : ByteArray → Option Tb} (h : TreeC W g mb n T) {s : ByteArray} (hs : s.size ≤ maxLen) :
    (Instr.lookup 60 (.map (some mb)) (.string s) false).run Try.prog W = .ok (.agg (tbA (atT T s))) W := by
  obtain ⟨D, h1, h2, h3, h4⟩ := h.map
  obtain ⟨v, ps, hrun, hv⟩ := h1.lookup (Maps.string_keyed Try.underlying9) Try.underlying60 (zero_tb W) (zd := .held (.agg (tbA tb0))) (zp := []) rfl (text_key Try.underlying9 hs)
  obtain ⟨g1, g2⟩ := h4 s hs
  rw [hrun, ← atT_val]
  cases hM : (T s).map fun x => Value.agg (tbA x) with
  | none =>
    rw [Maps.atKey_of_not_has (g1 hM)] at hv
    simp only [heldR, Option.some.injEq, Prod.mk.injEq, DataW.held.injEq] at hv
    rw [hv.1]; rfl
  | some u =>
    rw [(g2 u hM).2] at hv
    simp only [heldR, Option.some.injEq, Prod.mk.injEq, DataW.held.injEq] at hv
    rw [hv.1]; rfl
theorem way_any (g : Nat) (s : ByteArray) (w : World) : Calls Try.prog 47 #[.pointer (some ⟨g, 0, none⟩), .string s] w fun e w' => e = .returned (.func (.func 59) #[] #[.pointer (some ⟨w.heap.size + 1, 0, none⟩), .pointer (some ⟨w.heap.size, 0, none⟩)]) ∧ (w.alloc (.cells #[.pointer (some ⟨g, 0, none⟩)] 42)).alloc (.cells #[.string s] 9) = w' := by
  go_enter Try.func47, Try.ntmps47
  go_wp2
  go_ret
  exact ⟨rfl, rfl⟩
theorem KeptR.grown {B0 : Nat} {S : Nat → Prop} {W W' : World} {row : Option Nat} (hg : W.grownBy W' row) (hr : ∀ r, row = some r → B0 ≤ r ∧ ∃ o : Obj, W.heap[r]? = some o ∧ o.isCells = false) : KeptR B0 S W W' :=
  ⟨hg.os, hg.tape, hg.output, hg.size, fun k h1 h2 _ => hg.block k h2 (fun e => by have := (hr k e.symm).1; omega), fun k o h1 h2 _ => (hg.block k (lt_of_block h1) (fun e => by
    obtain ⟨_, o', h3, h4⟩ := hr k e.symm
    rw [h1] at h3; cases h3; rw [h2] at h4; cases h4)).trans h1⟩
theorem row_grown {B0 : Nat} {W W' : World} {row : Option Nat} {b : Nat} {cs : Array Value} {t : TypeId} (h : W.heap[b]? = some (.cells cs t (0, 0))) (hg : W.grownBy W' row) (hr : ∀ r, row = some r → B0 ≤ r ∧ ∃ o : Obj, W.heap[r]? = some o ∧ o.isCells = false) : W'.heap[b]? = some (.cells cs t (0, 0)) :=
  (KeptR.grown (S := fun _ => False) hg hr).row h (fun e => e)
theorem mk_neq (V H : Int) (B : ByteArray) (V' H' : Int) (B' : ByteArray) (p q : Operand) (w : World) : (do eqGuard .neq 26 p q (.agg (mkC V H B)) (.agg (mkC V' H' B')); binOp .neq 26 (.agg (mkC V H B)) (.agg (mkC V' H' B')) : Sem Value).run Try.prog w = .ok (.bool (!decide (V = V' ∧ H = H' ∧ B = B'))) w := by
  simp [eqGuard, go_sem, mkC, toList_dec]
  repeat' split
  all_goals simp [*]
theorem mk_eql3 (V H : Int) (B : ByteArray) (V' H' : Int) (B' : ByteArray) (p q : Operand) (w : World) : (do eqGuard .eql 26 p q (.agg (mkC V H B)) (.agg (mkC V' H' B')); binOp .eql 26 (.agg (mkC V H B)) (.agg (mkC V' H' B')) : Sem Value).run Try.prog w = .ok (.bool (decide (V = V' ∧ H = H' ∧ B = B'))) w := by
  simp [eqGuard, go_sem, mkC, toList_dec]
  repeat' split
  all_goals simp [*]
/-- a region that doesn't panic -/
theorem wpIn_calm {F : Fence} {n : Nat} {P : Program} {c : Code} {Q : Exit → Act → World → Prop} {a : Act} {w : World} (h : c.wpIn F n P (fun e a w => (∀ ch, e ≠ .panic ch) ∧ Q e a w) a w) : c.wpIn F n P Q a w := wpIn_mono h fun _ _ _ k => k.2
theorem row_up {W W' : World} {b : Nat} {cs : Array Value} {t : TypeId} (h : W.heap[b]? = some (.cells cs t (0, 0))) (u : Up W W') : W'.heap[b]? = some (.cells cs t (0, 0)) := (u.block b (lt_of_block h)).trans h
theorem cert_load {W : World} {B : Nat} {x : Tb} (h : W.heap[B]? = some (.cells (tbA x) 41 (0, 0))) : (loadVar 38 ⟨B, 3, none⟩).run Try.prog W = .ok (.agg #[.int .i64 x.JV, .int .i64 x.JH, .string x.JB, .slice x.ja x.vs.length x.jc]) W := by
  have hcell : ∀ j v, ([.int .i64 x.JV, .int .i64 x.JH, .string x.JB, .slice x.ja x.vs.length x.jc] : List Value)[j]? = some v → W.cell? ((⟨B, 3, none⟩ : Addr).add j) = some v := by
    intro j v hv
    have ha : ((⟨B, 3, none⟩ : Addr).add j) = ⟨B, 3 + j, none⟩ := by unfold Addr.add; split <;> simp_all
    rw [ha, cell_of_row _ _ _ _ _ _ h]
    have hj : j < 4 := (List.getElem?_eq_some_iff.1 hv).1
    match j, hj with
    | 0, _ => exact hv
    | 1, _ => exact hv
    | 2, _ => exact hv
    | 3, _ => exact hv
  have h5 := run_loadCellsFrom_list Try.prog W ⟨B, 3, none⟩ [.int .i64 x.JV, .int .i64 x.JH, .string x.JB, .slice x.ja x.vs.length x.jc] 4 rfl hcell
  simp [loadVar, loadCells, Try.isAgg38, Try.sizeOf38, h5, Result.andThen]
/-- the closure of Extends -/
theorem ext1_any (fb ob : Nat) (f0 : Bool) (other : ByteArray) (b : Tb) (w : World) (hf : w.heap[fb]? = some (.cells #[.bool f0] 4 (0, 0))) (ho : w.heap[ob]? = some (.cells #[.string other] 9 (0, 0))) :
    Calls Try.prog 31 #[.agg (tbA b), .pointer (some ⟨fb, 0, none⟩), .pointer (some ⟨ob, 0, none⟩)] w fun e w' => e = .returned (.tuple #[]) ∧ w'.heap[fb]? = some (.cells #[.bool (f0 || decide (b.P = other))] 4 (0, 0)) ∧ KeptBut (fun k => k = fb) w w' := by
  have hu1 := Up.alloc (Up.refl w) (.cells (tbA b) 41)
  have hb1 := heap_alloc_new w (.cells (tbA b) 41)
  have hf1 := (hu1.block fb (lt_of_block hf)).trans hf
  have ho1 := (hu1.block ob (lt_of_block ho)).trans ho
  have c2 := tx_cell hb1 2 (show (tbA b)[2]? = some (.string b.P) from rfl)
  have cf := tx_cell hf1 0 (v := .bool f0) rfl
  have co := tx_cell ho1 0 (v := .string other) rfl
  have ff := frozen_of_row _ fb 0 _ _ hf1
  have hd : (b.P.toList == other.toList) = decide (b.P = other) := toList_dec
  have HR : Hid (∀ D, ((w.alloc (.cells (tbA b) 41)).setCell ⟨fb, 0, none⟩ (.bool D)).heap[fb]? = some (.cells #[.bool D] 4 (0, 0)) ∧ KeptBut (fun k => k = fb) w ((w.alloc (.cells (tbA b) 41)).setCell ⟨fb, 0, none⟩ (.bool D))) := Lib.hid fun D => ⟨heap_setCell_same _ fb 0 _ _ _ hf1, (KeptBut.of_up (S := fun k => k = fb) hu1).trans (KeptBut.of_grown (S := fun k => k = fb) (grownBy_setCell _ ⟨fb, 0, none⟩ _) (fun k e => by cases e; rfl)) (fun _ _ e => e)⟩
  generalize tbA b = cs at *
  generalize decide (b.P = other) = D at hd ⊢
  clear hf ho hf1 ho1 hb1 hu1
  cases f0 with
  | true =>
    go_enter Try.func31, Try.ntmps31
    go_wp2
    refine bodyPost_end (results_none rfl _ _ _) rfl ?_
    exact ⟨rfl, (HR.out true).1, (HR.out true).2⟩
  | false =>
    go_enter Try.func31, Try.ntmps31
    go_wp2
    refine bodyPost_end (results_none rfl _ _ _) rfl ?_
    first | (rw [hd]; exact ⟨rfl, (HR.out D).1, (HR.out D).2⟩) | exact ⟨rfl, (HR.out D).1, (HR.out D).2⟩

set_option maxHeartbeats 4000000 in
theorem followE_any {w : World} {g mb n : Nat} {T : ByteArray → Option Tb} (h : TreeC w g mb n T) (hn : n ≤ 4611686018427387904) (name : ByteArray) (hs : name.size ≤ maxLen) (fb ob : Nat) (f0 : Bool) (other : ByteArray) (hf : w.heap[fb]? = some (.cells #[.bool f0] 4 (0, 0))) (ho : w.heap[ob]? = some (.cells #[.string other] 9 (0, 0))) (hfo : fb ≠ ob) (hfg : fb ≠ g) (hfm : fb ≠ mb) :
    Calls Try.prog 30 #[.pointer (some ⟨g, 0, none⟩), .string name, .func (.func 31) #[] #[.pointer (some ⟨fb, 0, none⟩), .pointer (some ⟨ob, 0, none⟩)]] w fun e w' =>
      e = .returned (.bool (decide ((followL (walkL T n name) ((atT T name).V, (atT T name).H, name)).2 = ((0 : Int), (0 : Int), gName)))) ∧
      w'.heap[fb]? = some (.cells #[.bool (foundL f0 other (followL (walkL T n name) ((atT T name).V, (atT T name).H, name)).1)] 4 (0, 0)) ∧ KeptBut (fun k => k = fb) w w' := by
  have hgw := lt_of_block h.root
  have hmw := h.map.lt
  have hu0 := Up.alloc (Up.refl w) (.cells #[.func (.func 31) #[] #[.pointer (some ⟨fb, 0, none⟩), .pointer (some ⟨ob, 0, none⟩)]] 67)
  have hb0 := heap_alloc_new w (.cells #[.func (.func 31) #[] #[.pointer (some ⟨fb, 0, none⟩), .pointer (some ⟨ob, 0, none⟩)]] 67)
  have HT0 := Lib.hid (h.up hu0)
  have HU0 := Lib.hid hu0
  have HB0 := Lib.hid hb0
  have HK := Lib.hid (kept_any g _ _ HT0.out.root)
  have hget := HT0.out.get hs
  have HNm := Lib.hid (fun wx => named_any name (atT T name) wx)
  clear h hu0 hb0
  refine (callsIn_wide (n := 3)).1 ?_
  refine callsIn_of_wp_marks Try.func30 rfl trivial ?_ rfl
  simp only [Try.ntmps30, List.size_toArray, List.length_cons, List.length_nil, Nat.reduceAdd, Nat.reduceSub, Array.replicate_succ, Array.replicate_zero, List.push_toArray, List.append_toArray, List.nil_append, List.cons_append]
  gi_wp2_with (refine ⟨trivial, ?_⟩; gi_at_call 42; refine (callsIn_wide.2 HK.out).mono ?_; rintro e w' ⟨rfl, hw⟩; rw [hw]; clear hw)
  generalize w.alloc (.cells #[.func (.func 31) #[] #[.pointer (some ⟨fb, 0, none⟩), .pointer (some ⟨ob, 0, none⟩)]] 67) = w1 at *
  obtain ⟨m0, hm0⟩ : ∃ c, mkC (atT T name).V (atT T name).H name = c := ⟨_, rfl⟩
  have HM0 := Lib.hid hm0
  rw [hm0] at HNm
  have hms : m0.size = 3 := by rw [← hm0]; rfl
  have hmo : m0.all (·.oneCell') = true := by rw [← hm0]; exact one_mk _ _ _
  clear hm0
  refine ⟨trivial, (callsIn_wide.2 (HNm.out w1)).mono ?_⟩
  rintro e w2 ⟨rfl, hU2⟩
  have HU2 := Lib.hid (HU0.out.trans hU2)
  have HT2 := Lib.hid (HT0.out.up hU2)
  have HB2 := Lib.hid ((hU2.block _ (lt_of_block HB0.out)).trans HB0.out)
  have HW := Lib.hid (fun wx => way_any g name wx)
  clear hU2 HNm HT0 HU0 HB0 HK hget
  gi_wp2_with (first | (refine wpListIn_exsW rfl (by intro c e; cases e) _ (ex_fillG (x := .tmp 7) (y := .tmp 15) (W := w2) (c1 := m0) rfl rfl rfl (by rw [hms]; exact info_mk) (by rw [hms]; rfl) hmo) ?_) | (refine ⟨trivial, ?_⟩; gi_at_call 47; refine (callsIn_wide.2 (HW.out _)).mono ?_; rintro e w' ⟨rfl, rfl⟩))
  have hU3 := Up.alloc (Up.alloc (Up.alloc (Up.refl w2) (.cells m0 26)) (.cells #[.pointer (some ⟨g, 0, none⟩)] 42)) (.cells #[.string name] 9)
  have hsz : (((w2.alloc (.cells m0 26)).alloc (.cells #[.pointer (some ⟨g, 0, none⟩)] 42)).alloc (.cells #[.string name] 9)).heap.size = w2.heap.size + 1 + 1 + 1 := by simp
  have hnb : (((w2.alloc (.cells m0 26)).alloc (.cells #[.pointer (some ⟨g, 0, none⟩)] 42)).alloc (.cells #[.string name] 9)).heap[w2.heap.size]? = some (.cells m0 26 (0, 0)) :=
    ((Up.alloc (Up.alloc (Up.refl (w2.alloc (.cells m0 26))) (.cells #[.pointer (some ⟨g, 0, none⟩)] 42)) (.cells #[.string name] 9)).block _ (lt_of_block (heap_alloc_new w2 _))).trans (heap_alloc_new w2 _)
  have hbt : (((w2.alloc (.cells m0 26)).alloc (.cells #[.pointer (some ⟨g, 0, none⟩)] 42)).alloc (.cells #[.string name] 9)).heap[w2.heap.size + 1]? = some (.cells #[.pointer (some ⟨g, 0, none⟩)] 42 (0, 0)) := by
    have h1 := heap_alloc_new (w2.alloc (.cells m0 26)) (.cells #[.pointer (some ⟨g, 0, none⟩)] 42)
    rw [World.size_alloc] at h1
    exact ((Up.alloc (Up.refl _) (.cells #[.string name] 9)).block _ (lt_of_block h1)).trans h1
  have hbs : (((w2.alloc (.cells m0 26)).alloc (.cells #[.pointer (some ⟨g, 0, none⟩)] 42)).alloc (.cells #[.string name] 9)).heap[w2.heap.size + 1 + 1]? = some (.cells #[.string name] 9 (0, 0)) := by
    have h1 := heap_alloc_new ((w2.alloc (.cells m0 26)).alloc (.cells #[.pointer (some ⟨g, 0, none⟩)] 42)) (.cells #[.string name] 9)
    rw [World.size_alloc, World.size_alloc] at h1
    exact h1
  have hdb := (hU3.block _ (lt_of_block HB2.out)).trans HB2.out
  have hTq := HT2.out.up hU3
  have hUq := HU2.out.trans hU3
  have hwn : w.heap.size < w2.heap.size := lt_of_block HB2.out
  have hfw := lt_of_block hf
  have how := lt_of_block ho
  have hfq := (hUq.block _ hfw).trans hf
  have hoq := (hUq.block _ how).trans ho
  clear hU3 HT2 HU2 HB2 HW
  generalize ((w2.alloc (.cells m0 26)).alloc (.cells #[.pointer (some ⟨g, 0, none⟩)] 42)).alloc (.cells #[.string name] 9) = wq at *
  generalize w2.heap.size = nb at *
  have HMK : mkC (atT T name).V (atT T name).H name = m0 := HM0.out
  refine wpIn_rangeFunc_ownH rfl (by omega) (gf := 59) (lb := #[.pointer (some ⟨nb + 1 + 1, 0, none⟩), .pointer (some ⟨nb + 1, 0, none⟩)]) rfl trivial (enters_of Try.func59 (by kernel_rfl) rfl)
    (encs := fun x : TP T => tpE x) (Kp := KeptR wq.heap.size (fun k => k = nb ∨ k = fb)) (S := fun ys => ys = walkL T n name) (Sp := fun pre => ∃ t, walkL T n name = pre ++ t) (N := n) (w0 := wq)
    (fun l J Jx W hW hJ hJx hY h0 => way1_in 2 (by omega) l (nb + 1) (nb + 1 + 1) wq.heap.size g mb n (fun k => k = nb ∨ k = fb) T name hs hn J Jx W (fun s X Y hs' hu => hJ s X Y none hs' (grown_up hu none) (fun r e => by cases e)) hY ((hTq.up hW)) ((hW.block _ (lt_of_block hbt)).trans hbt) ((hW.block _ (lt_of_block hbs)).trans hbs) (by omega) (by omega) (by omega) (by omega) (by omega) hW.size (fun k hk => by rcases hk with rfl | rfl <;> omega) h0)
    (fun h k => h.trans k) (fun W l o o' hl h hc _ => KeptR.putObj hl h hc) (Below.refl _ _) (fun _ => rfl)
    (fun pre W => ∃ bl nx, fitsL pre ((atT T name).V, (atT T name).H, name) = some (bl, nx) ∧ W.heap[nb]? = some (.cells (mkC nx.1 nx.2.1 nx.2.2) 26 (0, 0)) ∧ W.heap[fb]? = some (.cells #[.bool (foundL f0 other bl)] 4 (0, 0)) ∧ KeptR wq.heap.size (fun k => k = nb ∨ k = fb) wq W)
    (fun c pre W => c = .exit 0 ∧ ∃ pre' x bl nx, pre = pre' ++ [x] ∧ fitsL pre' ((atT T name).V, (atT T name).H, name) = some (bl, nx) ∧ mkOf x ≠ nx ∧ W.heap[nb]? = some (.cells (mkC nx.1 nx.2.1 nx.2.2) 26 (0, 0)) ∧ W.heap[fb]? = some (.cells #[.bool (foundL f0 other bl)] 4 (0, 0)) ∧ KeptR wq.heap.size (fun k => k = nb ∨ k = fb) wq W)
    (fun pre W W' row ⟨bl, nx, k1, k2, k3, k4⟩ hg hr => ⟨bl, nx, k1, row_grown k2 hg hr, row_grown k3 hg hr, k4.trans (KeptR.grown hg hr)⟩) (fun c pre W W' row ⟨k0, pre', x, bl, nx, k1, k2, k3, k4, k5, k6⟩ hg hr => ⟨k0, pre', x, bl, nx, k1, k2, k3, row_grown k4 hg hr, row_grown k5 hg hr, k6.trans (KeptR.grown hg hr)⟩) ⟨[], _, rfl, by rw [HMK]; exact hnb, by unfold foundL; simpa using hfq, KeptR.of_up (Up.refl _)⟩
    (fun x a' W => ∃ b8 b9, a' = { tmps := #[.pointer (some ⟨g, 0, none⟩), .string name, .func (.func 31) #[] #[.pointer (some ⟨fb, 0, none⟩), .pointer (some ⟨ob, 0, none⟩)], undef, undef, .pointer (some ⟨w.heap.size, 0, none⟩), .bool false, .pointer (some ⟨nb, 0, none⟩), .pointer (some ⟨b8, 0, none⟩), .pointer (some ⟨b9, 0, none⟩), .string name, .pointer (some ⟨g, 0, none⟩), .map (some mb), .string name, .agg (tbA (atT T name)), .agg m0, .pointer (some ⟨g, 0, none⟩), .string name, .func (.func 59) #[] #[.pointer (some ⟨nb + 1 + 1, 0, none⟩), .pointer (some ⟨nb + 1, 0, none⟩)], .agg (mkC x.1.2.V x.1.2.H x.1.1), .agg (tbA x.1.2), undef, undef, undef, undef, undef, undef, undef, undef, undef, undef, undef, undef, undef, undef, undef, undef, undef], defers := [] } ∧ W.heap[b8]? = some (.cells (mkC x.1.2.V x.1.2.H x.1.1) 26 (0, 0)) ∧ W.heap[b9]? = some (.cells (tbA x.1.2) 41 (0, 0)) ∧ wq.heap.size ≤ b8 ∧ wq.heap.size ≤ b9)
    (fun x a' u W W' row ⟨b8, b9, k1, k2, k3, k4, k5⟩ hg hr => ⟨b8, b9, k1, row_grown k2 hg hr, row_grown k3 hg hr, k4, k5⟩) ?assign ?body ?done ?stop
  case assign =>
    intro l pre x W K hI hK
    simp only [tpE]
    gi_wp2_with (first | (refine wpListIn_exsR rfl (by intro c e; cases e) _ (ex_fillG (x := .tmp 8) (y := .tmp 19) (W := W) (c1 := mkC x.1.2.V x.1.2.H x.1.1) rfl rfl rfl info_mk rfl (one_mk _ _ _)) ?_) | (refine wpListIn_exsR rfl (by intro c e; cases e) _ (ex_fillG (x := .tmp 9) (y := .tmp 20) (W := W.alloc (.cells (mkC x.1.2.V x.1.2.H x.1.1) 26)) (c1 := tbA x.1.2) rfl (by rw [World.size_alloc]; rfl) rfl info_bk rfl (tbA_one _)) ?_))
    have hu := Up.alloc (Up.alloc (Up.refl W) (.cells (mkC x.1.2.V x.1.2.H x.1.1) 26)) (.cells (tbA x.1.2) 41)
    have h8 := heap_alloc_new W (.cells (mkC x.1.2.V x.1.2.H x.1.1) 26)
    have h9 := heap_alloc_new (W.alloc (.cells (mkC x.1.2.V x.1.2.H x.1.1) 26)) (.cells (tbA x.1.2) 41)
    rw [World.size_alloc] at h9
    obtain ⟨bl, nx, k1, k2, k3, k4⟩ := hI
    refine hK _ _ ⟨hu.size, fun k o _ h1 _ => (hu.block k (lt_of_block h1)).trans h1⟩ (KeptR.of_up hu) ⟨bl, nx, k1, (hu.block _ (lt_of_block k2)).trans k2, (hu.block _ (lt_of_block k3)).trans k3, k4.trans (KeptR.of_up hu)⟩ ⟨W.heap.size, W.heap.size + 1, rfl, ((Up.alloc (Up.refl _) _).block _ (lt_of_block h8)).trans h8, h9, k4.size, by have := k4.size; omega⟩
  case body =>
    rintro l pre x a' W hl hr hI hA hlt
    obtain ⟨b8, b9, rfl, k8, k9, h8, h9⟩ := hA
    obtain ⟨bl, nx, k1, k2, k3, k4⟩ := hI
    have cd := tx_cell (k4.row hdb (by omega)) 0 (v := .func (.func 31) #[] #[.pointer (some ⟨fb, 0, none⟩), .pointer (some ⟨ob, 0, none⟩)]) rfl
    have K8 := Lib.hid k8
    have K9 := Lib.hid k9
    have K2 := Lib.hid k2
    have K3 := Lib.hid k3
    have K4 := Lib.hid k4
    have HOB := Lib.hid (k4.row hoq (by omega))
    have HQ := Lib.hid (fun wx => mk_neq x.1.2.V x.1.2.H x.1.1 nx.1 nx.2.1 nx.2.2 (.tmp 21) (.tmp 22) wx)
    clear k8 k9 k2 k3 k4
    by_cases hfit : mkOf x = nx
    · have hD : (!decide (x.1.2.V = nx.1 ∧ x.1.2.H = nx.2.1 ∧ x.1.1 = nx.2.2)) = false := by
        rw [← hfit]; simp [mkOf]
      rw [hD] at HQ
      have K1 := Lib.hid (fits_snoc pre x _ nx bl k1 hfit)
      have HE := Lib.hid (ext1_any fb ob (foundL f0 other bl) other x.1.2 W K3.out HOB.out)
      clear k1 hD
      gi_wp2_with (first | (refine wpListIn_exR rfl (by intro c e; cases e) (.agg (mkC x.1.2.V x.1.2.H x.1.1)) _ (ex_loadrow (x := .tmp 8) rfl rfl _ 26 K8.out Try.underlying26 rfl info_mk) ?_) | (refine wpListIn_exR rfl (by intro c e; cases e) (.agg (mkC nx.1 nx.2.1 nx.2.2)) _ (ex_loadrow (x := .tmp 7) rfl rfl _ 26 K2.out Try.underlying26 rfl info_mk) ?_) | (refine wpListIn_exR rfl (by intro c e; cases e) (.bool false) _ (ex_bin (x := .tmp 21) (y := .tmp 22) rfl rfl rfl _ (HQ.out _)) ?_) | (refine wpListIn_exR rfl (by intro c e; cases e) (.agg (tbA x.1.2)) _ (ex_loadrow (x := .tmp 9) rfl rfl _ 41 K9.out Try.underlying41 rfl info_bk) ?_))
      refine ⟨trivial, CallsIn.mono (show CallsIn (Fence.wide.inRound l) _ Try.prog _ _ W _ from callsIn_wide.2 HE.out) ?_⟩
      rintro e W2 ⟨rfl, r1, r2⟩
      have R1 := Lib.hid r1
      have R2 := Lib.hid r2
      have K92 := Lib.hid ((r2.block b9 (lt_of_block K9.out) (by have := h9; omega)).trans K9.out)
      have K22 := Lib.hid ((r2.block nb (lt_of_block K2.out) (by omega)).trans K2.out)
      have HM := Lib.hid (fun wx => mark_any x.1.2.JV x.1.2.JH x.1.2.JB x.1.2.ja x.1.2.vs.length x.1.2.jc wx)
      clear r1 r2 HE K9 K2 K3 HQ
      gi_wp2_with (first | (refine wpListIn_exR rfl (by intro c e; cases e) (.agg #[.int .i64 x.1.2.JV, .int .i64 x.1.2.JH, .string x.1.2.JB, .slice x.1.2.ja x.1.2.vs.length x.1.2.jc]) _ (ex_ldG (x := .tmp 27) (ty := 38) rfl rfl (cert_load K92.out)) ?_) | (refine ⟨trivial, CallsIn.mono (show CallsIn (Fence.wide.inRound l) _ Try.prog _ _ W2 _ from callsIn_wide.2 (HM.out W2)) ?_⟩; rintro e W3 ⟨rfl, hU3⟩; have K23 := Lib.hid ((hU3.block _ (lt_of_block K22.out)).trans K22.out); have R13 := Lib.hid ((hU3.block _ (lt_of_block R1.out)).trans R1.out); have HU3 := Lib.hid hU3; clear hU3) | (refine wpListIn_exsR rfl (by intro c e; cases e) _ (ex_storerow (c1 := mkC x.1.2.JV x.1.2.JH x.1.2.JB) rfl rfl rfl _ 26 K23.out info_mk rfl (one_mk _ _ _)) ?_))
      have hg4 := setRow_heap W3 nb _ (mkC x.1.2.JV x.1.2.JH x.1.2.JB) _ _ K23.out
      have hf4 := (setRow_other W3 nb fb (mkC x.1.2.JV x.1.2.JH x.1.2.JB) (by omega)).trans R13.out
      have hK : KeptBut (fun k => k = nb ∨ k = fb) W (W3.setRow nb (mkC x.1.2.JV x.1.2.JH x.1.2.JB)) :=
        KeptBut.trans (S := fun k => k = nb ∨ k = fb) (T := fun k => k = nb) (KeptBut.trans (T := fun _ => False) ⟨R2.out.os, R2.out.tape, R2.out.output, R2.out.size, fun k h1 h2 => R2.out.block k h1 (fun e => h2 (.inr e))⟩ (KeptBut.of_up HU3.out) (fun _ _ e => e.elim)) ⟨rfl, rfl, rfl, by simp [World.setRow], fun k _ hne => setRow_other W3 nb k _ hne⟩ (fun _ _ e => .inl e)
      exact ⟨⟨hK.size, fun k o hB h1 _ => (hK.block k (lt_of_block h1) (by omega)).trans h1⟩, KeptR.of_but hK (fun k _ e => e), bl ++ [x.1.2], jmk x.1.2, K1.out, hg4, by rw [foundL_snoc]; exact hf4, K4.out.trans (KeptR.of_but hK (fun k _ e => e))⟩
    · have hD : (!decide (x.1.2.V = nx.1 ∧ x.1.2.H = nx.2.1 ∧ x.1.1 = nx.2.2)) = true := by
        have : ¬ (x.1.2.V = nx.1 ∧ x.1.2.H = nx.2.1 ∧ x.1.1 = nx.2.2) := fun e => hfit (by unfold mkOf; rw [e.1, e.2.1, e.2.2])
        simp [this]
      rw [hD] at HQ
      have K1 := Lib.hid k1
      clear k1 hD
      gi_wp2_with (first | (refine wpListIn_exR rfl (by intro c e; cases e) (.agg (mkC x.1.2.V x.1.2.H x.1.1)) _ (ex_loadrow (x := .tmp 8) rfl rfl _ 26 K8.out Try.underlying26 rfl info_mk) ?_) | (refine wpListIn_exR rfl (by intro c e; cases e) (.agg (mkC nx.1 nx.2.1 nx.2.2)) _ (ex_loadrow (x := .tmp 7) rfl rfl _ 26 K2.out Try.underlying26 rfl info_mk) ?_) | (refine wpListIn_exR rfl (by intro c e; cases e) (.bool true) _ (ex_bin (x := .tmp 21) (y := .tmp 22) rfl rfl rfl _ (HQ.out _)) ?_))
      exact ⟨KeepsFrom.refl _ _, rfl, pre, x, bl, nx, rfl, K1.out, hfit, K2.out, K3.out, K4.out⟩
  case done =>
    rintro D ys W hD rfl hI hDD
    obtain ⟨bl, nx, k1, k2, k3, k4⟩ := hI
    have hfl : followL (walkL T n name) ((atT T name).V, (atT T name).H, name) = (bl, nx) := by
      have := follow_fits (walkL T n name) [] _ nx bl k1
      rw [List.append_nil] at this
      rw [this]; simp [followL]
    have HRG := Lib.hid (k4.row hTq.root (by omega))
    have HD4 := Lib.hid hDD
    have HNR := Lib.hid k2
    have HFR := Lib.hid k3
    have HKR := Lib.hid k4
    have HMd := Lib.hid (fun wx h => isMade_any g mb wx h)
    have HFi : Hid (∀ wx, Calls Try.prog 14 #[] wx fun e w' => e = .returned (.agg #[.int .i64 0, .int .i64 0, .string gName, .slice none 0 0]) ∧ Up wx w') := Lib.hid fun wx => first_any wx
    have HFm : Hid (∀ wx, Calls Try.prog 13 #[.agg #[.int .i64 0, .int .i64 0, .string gName, .slice none 0 0]] wx fun e w' => e = .returned (.agg (mkC 0 0 gName)) ∧ Up wx w') := Lib.hid fun wx => mark_any 0 0 gName none 0 0 wx
    have HEQ := Lib.hid (fun wx => mk_eql3 nx.1 nx.2.1 nx.2.2 0 0 gName (.tmp 33) (.tmp 35) wx)
    have HRES : Hid (decide ((followL (walkL T n name) ((atT T name).V, (atT T name).H, name)).2 = ((0 : Int), (0 : Int), gName)) = decide (nx.1 = 0 ∧ nx.2.1 = 0 ∧ nx.2.2 = gName)) := Lib.hid (by rw [hfl]; congr 1; simp only [Prod.ext_iff])
    have HFL := Lib.hid hfl
    generalize decide (nx.1 = 0 ∧ nx.2.1 = 0 ∧ nx.2.2 = gName) = DD at HEQ HRES
    clear k1 k2 k3 k4 hfl hDD
    gi_wp2
    refine wpIn_calm ?_
    refine region_alongF (ro := none) (fun wx => Up W wx) (.read 0 (.step 1 (.read 2 (.read 3 (.step 4 (.step 5 (.read 6 (.read 7 (.read 8 .nil))))))))) (by kernel_rfl) rfl (by kernel_rfl) (by kernel_rfl) (by kernel_rfl) (fun c a d v w h => absurd rfl (h.1 c)) (Up.drew1 W) ?_
    refine alongF_read (.pointer (some ⟨g, 0, none⟩)) rfl rfl (fun wx hS => ex_move (by rfl) (by rfl) wx) ?_
    change AlongF _ _ _ _ _ _ _ { tmps := #[.pointer (some ⟨g, 0, none⟩), .string name, .func (.func 31) #[] #[.pointer (some ⟨fb, 0, none⟩), .pointer (some ⟨ob, 0, none⟩)], undef, undef, .pointer (some ⟨w.heap.size, 0, none⟩), .bool false, .pointer (some ⟨nb, 0, none⟩), undef, undef, .string name, .pointer (some ⟨g, 0, none⟩), .map (some mb), .string name, .agg (tbA (atT T name)), .agg m0, .pointer (some ⟨g, 0, none⟩), .string name, .func (.func 59) #[] #[.pointer (some ⟨nb + 1 + 1, 0, none⟩), .pointer (some ⟨nb + 1, 0, none⟩)], undef, undef, undef, undef, undef, undef, undef, undef, undef, undef, undef, .pointer (some ⟨g, 0, none⟩), undef, undef, undef, undef, undef, undef, undef], defers := [{ target := .collected D, args := #[] }] } _
    refine alongF_step ?_
    refine opF_call (vs := [.pointer (some ⟨g, 0, none⟩)]) rfl rfl rfl (enters_of Try.func27 (by kernel_rfl) rfl) rfl ?_
    with_reducible refine Calls.mono (HMd.out _ (row_up HRG.out (Up.drew1 W))) ?_
    rintro e W3 ⟨rfl, hw3⟩
    refine ⟨_, rfl, by rw [hw3]; exact Up.drew1 W, ?_⟩
    rw [hw3]
    clear hw3
    change AlongF _ _ _ _ _ _ _ { tmps := #[.pointer (some ⟨g, 0, none⟩), .string name, .func (.func 31) #[] #[.pointer (some ⟨fb, 0, none⟩), .pointer (some ⟨ob, 0, none⟩)], undef, undef, .pointer (some ⟨w.heap.size, 0, none⟩), .bool false, .pointer (some ⟨nb, 0, none⟩), undef, undef, .string name, .pointer (some ⟨g, 0, none⟩), .map (some mb), .string name, .agg (tbA (atT T name)), .agg m0, .pointer (some ⟨g, 0, none⟩), .string name, .func (.func 59) #[] #[.pointer (some ⟨nb + 1 + 1, 0, none⟩), .pointer (some ⟨nb + 1, 0, none⟩)], undef, undef, undef, undef, undef, undef, undef, undef, undef, undef, undef, .pointer (some ⟨g, 0, none⟩), .bool true, undef, undef, undef, undef, undef, undef], defers := [{ target := .collected D, args := #[] }] } _
    refine alongF_read (.bool true) rfl rfl (fun wx hS => ex_move (by rfl) (by rfl) wx) ?_
    refine alongF_read (.agg (mkC nx.1 nx.2.1 nx.2.2)) rfl rfl (fun wx hS => ex_loadrow rfl rfl wx 26 ((hS.block _ (lt_of_block HNR.out)).trans HNR.out) Try.underlying26 rfl info_mk) ?_
    change AlongF _ _ _ _ _ _ _ { tmps := #[.pointer (some ⟨g, 0, none⟩), .string name, .func (.func 31) #[] #[.pointer (some ⟨fb, 0, none⟩), .pointer (some ⟨ob, 0, none⟩)], undef, undef, .pointer (some ⟨w.heap.size, 0, none⟩), .bool false, .pointer (some ⟨nb, 0, none⟩), undef, undef, .string name, .pointer (some ⟨g, 0, none⟩), .map (some mb), .string name, .agg (tbA (atT T name)), .agg m0, .pointer (some ⟨g, 0, none⟩), .string name, .func (.func 59) #[] #[.pointer (some ⟨nb + 1 + 1, 0, none⟩), .pointer (some ⟨nb + 1, 0, none⟩)], undef, undef, undef, undef, undef, undef, undef, undef, undef, undef, undef, .pointer (some ⟨g, 0, none⟩), .bool true, .bool true, .agg (mkC nx.1 nx.2.1 nx.2.2), undef, undef, undef, undef], defers := [{ target := .collected D, args := #[] }] } _
    refine alongF_step ?_
    refine opF_call (vs := []) rfl rfl rfl (enters_of Try.func14 (by kernel_rfl) rfl) rfl ?_
    with_reducible refine Calls.mono (HFi.out _) ?_
    rintro e W4 ⟨rfl, hU4⟩
    have HU4 := Lib.hid (Up.trans (Up.drew1 W) hU4)
    clear hU4
    refine ⟨_, rfl, HU4.out, ?_⟩
    change AlongF _ _ _ _ _ _ _ { tmps := #[.pointer (some ⟨g, 0, none⟩), .string name, .func (.func 31) #[] #[.pointer (some ⟨fb, 0, none⟩), .pointer (some ⟨ob, 0, none⟩)], undef, undef, .pointer (some ⟨w.heap.size, 0, none⟩), .bool false, .pointer (some ⟨nb, 0, none⟩), undef, undef, .string name, .pointer (some ⟨g, 0, none⟩), .map (some mb), .string name, .agg (tbA (atT T name)), .agg m0, .pointer (some ⟨g, 0, none⟩), .string name, .func (.func 59) #[] #[.pointer (some ⟨nb + 1 + 1, 0, none⟩), .pointer (some ⟨nb + 1, 0, none⟩)], undef, undef, undef, undef, undef, undef, undef, undef, undef, undef, undef, .pointer (some ⟨g, 0, none⟩), .bool true, .bool true, .agg (mkC nx.1 nx.2.1 nx.2.2), .agg #[.int .i64 0, .int .i64 0, .string gName, .slice none 0 0], undef, undef, undef], defers := [{ target := .collected D, args := #[] }] } _
    refine alongF_step ?_
    refine opF_call (vs := [.agg #[.int .i64 0, .int .i64 0, .string gName, .slice none 0 0]]) rfl rfl rfl (enters_of Try.func13 (by kernel_rfl) rfl) rfl ?_
    with_reducible refine Calls.mono (HFm.out _) ?_
    rintro e W5 ⟨rfl, hU5⟩
    have HU5 := Lib.hid (Up.trans HU4.out hU5)
    clear hU5
    refine ⟨_, rfl, HU5.out, ?_⟩
    change AlongF _ _ _ _ _ _ _ { tmps := #[.pointer (some ⟨g, 0, none⟩), .string name, .func (.func 31) #[] #[.pointer (some ⟨fb, 0, none⟩), .pointer (some ⟨ob, 0, none⟩)], undef, undef, .pointer (some ⟨w.heap.size, 0, none⟩), .bool false, .pointer (some ⟨nb, 0, none⟩), undef, undef, .string name, .pointer (some ⟨g, 0, none⟩), .map (some mb), .string name, .agg (tbA (atT T name)), .agg m0, .pointer (some ⟨g, 0, none⟩), .string name, .func (.func 59) #[] #[.pointer (some ⟨nb + 1 + 1, 0, none⟩), .pointer (some ⟨nb + 1, 0, none⟩)], undef, undef, undef, undef, undef, undef, undef, undef, undef, undef, undef, .pointer (some ⟨g, 0, none⟩), .bool true, .bool true, .agg (mkC nx.1 nx.2.1 nx.2.2), .agg #[.int .i64 0, .int .i64 0, .string gName, .slice none 0 0], .agg (mkC 0 0 gName), undef, undef], defers := [{ target := .collected D, args := #[] }] } _
    refine alongF_read (.bool DD) rfl rfl (fun wx hS => ex_bin rfl rfl rfl wx (HEQ.out wx)) ?_
    refine alongF_read (.bool DD) rfl rfl (fun wx hS => ex_pickt rfl (by rfl) (by rfl) wx) ?_
    refine alongF_read (.bool DD) rfl rfl (fun wx hS => ex_assign (by rfl) (by rfl) wx) ?_
    change AlongF _ _ _ _ _ _ _ { tmps := #[.pointer (some ⟨g, 0, none⟩), .string name, .func (.func 31) #[] #[.pointer (some ⟨fb, 0, none⟩), .pointer (some ⟨ob, 0, none⟩)], undef, undef, .pointer (some ⟨w.heap.size, 0, none⟩), .bool DD, .pointer (some ⟨nb, 0, none⟩), undef, undef, .string name, .pointer (some ⟨g, 0, none⟩), .map (some mb), .string name, .agg (tbA (atT T name)), .agg m0, .pointer (some ⟨g, 0, none⟩), .string name, .func (.func 59) #[] #[.pointer (some ⟨nb + 1 + 1, 0, none⟩), .pointer (some ⟨nb + 1, 0, none⟩)], undef, undef, undef, undef, undef, undef, undef, undef, undef, undef, undef, .pointer (some ⟨g, 0, none⟩), .bool true, .bool true, .agg (mkC nx.1 nx.2.1 nx.2.2), .agg #[.int .i64 0, .int .i64 0, .string gName, .slice none 0 0], .agg (mkC 0 0 gName), .bool DD, .bool DD], defers := [{ target := .collected D, args := #[] }] } _
    refine alongF_done ?_
    refine ⟨fun ch e => (by cases e), ?_⟩
    have hD5 := (HU5.out.block _ (Array.getElem?_eq_some_iff.1 HD4.out).1).trans HD4.out
    have hF5 := (HU5.out.block _ (lt_of_block HFR.out)).trans HFR.out
    have hK5 : KeptBut (fun k => k = fb) w (W5.putObj D (.deferred none)) := ⟨(HU5.out.os.trans HKR.out.os).trans hUq.os, (HU5.out.tape.trans HKR.out.tape).trans hUq.tape, (HU5.out.output.trans HKR.out.output).trans hUq.output, by simp [World.putObj]; have h1 := hUq.size; have h2 := HKR.out.size; have h3 := HU5.out.size; omega, fun k hk hne => by
      rw [World.putObj_heap_other (by omega), HU5.out.block k (by have := HKR.out.size; omega), HKR.out.low k (by omega) (by omega) (by omega)]
      exact hUq.block k hk⟩
    have hF6 : (W5.putObj D (.deferred none)).heap[fb]? = some (.cells #[.bool (foundL f0 other bl)] 4 (0, 0)) := (World.putObj_heap_other (by omega)).trans hF5
    have HK5 := Lib.hid hK5
    have HF6 := Lib.hid hF6
    clear hK5 hF6 hF5
    gi_wp2
    refine ⟨by simp, .inl ⟨_, _, rfl, run_takeDeferred hD5, ?_⟩⟩
    refine ⟨_, results_tmp rfl _ _ _, ?_, ?_, HK5.out⟩
    · rw [HRES.out]; rfl
    · rw [HFL.out]; exact HF6.out
  case stop =>
    rintro D c pre W hD hSp hI hDD
    obtain ⟨rfl, pre', x, bl, nx, rfl, k1, kne, k2, k3, k4⟩ := hI
    obtain ⟨t, ht⟩ := hSp
    have hfl : followL (walkL T n name) ((atT T name).V, (atT T name).H, name) = (bl, nx) := by
      have := follow_fits pre' (x :: t) _ nx bl k1
      rw [ht, List.append_assoc, List.singleton_append, this]
      unfold followL
      rw [if_neg kne]; simp
    clear kne ht
    have HRG := Lib.hid (k4.row hTq.root (by omega))
    have HD4 := Lib.hid hDD
    have HNR := Lib.hid k2
    have HFR := Lib.hid k3
    have HKR := Lib.hid k4
    have HMd := Lib.hid (fun wx h => isMade_any g mb wx h)
    have HFi : Hid (∀ wx, Calls Try.prog 14 #[] wx fun e w' => e = .returned (.agg #[.int .i64 0, .int .i64 0, .string gName, .slice none 0 0]) ∧ Up wx w') := Lib.hid fun wx => first_any wx
    have HFm : Hid (∀ wx, Calls Try.prog 13 #[.agg #[.int .i64 0, .int .i64 0, .string gName, .slice none 0 0]] wx fun e w' => e = .returned (.agg (mkC 0 0 gName)) ∧ Up wx w') := Lib.hid fun wx => mark_any 0 0 gName none 0 0 wx
    have HEQ := Lib.hid (fun wx => mk_eql3 nx.1 nx.2.1 nx.2.2 0 0 gName (.tmp 33) (.tmp 35) wx)
    have HRES : Hid (decide ((followL (walkL T n name) ((atT T name).V, (atT T name).H, name)).2 = ((0 : Int), (0 : Int), gName)) = decide (nx.1 = 0 ∧ nx.2.1 = 0 ∧ nx.2.2 = gName)) := Lib.hid (by rw [hfl]; congr 1; simp only [Prod.ext_iff])
    have HFL := Lib.hid hfl
    generalize decide (nx.1 = 0 ∧ nx.2.1 = 0 ∧ nx.2.2 = gName) = DD at HEQ HRES
    clear k1 k2 k3 k4 hfl hDD
    gi_wp2
    refine wpIn_calm ?_
    refine region_alongF (ro := none) (fun wx => Up W wx) (.read 0 (.step 1 (.read 2 (.read 3 (.step 4 (.step 5 (.read 6 (.read 7 (.read 8 .nil))))))))) (by kernel_rfl) rfl (by kernel_rfl) (by kernel_rfl) (by kernel_rfl) (fun c a d v w h => absurd rfl (h.1 c)) (Up.drew1 W) ?_
    refine alongF_read (.pointer (some ⟨g, 0, none⟩)) rfl rfl (fun wx hS => ex_move (by rfl) (by rfl) wx) ?_
    change AlongF _ _ _ _ _ _ _ { tmps := #[.pointer (some ⟨g, 0, none⟩), .string name, .func (.func 31) #[] #[.pointer (some ⟨fb, 0, none⟩), .pointer (some ⟨ob, 0, none⟩)], undef, undef, .pointer (some ⟨w.heap.size, 0, none⟩), .bool false, .pointer (some ⟨nb, 0, none⟩), undef, undef, .string name, .pointer (some ⟨g, 0, none⟩), .map (some mb), .string name, .agg (tbA (atT T name)), .agg m0, .pointer (some ⟨g, 0, none⟩), .string name, .func (.func 59) #[] #[.pointer (some ⟨nb + 1 + 1, 0, none⟩), .pointer (some ⟨nb + 1, 0, none⟩)], undef, undef, undef, undef, undef, undef, undef, undef, undef, undef, undef, .pointer (some ⟨g, 0, none⟩), undef, undef, undef, undef, undef, undef, undef], defers := [{ target := .collected D, args := #[] }] } _
    refine alongF_step ?_
    refine opF_call (vs := [.pointer (some ⟨g, 0, none⟩)]) rfl rfl rfl (enters_of Try.func27 (by kernel_rfl) rfl) rfl ?_
    with_reducible refine Calls.mono (HMd.out _ (row_up HRG.out (Up.drew1 W))) ?_
    rintro e W3 ⟨rfl, hw3⟩
    refine ⟨_, rfl, by rw [hw3]; exact Up.drew1 W, ?_⟩
    rw [hw3]
    clear hw3
    change AlongF _ _ _ _ _ _ _ { tmps := #[.pointer (some ⟨g, 0, none⟩), .string name, .func (.func 31) #[] #[.pointer (some ⟨fb, 0, none⟩), .pointer (some ⟨ob, 0, none⟩)], undef, undef, .pointer (some ⟨w.heap.size, 0, none⟩), .bool false, .pointer (some ⟨nb, 0, none⟩), undef, undef, .string name, .pointer (some ⟨g, 0, none⟩), .map (some mb), .string name, .agg (tbA (atT T name)), .agg m0, .pointer (some ⟨g, 0, none⟩), .string name, .func (.func 59) #[] #[.pointer (some ⟨nb + 1 + 1, 0, none⟩), .pointer (some ⟨nb + 1, 0, none⟩)], undef, undef, undef, undef, undef, undef, undef, undef, undef, undef, undef, .pointer (some ⟨g, 0, none⟩), .bool true, undef, undef, undef, undef, undef, undef], defers := [{ target := .collected D, args := #[] }] } _
    refine alongF_read (.bool true) rfl rfl (fun wx hS => ex_move (by rfl) (by rfl) wx) ?_
    refine alongF_read (.agg (mkC nx.1 nx.2.1 nx.2.2)) rfl rfl (fun wx hS => ex_loadrow rfl rfl wx 26 ((hS.block _ (lt_of_block HNR.out)).trans HNR.out) Try.underlying26 rfl info_mk) ?_
    change AlongF _ _ _ _ _ _ _ { tmps := #[.pointer (some ⟨g, 0, none⟩), .string name, .func (.func 31) #[] #[.pointer (some ⟨fb, 0, none⟩), .pointer (some ⟨ob, 0, none⟩)], undef, undef, .pointer (some ⟨w.heap.size, 0, none⟩), .bool false, .pointer (some ⟨nb, 0, none⟩), undef, undef, .string name, .pointer (some ⟨g, 0, none⟩), .map (some mb), .string name, .agg (tbA (atT T name)), .agg m0, .pointer (some ⟨g, 0, none⟩), .string name, .func (.func 59) #[] #[.pointer (some ⟨nb + 1 + 1, 0, none⟩), .pointer (some ⟨nb + 1, 0, none⟩)], undef, undef, undef, undef, undef, undef, undef, undef, undef, undef, undef, .pointer (some ⟨g, 0, none⟩), .bool true, .bool true, .agg (mkC nx.1 nx.2.1 nx.2.2), undef, undef, undef, undef], defers := [{ target := .collected D, args := #[] }] } _
    refine alongF_step ?_
    refine opF_call (vs := []) rfl rfl rfl (enters_of Try.func14 (by kernel_rfl) rfl) rfl ?_
    with_reducible refine Calls.mono (HFi.out _) ?_
    rintro e W4 ⟨rfl, hU4⟩
    have HU4 := Lib.hid (Up.trans (Up.drew1 W) hU4)
    clear hU4
    refine ⟨_, rfl, HU4.out, ?_⟩
    change AlongF _ _ _ _ _ _ _ { tmps := #[.pointer (some ⟨g, 0, none⟩), .string name, .func (.func 31) #[] #[.pointer (some ⟨fb, 0, none⟩), .pointer (some ⟨ob, 0, none⟩)], undef, undef, .pointer (some ⟨w.heap.size, 0, none⟩), .bool false, .pointer (some ⟨nb, 0, none⟩), undef, undef, .string name, .pointer (some ⟨g, 0, none⟩), .map (some mb), .string name, .agg (tbA (atT T name)), .agg m0, .pointer (some ⟨g, 0, none⟩), .string name, .func (.func 59) #[] #[.pointer (some ⟨nb + 1 + 1, 0, none⟩), .pointer (some ⟨nb + 1, 0, none⟩)], undef, undef, undef, undef, undef, undef, undef, undef, undef, undef, undef, .pointer (some ⟨g, 0, none⟩), .bool true, .bool true, .agg (mkC nx.1 nx.2.1 nx.2.2), .agg #[.int .i64 0, .int .i64 0, .string gName, .slice none 0 0], undef, undef, undef], defers := [{ target := .collected D, args := #[] }] } _
    refine alongF_step ?_
    refine opF_call (vs := [.agg #[.int .i64 0, .int .i64 0, .string gName, .slice none 0 0]]) rfl rfl rfl (enters_of Try.func13 (by kernel_rfl) rfl) rfl ?_
    with_reducible refine Calls.mono (HFm.out _) ?_
    rintro e W5 ⟨rfl, hU5⟩
    have HU5 := Lib.hid (Up.trans HU4.out hU5)
    clear hU5
    refine ⟨_, rfl, HU5.out, ?_⟩
    change AlongF _ _ _ _ _ _ _ { tmps := #[.pointer (some ⟨g, 0, none⟩), .string name, .func (.func 31) #[] #[.pointer (some ⟨fb, 0, none⟩), .pointer (some ⟨ob, 0, none⟩)], undef, undef, .pointer (some ⟨w.heap.size, 0, none⟩), .bool false, .pointer (some ⟨nb, 0, none⟩), undef, undef, .string name, .pointer (some ⟨g, 0, none⟩), .map (some mb), .string name, .agg (tbA (atT T name)), .agg m0, .pointer (some ⟨g, 0, none⟩), .string name, .func (.func 59) #[] #[.pointer (some ⟨nb + 1 + 1, 0, none⟩), .pointer (some ⟨nb + 1, 0, none⟩)], undef, undef, undef, undef, undef, undef, undef, undef, undef, undef, undef, .pointer (some ⟨g, 0, none⟩), .bool true, .bool true, .agg (mkC nx.1 nx.2.1 nx.2.2), .agg #[.int .i64 0, .int .i64 0, .string gName, .slice none 0 0], .agg (mkC 0 0 gName), undef, undef], defers := [{ target := .collected D, args := #[] }] } _
    refine alongF_read (.bool DD) rfl rfl (fun wx hS => ex_bin rfl rfl rfl wx (HEQ.out wx)) ?_
    refine alongF_read (.bool DD) rfl rfl (fun wx hS => ex_pickt rfl (by rfl) (by rfl) wx) ?_
    refine alongF_read (.bool DD) rfl rfl (fun wx hS => ex_assign (by rfl) (by rfl) wx) ?_
    change AlongF _ _ _ _ _ _ _ { tmps := #[.pointer (some ⟨g, 0, none⟩), .string name, .func (.func 31) #[] #[.pointer (some ⟨fb, 0, none⟩), .pointer (some ⟨ob, 0, none⟩)], undef, undef, .pointer (some ⟨w.heap.size, 0, none⟩), .bool DD, .pointer (some ⟨nb, 0, none⟩), undef, undef, .string name, .pointer (some ⟨g, 0, none⟩), .map (some mb), .string name, .agg (tbA (atT T name)), .agg m0, .pointer (some ⟨g, 0, none⟩), .string name, .func (.func 59) #[] #[.pointer (some ⟨nb + 1 + 1, 0, none⟩), .pointer (some ⟨nb + 1, 0, none⟩)], undef, undef, undef, undef, undef, undef, undef, undef, undef, undef, undef, .pointer (some ⟨g, 0, none⟩), .bool true, .bool true, .agg (mkC nx.1 nx.2.1 nx.2.2), .agg #[.int .i64 0, .int .i64 0, .string gName, .slice none 0 0], .agg (mkC 0 0 gName), .bool DD, .bool DD], defers := [{ target := .collected D, args := #[] }] } _
    refine alongF_done ?_
    refine ⟨fun ch e => (by cases e), ?_⟩
    have hD5 := (HU5.out.block _ (Array.getElem?_eq_some_iff.1 HD4.out).1).trans HD4.out
    have hF5 := (HU5.out.block _ (lt_of_block HFR.out)).trans HFR.out
    have hK5 : KeptBut (fun k => k = fb) w (W5.putObj D (.deferred none)) := ⟨(HU5.out.os.trans HKR.out.os).trans hUq.os, (HU5.out.tape.trans HKR.out.tape).trans hUq.tape, (HU5.out.output.trans HKR.out.output).trans hUq.output, by simp [World.putObj]; have h1 := hUq.size; have h2 := HKR.out.size; have h3 := HU5.out.size; omega, fun k hk hne => by
      rw [World.putObj_heap_other (by omega), HU5.out.block k (by have := HKR.out.size; omega), HKR.out.low k (by omega) (by omega) (by omega)]
      exact hUq.block k hk⟩
    have hF6 : (W5.putObj D (.deferred none)).heap[fb]? = some (.cells #[.bool (foundL f0 other bl)] 4 (0, 0)) := (World.putObj_heap_other (by omega)).trans hF5
    have HK5 := Lib.hid hK5
    have HF6 := Lib.hid hF6
    clear hK5 hF6 hF5
    gi_wp2
    refine ⟨by simp, .inl ⟨_, _, rfl, run_takeDeferred hD5, ?_⟩⟩
    refine ⟨_, results_tmp rfl _ _ _, ?_, ?_, HK5.out⟩
    · rw [HRES.out]; rfl
    · rw [HFL.out]; exact HF6.out
end
end Go.Proofs.Ytnipkhgaceicbaa
