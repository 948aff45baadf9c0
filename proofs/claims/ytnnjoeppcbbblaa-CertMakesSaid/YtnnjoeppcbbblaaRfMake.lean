import Derived.Test.YtnnjoeppcbbblaaRfSel
/-
  The reference's Make, of whatever statements.
-/
namespace Go.Proofs.Ytnnjoeppcbbblaa
set_option maxRecDepth 100000
section
set_option linter.unusedVariables false
open Go.RowKit Go.Sort Go.Lib

theorem VArg.signer {W : World} {b off n cap : Nat} {xs : List Vs} (h : VArg W (.slice (some ⟨b, off, none⟩) n cap) xs) {i : Nat} {x : Vs} (hx : xs[i]? = some x) : W.cell? ⟨b, off + i * 7 + 5, none⟩ = some (.int .i64 (vsK x)) := by
  obtain ⟨a', cap', e, h1, h2, h3⟩ := h
  cases e
  have hi : i < xs.length := (List.getElem?_eq_some_iff.1 hx).1
  rcases h3 with rfl | ⟨b', off', e, h4⟩
  · simp at hi
  · cases e
    rw [Nat.add_assoc, h4 (i * 7 + 5) (by omega), vsF_get xs (i * 7 + 5) (by omega), get_flatK _ _ _ _ (by simp; omega)]
    have e1 : (i * 7 + 5) / 7 = i := by omega
    have e2 : (i * 7 + 5) % 7 = 5 := by omega
    rw [e1, e2]
    have : xs.toArray[i]! = x := by simp [Array.getElem!_eq_getD, Array.getD_eq_getD_getElem?, hx]
    rw [this]; rfl

/-- what has been gathered -/
structure Gath (wb : World) (p : Vs → Bool) (xs : List Vs) (i : Nat) (vr : Value) (D : List Vs) (wr : World) : Prop where
  own : wr.ownsRow wb.heap.size 38 7 vr D.length (vsF D)
  up : Up wb wr
  nd : Ndk vsK D
  fst : ∀ z, fk vsK z D = fk vsK z ((xs.take i).filter p)
  len : D.length ≤ i
theorem Gath.later {wb : World} {p : Vs → Bool} {xs : List Vs} {i : Nat} {vr : Value} {D : List Vs} {wr wx : World} (h : Gath wb p xs i vr D wr) (hu : Up wr wx) : Gath wb p xs i vr D wx :=
  ⟨ownsRow_up h.own hu, Up.trans h.up hu, h.nd, h.fst, h.len⟩
theorem tk_next {xs : List Vs} {i : Nat} {x : Vs} (hx : xs[i]? = some x) : xs.take (i + 1) = xs.take i ++ [x] := by
  obtain ⟨hi, e⟩ := List.getElem?_eq_some_iff.1 hx
  rw [List.take_succ_eq_append_getElem hi, e]
theorem Gath.skip {wb : World} {p : Vs → Bool} {xs : List Vs} {i : Nat} {vr : Value} {D : List Vs} {wr : World} (h : Gath wb p xs i vr D wr) {x : Vs} (hx : xs[i]? = some x) (hp : p x = false) : Gath wb p xs (i + 1) vr D wr :=
  ⟨h.own, h.up, h.nd, fun z => by rw [h.fst, tk_next hx, List.filter_append]; simp [hp], by have := h.len; omega⟩
theorem Gath.old {wb : World} {p : Vs → Bool} {xs : List Vs} {i : Nat} {vr : Value} {D : List Vs} {wr : World} (h : Gath wb p xs i vr D wr) {x y : Vs} (hx : xs[i]? = some x) (hp : p x = true) (hy : y ∈ D) (hk : vsK y = vsK x) : Gath wb p xs (i + 1) vr D wr :=
  ⟨h.own, h.up, h.nd, fun z => by rw [tk_next hx, List.filter_append, List.filter_cons_of_pos (by simpa using hp)]; exact gather_old vsK h.fst hy hk z, by have := h.len; omega⟩
theorem Gath.new {wb : World} {p : Vs → Bool} {xs : List Vs} {i : Nat} {vr vr' : Value} {D : List Vs} {wr wx : World} (h : Gath wb p xs i vr D wr) {x : Vs} (hx : xs[i]? = some x) (hp : p x = true) (hk : ∀ y ∈ D, vsK y ≠ vsK x)
    (ho : wx.ownsRow wb.heap.size 38 7 vr' (D.length + 1) (vsF D ++ vsC x)) (hu : Up wb wx) : Gath wb p xs (i + 1) vr' (D ++ [x]) wx := by
  have hg := gather_new vsK h.nd h.fst hk
  refine ⟨?_, hu, hg.1, fun z => by rw [tk_next hx, List.filter_append, List.filter_cons_of_pos (by simpa using hp)]; exact hg.2 z, by have := h.len; simp; omega⟩
  have e : vsF [x] = vsC x := by unfold vsF; simp
  rw [vsF_append, e, List.length_append]
  exact ho

theorem all_f {D : List Vs} {k : Nat} {y : Vs} {G : Int} (h : D.take (k + 1) = D.take k ++ [y]) (hb : ¬ ∀ z ∈ D.take k, vsK z ≠ G) : false = true ↔ ∀ z ∈ D.take (k + 1), vsK z ≠ G := by
  rw [h]
  exact ⟨fun e => (by cases e), fun e => absurd (fun z hz => e z (List.mem_append_left _ hz)) hb⟩
theorem all_t {D : List Vs} {k : Nat} {y : Vs} {G Gy : Int} {NB : Bool} (h : D.take (k + 1) = D.take k ++ [y]) (hb : ∀ z ∈ D.take k, vsK z ≠ G) (hy : vsK y = Gy) (hn : (Gy != G) = NB) : NB = true ↔ ∀ z ∈ D.take (k + 1), vsK z ≠ G := by
  rw [h, ← hn, bne_iff_ne]
  constructor
  · intro e z hz
    rcases List.mem_append.1 hz with hz | hz
    · exact hb z hz
    · rw [List.mem_singleton.1 hz, hy]; exact e
  · intro e
    have := e y (List.mem_append_right _ (List.mem_singleton.2 rfl))
    rwa [hy] at this

theorem take_one {α : Type} [Inhabited α] (key : α → Int) {D : List α} : ∀ y ∈ D.take 1, key (D[0]?.getD default) ≤ key y := by
  cases D with
  | nil => intro y hy; simp at hy
  | cons d t => intro y hy; simp at hy; subst hy; simp
theorem least_step {α : Type} [Inhabited α] (key : α → Int) {D : List α} {j bst : Nat} {y z : α} {Gy Gz : Int} (hy : D[j]? = some y) (hz : D[bst]? = some z) (hGy : key y = Gy) (hGz : key z = Gz) (h : ∀ u ∈ D.take j, key (D[bst]?.getD default) ≤ key u) :
    (Gy < Gz → ∀ u ∈ D.take (j + 1), key (D[j]?.getD default) ≤ key u) ∧ (¬ Gy < Gz → ∀ u ∈ D.take (j + 1), key (D[bst]?.getD default) ≤ key u) := by
  obtain ⟨hj, e⟩ := List.getElem?_eq_some_iff.1 hy
  rw [List.take_succ_eq_append_getElem hj, e, hy, hz]
  rw [hz] at h
  simp only [Option.getD_some] at h ⊢
  refine ⟨fun hl u hu => ?_, fun hl u hu => ?_⟩
  · rcases List.mem_append.1 hu with hu | hu
    · have := h u hu; omega
    · rw [List.mem_singleton.1 hu]; exact Int.le_refl _
  · rcases List.mem_append.1 hu with hu | hu
    · exact h u hu
    · rw [List.mem_singleton.1 hu]; omega
theorem bin_lss (x y : Operand) (a b : Int) (c : Bool) (hc : c = decide (a < b)) (w : World) : (do eqGuard .lss 3 x y (.int .i64 a) (.int .i64 b); binOp .lss 3 (.int .i64 a) (.int .i64 b) : Sem Value).run Try.prog w = .ok (.bool c) w := by
  subst hc
  simp [eqGuard, go_sem]
/-- what the reference's Make answers -/
structure RefP (w : World) (xs : List Vs) (V H : Int) (B : ByteArray) (q : Int) (e : Ending) (w' : World) : Prop where
  ex : ∀ R, Firsts vsK (xs.filter (vsOf V H B)) R → (q < 1 ∨ (R.length : Int) < q → e = .returned (.tuple #[.agg noCt, .bool false])) ∧
    (∀ qn : Nat, q = qn → 1 ≤ qn → qn ≤ R.length → ∃ (a : Option Addr) (cap : Nat), e = .returned (.tuple #[.agg #[.int .i64 V, .int .i64 H, .string B, .slice a qn cap], .bool true]) ∧ VArg w' (.slice a qn cap) (R.take qn))
  up : Up w w'

set_option maxHeartbeats 16000000 in
theorem refMake_any (lv : Value) (xs : List Vs) (V H : Int) (B : ByteArray) (q : Int) (w : World) (hl : VArg w lv xs) (hb : xs.length * 72 ≤ 140737488355328) (hq : -9223372036854775808 ≤ q ∧ q ≤ 9223372036854775807) :
    Calls Try.prog 6 #[lv, .agg #[.int .i64 V, .int .i64 H, .string B], .int .i64 q] w (RefP w xs V H B q) := by
  obtain ⟨i0, hi0, hz0, hz1, hz2⟩ := info_parts_any info_vts
  obtain ⟨a, n, cap, rfl, hn⟩ : ∃ a n cap, lv = .slice a n cap ∧ xs.length = n := by obtain ⟨a, cap, e, _⟩ := hl; exact ⟨a, _, cap, e, rfl⟩
  have HLV := Lib.hid hl
  have HN := Lib.hid hn
  rw [hn] at hb
  have hma := heap_alloc_new w (.cells #[.int .i64 V, .int .i64 H, .string B] 24)
  have u1 := Up.alloc (Up.refl w) (.cells #[.int .i64 V, .int .i64 H, .string B] 24)
  have u2 := Up.alloc (Up.refl (w.alloc (.cells #[.int .i64 V, .int .i64 H, .string B] 24))) (.cells #[.int .i64 0, .int .i64 0, .string ⟨#[]⟩, .slice none 0 0] 26)
  have hmb := (u2.block _ (lt_of_block hma)).trans hma
  have hcb := heap_alloc_new (w.alloc (.cells #[.int .i64 V, .int .i64 H, .string B] 24)) (.cells #[.int .i64 0, .int .i64 0, .string ⟨#[]⟩, .slice none 0 0] 26)
  rw [show (w.alloc (.cells #[.int .i64 V, .int .i64 H, .string B] 24)).heap.size = w.heap.size + 1 by simp] at hcb
  have u12 := Up.trans u1 u2
  have s2 : ((w.alloc (.cells #[.int .i64 V, .int .i64 H, .string B] 24)).alloc (.cells #[.int .i64 0, .int .i64 0, .string ⟨#[]⟩, .slice none 0 0] 26)).heap.size = w.heap.size + 2 := by simp
  obtain ⟨c0, c1, c2⟩ := mk_cells hmb
  have u3 := Up.alloc (Up.refl ((w.alloc (.cells #[.int .i64 V, .int .i64 H, .string B] 24)).alloc (.cells #[.int .i64 0, .int .i64 0, .string ⟨#[]⟩, .slice none 0 0] 26))) (.cells #[.int .i64 V, .int .i64 H, .string B, .slice none 0 0] 26)
  have hc3 := heap_alloc_new ((w.alloc (.cells #[.int .i64 V, .int .i64 H, .string B] 24)).alloc (.cells #[.int .i64 0, .int .i64 0, .string ⟨#[]⟩, .slice none 0 0] 26)) (.cells #[.int .i64 V, .int .i64 H, .string B, .slice none 0 0] 26)
  rw [s2] at hc3
  have HM3 := Lib.hid ((u3.block _ (lt_of_block hmb)).trans hmb)
  have HR3 := Lib.hid ((u3.block _ (lt_of_block hcb)).trans hcb)
  have HC3 := Lib.hid hc3
  have HU3 := Lib.hid (Up.trans u12 u3)
  have s3 : (((w.alloc (.cells #[.int .i64 V, .int .i64 H, .string B] 24)).alloc (.cells #[.int .i64 0, .int .i64 0, .string ⟨#[]⟩, .slice none 0 0] 26)).alloc (.cells #[.int .i64 V, .int .i64 H, .string B, .slice none 0 0] 26)).heap.size = w.heap.size + 3 := by simp
  have HS3 := Lib.hid s3
  clear u1 u2 hma hmb hcb u12 s2 u3 hc3 s3 hl hn
  go_enter Try.func6, Try.ntmps6
  go_wp2
  clear c0 c1 c2
  generalize ((w.alloc (.cells #[.int .i64 V, .int .i64 H, .string B] 24)).alloc (.cells #[.int .i64 0, .int .i64 0, .string ⟨#[]⟩, .slice none 0 0] 26)).alloc (.cells #[.int .i64 V, .int .i64 H, .string B, .slice none 0 0] 26) = wb at HM3 HR3 HC3 HU3 HS3 ⊢
  go_loopw [9, 10] (fun vr vi wr => ∃ (i : Nat) (ra : Option Addr) (rc : Nat) (D : List Vs), vr = .slice ra D.length rc ∧ vi = .int .i64 (i : Nat) ∧ i ≤ n ∧ D.length ≤ i ∧ Hid (Gath wb (vsOf V H B) xs i (.slice ra D.length rc) D wr))
    (fun _ vi _ => n - (intOf vi).toNat)
  case atStart => exact ⟨0, none, 0, [], rfl, rfl, Nat.zero_le _, Nat.le_refl _, Lib.hid ⟨⟨rfl, .inl ⟨rfl, rfl⟩⟩, Up.refl _, List.Pairwise.nil, fun _ => rfl, Nat.le_refl _⟩⟩
  case round =>
    obtain ⟨i, ra, rc, D, rfl, rfl, hi, hDi, HG⟩ := hrel
    by_cases hlt : i < n
    · have hz : (i : Int) < (n : Int) := by omega
      obtain ⟨x, hx⟩ : ∃ x, xs[i]? = some x := ⟨xs[i]'(by have := HN.out; omega), List.getElem?_eq_getElem _⟩
      obtain ⟨b, off, hb1⟩ := (HLV.out).ptr (by have := HN.out; omega)
      subst hb1
      have HX := Lib.hid hx
      have Hl := Lib.hid ((HLV.out.up (Up.trans HU3.out HG.out.up)).load hx)
      clear hx
      have HB0 := Lib.hid (heap_alloc_new wr (.cells (vsA x) 38))
      have HG1 := Lib.hid (HG.out.later (Up.alloc (Up.refl wr) (.cells (vsA x) 38)))
      have HM4 := Lib.hid ((HG1.out.up.block _ (lt_of_block HM3.out)).trans HM3.out)
      obtain ⟨⟨K, V1, H1, BL, T, G⟩, SG⟩ := x
      have hva : vsA (⟨K, V1, H1, BL, T, G⟩, SG) = #[.int .i64 K, .int .i64 V1, .int .i64 H1, .string (strOfNums BL), .int .i64 T, .int .i64 G, .string SG] := rfl
      have HBL : Hid ((wr.alloc (.cells (vsA (⟨K, V1, H1, BL, T, G⟩, SG)) 38)).heap[wr.heap.size]? = some (.cells #[.int .i64 K, .int .i64 V1, .int .i64 H1, .string (strOfNums BL), .int .i64 T, .int .i64 G, .string SG] 38 (0, 0))) := HB0.out
      have HPX : Hid (∀ b : Bool, b = (decide (K = 1) && decide (V1 = V ∧ H1 = H ∧ strOfNums BL = B)) → vsOf V H B (⟨K, V1, H1, BL, T, G⟩, SG) = b) := fun b h => h.symm
      generalize strOfNums BL = BS at HBL HPX
      clear hva
      generalize hxx : ((⟨K, V1, H1, BL, T, G⟩, SG) : Vs) = x at Hl HX HB0 HBL HG1 HM4 HPX
      have hkx : vsK x = G := by rw [← hxx]; rfl
      have HKX := Lib.hid hkx
      clear hxx hkx
      by_cases hall : K = 1 ∧ V1 = V ∧ H1 = H ∧ BS = B
      · obtain ⟨rfl, rfl, rfl, rfl⟩ := hall
        have hpx := HPX.out true (by simp)
        have HP := Lib.hid hpx
        clear hpx HPX
        go_wp2_with (first | (refine wpList_ex rfl (.agg (vsA x)) wr (ex_ldv (x := .tmp 32) rfl rfl Hl.out) ?_) | (refine wpList_exs rfl _ (ex_fill (x := .tmp 11) (y := .tmp 33) (W := wr) rfl rfl rfl rfl) ?_; generalize wr.alloc (.cells (vsA x) 38) = wv at HB0 HBL HG1 HM4 ⊢; generalize wr.heap.size = bx at HB0 HBL ⊢; obtain ⟨c0, c1, c2⟩ := mk_cells HM4.out; obtain ⟨d0, d1, d2, d3, d4, d5, d6⟩ := vt_cells HBL.out))

        go_loopw [12, 13] (fun v12 v13 wr2 => ∃ (k : Nat) (bb : Bool), v12 = .bool bb ∧ v13 = .int .i64 (k : Nat) ∧ k ≤ D.length ∧ Hid (Up wv wr2) ∧ Hid (bb = true ↔ ∀ y ∈ D.take k, vsK y ≠ G))
          (fun _ v13 _ => D.length - (intOf v13).toNat)
        case atStart => exact ⟨0, true, rfl, rfl, Nat.zero_le _, Lib.hid (Up.refl _), Lib.hid ⟨fun _ y hy => by simp at hy, fun _ => rfl⟩⟩
        case round =>
          obtain ⟨k, bb, rfl, rfl, hk, HU, HBB⟩ := hrel
          by_cases hkl : k < D.length
          · have hkz : (k : Int) < (D.length : Int) := by omega
            obtain ⟨y, hy⟩ : ∃ y, D[k]? = some y := ⟨D[k], List.getElem?_eq_getElem _⟩
            have hdt := tk_next hy
            have HDT := Lib.hid hdt
            clear hdt
            cases bb with
            | false =>
              have HBN : Hid (¬ ∀ z ∈ D.take k, vsK z ≠ G) := fun h => by have := HBB.out.2 h; cases this
              clear HBB
              generalize wr = wz at HU ⊢
              go_wp2_with fail
              refine region_alongK (fun _ => True) (.read 0 (.read 1 (.read 2 (.read 3 (.read 4 (.read 5 (.read 6 (.read 7 (.read 8 (.read 9 (.read 10 (.read 11 (.nil))))))))))))) (by kernel_rfl) rfl (by kernel_rfl) (by kernel_rfl) (fun c a d v w h => by cases d <;> exact h) (trivial) ?_
              refine alongK_read (.bool false) rfl rfl (fun wx hS => ex_move (by rfl) (by rfl) wx) ?_
              change AlongK _ _ _ _ _ { tmps := #[_, _, _, _, _, _, _, _, _, _, _, _, .bool false, .int .i64 (k : Int), _, _, _, _, _, _, _, _, _, _, _, _, _, _, _, _, _, _, _, _, _, _, _, _, _, _, _, _, _, _, _, _, _, _, _, _, _, _, _, _, _, _, _, _, _, _, _, _, _, _, .bool false, _, _, _, _, _, _, _, _, _, _, _, _, _, _, _, _, _, _, _, _, _, _, _, _, _, _, _, _, _, _, _, _, _, _, _, _, _, _, _, _, _, _, _, _, _, _, _, _, _, _, _, _, _, _, _, _, _, _, _, _, _, _, _, _, _, _, _, _], defers := _ } _
              refine alongK_read (.bool false) rfl rfl (fun wx hS => ex_move (by rfl) (by rfl) wx) ?_
              change AlongK _ _ _ _ _ { tmps := #[_, _, _, _, _, _, _, _, _, _, _, _, .bool false, .int .i64 (k : Int), _, _, _, _, _, _, _, _, _, _, _, _, _, _, _, _, _, _, _, _, _, _, _, _, _, _, _, _, _, _, _, _, _, _, _, _, _, _, _, _, _, _, _, _, _, _, _, _, _, _, .bool false, .bool false, _, _, _, _, _, _, _, _, _, _, _, _, _, _, _, _, _, _, _, _, _, _, _, _, _, _, _, _, _, _, _, _, _, _, _, _, _, _, _, _, _, _, _, _, _, _, _, _, _, _, _, _, _, _, _, _, _, _, _, _, _, _, _, _, _, _, _], defers := _ } _
              refine alongK_skip rfl rfl ?_
              change AlongK _ _ _ _ _ { tmps := #[_, _, _, _, _, _, _, _, _, _, _, _, .bool false, .int .i64 (k : Int), _, _, _, _, _, _, _, _, _, _, _, _, _, _, _, _, _, _, _, _, _, _, _, _, _, _, _, _, _, _, _, _, _, _, _, _, _, _, _, _, _, _, _, _, _, _, _, _, _, _, .bool false, .bool false, undef, _, _, _, _, _, _, _, _, _, _, _, _, _, _, _, _, _, _, _, _, _, _, _, _, _, _, _, _, _, _, _, _, _, _, _, _, _, _, _, _, _, _, _, _, _, _, _, _, _, _, _, _, _, _, _, _, _, _, _, _, _, _, _, _, _, _], defers := _ } _
              refine alongK_skip rfl rfl ?_
              change AlongK _ _ _ _ _ { tmps := #[_, _, _, _, _, _, _, _, _, _, _, _, .bool false, .int .i64 (k : Int), _, _, _, _, _, _, _, _, _, _, _, _, _, _, _, _, _, _, _, _, _, _, _, _, _, _, _, _, _, _, _, _, _, _, _, _, _, _, _, _, _, _, _, _, _, _, _, _, _, _, .bool false, .bool false, undef, undef, _, _, _, _, _, _, _, _, _, _, _, _, _, _, _, _, _, _, _, _, _, _, _, _, _, _, _, _, _, _, _, _, _, _, _, _, _, _, _, _, _, _, _, _, _, _, _, _, _, _, _, _, _, _, _, _, _, _, _, _, _, _, _, _, _], defers := _ } _
              refine alongK_skip rfl rfl ?_
              change AlongK _ _ _ _ _ { tmps := #[_, _, _, _, _, _, _, _, _, _, _, _, .bool false, .int .i64 (k : Int), _, _, _, _, _, _, _, _, _, _, _, _, _, _, _, _, _, _, _, _, _, _, _, _, _, _, _, _, _, _, _, _, _, _, _, _, _, _, _, _, _, _, _, _, _, _, _, _, _, _, .bool false, .bool false, undef, undef, undef, _, _, _, _, _, _, _, _, _, _, _, _, _, _, _, _, _, _, _, _, _, _, _, _, _, _, _, _, _, _, _, _, _, _, _, _, _, _, _, _, _, _, _, _, _, _, _, _, _, _, _, _, _, _, _, _, _, _, _, _, _, _, _, _], defers := _ } _
              refine alongK_skip rfl rfl ?_
              change AlongK _ _ _ _ _ { tmps := #[_, _, _, _, _, _, _, _, _, _, _, _, .bool false, .int .i64 (k : Int), _, _, _, _, _, _, _, _, _, _, _, _, _, _, _, _, _, _, _, _, _, _, _, _, _, _, _, _, _, _, _, _, _, _, _, _, _, _, _, _, _, _, _, _, _, _, _, _, _, _, .bool false, .bool false, undef, undef, undef, undef, _, _, _, _, _, _, _, _, _, _, _, _, _, _, _, _, _, _, _, _, _, _, _, _, _, _, _, _, _, _, _, _, _, _, _, _, _, _, _, _, _, _, _, _, _, _, _, _, _, _, _, _, _, _, _, _, _, _, _, _, _, _, _], defers := _ } _
              refine alongK_skip rfl rfl ?_
              change AlongK _ _ _ _ _ { tmps := #[_, _, _, _, _, _, _, _, _, _, _, _, .bool false, .int .i64 (k : Int), _, _, _, _, _, _, _, _, _, _, _, _, _, _, _, _, _, _, _, _, _, _, _, _, _, _, _, _, _, _, _, _, _, _, _, _, _, _, _, _, _, _, _, _, _, _, _, _, _, _, .bool false, .bool false, undef, undef, undef, undef, undef, _, _, _, _, _, _, _, _, _, _, _, _, _, _, _, _, _, _, _, _, _, _, _, _, _, _, _, _, _, _, _, _, _, _, _, _, _, _, _, _, _, _, _, _, _, _, _, _, _, _, _, _, _, _, _, _, _, _, _, _, _, _], defers := _ } _
              refine alongK_skip rfl rfl ?_
              change AlongK _ _ _ _ _ { tmps := #[_, _, _, _, _, _, _, _, _, _, _, _, .bool false, .int .i64 (k : Int), _, _, _, _, _, _, _, _, _, _, _, _, _, _, _, _, _, _, _, _, _, _, _, _, _, _, _, _, _, _, _, _, _, _, _, _, _, _, _, _, _, _, _, _, _, _, _, _, _, _, .bool false, .bool false, undef, undef, undef, undef, undef, undef, _, _, _, _, _, _, _, _, _, _, _, _, _, _, _, _, _, _, _, _, _, _, _, _, _, _, _, _, _, _, _, _, _, _, _, _, _, _, _, _, _, _, _, _, _, _, _, _, _, _, _, _, _, _, _, _, _, _, _, _, _], defers := _ } _
              refine alongK_skip rfl rfl ?_
              change AlongK _ _ _ _ _ { tmps := #[_, _, _, _, _, _, _, _, _, _, _, _, .bool false, .int .i64 (k : Int), _, _, _, _, _, _, _, _, _, _, _, _, _, _, _, _, _, _, _, _, _, _, _, _, _, _, _, _, _, _, _, _, _, _, _, _, _, _, _, _, _, _, _, _, _, _, _, _, _, _, .bool false, .bool false, undef, undef, undef, undef, undef, undef, undef, _, _, _, _, _, _, _, _, _, _, _, _, _, _, _, _, _, _, _, _, _, _, _, _, _, _, _, _, _, _, _, _, _, _, _, _, _, _, _, _, _, _, _, _, _, _, _, _, _, _, _, _, _, _, _, _, _, _, _, _], defers := _ } _
              refine alongK_skip rfl rfl ?_
              change AlongK _ _ _ _ _ { tmps := #[_, _, _, _, _, _, _, _, _, _, _, _, .bool false, .int .i64 (k : Int), _, _, _, _, _, _, _, _, _, _, _, _, _, _, _, _, _, _, _, _, _, _, _, _, _, _, _, _, _, _, _, _, _, _, _, _, _, _, _, _, _, _, _, _, _, _, _, _, _, _, .bool false, .bool false, undef, undef, undef, undef, undef, undef, undef, undef, _, _, _, _, _, _, _, _, _, _, _, _, _, _, _, _, _, _, _, _, _, _, _, _, _, _, _, _, _, _, _, _, _, _, _, _, _, _, _, _, _, _, _, _, _, _, _, _, _, _, _, _, _, _, _, _, _, _, _], defers := _ } _
              refine alongK_read (.bool false) rfl rfl (fun wx hS => ex_pickf rfl (by rfl) (by rfl) wx) ?_
              change AlongK _ _ _ _ _ { tmps := #[_, _, _, _, _, _, _, _, _, _, _, _, .bool false, .int .i64 (k : Int), _, _, _, _, _, _, _, _, _, _, _, _, _, _, _, _, _, _, _, _, _, _, _, _, _, _, _, _, _, _, _, _, _, _, _, _, _, _, _, _, _, _, _, _, _, _, _, _, _, _, .bool false, .bool false, undef, undef, undef, undef, undef, undef, undef, undef, .bool false, _, _, _, _, _, _, _, _, _, _, _, _, _, _, _, _, _, _, _, _, _, _, _, _, _, _, _, _, _, _, _, _, _, _, _, _, _, _, _, _, _, _, _, _, _, _, _, _, _, _, _, _, _, _, _, _, _, _], defers := _ } _
              refine alongK_read (.bool false) rfl rfl (fun wx hS => ex_assign (by rfl) (by rfl) wx) ?_
              change AlongK _ _ _ _ _ { tmps := #[_, _, _, _, _, _, _, _, _, _, _, _, .bool false, .int .i64 (k : Int), _, _, _, _, _, _, _, _, _, _, _, _, _, _, _, _, _, _, _, _, _, _, _, _, _, _, _, _, _, _, _, _, _, _, _, _, _, _, _, _, _, _, _, _, _, _, _, _, _, _, .bool false, .bool false, undef, undef, undef, undef, undef, undef, undef, undef, .bool false, _, _, _, _, _, _, _, _, _, _, _, _, _, _, _, _, _, _, _, _, _, _, _, _, _, _, _, _, _, _, _, _, _, _, _, _, _, _, _, _, _, _, _, _, _, _, _, _, _, _, _, _, _, _, _, _, _, _], defers := _ } _
              refine alongK_done ?_
              focus
                go_wp2
                go_roundw
                case rel => exact ⟨k + 1, false, rfl, by go_num, hkl, Lib.hid (Up.trans HU.out (Up.drew1 _)), Lib.hid (all_f HDT.out HBN.out)⟩
                case measure => simp [intOf]; omega
            | true =>
              have HBY : Hid (∀ z ∈ D.take k, vsK z ≠ G) := HBB.out.1 rfl
              clear HBB
              have va := VArg.of_own HG1.out.own
              obtain ⟨g, go, hg⟩ := va.ptr (by omega)
              subst hg
              obtain ⟨Gy, hGy⟩ : ∃ Gy, vsK y = Gy := ⟨_, rfl⟩
              have HY : Hid (∀ wx, Up wr wx → wx.cell? ⟨g, go + k * 7 + 5, none⟩ = some (.int .i64 Gy) ∧ wx.cell? ⟨bx, 5, none⟩ = some (.int .i64 G)) := fun wx h =>
                ⟨by rw [← hGy]; exact (va.up (Up.trans HU.out h)).signer hy, later_cellF (vt_cells HBL.out).2.2.2.2.2.1 (Up.trans HU.out h)⟩
              have HGY := Lib.hid hGy
              clear hGy va
              obtain ⟨NB, hne⟩ : ∃ NB, (Gy != G) = NB := ⟨_, rfl⟩
              have HNE := Lib.hid hne
              generalize wr = wz at HU HY ⊢
              go_wp2_with fail
              refine region_alongK (fun x => Up wz x) (.read 0 (.read 1 (.read 2 (.read 3 (.read 4 (.read 5 (.read 6 (.read 7 (.read 8 (.read 9 (.read 10 (.read 11 (.nil))))))))))))) (by kernel_rfl) rfl (by kernel_rfl) (by kernel_rfl) (fun c a d v w h => by cases d <;> exact h) (Up.drew1 _) ?_
              refine alongK_read (.bool true) rfl rfl (fun wx hS => ex_move (by rfl) (by rfl) wx) ?_
              change AlongK _ _ _ _ _ { tmps := #[_, _, _, _, _, _, _, _, _, .slice (some ⟨g, go, none⟩) D.length rc, _, .pointer (some ⟨bx, 0, none⟩), .bool true, .int .i64 (k : Int), _, _, _, _, _, _, _, _, _, _, _, _, _, _, _, _, _, _, _, _, _, _, _, _, _, _, _, _, _, _, _, _, _, _, _, _, _, _, _, _, _, _, _, _, _, _, _, _, _, _, .bool true, _, _, _, _, _, _, _, _, _, _, _, _, _, _, _, _, _, _, _, _, _, _, _, _, _, _, _, _, _, _, _, _, _, _, _, _, _, _, _, _, _, _, _, _, _, _, _, _, _, _, _, _, _, _, _, _, _, _, _, _, _, _, _, _, _, _, _, _], defers := _ } _
              refine alongK_read (.bool true) rfl rfl (fun wx hS => ex_move (by rfl) (by rfl) wx) ?_
              change AlongK _ _ _ _ _ { tmps := #[_, _, _, _, _, _, _, _, _, .slice (some ⟨g, go, none⟩) D.length rc, _, .pointer (some ⟨bx, 0, none⟩), .bool true, .int .i64 (k : Int), _, _, _, _, _, _, _, _, _, _, _, _, _, _, _, _, _, _, _, _, _, _, _, _, _, _, _, _, _, _, _, _, _, _, _, _, _, _, _, _, _, _, _, _, _, _, _, _, _, _, .bool true, .bool true, _, _, _, _, _, _, _, _, _, _, _, _, _, _, _, _, _, _, _, _, _, _, _, _, _, _, _, _, _, _, _, _, _, _, _, _, _, _, _, _, _, _, _, _, _, _, _, _, _, _, _, _, _, _, _, _, _, _, _, _, _, _, _, _, _, _, _], defers := _ } _
              refine alongK_read (.slice (some ⟨g, go, none⟩) D.length rc) rfl rfl (fun wx hS => ex_move (by rfl) (by rfl) wx) ?_
              change AlongK _ _ _ _ _ { tmps := #[_, _, _, _, _, _, _, _, _, .slice (some ⟨g, go, none⟩) D.length rc, _, .pointer (some ⟨bx, 0, none⟩), .bool true, .int .i64 (k : Int), _, _, _, _, _, _, _, _, _, _, _, _, _, _, _, _, _, _, _, _, _, _, _, _, _, _, _, _, _, _, _, _, _, _, _, _, _, _, _, _, _, _, _, _, _, _, _, _, _, _, .bool true, .bool true, .slice (some ⟨g, go, none⟩) D.length rc, _, _, _, _, _, _, _, _, _, _, _, _, _, _, _, _, _, _, _, _, _, _, _, _, _, _, _, _, _, _, _, _, _, _, _, _, _, _, _, _, _, _, _, _, _, _, _, _, _, _, _, _, _, _, _, _, _, _, _, _, _, _, _, _, _, _], defers := _ } _
              refine alongK_read (.int .i64 (k : Int)) rfl rfl (fun wx hS => ex_move (by rfl) (by rfl) wx) ?_
              change AlongK _ _ _ _ _ { tmps := #[_, _, _, _, _, _, _, _, _, .slice (some ⟨g, go, none⟩) D.length rc, _, .pointer (some ⟨bx, 0, none⟩), .bool true, .int .i64 (k : Int), _, _, _, _, _, _, _, _, _, _, _, _, _, _, _, _, _, _, _, _, _, _, _, _, _, _, _, _, _, _, _, _, _, _, _, _, _, _, _, _, _, _, _, _, _, _, _, _, _, _, .bool true, .bool true, .slice (some ⟨g, go, none⟩) D.length rc, .int .i64 (k : Int), _, _, _, _, _, _, _, _, _, _, _, _, _, _, _, _, _, _, _, _, _, _, _, _, _, _, _, _, _, _, _, _, _, _, _, _, _, _, _, _, _, _, _, _, _, _, _, _, _, _, _, _, _, _, _, _, _, _, _, _, _, _, _, _, _], defers := _ } _
              refine alongK_read (.pointer (some ⟨g, go + k * 7, none⟩)) rfl rfl (fun wx hS => ex_index Try.underlying22 Try.sizeOf38 rfl rfl rfl (by omega) wx) ?_
              change AlongK _ _ _ _ _ { tmps := #[_, _, _, _, _, _, _, _, _, .slice (some ⟨g, go, none⟩) D.length rc, _, .pointer (some ⟨bx, 0, none⟩), .bool true, .int .i64 (k : Int), _, _, _, _, _, _, _, _, _, _, _, _, _, _, _, _, _, _, _, _, _, _, _, _, _, _, _, _, _, _, _, _, _, _, _, _, _, _, _, _, _, _, _, _, _, _, _, _, _, _, .bool true, .bool true, .slice (some ⟨g, go, none⟩) D.length rc, .int .i64 (k : Int), .pointer (some ⟨g, go + k * 7, none⟩), _, _, _, _, _, _, _, _, _, _, _, _, _, _, _, _, _, _, _, _, _, _, _, _, _, _, _, _, _, _, _, _, _, _, _, _, _, _, _, _, _, _, _, _, _, _, _, _, _, _, _, _, _, _, _, _, _, _, _, _, _, _, _, _], defers := _ } _
              refine alongK_read (.pointer (some ⟨g, go + k * 7 + 5, none⟩)) rfl rfl (fun wx hS => ex_field rfl rfl wx (by simp [go_sem])) ?_
              change AlongK _ _ _ _ _ { tmps := #[_, _, _, _, _, _, _, _, _, .slice (some ⟨g, go, none⟩) D.length rc, _, .pointer (some ⟨bx, 0, none⟩), .bool true, .int .i64 (k : Int), _, _, _, _, _, _, _, _, _, _, _, _, _, _, _, _, _, _, _, _, _, _, _, _, _, _, _, _, _, _, _, _, _, _, _, _, _, _, _, _, _, _, _, _, _, _, _, _, _, _, .bool true, .bool true, .slice (some ⟨g, go, none⟩) D.length rc, .int .i64 (k : Int), .pointer (some ⟨g, go + k * 7, none⟩), .pointer (some ⟨g, go + k * 7 + 5, none⟩), _, _, _, _, _, _, _, _, _, _, _, _, _, _, _, _, _, _, _, _, _, _, _, _, _, _, _, _, _, _, _, _, _, _, _, _, _, _, _, _, _, _, _, _, _, _, _, _, _, _, _, _, _, _, _, _, _, _, _, _, _, _, _], defers := _ } _
              refine alongK_read (.int .i64 Gy) rfl rfl (fun wx hS => ex_load Try.isAgg3 rfl rfl wx (HY.out wx hS).1) ?_
              change AlongK _ _ _ _ _ { tmps := #[_, _, _, _, _, _, _, _, _, .slice (some ⟨g, go, none⟩) D.length rc, _, .pointer (some ⟨bx, 0, none⟩), .bool true, .int .i64 (k : Int), _, _, _, _, _, _, _, _, _, _, _, _, _, _, _, _, _, _, _, _, _, _, _, _, _, _, _, _, _, _, _, _, _, _, _, _, _, _, _, _, _, _, _, _, _, _, _, _, _, _, .bool true, .bool true, .slice (some ⟨g, go, none⟩) D.length rc, .int .i64 (k : Int), .pointer (some ⟨g, go + k * 7, none⟩), .pointer (some ⟨g, go + k * 7 + 5, none⟩), .int .i64 Gy, _, _, _, _, _, _, _, _, _, _, _, _, _, _, _, _, _, _, _, _, _, _, _, _, _, _, _, _, _, _, _, _, _, _, _, _, _, _, _, _, _, _, _, _, _, _, _, _, _, _, _, _, _, _, _, _, _, _, _, _, _, _], defers := _ } _
              refine alongK_read (.pointer (some ⟨bx, 5, none⟩)) rfl rfl (fun wx hS => ex_field rfl rfl wx (by simp [go_sem])) ?_
              change AlongK _ _ _ _ _ { tmps := #[_, _, _, _, _, _, _, _, _, .slice (some ⟨g, go, none⟩) D.length rc, _, .pointer (some ⟨bx, 0, none⟩), .bool true, .int .i64 (k : Int), _, _, _, _, _, _, _, _, _, _, _, _, _, _, _, _, _, _, _, _, _, _, _, _, _, _, _, _, _, _, _, _, _, _, _, _, _, _, _, _, _, _, _, _, _, _, _, _, _, _, .bool true, .bool true, .slice (some ⟨g, go, none⟩) D.length rc, .int .i64 (k : Int), .pointer (some ⟨g, go + k * 7, none⟩), .pointer (some ⟨g, go + k * 7 + 5, none⟩), .int .i64 Gy, .pointer (some ⟨bx, 5, none⟩), _, _, _, _, _, _, _, _, _, _, _, _, _, _, _, _, _, _, _, _, _, _, _, _, _, _, _, _, _, _, _, _, _, _, _, _, _, _, _, _, _, _, _, _, _, _, _, _, _, _, _, _, _, _, _, _, _, _, _, _, _], defers := _ } _
              refine alongK_read (.int .i64 G) rfl rfl (fun wx hS => ex_load Try.isAgg3 rfl rfl wx (HY.out wx hS).2) ?_
              change AlongK _ _ _ _ _ { tmps := #[_, _, _, _, _, _, _, _, _, .slice (some ⟨g, go, none⟩) D.length rc, _, .pointer (some ⟨bx, 0, none⟩), .bool true, .int .i64 (k : Int), _, _, _, _, _, _, _, _, _, _, _, _, _, _, _, _, _, _, _, _, _, _, _, _, _, _, _, _, _, _, _, _, _, _, _, _, _, _, _, _, _, _, _, _, _, _, _, _, _, _, .bool true, .bool true, .slice (some ⟨g, go, none⟩) D.length rc, .int .i64 (k : Int), .pointer (some ⟨g, go + k * 7, none⟩), .pointer (some ⟨g, go + k * 7 + 5, none⟩), .int .i64 Gy, .pointer (some ⟨bx, 5, none⟩), .int .i64 G, _, _, _, _, _, _, _, _, _, _, _, _, _, _, _, _, _, _, _, _, _, _, _, _, _, _, _, _, _, _, _, _, _, _, _, _, _, _, _, _, _, _, _, _, _, _, _, _, _, _, _, _, _, _, _, _, _, _, _, _], defers := _ } _
              refine alongK_read (.bool NB) rfl rfl (fun wx hS => ex_neqi rfl rfl rfl hne wx) ?_
              change AlongK _ _ _ _ _ { tmps := #[_, _, _, _, _, _, _, _, _, .slice (some ⟨g, go, none⟩) D.length rc, _, .pointer (some ⟨bx, 0, none⟩), .bool true, .int .i64 (k : Int), _, _, _, _, _, _, _, _, _, _, _, _, _, _, _, _, _, _, _, _, _, _, _, _, _, _, _, _, _, _, _, _, _, _, _, _, _, _, _, _, _, _, _, _, _, _, _, _, _, _, .bool true, .bool true, .slice (some ⟨g, go, none⟩) D.length rc, .int .i64 (k : Int), .pointer (some ⟨g, go + k * 7, none⟩), .pointer (some ⟨g, go + k * 7 + 5, none⟩), .int .i64 Gy, .pointer (some ⟨bx, 5, none⟩), .int .i64 G, .bool NB, _, _, _, _, _, _, _, _, _, _, _, _, _, _, _, _, _, _, _, _, _, _, _, _, _, _, _, _, _, _, _, _, _, _, _, _, _, _, _, _, _, _, _, _, _, _, _, _, _, _, _, _, _, _, _, _, _, _, _], defers := _ } _
              refine alongK_read (.bool NB) rfl rfl (fun wx hS => ex_pickt rfl (by rfl) (by rfl) wx) ?_
              change AlongK _ _ _ _ _ { tmps := #[_, _, _, _, _, _, _, _, _, .slice (some ⟨g, go, none⟩) D.length rc, _, .pointer (some ⟨bx, 0, none⟩), .bool true, .int .i64 (k : Int), _, _, _, _, _, _, _, _, _, _, _, _, _, _, _, _, _, _, _, _, _, _, _, _, _, _, _, _, _, _, _, _, _, _, _, _, _, _, _, _, _, _, _, _, _, _, _, _, _, _, .bool true, .bool true, .slice (some ⟨g, go, none⟩) D.length rc, .int .i64 (k : Int), .pointer (some ⟨g, go + k * 7, none⟩), .pointer (some ⟨g, go + k * 7 + 5, none⟩), .int .i64 Gy, .pointer (some ⟨bx, 5, none⟩), .int .i64 G, .bool NB, .bool NB, _, _, _, _, _, _, _, _, _, _, _, _, _, _, _, _, _, _, _, _, _, _, _, _, _, _, _, _, _, _, _, _, _, _, _, _, _, _, _, _, _, _, _, _, _, _, _, _, _, _, _, _, _, _, _, _, _, _], defers := _ } _
              refine alongK_read (.bool NB) rfl rfl (fun wx hS => ex_assign (by rfl) (by rfl) wx) ?_
              change AlongK _ _ _ _ _ { tmps := #[_, _, _, _, _, _, _, _, _, .slice (some ⟨g, go, none⟩) D.length rc, _, .pointer (some ⟨bx, 0, none⟩), .bool NB, .int .i64 (k : Int), _, _, _, _, _, _, _, _, _, _, _, _, _, _, _, _, _, _, _, _, _, _, _, _, _, _, _, _, _, _, _, _, _, _, _, _, _, _, _, _, _, _, _, _, _, _, _, _, _, _, .bool true, .bool true, .slice (some ⟨g, go, none⟩) D.length rc, .int .i64 (k : Int), .pointer (some ⟨g, go + k * 7, none⟩), .pointer (some ⟨g, go + k * 7 + 5, none⟩), .int .i64 Gy, .pointer (some ⟨bx, 5, none⟩), .int .i64 G, .bool NB, .bool NB, _, _, _, _, _, _, _, _, _, _, _, _, _, _, _, _, _, _, _, _, _, _, _, _, _, _, _, _, _, _, _, _, _, _, _, _, _, _, _, _, _, _, _, _, _, _, _, _, _, _, _, _, _, _, _, _, _, _], defers := _ } _
              refine alongK_done ?_
              focus
                go_wp2
                go_roundw
                case rel => exact ⟨k + 1, NB, rfl, by go_num, hkl, Lib.hid (Up.trans HU.out (Up.drew1 _)), Lib.hid (all_t HDT.out HBY.out HGY.out HNE.out)⟩
                case measure => simp [intOf]; omega
          · have hke : k = D.length := by omega
            have hkz : ¬ (k : Int) < (D.length : Int) := by omega
            subst hke
            clear hkl
            rw [List.take_length] at HBB
            cases bb with
            | false =>
              have HOLD : Hid (∃ y ∈ D, vsK y = G) := by
                have hn : ¬ ∀ z ∈ D, vsK z ≠ G := fun h => by have := HBB.out.2 h; cases this
                exact Classical.byContradiction fun h => hn fun z hz e => h ⟨z, hz, e⟩
              clear HBB
              go_wp2
              go_roundw
              case rel =>
                refine ⟨i + 1, ra, rc, D, rfl, by go_num, hlt, by omega, Lib.hid ?_⟩
                obtain ⟨y, hy, hk⟩ := HOLD.out
                exact (HG1.out.later HU.out).old HX.out HP.out hy (hk.trans HKX.out.symm)
              case measure => simp [intOf]; omega
            | true =>
              have HNEW : Hid (∀ z ∈ D, vsK z ≠ G) := HBB.out.1 rfl
              clear HBB
              have HB2 := Lib.hid ((HU.out.block _ (lt_of_block HB0.out)).trans HB0.out)
              have HG2 := Lib.hid (HG1.out.later HU.out)
              have HBS : Hid (∀ wx : World, (Instr.buildSlice 22 1 #[(0, .agg (vsA x))]).run Try.prog wx = .ok (.slice (some ⟨wx.heap.size, 0, none⟩) 1 1) (wx.alloc (.cells (vsA x) 38))) := fun wx => build_one x wx
              have HN2 := Lib.hid (heap_alloc_new wr (.cells (vsA x) 38))
              have HGN := Lib.hid (HG2.out.later (Up.alloc (Up.refl wr) (.cells (vsA x) 38)))
              have HNC : Hid (∀ ad, some (⟨wr.heap.size, 0, none⟩ : Addr) = some ad → ∀ j u, (vsC x)[j]? = some u → (wr.alloc (.cells (vsA x) 38)).cell? (ad.add j) = some u) := by
                intro ad had j u hj
                cases had
                have h2 : ((⟨wr.heap.size, 0, none⟩ : Addr).add j) = ⟨wr.heap.size, j, none⟩ := by unfold Addr.add; split <;> simp_all
                rw [h2, cell_of_row _ _ j _ _ _ HN2.out]
                unfold vsA
                simpa using hj
              have HMX : Hid (D.length + 1 ≤ maxLen ∧ (D.length + 1) * 72 ≤ 140737488355328) := ⟨by unfold maxLen; omega, by omega⟩
              clear d0 d1 d2 d3 d4 d5 d6 c0 c1 c2 HB0 HBL HG1 HM4 HG HM3 HC3 HR3
              go_wp2_with (first | (refine wpList_ex rfl (.agg (vsA x)) wr (ex_loadrow (x := .tmp 11) rfl rfl _ 38 HB2.out Try.underlying38 rfl info_vt) ?_) | (refine wpList_ex rfl _ _ (ex_slice1 _ _ (HBS.out wr) rfl rfl) ?_; generalize wr.alloc (.cells (vsA x) 38) = wn at HN2 HGN HNC ⊢; generalize wr.heap.size = nb at HN2 HNC ⊢; clear HBS) | (at_builtin; refine wpList_append_own_src_at _ rfl (.tmp 76) (.tmp 78) 22 rfl wb.heap.size 38 i0 (.agg (vsA default)) 7 72 Try.underlying22 hi0 hz0 hz1 hz2 rfl (by decide) _ D.length _ rfl HGN.out.own (some ⟨nb, 0, none⟩) 1 1 (vsC x) rfl (fun e => by cases e) rfl HNC.out (vsC_one x) HMX.out.1 HMX.out.2 HGN.out.up.size ?_; intro v' w' hown' hgrow hwhere))
              go_roundw
              case rel =>
                obtain ⟨a', c', e'⟩ := row_shape hown'
                subst e'
                refine ⟨i + 1, a', c', D ++ [x], by rw [List.length_append]; rfl, by go_num, hlt, by rw [List.length_append]; simp; omega, Lib.hid ?_⟩
                have := HGN.out.new HX.out HP.out (fun z hz e => HNEW.out z hz (e.trans HKX.out)) hown' (up_row HGN.out.up HGN.out.own hgrow (Nat.le_refl _))
                rw [List.length_append]
                exact this
              case measure => simp [intOf]; omega
      · have hpx := HPX.out false (by
          by_cases h1 : K = 1
          · have : ¬ (V1 = V ∧ H1 = H ∧ BS = B) := fun h => hall ⟨h1, h⟩
            simp [this]
          · simp [h1])
        have HP := Lib.hid hpx
        have h4 : K ≠ 1 ∨ (K = 1 ∧ V1 ≠ V) ∨ (K = 1 ∧ V1 = V ∧ H1 ≠ H) ∨ (K = 1 ∧ V1 = V ∧ H1 = H ∧ BS ≠ B) := by
          by_cases h1 : K = 1
          · by_cases h2 : V1 = V
            · by_cases h3 : H1 = H
              · exact .inr (.inr (.inr ⟨h1, h2, h3, fun h => hall ⟨h1, h2, h3, h⟩⟩))
              · exact .inr (.inr (.inl ⟨h1, h2, h3⟩))
            · exact .inr (.inl ⟨h1, h2⟩)
          · exact .inl h1
        clear hpx HPX hall
        rcases h4 with h4 | ⟨rfl, h4⟩ | ⟨rfl, rfl, h4⟩ | ⟨rfl, rfl, rfl, h4⟩
        all_goals
          first
          | have e1 : (K == 1) = false := (by rw [beq_eq_false_iff_ne]; exact h4)
          | have e1 : (V1 == V) = false := (by rw [beq_eq_false_iff_ne]; exact h4)
          | have e1 : (H1 == H) = false := (by rw [beq_eq_false_iff_ne]; exact h4)
          | have e1 : (BS.toList == B.toList) = false := (by rw [beq_eq_false_iff_ne]; exact fun h => h4 (toList_inj h))
          clear h4
          go_wp2_with (first | (refine wpList_ex rfl (.agg (vsA x)) wr (ex_ldv (x := .tmp 32) rfl rfl Hl.out) ?_) | (refine wpList_exs rfl _ (ex_fill (x := .tmp 11) (y := .tmp 33) (W := wr) rfl rfl rfl rfl) ?_; generalize wr.alloc (.cells (vsA x) 38) = wv at HB0 HBL HG1 HM4 ⊢; generalize wr.heap.size = bx at HB0 HBL ⊢; obtain ⟨c0, c1, c2⟩ := mk_cells HM4.out; obtain ⟨d0, d1, d2, d3, d4, d5, d6⟩ := vt_cells HBL.out))
          go_loopw [12, 13] (fun v12 v13 wr2 => ∃ k : Nat, v12 = .bool false ∧ v13 = .int .i64 (k : Nat) ∧ k ≤ D.length ∧ Hid (Up wv wr2))
            (fun _ v13 _ => D.length - (intOf v13).toNat)
          case atStart => exact ⟨0, rfl, rfl, Nat.zero_le _, Lib.hid (Up.refl _)⟩
          case round =>
            obtain ⟨k, rfl, rfl, hk, HU⟩ := hrel
            clear d0 d1 d2 d3 d4 d5 d6 c0 c1 c2
            by_cases hkl : k < D.length
            · have hkz : (k : Int) < (D.length : Int) := by omega
              generalize wr = wz at HU ⊢
              go_wp2_with fail
              refine region_alongK (fun _ => True) (.read 0 (.read 1 (.read 2 (.read 3 (.read 4 (.read 5 (.read 6 (.read 7 (.read 8 (.read 9 (.read 10 (.read 11 (.nil))))))))))))) (by kernel_rfl) rfl (by kernel_rfl) (by kernel_rfl) (fun c a d v w h => by cases d <;> exact h) (trivial) ?_
              refine alongK_read (.bool false) rfl rfl (fun wx hS => ex_move (by rfl) (by rfl) wx) ?_
              change AlongK _ _ _ _ _ { tmps := #[_, _, _, _, _, _, _, _, _, _, _, _, .bool false, .int .i64 (k : Int), _, _, _, _, _, _, _, _, _, _, _, _, _, _, _, _, _, _, _, _, _, _, _, _, _, _, _, _, _, _, _, _, _, _, _, _, _, _, _, _, _, _, _, _, _, _, _, _, _, _, .bool false, _, _, _, _, _, _, _, _, _, _, _, _, _, _, _, _, _, _, _, _, _, _, _, _, _, _, _, _, _, _, _, _, _, _, _, _, _, _, _, _, _, _, _, _, _, _, _, _, _, _, _, _, _, _, _, _, _, _, _, _, _, _, _, _, _, _, _, _], defers := _ } _
              refine alongK_read (.bool false) rfl rfl (fun wx hS => ex_move (by rfl) (by rfl) wx) ?_
              change AlongK _ _ _ _ _ { tmps := #[_, _, _, _, _, _, _, _, _, _, _, _, .bool false, .int .i64 (k : Int), _, _, _, _, _, _, _, _, _, _, _, _, _, _, _, _, _, _, _, _, _, _, _, _, _, _, _, _, _, _, _, _, _, _, _, _, _, _, _, _, _, _, _, _, _, _, _, _, _, _, .bool false, .bool false, _, _, _, _, _, _, _, _, _, _, _, _, _, _, _, _, _, _, _, _, _, _, _, _, _, _, _, _, _, _, _, _, _, _, _, _, _, _, _, _, _, _, _, _, _, _, _, _, _, _, _, _, _, _, _, _, _, _, _, _, _, _, _, _, _, _, _], defers := _ } _
              refine alongK_skip rfl rfl ?_
              change AlongK _ _ _ _ _ { tmps := #[_, _, _, _, _, _, _, _, _, _, _, _, .bool false, .int .i64 (k : Int), _, _, _, _, _, _, _, _, _, _, _, _, _, _, _, _, _, _, _, _, _, _, _, _, _, _, _, _, _, _, _, _, _, _, _, _, _, _, _, _, _, _, _, _, _, _, _, _, _, _, .bool false, .bool false, undef, _, _, _, _, _, _, _, _, _, _, _, _, _, _, _, _, _, _, _, _, _, _, _, _, _, _, _, _, _, _, _, _, _, _, _, _, _, _, _, _, _, _, _, _, _, _, _, _, _, _, _, _, _, _, _, _, _, _, _, _, _, _, _, _, _, _], defers := _ } _
              refine alongK_skip rfl rfl ?_
              change AlongK _ _ _ _ _ { tmps := #[_, _, _, _, _, _, _, _, _, _, _, _, .bool false, .int .i64 (k : Int), _, _, _, _, _, _, _, _, _, _, _, _, _, _, _, _, _, _, _, _, _, _, _, _, _, _, _, _, _, _, _, _, _, _, _, _, _, _, _, _, _, _, _, _, _, _, _, _, _, _, .bool false, .bool false, undef, undef, _, _, _, _, _, _, _, _, _, _, _, _, _, _, _, _, _, _, _, _, _, _, _, _, _, _, _, _, _, _, _, _, _, _, _, _, _, _, _, _, _, _, _, _, _, _, _, _, _, _, _, _, _, _, _, _, _, _, _, _, _, _, _, _, _], defers := _ } _
              refine alongK_skip rfl rfl ?_
              change AlongK _ _ _ _ _ { tmps := #[_, _, _, _, _, _, _, _, _, _, _, _, .bool false, .int .i64 (k : Int), _, _, _, _, _, _, _, _, _, _, _, _, _, _, _, _, _, _, _, _, _, _, _, _, _, _, _, _, _, _, _, _, _, _, _, _, _, _, _, _, _, _, _, _, _, _, _, _, _, _, .bool false, .bool false, undef, undef, undef, _, _, _, _, _, _, _, _, _, _, _, _, _, _, _, _, _, _, _, _, _, _, _, _, _, _, _, _, _, _, _, _, _, _, _, _, _, _, _, _, _, _, _, _, _, _, _, _, _, _, _, _, _, _, _, _, _, _, _, _, _, _, _, _], defers := _ } _
              refine alongK_skip rfl rfl ?_
              change AlongK _ _ _ _ _ { tmps := #[_, _, _, _, _, _, _, _, _, _, _, _, .bool false, .int .i64 (k : Int), _, _, _, _, _, _, _, _, _, _, _, _, _, _, _, _, _, _, _, _, _, _, _, _, _, _, _, _, _, _, _, _, _, _, _, _, _, _, _, _, _, _, _, _, _, _, _, _, _, _, .bool false, .bool false, undef, undef, undef, undef, _, _, _, _, _, _, _, _, _, _, _, _, _, _, _, _, _, _, _, _, _, _, _, _, _, _, _, _, _, _, _, _, _, _, _, _, _, _, _, _, _, _, _, _, _, _, _, _, _, _, _, _, _, _, _, _, _, _, _, _, _, _, _], defers := _ } _
              refine alongK_skip rfl rfl ?_
              change AlongK _ _ _ _ _ { tmps := #[_, _, _, _, _, _, _, _, _, _, _, _, .bool false, .int .i64 (k : Int), _, _, _, _, _, _, _, _, _, _, _, _, _, _, _, _, _, _, _, _, _, _, _, _, _, _, _, _, _, _, _, _, _, _, _, _, _, _, _, _, _, _, _, _, _, _, _, _, _, _, .bool false, .bool false, undef, undef, undef, undef, undef, _, _, _, _, _, _, _, _, _, _, _, _, _, _, _, _, _, _, _, _, _, _, _, _, _, _, _, _, _, _, _, _, _, _, _, _, _, _, _, _, _, _, _, _, _, _, _, _, _, _, _, _, _, _, _, _, _, _, _, _, _, _], defers := _ } _
              refine alongK_skip rfl rfl ?_
              change AlongK _ _ _ _ _ { tmps := #[_, _, _, _, _, _, _, _, _, _, _, _, .bool false, .int .i64 (k : Int), _, _, _, _, _, _, _, _, _, _, _, _, _, _, _, _, _, _, _, _, _, _, _, _, _, _, _, _, _, _, _, _, _, _, _, _, _, _, _, _, _, _, _, _, _, _, _, _, _, _, .bool false, .bool false, undef, undef, undef, undef, undef, undef, _, _, _, _, _, _, _, _, _, _, _, _, _, _, _, _, _, _, _, _, _, _, _, _, _, _, _, _, _, _, _, _, _, _, _, _, _, _, _, _, _, _, _, _, _, _, _, _, _, _, _, _, _, _, _, _, _, _, _, _, _], defers := _ } _
              refine alongK_skip rfl rfl ?_
              change AlongK _ _ _ _ _ { tmps := #[_, _, _, _, _, _, _, _, _, _, _, _, .bool false, .int .i64 (k : Int), _, _, _, _, _, _, _, _, _, _, _, _, _, _, _, _, _, _, _, _, _, _, _, _, _, _, _, _, _, _, _, _, _, _, _, _, _, _, _, _, _, _, _, _, _, _, _, _, _, _, .bool false, .bool false, undef, undef, undef, undef, undef, undef, undef, _, _, _, _, _, _, _, _, _, _, _, _, _, _, _, _, _, _, _, _, _, _, _, _, _, _, _, _, _, _, _, _, _, _, _, _, _, _, _, _, _, _, _, _, _, _, _, _, _, _, _, _, _, _, _, _, _, _, _, _], defers := _ } _
              refine alongK_skip rfl rfl ?_
              change AlongK _ _ _ _ _ { tmps := #[_, _, _, _, _, _, _, _, _, _, _, _, .bool false, .int .i64 (k : Int), _, _, _, _, _, _, _, _, _, _, _, _, _, _, _, _, _, _, _, _, _, _, _, _, _, _, _, _, _, _, _, _, _, _, _, _, _, _, _, _, _, _, _, _, _, _, _, _, _, _, .bool false, .bool false, undef, undef, undef, undef, undef, undef, undef, undef, _, _, _, _, _, _, _, _, _, _, _, _, _, _, _, _, _, _, _, _, _, _, _, _, _, _, _, _, _, _, _, _, _, _, _, _, _, _, _, _, _, _, _, _, _, _, _, _, _, _, _, _, _, _, _, _, _, _, _], defers := _ } _
              refine alongK_read (.bool false) rfl rfl (fun wx hS => ex_pickf rfl (by rfl) (by rfl) wx) ?_
              change AlongK _ _ _ _ _ { tmps := #[_, _, _, _, _, _, _, _, _, _, _, _, .bool false, .int .i64 (k : Int), _, _, _, _, _, _, _, _, _, _, _, _, _, _, _, _, _, _, _, _, _, _, _, _, _, _, _, _, _, _, _, _, _, _, _, _, _, _, _, _, _, _, _, _, _, _, _, _, _, _, .bool false, .bool false, undef, undef, undef, undef, undef, undef, undef, undef, .bool false, _, _, _, _, _, _, _, _, _, _, _, _, _, _, _, _, _, _, _, _, _, _, _, _, _, _, _, _, _, _, _, _, _, _, _, _, _, _, _, _, _, _, _, _, _, _, _, _, _, _, _, _, _, _, _, _, _, _], defers := _ } _
              refine alongK_read (.bool false) rfl rfl (fun wx hS => ex_assign (by rfl) (by rfl) wx) ?_
              change AlongK _ _ _ _ _ { tmps := #[_, _, _, _, _, _, _, _, _, _, _, _, .bool false, .int .i64 (k : Int), _, _, _, _, _, _, _, _, _, _, _, _, _, _, _, _, _, _, _, _, _, _, _, _, _, _, _, _, _, _, _, _, _, _, _, _, _, _, _, _, _, _, _, _, _, _, _, _, _, _, .bool false, .bool false, undef, undef, undef, undef, undef, undef, undef, undef, .bool false, _, _, _, _, _, _, _, _, _, _, _, _, _, _, _, _, _, _, _, _, _, _, _, _, _, _, _, _, _, _, _, _, _, _, _, _, _, _, _, _, _, _, _, _, _, _, _, _, _, _, _, _, _, _, _, _, _, _], defers := _ } _
              refine alongK_done ?_
              focus
                go_wp2
                go_roundw
                case rel => exact ⟨k + 1, rfl, by go_num, hkl, Lib.hid (Up.trans HU.out (Up.drew1 _))⟩
                case measure => simp [intOf]; omega
            · have hkz : ¬ (k : Int) < (D.length : Int) := by omega
              go_wp2
              go_roundw
              case rel => exact ⟨i + 1, ra, rc, D, rfl, by go_num, hlt, by omega, Lib.hid ((HG1.out.later HU.out).skip HX.out HP.out)⟩
              case measure => simp [intOf]; omega
    · have hin : i = n := by omega
      subst hin
      have HK : Hid (xs.take xs.length = xs) := List.take_length
      obtain ⟨R, hR⟩ := firsts_exist vsK (xs.filter (vsOf V H B))
      have HR := Lib.hid hR
      have HRL : Hid (R.length = D.length ∧ ∀ z, fk vsK z D = fk vsK z R) := by
        have h1 : ∀ z, fk vsK z D = fk vsK z R := fun z => by
          rw [HG.out.fst z, hR.fst z, ← HN.out, HK.out]
        exact ⟨(same_len vsK (ndk_up vsK hR.up) HG.out.nd h1).symm, h1⟩
      have HUNI : Hid (∀ R', Firsts vsK (xs.filter (vsOf V H B)) R' → R' = R) := fun R' h => firsts_unique vsK h.up hR.up (fun z => (h.fst z).trans (hR.fst z).symm)
      have HUP := Lib.hid hR.up
      clear hR
      have HR4 := Lib.hid ((HG.out.up.block _ (lt_of_block HR3.out)).trans HR3.out)
      have HUW := Lib.hid (Up.trans HU3.out HG.out.up)
      by_cases hlow : q < 1 ∨ (D.length : Int) < q
      · have FIN : Hid (∀ (w12 : World), wr.grownBy w12 (some (w.heap.size + 1)) → RefP w xs V H B q (.returned (.tuple #[.agg #[.int .i64 0, .int .i64 0, .string ⟨#[]⟩, .slice none 0 0], .bool false])) w12) := fun w12 hg =>
          ⟨fun R' hR' => ⟨fun _ => rfl, fun qn e h1 h2 => absurd h2 (by rw [HUNI.out R' hR', HRL.out.1]; omega)⟩, up_at HUW.out hg (Nat.le_succ _)⟩
        by_cases h1 : q < 1
        · go_wp2_with (refine wpList_store_agg rfl 26 (.tmp 6) (.tmp 88) rfl (w.heap.size + 1) _ #[.int .i64 0, .int .i64 0, .string ⟨#[]⟩, .slice none 0 0] rfl rfl 26 HR4.out info_ct rfl (one_ct _ _ _ _ _ _) ?_; intro w12 hg12 hgr12)
          exact bodyPost_ret (results_made rfl _ _ _ _ (.bool false) rfl rfl hg12 rfl) rfl (FIN.out _ hgr12)
        · have h2 : (D.length : Int) < q := by omega
          go_wp2_with (refine wpList_store_agg rfl 26 (.tmp 6) (.tmp 88) rfl (w.heap.size + 1) _ #[.int .i64 0, .int .i64 0, .string ⟨#[]⟩, .slice none 0 0] rfl rfl 26 HR4.out info_ct rfl (one_ct _ _ _ _ _ _) ?_; intro w12 hg12 hgr12)
          exact bodyPost_ret (results_made rfl _ _ _ _ (.bool false) rfl rfl hg12 rfl) rfl (FIN.out _ hgr12)
      · obtain ⟨qn, rfl⟩ : ∃ qn : Nat, q = qn := ⟨q.toNat, by omega⟩
        have h1 : ¬ (qn : Int) < 1 := by omega
        have h2 : ¬ (D.length : Int) < (qn : Int) := by omega
        have HSEL : Hid (Sel wb (w.heap.size + 1 + 1) V H B R 0 ra rc D none 0 wr) := ⟨⟨(HG.out.up.block _ (lt_of_block HC3.out)).trans HC3.out, HG.out.own, ⟨rfl, .inl ⟨rfl, rfl⟩⟩, (fun g _ h => (by cases h)), KeptBut.of_up HG.out.up⟩, HG.out.nd, fun z => HRL.out.2 z, by rw [HRL.out.1]; rfl⟩
        have hql : qn ≤ D.length := by omega
        have hDn : D.length ≤ i := hDi
        have hRi : R.length ≤ i := by rw [HRL.out.1]; exact hDi
        go_wp2
        go_loopw [9] (fun vr wr => ∃ (t : Nat) (ra : Option Addr) (rc : Nat) (D : List Vs) (ca : Option Addr) (cc : Nat), vr = .slice ra D.length rc ∧ t ≤ qn ∧ D.length + t = R.length ∧ Hid (Sel wb (w.heap.size + 1 + 1) V H B R t ra rc D ca cc wr))
          (fun vr _ => match vr with | .slice _ n _ => n | _ => 0)
        case atStart => exact ⟨0, ra, rc, D, none, 0, rfl, Nat.zero_le _, HRL.out.1.symm, HSEL⟩
        case round =>
          clear HSEL HG
          obtain ⟨t, ra, rc, D, ca, cc, rfl, htq, hDt, HS⟩ := hrel
          obtain ⟨c0, c1, c2, c3⟩ := ct_cells HS.out.cbox
          by_cases htl : t < qn
          · have hz3 : (t : Int) < (qn : Int) := by omega
            have hD1 : 1 ≤ D.length := by have := HRL.out.1; omega
            go_wp2
            go_loopw [14, 15] (fun vb vj w4 => ∃ bst j : Nat, vb = .int .i64 (bst : Nat) ∧ vj = .int .i64 (j : Nat) ∧ bst < D.length ∧ j ≤ D.length ∧ Hid (Up wr w4) ∧ Hid (∀ y ∈ D.take j, vsK (D[bst]?.getD default) ≤ vsK y))
              (fun _ vj _ => D.length - (intOf vj).toNat)
            case atStart => exact ⟨0, 1, rfl, rfl, by omega, hD1, Lib.hid (Up.refl _), Lib.hid (take_one vsK)⟩
            case round =>
              obtain ⟨bst, j, rfl, rfl, hbl, hjl, HU4, HM⟩ := hrel
              by_cases hjt : j < D.length
              · have hjz : (j : Int) < (D.length : Int) := by omega
                have va := VArg.of_own HS.out.rest
                obtain ⟨g, go, hg⟩ := va.ptr (by omega)
                subst hg
                obtain ⟨y, hy⟩ : ∃ y, D[j]? = some y := ⟨D[j], List.getElem?_eq_getElem _⟩
                obtain ⟨z, hzb⟩ : ∃ z, D[bst]? = some z := ⟨D[bst], List.getElem?_eq_getElem _⟩
                obtain ⟨Gy, hGy⟩ : ∃ u, vsK y = u := ⟨_, rfl⟩
                obtain ⟨Gz, hGz⟩ : ∃ u, vsK z = u := ⟨_, rfl⟩
                have HY : Hid (∀ wx, Up wr wx → wx.cell? ⟨g, go + j * 7 + 5, none⟩ = some (.int .i64 Gy) ∧ wx.cell? ⟨g, go + bst * 7 + 5, none⟩ = some (.int .i64 Gz)) := fun wx h => by
                  have va2 := va.up (Up.trans HU4.out h)
                  exact ⟨by rw [← hGy]; exact va2.signer hy, by rw [← hGz]; exact va2.signer hzb⟩
                obtain ⟨LT, hlt4⟩ : ∃ LT, LT = decide (Gy < Gz) := ⟨_, rfl⟩
                have HLT := Lib.hid hlt4
                have HNX : Hid ((Gy < Gz → ∀ u ∈ D.take (j + 1), vsK (D[j]?.getD default) ≤ vsK u) ∧ (¬ Gy < Gz → ∀ u ∈ D.take (j + 1), vsK (D[bst]?.getD default) ≤ vsK u)) := least_step vsK hy hzb hGy hGz HM.out
                clear va hlt4
                generalize wr = wz at HU4 HY ⊢
                cases LT with
                | true =>
                  have hlt5 : Gy < Gz := of_decide_eq_true HLT.out.symm
                  have HQ5 := Lib.hid hlt5
                  clear hlt5
                  go_wp2_with fail
                  refine region_alongK (fun x => Up wz x) (.read 0 (.read 1 (.read 2 (.read 3 (.read 4 (.read 5 (.read 6 (.read 7 (.read 8 (.read 9 (.read 10 (.nil)))))))))))) (by kernel_rfl) rfl (by kernel_rfl) (by kernel_rfl) (fun c a d v w h => by cases d <;> exact h) (Up.drew1 _) ?_
                  refine alongK_read (.slice (some ⟨g, go, none⟩) D.length rc) rfl rfl (fun wx hS => ex_move (by rfl) (by rfl) wx) ?_
                  change AlongK _ _ _ _ _ { tmps := #[_, _, _, _, _, _, _, _, _, .slice (some ⟨g, go, none⟩) D.length rc, _, _, _, _, .int .i64 (bst : Int), .int .i64 (j : Int), _, _, _, _, _, _, _, _, _, _, _, _, _, _, _, _, _, _, _, _, _, _, _, _, _, _, _, _, _, _, _, _, _, _, _, _, _, _, _, _, _, _, _, _, _, _, _, _, _, _, _, _, _, _, _, _, _, _, _, _, _, _, _, _, _, _, _, _, _, _, _, _, _, _, _, _, _, _, _, _, _, _, _, _, .slice (some ⟨g, go, none⟩) D.length rc, _, _, _, _, _, _, _, _, _, _, _, _, _, _, _, _, _, _, _, _, _, _, _, _, _, _, _, _, _, _, _, _], defers := _ } _
                  refine alongK_read (.int .i64 (j : Int)) rfl rfl (fun wx hS => ex_move (by rfl) (by rfl) wx) ?_
                  change AlongK _ _ _ _ _ { tmps := #[_, _, _, _, _, _, _, _, _, .slice (some ⟨g, go, none⟩) D.length rc, _, _, _, _, .int .i64 (bst : Int), .int .i64 (j : Int), _, _, _, _, _, _, _, _, _, _, _, _, _, _, _, _, _, _, _, _, _, _, _, _, _, _, _, _, _, _, _, _, _, _, _, _, _, _, _, _, _, _, _, _, _, _, _, _, _, _, _, _, _, _, _, _, _, _, _, _, _, _, _, _, _, _, _, _, _, _, _, _, _, _, _, _, _, _, _, _, _, _, _, _, .slice (some ⟨g, go, none⟩) D.length rc, .int .i64 (j : Int), _, _, _, _, _, _, _, _, _, _, _, _, _, _, _, _, _, _, _, _, _, _, _, _, _, _, _, _, _, _, _], defers := _ } _
                  refine alongK_read (.pointer (some ⟨g, go + j * 7, none⟩)) rfl rfl (fun wx hS => ex_index Try.underlying22 Try.sizeOf38 rfl rfl rfl (by omega) wx) ?_
                  change AlongK _ _ _ _ _ { tmps := #[_, _, _, _, _, _, _, _, _, .slice (some ⟨g, go, none⟩) D.length rc, _, _, _, _, .int .i64 (bst : Int), .int .i64 (j : Int), _, _, _, _, _, _, _, _, _, _, _, _, _, _, _, _, _, _, _, _, _, _, _, _, _, _, _, _, _, _, _, _, _, _, _, _, _, _, _, _, _, _, _, _, _, _, _, _, _, _, _, _, _, _, _, _, _, _, _, _, _, _, _, _, _, _, _, _, _, _, _, _, _, _, _, _, _, _, _, _, _, _, _, _, .slice (some ⟨g, go, none⟩) D.length rc, .int .i64 (j : Int), .pointer (some ⟨g, go + j * 7, none⟩), _, _, _, _, _, _, _, _, _, _, _, _, _, _, _, _, _, _, _, _, _, _, _, _, _, _, _, _, _, _], defers := _ } _
                  refine alongK_read (.pointer (some ⟨g, go + j * 7 + 5, none⟩)) rfl rfl (fun wx hS => ex_field rfl rfl wx (by simp [go_sem])) ?_
                  change AlongK _ _ _ _ _ { tmps := #[_, _, _, _, _, _, _, _, _, .slice (some ⟨g, go, none⟩) D.length rc, _, _, _, _, .int .i64 (bst : Int), .int .i64 (j : Int), _, _, _, _, _, _, _, _, _, _, _, _, _, _, _, _, _, _, _, _, _, _, _, _, _, _, _, _, _, _, _, _, _, _, _, _, _, _, _, _, _, _, _, _, _, _, _, _, _, _, _, _, _, _, _, _, _, _, _, _, _, _, _, _, _, _, _, _, _, _, _, _, _, _, _, _, _, _, _, _, _, _, _, _, .slice (some ⟨g, go, none⟩) D.length rc, .int .i64 (j : Int), .pointer (some ⟨g, go + j * 7, none⟩), .pointer (some ⟨g, go + j * 7 + 5, none⟩), _, _, _, _, _, _, _, _, _, _, _, _, _, _, _, _, _, _, _, _, _, _, _, _, _, _, _, _, _], defers := _ } _
                  refine alongK_read (.int .i64 Gy) rfl rfl (fun wx hS => ex_load Try.isAgg3 rfl rfl wx (HY.out wx hS).1) ?_
                  change AlongK _ _ _ _ _ { tmps := #[_, _, _, _, _, _, _, _, _, .slice (some ⟨g, go, none⟩) D.length rc, _, _, _, _, .int .i64 (bst : Int), .int .i64 (j : Int), _, _, _, _, _, _, _, _, _, _, _, _, _, _, _, _, _, _, _, _, _, _, _, _, _, _, _, _, _, _, _, _, _, _, _, _, _, _, _, _, _, _, _, _, _, _, _, _, _, _, _, _, _, _, _, _, _, _, _, _, _, _, _, _, _, _, _, _, _, _, _, _, _, _, _, _, _, _, _, _, _, _, _, _, .slice (some ⟨g, go, none⟩) D.length rc, .int .i64 (j : Int), .pointer (some ⟨g, go + j * 7, none⟩), .pointer (some ⟨g, go + j * 7 + 5, none⟩), .int .i64 Gy, _, _, _, _, _, _, _, _, _, _, _, _, _, _, _, _, _, _, _, _, _, _, _, _, _, _, _, _], defers := _ } _
                  refine alongK_read (.slice (some ⟨g, go, none⟩) D.length rc) rfl rfl (fun wx hS => ex_move (by rfl) (by rfl) wx) ?_
                  change AlongK _ _ _ _ _ { tmps := #[_, _, _, _, _, _, _, _, _, .slice (some ⟨g, go, none⟩) D.length rc, _, _, _, _, .int .i64 (bst : Int), .int .i64 (j : Int), _, _, _, _, _, _, _, _, _, _, _, _, _, _, _, _, _, _, _, _, _, _, _, _, _, _, _, _, _, _, _, _, _, _, _, _, _, _, _, _, _, _, _, _, _, _, _, _, _, _, _, _, _, _, _, _, _, _, _, _, _, _, _, _, _, _, _, _, _, _, _, _, _, _, _, _, _, _, _, _, _, _, _, _, .slice (some ⟨g, go, none⟩) D.length rc, .int .i64 (j : Int), .pointer (some ⟨g, go + j * 7, none⟩), .pointer (some ⟨g, go + j * 7 + 5, none⟩), .int .i64 Gy, .slice (some ⟨g, go, none⟩) D.length rc, _, _, _, _, _, _, _, _, _, _, _, _, _, _, _, _, _, _, _, _, _, _, _, _, _, _, _], defers := _ } _
                  refine alongK_read (.int .i64 (bst : Int)) rfl rfl (fun wx hS => ex_move (by rfl) (by rfl) wx) ?_
                  change AlongK _ _ _ _ _ { tmps := #[_, _, _, _, _, _, _, _, _, .slice (some ⟨g, go, none⟩) D.length rc, _, _, _, _, .int .i64 (bst : Int), .int .i64 (j : Int), _, _, _, _, _, _, _, _, _, _, _, _, _, _, _, _, _, _, _, _, _, _, _, _, _, _, _, _, _, _, _, _, _, _, _, _, _, _, _, _, _, _, _, _, _, _, _, _, _, _, _, _, _, _, _, _, _, _, _, _, _, _, _, _, _, _, _, _, _, _, _, _, _, _, _, _, _, _, _, _, _, _, _, _, .slice (some ⟨g, go, none⟩) D.length rc, .int .i64 (j : Int), .pointer (some ⟨g, go + j * 7, none⟩), .pointer (some ⟨g, go + j * 7 + 5, none⟩), .int .i64 Gy, .slice (some ⟨g, go, none⟩) D.length rc, .int .i64 (bst : Int), _, _, _, _, _, _, _, _, _, _, _, _, _, _, _, _, _, _, _, _, _, _, _, _, _, _], defers := _ } _
                  refine alongK_read (.pointer (some ⟨g, go + bst * 7, none⟩)) rfl rfl (fun wx hS => ex_index Try.underlying22 Try.sizeOf38 rfl rfl rfl (by omega) wx) ?_
                  change AlongK _ _ _ _ _ { tmps := #[_, _, _, _, _, _, _, _, _, .slice (some ⟨g, go, none⟩) D.length rc, _, _, _, _, .int .i64 (bst : Int), .int .i64 (j : Int), _, _, _, _, _, _, _, _, _, _, _, _, _, _, _, _, _, _, _, _, _, _, _, _, _, _, _, _, _, _, _, _, _, _, _, _, _, _, _, _, _, _, _, _, _, _, _, _, _, _, _, _, _, _, _, _, _, _, _, _, _, _, _, _, _, _, _, _, _, _, _, _, _, _, _, _, _, _, _, _, _, _, _, _, .slice (some ⟨g, go, none⟩) D.length rc, .int .i64 (j : Int), .pointer (some ⟨g, go + j * 7, none⟩), .pointer (some ⟨g, go + j * 7 + 5, none⟩), .int .i64 Gy, .slice (some ⟨g, go, none⟩) D.length rc, .int .i64 (bst : Int), .pointer (some ⟨g, go + bst * 7, none⟩), _, _, _, _, _, _, _, _, _, _, _, _, _, _, _, _, _, _, _, _, _, _, _, _, _], defers := _ } _
                  refine alongK_read (.pointer (some ⟨g, go + bst * 7 + 5, none⟩)) rfl rfl (fun wx hS => ex_field rfl rfl wx (by simp [go_sem])) ?_
                  change AlongK _ _ _ _ _ { tmps := #[_, _, _, _, _, _, _, _, _, .slice (some ⟨g, go, none⟩) D.length rc, _, _, _, _, .int .i64 (bst : Int), .int .i64 (j : Int), _, _, _, _, _, _, _, _, _, _, _, _, _, _, _, _, _, _, _, _, _, _, _, _, _, _, _, _, _, _, _, _, _, _, _, _, _, _, _, _, _, _, _, _, _, _, _, _, _, _, _, _, _, _, _, _, _, _, _, _, _, _, _, _, _, _, _, _, _, _, _, _, _, _, _, _, _, _, _, _, _, _, _, _, .slice (some ⟨g, go, none⟩) D.length rc, .int .i64 (j : Int), .pointer (some ⟨g, go + j * 7, none⟩), .pointer (some ⟨g, go + j * 7 + 5, none⟩), .int .i64 Gy, .slice (some ⟨g, go, none⟩) D.length rc, .int .i64 (bst : Int), .pointer (some ⟨g, go + bst * 7, none⟩), .pointer (some ⟨g, go + bst * 7 + 5, none⟩), _, _, _, _, _, _, _, _, _, _, _, _, _, _, _, _, _, _, _, _, _, _, _, _], defers := _ } _
                  refine alongK_read (.int .i64 Gz) rfl rfl (fun wx hS => ex_load Try.isAgg3 rfl rfl wx (HY.out wx hS).2) ?_
                  change AlongK _ _ _ _ _ { tmps := #[_, _, _, _, _, _, _, _, _, .slice (some ⟨g, go, none⟩) D.length rc, _, _, _, _, .int .i64 (bst : Int), .int .i64 (j : Int), _, _, _, _, _, _, _, _, _, _, _, _, _, _, _, _, _, _, _, _, _, _, _, _, _, _, _, _, _, _, _, _, _, _, _, _, _, _, _, _, _, _, _, _, _, _, _, _, _, _, _, _, _, _, _, _, _, _, _, _, _, _, _, _, _, _, _, _, _, _, _, _, _, _, _, _, _, _, _, _, _, _, _, _, .slice (some ⟨g, go, none⟩) D.length rc, .int .i64 (j : Int), .pointer (some ⟨g, go + j * 7, none⟩), .pointer (some ⟨g, go + j * 7 + 5, none⟩), .int .i64 Gy, .slice (some ⟨g, go, none⟩) D.length rc, .int .i64 (bst : Int), .pointer (some ⟨g, go + bst * 7, none⟩), .pointer (some ⟨g, go + bst * 7 + 5, none⟩), .int .i64 Gz, _, _, _, _, _, _, _, _, _, _, _, _, _, _, _, _, _, _, _, _, _, _, _], defers := _ } _
                  refine alongK_read (.bool true) rfl rfl (fun wx hS => ex_bin rfl rfl rfl wx (bin_lss _ _ Gy Gz true HLT.out wx)) ?_
                  change AlongK _ _ _ _ _ { tmps := #[_, _, _, _, _, _, _, _, _, .slice (some ⟨g, go, none⟩) D.length rc, _, _, _, _, .int .i64 (bst : Int), .int .i64 (j : Int), _, _, _, _, _, _, _, _, _, _, _, _, _, _, _, _, _, _, _, _, _, _, _, _, _, _, _, _, _, _, _, _, _, _, _, _, _, _, _, _, _, _, _, _, _, _, _, _, _, _, _, _, _, _, _, _, _, _, _, _, _, _, _, _, _, _, _, _, _, _, _, _, _, _, _, _, _, _, _, _, _, _, _, _, .slice (some ⟨g, go, none⟩) D.length rc, .int .i64 (j : Int), .pointer (some ⟨g, go + j * 7, none⟩), .pointer (some ⟨g, go + j * 7 + 5, none⟩), .int .i64 Gy, .slice (some ⟨g, go, none⟩) D.length rc, .int .i64 (bst : Int), .pointer (some ⟨g, go + bst * 7, none⟩), .pointer (some ⟨g, go + bst * 7 + 5, none⟩), .int .i64 Gz, .bool true, _, _, _, _, _, _, _, _, _, _, _, _, _, _, _, _, _, _, _, _, _, _], defers := _ } _
                  refine alongK_done ?_
                  focus
                    go_wp2
                    go_roundw
                    case rel => exact ⟨j, j + 1, rfl, by go_num, by omega, hjt, Lib.hid (Up.trans HU4.out (Up.drew1 _)), Lib.hid (HNX.out.1 HQ5.out)⟩
                    case measure => simp [intOf]; omega
                | false =>
                  have hlt5 : ¬ Gy < Gz := of_decide_eq_false HLT.out.symm
                  have HQ5 := Lib.hid hlt5
                  clear hlt5
                  go_wp2_with fail
                  refine region_alongK (fun x => Up wz x) (.read 0 (.read 1 (.read 2 (.read 3 (.read 4 (.read 5 (.read 6 (.read 7 (.read 8 (.read 9 (.read 10 (.nil)))))))))))) (by kernel_rfl) rfl (by kernel_rfl) (by kernel_rfl) (fun c a d v w h => by cases d <;> exact h) (Up.drew1 _) ?_
                  refine alongK_read (.slice (some ⟨g, go, none⟩) D.length rc) rfl rfl (fun wx hS => ex_move (by rfl) (by rfl) wx) ?_
                  change AlongK _ _ _ _ _ { tmps := #[_, _, _, _, _, _, _, _, _, .slice (some ⟨g, go, none⟩) D.length rc, _, _, _, _, .int .i64 (bst : Int), .int .i64 (j : Int), _, _, _, _, _, _, _, _, _, _, _, _, _, _, _, _, _, _, _, _, _, _, _, _, _, _, _, _, _, _, _, _, _, _, _, _, _, _, _, _, _, _, _, _, _, _, _, _, _, _, _, _, _, _, _, _, _, _, _, _, _, _, _, _, _, _, _, _, _, _, _, _, _, _, _, _, _, _, _, _, _, _, _, _, .slice (some ⟨g, go, none⟩) D.length rc, _, _, _, _, _, _, _, _, _, _, _, _, _, _, _, _, _, _, _, _, _, _, _, _, _, _, _, _, _, _, _, _], defers := _ } _
                  refine alongK_read (.int .i64 (j : Int)) rfl rfl (fun wx hS => ex_move (by rfl) (by rfl) wx) ?_
                  change AlongK _ _ _ _ _ { tmps := #[_, _, _, _, _, _, _, _, _, .slice (some ⟨g, go, none⟩) D.length rc, _, _, _, _, .int .i64 (bst : Int), .int .i64 (j : Int), _, _, _, _, _, _, _, _, _, _, _, _, _, _, _, _, _, _, _, _, _, _, _, _, _, _, _, _, _, _, _, _, _, _, _, _, _, _, _, _, _, _, _, _, _, _, _, _, _, _, _, _, _, _, _, _, _, _, _, _, _, _, _, _, _, _, _, _, _, _, _, _, _, _, _, _, _, _, _, _, _, _, _, _, .slice (some ⟨g, go, none⟩) D.length rc, .int .i64 (j : Int), _, _, _, _, _, _, _, _, _, _, _, _, _, _, _, _, _, _, _, _, _, _, _, _, _, _, _, _, _, _, _], defers := _ } _
                  refine alongK_read (.pointer (some ⟨g, go + j * 7, none⟩)) rfl rfl (fun wx hS => ex_index Try.underlying22 Try.sizeOf38 rfl rfl rfl (by omega) wx) ?_
                  change AlongK _ _ _ _ _ { tmps := #[_, _, _, _, _, _, _, _, _, .slice (some ⟨g, go, none⟩) D.length rc, _, _, _, _, .int .i64 (bst : Int), .int .i64 (j : Int), _, _, _, _, _, _, _, _, _, _, _, _, _, _, _, _, _, _, _, _, _, _, _, _, _, _, _, _, _, _, _, _, _, _, _, _, _, _, _, _, _, _, _, _, _, _, _, _, _, _, _, _, _, _, _, _, _, _, _, _, _, _, _, _, _, _, _, _, _, _, _, _, _, _, _, _, _, _, _, _, _, _, _, _, .slice (some ⟨g, go, none⟩) D.length rc, .int .i64 (j : Int), .pointer (some ⟨g, go + j * 7, none⟩), _, _, _, _, _, _, _, _, _, _, _, _, _, _, _, _, _, _, _, _, _, _, _, _, _, _, _, _, _, _], defers := _ } _
                  refine alongK_read (.pointer (some ⟨g, go + j * 7 + 5, none⟩)) rfl rfl (fun wx hS => ex_field rfl rfl wx (by simp [go_sem])) ?_
                  change AlongK _ _ _ _ _ { tmps := #[_, _, _, _, _, _, _, _, _, .slice (some ⟨g, go, none⟩) D.length rc, _, _, _, _, .int .i64 (bst : Int), .int .i64 (j : Int), _, _, _, _, _, _, _, _, _, _, _, _, _, _, _, _, _, _, _, _, _, _, _, _, _, _, _, _, _, _, _, _, _, _, _, _, _, _, _, _, _, _, _, _, _, _, _, _, _, _, _, _, _, _, _, _, _, _, _, _, _, _, _, _, _, _, _, _, _, _, _, _, _, _, _, _, _, _, _, _, _, _, _, _, .slice (some ⟨g, go, none⟩) D.length rc, .int .i64 (j : Int), .pointer (some ⟨g, go + j * 7, none⟩), .pointer (some ⟨g, go + j * 7 + 5, none⟩), _, _, _, _, _, _, _, _, _, _, _, _, _, _, _, _, _, _, _, _, _, _, _, _, _, _, _, _, _], defers := _ } _
                  refine alongK_read (.int .i64 Gy) rfl rfl (fun wx hS => ex_load Try.isAgg3 rfl rfl wx (HY.out wx hS).1) ?_
                  change AlongK _ _ _ _ _ { tmps := #[_, _, _, _, _, _, _, _, _, .slice (some ⟨g, go, none⟩) D.length rc, _, _, _, _, .int .i64 (bst : Int), .int .i64 (j : Int), _, _, _, _, _, _, _, _, _, _, _, _, _, _, _, _, _, _, _, _, _, _, _, _, _, _, _, _, _, _, _, _, _, _, _, _, _, _, _, _, _, _, _, _, _, _, _, _, _, _, _, _, _, _, _, _, _, _, _, _, _, _, _, _, _, _, _, _, _, _, _, _, _, _, _, _, _, _, _, _, _, _, _, _, .slice (some ⟨g, go, none⟩) D.length rc, .int .i64 (j : Int), .pointer (some ⟨g, go + j * 7, none⟩), .pointer (some ⟨g, go + j * 7 + 5, none⟩), .int .i64 Gy, _, _, _, _, _, _, _, _, _, _, _, _, _, _, _, _, _, _, _, _, _, _, _, _, _, _, _, _], defers := _ } _
                  refine alongK_read (.slice (some ⟨g, go, none⟩) D.length rc) rfl rfl (fun wx hS => ex_move (by rfl) (by rfl) wx) ?_
                  change AlongK _ _ _ _ _ { tmps := #[_, _, _, _, _, _, _, _, _, .slice (some ⟨g, go, none⟩) D.length rc, _, _, _, _, .int .i64 (bst : Int), .int .i64 (j : Int), _, _, _, _, _, _, _, _, _, _, _, _, _, _, _, _, _, _, _, _, _, _, _, _, _, _, _, _, _, _, _, _, _, _, _, _, _, _, _, _, _, _, _, _, _, _, _, _, _, _, _, _, _, _, _, _, _, _, _, _, _, _, _, _, _, _, _, _, _, _, _, _, _, _, _, _, _, _, _, _, _, _, _, _, .slice (some ⟨g, go, none⟩) D.length rc, .int .i64 (j : Int), .pointer (some ⟨g, go + j * 7, none⟩), .pointer (some ⟨g, go + j * 7 + 5, none⟩), .int .i64 Gy, .slice (some ⟨g, go, none⟩) D.length rc, _, _, _, _, _, _, _, _, _, _, _, _, _, _, _, _, _, _, _, _, _, _, _, _, _, _, _], defers := _ } _
                  refine alongK_read (.int .i64 (bst : Int)) rfl rfl (fun wx hS => ex_move (by rfl) (by rfl) wx) ?_
                  change AlongK _ _ _ _ _ { tmps := #[_, _, _, _, _, _, _, _, _, .slice (some ⟨g, go, none⟩) D.length rc, _, _, _, _, .int .i64 (bst : Int), .int .i64 (j : Int), _, _, _, _, _, _, _, _, _, _, _, _, _, _, _, _, _, _, _, _, _, _, _, _, _, _, _, _, _, _, _, _, _, _, _, _, _, _, _, _, _, _, _, _, _, _, _, _, _, _, _, _, _, _, _, _, _, _, _, _, _, _, _, _, _, _, _, _, _, _, _, _, _, _, _, _, _, _, _, _, _, _, _, _, .slice (some ⟨g, go, none⟩) D.length rc, .int .i64 (j : Int), .pointer (some ⟨g, go + j * 7, none⟩), .pointer (some ⟨g, go + j * 7 + 5, none⟩), .int .i64 Gy, .slice (some ⟨g, go, none⟩) D.length rc, .int .i64 (bst : Int), _, _, _, _, _, _, _, _, _, _, _, _, _, _, _, _, _, _, _, _, _, _, _, _, _, _], defers := _ } _
                  refine alongK_read (.pointer (some ⟨g, go + bst * 7, none⟩)) rfl rfl (fun wx hS => ex_index Try.underlying22 Try.sizeOf38 rfl rfl rfl (by omega) wx) ?_
                  change AlongK _ _ _ _ _ { tmps := #[_, _, _, _, _, _, _, _, _, .slice (some ⟨g, go, none⟩) D.length rc, _, _, _, _, .int .i64 (bst : Int), .int .i64 (j : Int), _, _, _, _, _, _, _, _, _, _, _, _, _, _, _, _, _, _, _, _, _, _, _, _, _, _, _, _, _, _, _, _, _, _, _, _, _, _, _, _, _, _, _, _, _, _, _, _, _, _, _, _, _, _, _, _, _, _, _, _, _, _, _, _, _, _, _, _, _, _, _, _, _, _, _, _, _, _, _, _, _, _, _, _, .slice (some ⟨g, go, none⟩) D.length rc, .int .i64 (j : Int), .pointer (some ⟨g, go + j * 7, none⟩), .pointer (some ⟨g, go + j * 7 + 5, none⟩), .int .i64 Gy, .slice (some ⟨g, go, none⟩) D.length rc, .int .i64 (bst : Int), .pointer (some ⟨g, go + bst * 7, none⟩), _, _, _, _, _, _, _, _, _, _, _, _, _, _, _, _, _, _, _, _, _, _, _, _, _], defers := _ } _
                  refine alongK_read (.pointer (some ⟨g, go + bst * 7 + 5, none⟩)) rfl rfl (fun wx hS => ex_field rfl rfl wx (by simp [go_sem])) ?_
                  change AlongK _ _ _ _ _ { tmps := #[_, _, _, _, _, _, _, _, _, .slice (some ⟨g, go, none⟩) D.length rc, _, _, _, _, .int .i64 (bst : Int), .int .i64 (j : Int), _, _, _, _, _, _, _, _, _, _, _, _, _, _, _, _, _, _, _, _, _, _, _, _, _, _, _, _, _, _, _, _, _, _, _, _, _, _, _, _, _, _, _, _, _, _, _, _, _, _, _, _, _, _, _, _, _, _, _, _, _, _, _, _, _, _, _, _, _, _, _, _, _, _, _, _, _, _, _, _, _, _, _, _, .slice (some ⟨g, go, none⟩) D.length rc, .int .i64 (j : Int), .pointer (some ⟨g, go + j * 7, none⟩), .pointer (some ⟨g, go + j * 7 + 5, none⟩), .int .i64 Gy, .slice (some ⟨g, go, none⟩) D.length rc, .int .i64 (bst : Int), .pointer (some ⟨g, go + bst * 7, none⟩), .pointer (some ⟨g, go + bst * 7 + 5, none⟩), _, _, _, _, _, _, _, _, _, _, _, _, _, _, _, _, _, _, _, _, _, _, _, _], defers := _ } _
                  refine alongK_read (.int .i64 Gz) rfl rfl (fun wx hS => ex_load Try.isAgg3 rfl rfl wx (HY.out wx hS).2) ?_
                  change AlongK _ _ _ _ _ { tmps := #[_, _, _, _, _, _, _, _, _, .slice (some ⟨g, go, none⟩) D.length rc, _, _, _, _, .int .i64 (bst : Int), .int .i64 (j : Int), _, _, _, _, _, _, _, _, _, _, _, _, _, _, _, _, _, _, _, _, _, _, _, _, _, _, _, _, _, _, _, _, _, _, _, _, _, _, _, _, _, _, _, _, _, _, _, _, _, _, _, _, _, _, _, _, _, _, _, _, _, _, _, _, _, _, _, _, _, _, _, _, _, _, _, _, _, _, _, _, _, _, _, _, .slice (some ⟨g, go, none⟩) D.length rc, .int .i64 (j : Int), .pointer (some ⟨g, go + j * 7, none⟩), .pointer (some ⟨g, go + j * 7 + 5, none⟩), .int .i64 Gy, .slice (some ⟨g, go, none⟩) D.length rc, .int .i64 (bst : Int), .pointer (some ⟨g, go + bst * 7, none⟩), .pointer (some ⟨g, go + bst * 7 + 5, none⟩), .int .i64 Gz, _, _, _, _, _, _, _, _, _, _, _, _, _, _, _, _, _, _, _, _, _, _, _], defers := _ } _
                  refine alongK_read (.bool false) rfl rfl (fun wx hS => ex_bin rfl rfl rfl wx (bin_lss _ _ Gy Gz false HLT.out wx)) ?_
                  change AlongK _ _ _ _ _ { tmps := #[_, _, _, _, _, _, _, _, _, .slice (some ⟨g, go, none⟩) D.length rc, _, _, _, _, .int .i64 (bst : Int), .int .i64 (j : Int), _, _, _, _, _, _, _, _, _, _, _, _, _, _, _, _, _, _, _, _, _, _, _, _, _, _, _, _, _, _, _, _, _, _, _, _, _, _, _, _, _, _, _, _, _, _, _, _, _, _, _, _, _, _, _, _, _, _, _, _, _, _, _, _, _, _, _, _, _, _, _, _, _, _, _, _, _, _, _, _, _, _, _, _, .slice (some ⟨g, go, none⟩) D.length rc, .int .i64 (j : Int), .pointer (some ⟨g, go + j * 7, none⟩), .pointer (some ⟨g, go + j * 7 + 5, none⟩), .int .i64 Gy, .slice (some ⟨g, go, none⟩) D.length rc, .int .i64 (bst : Int), .pointer (some ⟨g, go + bst * 7, none⟩), .pointer (some ⟨g, go + bst * 7 + 5, none⟩), .int .i64 Gz, .bool false, _, _, _, _, _, _, _, _, _, _, _, _, _, _, _, _, _, _, _, _, _, _], defers := _ } _
                  refine alongK_done ?_
                  focus
                    go_wp2
                    go_roundw
                    case rel => exact ⟨bst, j + 1, rfl, by go_num, by omega, hjt, Lib.hid (Up.trans HU4.out (Up.drew1 _)), Lib.hid (HNX.out.2 HQ5.out)⟩
                    case measure => simp [intOf]; omega
              · have hjz : ¬ (j : Int) < (D.length : Int) := by omega
                obtain rfl : j = D.length := by omega
                have hmm : ∀ y ∈ D, vsK (D[bst]?.getD default) ≤ vsK y := by have := HM.out; rwa [List.take_length] at this
                have HMM := Lib.hid hmm
                obtain ⟨r, hr1, hr2⟩ := SelM.next HS.out hbl HUP.out hmm
                have hm4 := HS.out.toSelM.up HU4.out
                have va := VArg.of_own hm4.rest
                obtain ⟨g, go, hg⟩ := va.ptr (by omega)
                subst hg
                have hrc : D.length ≤ rc := by obtain ⟨_, _, e, h, _⟩ := va; cases e; exact h
                have HE : Hid (∀ wx, KeptBut (fun k => k = w.heap.size + 1 + 1 ∨ (Value.slice ca t cc).ownBlock = some k) wr wx → (loadVar 38 ⟨g, go + bst * 7, none⟩).run Try.prog wx = .ok (.agg (vsA r)) wx) := fun wx h => (VArg.of_own (own_kept hm4.rest h hm4.off)).load hr1
                have HC : Hid (∀ wx, Up wr wx → wx.cell? ⟨w.heap.size + 1 + 1, 3, none⟩ = some (.slice ca t cc)) := fun wx h => (ct_cells ((h.block _ (lt_of_block hm4.cbox)).trans hm4.cbox)).2.2.2
                have HKD : Hid (KeptBut (fun k => k = w.heap.size + 1 + 1 ∨ (Value.slice ca t cc).ownBlock = some k) wr wr.drew) := KeptBut.of_up (Up.drew1 wr)
                obtain ⟨bx, wn, ca', cc', w6, p1, p2, p3, p4, p5, p6, p7⟩ := sel_pick hm4 hr2 (by omega)
                have HRUN := Lib.hid p1
                have HUn := Lib.hid p2
                have HAP := Lib.hid p3
                have HK6 := Lib.hid p4
                have HO6 := Lib.hid p5
                have HK7 := Lib.hid p6
                have HM7 := Lib.hid p7
                have HKN : Hid (KeptBut (fun k => k = w.heap.size + 1 + 1 ∨ (Value.slice ca t cc).ownBlock = some k) wr wn) := KeptBut.of_up p2
                clear p1 p2 p3 p4 p5 p6 p7 hm4 va hmm hr1 hr2 HM c0 c1 c2 c3
                go_wp2_with fail
                refine region_alongK (fun x => KeptBut (fun k => k = w.heap.size + 1 + 1 ∨ (Value.slice ca t cc).ownBlock = some k) wr x) (.read 0 (.read 2 (.read 3 (.read 4 (.read 5 (.fork 1 (.step 6 (.step 7 (.read 8 (.step 9 (.nil))))) 6 (.step 1 (.step 7 (.read 8 (.step 9 (.nil))))))))))) (by kernel_rfl) rfl (by kernel_rfl) (by kernel_rfl) (fun c a d v w h => by cases d <;> exact h) (HKD.out) ?_
                refine alongK_read (.pointer (some ⟨w.heap.size + 1 + 1, 3, none⟩)) rfl rfl (fun wx hS => ex_field rfl rfl wx (by simp [go_sem])) ?_
                change AlongK _ _ _ _ _ { tmps := #[_, _, _, _, _, _, _, _, .pointer (some ⟨w.heap.size + 1 + 1, 0, none⟩), .slice (some ⟨g, go, none⟩) D.length rc, _, _, _, _, .int .i64 (bst : Int), _, _, _, _, _, _, _, _, _, _, _, _, _, _, _, _, _, _, _, _, _, _, _, _, _, _, _, _, _, _, _, _, _, _, _, _, _, _, _, _, _, _, _, _, _, _, _, _, _, _, _, _, _, _, _, _, _, _, _, _, _, _, _, _, _, _, _, _, _, _, _, _, _, _, _, _, _, _, _, _, _, _, _, _, _, _, _, _, _, _, _, _, _, _, _, _, _, .pointer (some ⟨w.heap.size + 1 + 1, 3, none⟩), _, _, _, _, _, _, _, _, _, _, _, _, _, _, _, _, _, _, _, _], defers := _ } _
                refine alongK_read (.slice (some ⟨g, go, none⟩) D.length rc) rfl rfl (fun wx hS => ex_move (by rfl) (by rfl) wx) ?_
                change AlongK _ _ _ _ _ { tmps := #[_, _, _, _, _, _, _, _, .pointer (some ⟨w.heap.size + 1 + 1, 0, none⟩), .slice (some ⟨g, go, none⟩) D.length rc, _, _, _, _, .int .i64 (bst : Int), _, _, _, _, _, _, _, _, _, _, _, _, _, _, _, _, _, _, _, _, _, _, _, _, _, _, _, _, _, _, _, _, _, _, _, _, _, _, _, _, _, _, _, _, _, _, _, _, _, _, _, _, _, _, _, _, _, _, _, _, _, _, _, _, _, _, _, _, _, _, _, _, _, _, _, _, _, _, _, _, _, _, _, _, _, _, _, _, _, _, _, _, _, _, _, _, _, .pointer (some ⟨w.heap.size + 1 + 1, 3, none⟩), _, .slice (some ⟨g, go, none⟩) D.length rc, _, _, _, _, _, _, _, _, _, _, _, _, _, _, _, _, _, _], defers := _ } _
                refine alongK_read (.int .i64 (bst : Int)) rfl rfl (fun wx hS => ex_move (by rfl) (by rfl) wx) ?_
                change AlongK _ _ _ _ _ { tmps := #[_, _, _, _, _, _, _, _, .pointer (some ⟨w.heap.size + 1 + 1, 0, none⟩), .slice (some ⟨g, go, none⟩) D.length rc, _, _, _, _, .int .i64 (bst : Int), _, _, _, _, _, _, _, _, _, _, _, _, _, _, _, _, _, _, _, _, _, _, _, _, _, _, _, _, _, _, _, _, _, _, _, _, _, _, _, _, _, _, _, _, _, _, _, _, _, _, _, _, _, _, _, _, _, _, _, _, _, _, _, _, _, _, _, _, _, _, _, _, _, _, _, _, _, _, _, _, _, _, _, _, _, _, _, _, _, _, _, _, _, _, _, _, _, .pointer (some ⟨w.heap.size + 1 + 1, 3, none⟩), _, .slice (some ⟨g, go, none⟩) D.length rc, .int .i64 (bst : Int), _, _, _, _, _, _, _, _, _, _, _, _, _, _, _, _, _], defers := _ } _
                refine alongK_read (.pointer (some ⟨g, go + bst * 7, none⟩)) rfl rfl (fun wx hS => ex_index Try.underlying22 Try.sizeOf38 rfl rfl rfl (by omega) wx) ?_
                change AlongK _ _ _ _ _ { tmps := #[_, _, _, _, _, _, _, _, .pointer (some ⟨w.heap.size + 1 + 1, 0, none⟩), .slice (some ⟨g, go, none⟩) D.length rc, _, _, _, _, .int .i64 (bst : Int), _, _, _, _, _, _, _, _, _, _, _, _, _, _, _, _, _, _, _, _, _, _, _, _, _, _, _, _, _, _, _, _, _, _, _, _, _, _, _, _, _, _, _, _, _, _, _, _, _, _, _, _, _, _, _, _, _, _, _, _, _, _, _, _, _, _, _, _, _, _, _, _, _, _, _, _, _, _, _, _, _, _, _, _, _, _, _, _, _, _, _, _, _, _, _, _, _, .pointer (some ⟨w.heap.size + 1 + 1, 3, none⟩), _, .slice (some ⟨g, go, none⟩) D.length rc, .int .i64 (bst : Int), .pointer (some ⟨g, go + bst * 7, none⟩), _, _, _, _, _, _, _, _, _, _, _, _, _, _, _, _], defers := _ } _
                refine alongK_read (.agg (vsA r)) rfl rfl (fun wx hS => ex_ldv (x := .tmp 116) rfl rfl (HE.out wx hS)) ?_
                change AlongK _ _ _ _ _ { tmps := #[_, _, _, _, _, _, _, _, .pointer (some ⟨w.heap.size + 1 + 1, 0, none⟩), .slice (some ⟨g, go, none⟩) D.length rc, _, _, _, _, .int .i64 (bst : Int), _, _, _, _, _, _, _, _, _, _, _, _, _, _, _, _, _, _, _, _, _, _, _, _, _, _, _, _, _, _, _, _, _, _, _, _, _, _, _, _, _, _, _, _, _, _, _, _, _, _, _, _, _, _, _, _, _, _, _, _, _, _, _, _, _, _, _, _, _, _, _, _, _, _, _, _, _, _, _, _, _, _, _, _, _, _, _, _, _, _, _, _, _, _, _, _, _, .pointer (some ⟨w.heap.size + 1 + 1, 3, none⟩), _, .slice (some ⟨g, go, none⟩) D.length rc, .int .i64 (bst : Int), .pointer (some ⟨g, go + bst * 7, none⟩), .agg (vsA r), _, _, _, _, _, _, _, _, _, _, _, _, _, _, _], defers := _ } _
                refine alongK_fork ?_ ?_
                refine opK_run (.slice ca t cc) _ rfl rfl (ex_load Try.isAgg22 rfl rfl _ (HC.out _ (Up.drew1 _))) (fun x => KeptBut (fun k => k = w.heap.size + 1 + 1 ∨ (Value.slice ca t cc).ownBlock = some k) wr x) (fun _ h => h) HKD.out ?_
                change AlongK _ _ _ _ _ { tmps := #[_, _, _, _, _, _, _, _, .pointer (some ⟨w.heap.size + 1 + 1, 0, none⟩), .slice (some ⟨g, go, none⟩) D.length rc, _, _, _, _, .int .i64 (bst : Int), _, _, _, _, _, _, _, _, _, _, _, _, _, _, _, _, _, _, _, _, _, _, _, _, _, _, _, _, _, _, _, _, _, _, _, _, _, _, _, _, _, _, _, _, _, _, _, _, _, _, _, _, _, _, _, _, _, _, _, _, _, _, _, _, _, _, _, _, _, _, _, _, _, _, _, _, _, _, _, _, _, _, _, _, _, _, _, _, _, _, _, _, _, _, _, _, _, .pointer (some ⟨w.heap.size + 1 + 1, 3, none⟩), .slice ca t cc, .slice (some ⟨g, go, none⟩) D.length rc, .int .i64 (bst : Int), .pointer (some ⟨g, go + bst * 7, none⟩), .agg (vsA r), _, _, _, _, _, _, _, _, _, _, _, _, _, _, _], defers := _ } _
                refine alongK_step ?_
                refine opK_run (.slice (some ⟨bx, 0, none⟩) 1 1) _ rfl rfl (ex_slice1 _ _ HRUN.out rfl rfl) (fun x => KeptBut (fun k => k = w.heap.size + 1 + 1 ∨ (Value.slice ca t cc).ownBlock = some k) wr x) (fun _ h => h) HKN.out ?_
                change AlongK _ _ _ _ _ { tmps := #[_, _, _, _, _, _, _, _, .pointer (some ⟨w.heap.size + 1 + 1, 0, none⟩), .slice (some ⟨g, go, none⟩) D.length rc, _, _, _, _, .int .i64 (bst : Int), _, _, _, _, _, _, _, _, _, _, _, _, _, _, _, _, _, _, _, _, _, _, _, _, _, _, _, _, _, _, _, _, _, _, _, _, _, _, _, _, _, _, _, _, _, _, _, _, _, _, _, _, _, _, _, _, _, _, _, _, _, _, _, _, _, _, _, _, _, _, _, _, _, _, _, _, _, _, _, _, _, _, _, _, _, _, _, _, _, _, _, _, _, _, _, _, _, .pointer (some ⟨w.heap.size + 1 + 1, 3, none⟩), .slice ca t cc, .slice (some ⟨g, go, none⟩) D.length rc, .int .i64 (bst : Int), .pointer (some ⟨g, go + bst * 7, none⟩), .agg (vsA r), .slice (some ⟨bx, 0, none⟩) 1 1, _, _, _, _, _, _, _, _, _, _, _, _, _, _], defers := _ } _
                refine alongK_step ?_
                refine opK_run (.slice ca' (t + 1) cc') _ rfl rfl (ex_app rfl rfl rfl rfl HAP.out) (fun x => KeptBut (fun k => k = w.heap.size + 1 + 1 ∨ (Value.slice ca t cc).ownBlock = some k) wr x) (fun _ h => h) HK6.out ?_
                change AlongK _ _ _ _ _ { tmps := #[_, _, _, _, _, _, _, _, .pointer (some ⟨w.heap.size + 1 + 1, 0, none⟩), .slice (some ⟨g, go, none⟩) D.length rc, _, _, _, _, .int .i64 (bst : Int), _, _, _, _, _, _, _, _, _, _, _, _, _, _, _, _, _, _, _, _, _, _, _, _, _, _, _, _, _, _, _, _, _, _, _, _, _, _, _, _, _, _, _, _, _, _, _, _, _, _, _, _, _, _, _, _, _, _, _, _, _, _, _, _, _, _, _, _, _, _, _, _, _, _, _, _, _, _, _, _, _, _, _, _, _, _, _, _, _, _, _, _, _, _, _, _, _, .pointer (some ⟨w.heap.size + 1 + 1, 3, none⟩), .slice ca t cc, .slice (some ⟨g, go, none⟩) D.length rc, .int .i64 (bst : Int), .pointer (some ⟨g, go + bst * 7, none⟩), .agg (vsA r), .slice (some ⟨bx, 0, none⟩) 1 1, .slice ca' (t + 1) cc', _, _, _, _, _, _, _, _, _, _, _, _, _], defers := _ } _
                refine alongK_read (.pointer (some ⟨w.heap.size + 1 + 1, 3, none⟩)) rfl rfl (fun wx hS => ex_field rfl rfl wx (by simp [go_sem])) ?_
                change AlongK _ _ _ _ _ { tmps := #[_, _, _, _, _, _, _, _, .pointer (some ⟨w.heap.size + 1 + 1, 0, none⟩), .slice (some ⟨g, go, none⟩) D.length rc, _, _, _, _, .int .i64 (bst : Int), _, _, _, _, _, _, _, _, _, _, _, _, _, _, _, _, _, _, _, _, _, _, _, _, _, _, _, _, _, _, _, _, _, _, _, _, _, _, _, _, _, _, _, _, _, _, _, _, _, _, _, _, _, _, _, _, _, _, _, _, _, _, _, _, _, _, _, _, _, _, _, _, _, _, _, _, _, _, _, _, _, _, _, _, _, _, _, _, _, _, _, _, _, _, _, _, _, .pointer (some ⟨w.heap.size + 1 + 1, 3, none⟩), .slice ca t cc, .slice (some ⟨g, go, none⟩) D.length rc, .int .i64 (bst : Int), .pointer (some ⟨g, go + bst * 7, none⟩), .agg (vsA r), .slice (some ⟨bx, 0, none⟩) 1 1, .slice ca' (t + 1) cc', .pointer (some ⟨w.heap.size + 1 + 1, 3, none⟩), _, _, _, _, _, _, _, _, _, _, _, _], defers := _ } _
                refine alongK_step ?_
                refine opK_store _ rfl rfl (ex_sto rfl rfl rfl HO6.out (by simp)) (fun x => KeptBut (fun k => k = w.heap.size + 1 + 1 ∨ (Value.slice ca t cc).ownBlock = some k) wr x) (fun _ h => h) HK7.out ?_
                change AlongK _ _ _ _ _ { tmps := #[_, _, _, _, _, _, _, _, .pointer (some ⟨w.heap.size + 1 + 1, 0, none⟩), .slice (some ⟨g, go, none⟩) D.length rc, _, _, _, _, .int .i64 (bst : Int), _, _, _, _, _, _, _, _, _, _, _, _, _, _, _, _, _, _, _, _, _, _, _, _, _, _, _, _, _, _, _, _, _, _, _, _, _, _, _, _, _, _, _, _, _, _, _, _, _, _, _, _, _, _, _, _, _, _, _, _, _, _, _, _, _, _, _, _, _, _, _, _, _, _, _, _, _, _, _, _, _, _, _, _, _, _, _, _, _, _, _, _, _, _, _, _, _, .pointer (some ⟨w.heap.size + 1 + 1, 3, none⟩), .slice ca t cc, .slice (some ⟨g, go, none⟩) D.length rc, .int .i64 (bst : Int), .pointer (some ⟨g, go + bst * 7, none⟩), .agg (vsA r), .slice (some ⟨bx, 0, none⟩) 1 1, .slice ca' (t + 1) cc', .pointer (some ⟨w.heap.size + 1 + 1, 3, none⟩), _, _, _, _, _, _, _, _, _, _, _, _], defers := _ } _
                refine alongK_done ?_
                focus
                  generalize w6.setCell ⟨w.heap.size + 1 + 1, 3, none⟩ (.slice ca' (t + 1) cc') = w7 at HM7 HK7 ⊢
                  have va := (VArg.of_own HM7.out.rest).up (Up.drew1 w7)
                  obtain ⟨v8, w8, q1, q2, q3⟩ := sel_app1 (base := w7.heap.size) va hbl (by omega) (Nat.le_refl _)
                  have hu8 := Up.trans (Up.drew1 w7) q3
                  obtain ⟨off', o1, o2⟩ := cut_sufv g go D.length rc (bst + 1) hbl hrc
                  obtain ⟨a9, c9, w9, r1, r2, r3⟩ := sel_app2 (c2 := rc - (bst + 1)) (va.up q3) hbl (by omega) hu8.size q2 o1
                  have HA8 := Lib.hid q1
                  have HA9 := Lib.hid r1
                  have HO9 := Lib.hid r2
                  have HU9 := Lib.hid (up_row hu8 q2 r3 (Nat.le_refl _))
                  have HP1 := Lib.hid (cut_prev g go D.length rc bst (by omega) (by omega))
                  have HP2 := Lib.hid o2
                  clear va q1 q2 q3 hu8 o1 o2 r1 r2 r3 HK6 HK7 HO6 HAP HUn HRUN HKD HKN HE HC
                  go_wp2_with fail
                  refine region_alongK (fun _ => True) (.read 0 (.read 1 (.read 2 (.read 3 (.read 5 (.read 6 (.read 7 (.read 8 (.step 4 (.step 9 (.read 10 (.nil)))))))))))) (by kernel_rfl) rfl (by kernel_rfl) (by kernel_rfl) (fun c a d v w h => by cases d <;> exact h) (trivial) ?_
                  refine alongK_read (.slice none 0 0) rfl rfl (fun wx hS => ex_move (by rfl) (by rfl) wx) ?_
                  change AlongK _ _ _ _ _ { tmps := #[_, _, _, _, _, _, _, _, _, .slice (some ⟨g, go, none⟩) D.length rc, _, _, _, _, .int .i64 (bst : Int), _, .slice none 0 0, _, _, _, _, _, _, _, _, _, _, _, _, _, _, _, _, _, _, _, _, _, _, _, _, _, _, _, _, _, _, _, _, _, _, _, _, _, _, _, _, _, _, _, _, _, _, _, _, _, _, _, _, _, _, _, _, _, _, _, _, _, _, _, _, _, _, _, _, _, _, _, _, _, _, _, _, _, _, _, _, _, _, _, _, _, _, _, _, _, _, _, _, _, _, _, _, _, _, _, _, _, _, _, _, .slice none 0 0, _, _, _, _, _, _, _, _, _, _, _], defers := _ } _
                  refine alongK_read (.slice (some ⟨g, go, none⟩) D.length rc) rfl rfl (fun wx hS => ex_move (by rfl) (by rfl) wx) ?_
                  change AlongK _ _ _ _ _ { tmps := #[_, _, _, _, _, _, _, _, _, .slice (some ⟨g, go, none⟩) D.length rc, _, _, _, _, .int .i64 (bst : Int), _, .slice none 0 0, _, _, _, _, _, _, _, _, _, _, _, _, _, _, _, _, _, _, _, _, _, _, _, _, _, _, _, _, _, _, _, _, _, _, _, _, _, _, _, _, _, _, _, _, _, _, _, _, _, _, _, _, _, _, _, _, _, _, _, _, _, _, _, _, _, _, _, _, _, _, _, _, _, _, _, _, _, _, _, _, _, _, _, _, _, _, _, _, _, _, _, _, _, _, _, _, _, _, _, _, _, _, _, _, .slice none 0 0, .slice (some ⟨g, go, none⟩) D.length rc, _, _, _, _, _, _, _, _, _, _], defers := _ } _
                  refine alongK_read (.int .i64 (bst : Int)) rfl rfl (fun wx hS => ex_move (by rfl) (by rfl) wx) ?_
                  change AlongK _ _ _ _ _ { tmps := #[_, _, _, _, _, _, _, _, _, .slice (some ⟨g, go, none⟩) D.length rc, _, _, _, _, .int .i64 (bst : Int), _, .slice none 0 0, _, _, _, _, _, _, _, _, _, _, _, _, _, _, _, _, _, _, _, _, _, _, _, _, _, _, _, _, _, _, _, _, _, _, _, _, _, _, _, _, _, _, _, _, _, _, _, _, _, _, _, _, _, _, _, _, _, _, _, _, _, _, _, _, _, _, _, _, _, _, _, _, _, _, _, _, _, _, _, _, _, _, _, _, _, _, _, _, _, _, _, _, _, _, _, _, _, _, _, _, _, _, _, _, .slice none 0 0, .slice (some ⟨g, go, none⟩) D.length rc, .int .i64 (bst : Int), _, _, _, _, _, _, _, _, _], defers := _ } _
                  refine alongK_read (.slice (some ⟨g, go, none⟩) bst rc) rfl rfl (fun wx hS => ex_cut (sv := .slice (some ⟨g, go, none⟩) D.length rc) (lv := none) (hv := some (.int .i64 (bst : Int))) rfl rfl rfl rfl wx (HP1.out wx)) ?_
                  change AlongK _ _ _ _ _ { tmps := #[_, _, _, _, _, _, _, _, _, .slice (some ⟨g, go, none⟩) D.length rc, _, _, _, _, .int .i64 (bst : Int), _, .slice none 0 0, _, _, _, _, _, _, _, _, _, _, _, _, _, _, _, _, _, _, _, _, _, _, _, _, _, _, _, _, _, _, _, _, _, _, _, _, _, _, _, _, _, _, _, _, _, _, _, _, _, _, _, _, _, _, _, _, _, _, _, _, _, _, _, _, _, _, _, _, _, _, _, _, _, _, _, _, _, _, _, _, _, _, _, _, _, _, _, _, _, _, _, _, _, _, _, _, _, _, _, _, _, _, _, _, .slice none 0 0, .slice (some ⟨g, go, none⟩) D.length rc, .int .i64 (bst : Int), .slice (some ⟨g, go, none⟩) bst rc, _, _, _, _, _, _, _, _], defers := _ } _
                  refine alongK_read (.slice (some ⟨g, go, none⟩) D.length rc) rfl rfl (fun wx hS => ex_move (by rfl) (by rfl) wx) ?_
                  change AlongK _ _ _ _ _ { tmps := #[_, _, _, _, _, _, _, _, _, .slice (some ⟨g, go, none⟩) D.length rc, _, _, _, _, .int .i64 (bst : Int), _, .slice none 0 0, _, _, _, _, _, _, _, _, _, _, _, _, _, _, _, _, _, _, _, _, _, _, _, _, _, _, _, _, _, _, _, _, _, _, _, _, _, _, _, _, _, _, _, _, _, _, _, _, _, _, _, _, _, _, _, _, _, _, _, _, _, _, _, _, _, _, _, _, _, _, _, _, _, _, _, _, _, _, _, _, _, _, _, _, _, _, _, _, _, _, _, _, _, _, _, _, _, _, _, _, _, _, _, _, .slice none 0 0, .slice (some ⟨g, go, none⟩) D.length rc, .int .i64 (bst : Int), .slice (some ⟨g, go, none⟩) bst rc, _, .slice (some ⟨g, go, none⟩) D.length rc, _, _, _, _, _, _], defers := _ } _
                  refine alongK_read (.int .i64 (bst : Int)) rfl rfl (fun wx hS => ex_move (by rfl) (by rfl) wx) ?_
                  change AlongK _ _ _ _ _ { tmps := #[_, _, _, _, _, _, _, _, _, .slice (some ⟨g, go, none⟩) D.length rc, _, _, _, _, .int .i64 (bst : Int), _, .slice none 0 0, _, _, _, _, _, _, _, _, _, _, _, _, _, _, _, _, _, _, _, _, _, _, _, _, _, _, _, _, _, _, _, _, _, _, _, _, _, _, _, _, _, _, _, _, _, _, _, _, _, _, _, _, _, _, _, _, _, _, _, _, _, _, _, _, _, _, _, _, _, _, _, _, _, _, _, _, _, _, _, _, _, _, _, _, _, _, _, _, _, _, _, _, _, _, _, _, _, _, _, _, _, _, _, _, .slice none 0 0, .slice (some ⟨g, go, none⟩) D.length rc, .int .i64 (bst : Int), .slice (some ⟨g, go, none⟩) bst rc, _, .slice (some ⟨g, go, none⟩) D.length rc, .int .i64 (bst : Int), _, _, _, _, _], defers := _ } _
                  refine alongK_read (.int .i64 ((bst + 1 : Nat) : Int)) rfl rfl (fun wx hS => ex_bin rfl rfl rfl wx (bin_add _ _ bst 1 (by omega) wx)) ?_
                  change AlongK _ _ _ _ _ { tmps := #[_, _, _, _, _, _, _, _, _, .slice (some ⟨g, go, none⟩) D.length rc, _, _, _, _, .int .i64 (bst : Int), _, .slice none 0 0, _, _, _, _, _, _, _, _, _, _, _, _, _, _, _, _, _, _, _, _, _, _, _, _, _, _, _, _, _, _, _, _, _, _, _, _, _, _, _, _, _, _, _, _, _, _, _, _, _, _, _, _, _, _, _, _, _, _, _, _, _, _, _, _, _, _, _, _, _, _, _, _, _, _, _, _, _, _, _, _, _, _, _, _, _, _, _, _, _, _, _, _, _, _, _, _, _, _, _, _, _, _, _, _, .slice none 0 0, .slice (some ⟨g, go, none⟩) D.length rc, .int .i64 (bst : Int), .slice (some ⟨g, go, none⟩) bst rc, _, .slice (some ⟨g, go, none⟩) D.length rc, .int .i64 (bst : Int), .int .i64 ((bst + 1 : Nat) : Int), _, _, _, _], defers := _ } _
                  refine alongK_read (.slice (some ⟨g, off', none⟩) (D.length - (bst + 1)) (rc - (bst + 1))) rfl rfl (fun wx hS => ex_cut (sv := .slice (some ⟨g, go, none⟩) D.length rc) (lv := some (.int .i64 ((bst + 1 : Nat) : Int))) (hv := none) rfl rfl rfl rfl wx (HP2.out wx)) ?_
                  change AlongK _ _ _ _ _ { tmps := #[_, _, _, _, _, _, _, _, _, .slice (some ⟨g, go, none⟩) D.length rc, _, _, _, _, .int .i64 (bst : Int), _, .slice none 0 0, _, _, _, _, _, _, _, _, _, _, _, _, _, _, _, _, _, _, _, _, _, _, _, _, _, _, _, _, _, _, _, _, _, _, _, _, _, _, _, _, _, _, _, _, _, _, _, _, _, _, _, _, _, _, _, _, _, _, _, _, _, _, _, _, _, _, _, _, _, _, _, _, _, _, _, _, _, _, _, _, _, _, _, _, _, _, _, _, _, _, _, _, _, _, _, _, _, _, _, _, _, _, _, _, .slice none 0 0, .slice (some ⟨g, go, none⟩) D.length rc, .int .i64 (bst : Int), .slice (some ⟨g, go, none⟩) bst rc, _, .slice (some ⟨g, go, none⟩) D.length rc, .int .i64 (bst : Int), .int .i64 ((bst + 1 : Nat) : Int), .slice (some ⟨g, off', none⟩) (D.length - (bst + 1)) (rc - (bst + 1)), _, _, _], defers := _ } _
                  refine alongK_step ?_
                  refine opK_run v8 w8 rfl rfl (ex_app rfl rfl rfl rfl HA8.out) (fun _ => True) (fun _ h => h) trivial ?_
                  change AlongK _ _ _ _ _ { tmps := #[_, _, _, _, _, _, _, _, _, .slice (some ⟨g, go, none⟩) D.length rc, _, _, _, _, .int .i64 (bst : Int), _, .slice none 0 0, _, _, _, _, _, _, _, _, _, _, _, _, _, _, _, _, _, _, _, _, _, _, _, _, _, _, _, _, _, _, _, _, _, _, _, _, _, _, _, _, _, _, _, _, _, _, _, _, _, _, _, _, _, _, _, _, _, _, _, _, _, _, _, _, _, _, _, _, _, _, _, _, _, _, _, _, _, _, _, _, _, _, _, _, _, _, _, _, _, _, _, _, _, _, _, _, _, _, _, _, _, _, _, _, .slice none 0 0, .slice (some ⟨g, go, none⟩) D.length rc, .int .i64 (bst : Int), .slice (some ⟨g, go, none⟩) bst rc, v8, .slice (some ⟨g, go, none⟩) D.length rc, .int .i64 (bst : Int), .int .i64 ((bst + 1 : Nat) : Int), .slice (some ⟨g, off', none⟩) (D.length - (bst + 1)) (rc - (bst + 1)), _, _, _], defers := _ } _
                  refine alongK_step ?_
                  refine opK_run (.slice a9 (D.take bst ++ D.drop (bst + 1)).length c9) w9 rfl rfl (ex_app rfl rfl rfl rfl HA9.out) (fun _ => True) (fun _ h => h) trivial ?_
                  change AlongK _ _ _ _ _ { tmps := #[_, _, _, _, _, _, _, _, _, .slice (some ⟨g, go, none⟩) D.length rc, _, _, _, _, .int .i64 (bst : Int), _, .slice none 0 0, _, _, _, _, _, _, _, _, _, _, _, _, _, _, _, _, _, _, _, _, _, _, _, _, _, _, _, _, _, _, _, _, _, _, _, _, _, _, _, _, _, _, _, _, _, _, _, _, _, _, _, _, _, _, _, _, _, _, _, _, _, _, _, _, _, _, _, _, _, _, _, _, _, _, _, _, _, _, _, _, _, _, _, _, _, _, _, _, _, _, _, _, _, _, _, _, _, _, _, _, _, _, _, _, .slice none 0 0, .slice (some ⟨g, go, none⟩) D.length rc, .int .i64 (bst : Int), .slice (some ⟨g, go, none⟩) bst rc, v8, .slice (some ⟨g, go, none⟩) D.length rc, .int .i64 (bst : Int), .int .i64 ((bst + 1 : Nat) : Int), .slice (some ⟨g, off', none⟩) (D.length - (bst + 1)) (rc - (bst + 1)), .slice a9 (D.take bst ++ D.drop (bst + 1)).length c9, _, _], defers := _ } _
                  refine alongK_read (.slice a9 (D.take bst ++ D.drop (bst + 1)).length c9) rfl rfl (fun wx hS => ex_assign (by rfl) (by rfl) wx) ?_
                  change AlongK _ _ _ _ _ { tmps := #[_, _, _, _, _, _, _, _, _, .slice (some ⟨g, go, none⟩) D.length rc, _, _, _, _, .int .i64 (bst : Int), _, .slice a9 (D.take bst ++ D.drop (bst + 1)).length c9, _, _, _, _, _, _, _, _, _, _, _, _, _, _, _, _, _, _, _, _, _, _, _, _, _, _, _, _, _, _, _, _, _, _, _, _, _, _, _, _, _, _, _, _, _, _, _, _, _, _, _, _, _, _, _, _, _, _, _, _, _, _, _, _, _, _, _, _, _, _, _, _, _, _, _, _, _, _, _, _, _, _, _, _, _, _, _, _, _, _, _, _, _, _, _, _, _, _, _, _, _, _, _, _, .slice none 0 0, .slice (some ⟨g, go, none⟩) D.length rc, .int .i64 (bst : Int), .slice (some ⟨g, go, none⟩) bst rc, v8, .slice (some ⟨g, go, none⟩) D.length rc, .int .i64 (bst : Int), .int .i64 ((bst + 1 : Nat) : Int), .slice (some ⟨g, off', none⟩) (D.length - (bst + 1)) (rc - (bst + 1)), .slice a9 (D.take bst ++ D.drop (bst + 1)).length c9, _, _], defers := _ } _
                  refine alongK_done ?_
                  focus
                    go_wp2
                    go_roundw
                    case rel => exact ⟨t + 1, a9, c9, D.take bst ++ D.drop (bst + 1), ca', cc', rfl, htl, by simp; omega, Lib.hid (SelM.sel HS.out hbl (HM7.out.left HU9.out HO9.out) HUP.out HMM.out)⟩
                    case measure => simp; omega
                rotate_left
                refine opK_run (.slice (some ⟨bx, 0, none⟩) 1 1) _ rfl rfl (ex_slice1 _ _ HRUN.out rfl rfl) (fun x => KeptBut (fun k => k = w.heap.size + 1 + 1 ∨ (Value.slice ca t cc).ownBlock = some k) wr x) (fun _ h => h) HKN.out ?_
                change AlongK _ _ _ _ _ { tmps := #[_, _, _, _, _, _, _, _, .pointer (some ⟨w.heap.size + 1 + 1, 0, none⟩), .slice (some ⟨g, go, none⟩) D.length rc, _, _, _, _, .int .i64 (bst : Int), _, _, _, _, _, _, _, _, _, _, _, _, _, _, _, _, _, _, _, _, _, _, _, _, _, _, _, _, _, _, _, _, _, _, _, _, _, _, _, _, _, _, _, _, _, _, _, _, _, _, _, _, _, _, _, _, _, _, _, _, _, _, _, _, _, _, _, _, _, _, _, _, _, _, _, _, _, _, _, _, _, _, _, _, _, _, _, _, _, _, _, _, _, _, _, _, _, .pointer (some ⟨w.heap.size + 1 + 1, 3, none⟩), _, .slice (some ⟨g, go, none⟩) D.length rc, .int .i64 (bst : Int), .pointer (some ⟨g, go + bst * 7, none⟩), .agg (vsA r), .slice (some ⟨bx, 0, none⟩) 1 1, _, _, _, _, _, _, _, _, _, _, _, _, _, _], defers := _ } _
                refine alongK_step ?_
                refine opK_run (.slice ca t cc) _ rfl rfl (ex_load Try.isAgg22 rfl rfl _ (HC.out _ HUn.out)) (fun x => KeptBut (fun k => k = w.heap.size + 1 + 1 ∨ (Value.slice ca t cc).ownBlock = some k) wr x) (fun _ h => h) HKN.out ?_
                change AlongK _ _ _ _ _ { tmps := #[_, _, _, _, _, _, _, _, .pointer (some ⟨w.heap.size + 1 + 1, 0, none⟩), .slice (some ⟨g, go, none⟩) D.length rc, _, _, _, _, .int .i64 (bst : Int), _, _, _, _, _, _, _, _, _, _, _, _, _, _, _, _, _, _, _, _, _, _, _, _, _, _, _, _, _, _, _, _, _, _, _, _, _, _, _, _, _, _, _, _, _, _, _, _, _, _, _, _, _, _, _, _, _, _, _, _, _, _, _, _, _, _, _, _, _, _, _, _, _, _, _, _, _, _, _, _, _, _, _, _, _, _, _, _, _, _, _, _, _, _, _, _, _, .pointer (some ⟨w.heap.size + 1 + 1, 3, none⟩), .slice ca t cc, .slice (some ⟨g, go, none⟩) D.length rc, .int .i64 (bst : Int), .pointer (some ⟨g, go + bst * 7, none⟩), .agg (vsA r), .slice (some ⟨bx, 0, none⟩) 1 1, _, _, _, _, _, _, _, _, _, _, _, _, _, _], defers := _ } _
                refine alongK_step ?_
                refine opK_run (.slice ca' (t + 1) cc') _ rfl rfl (ex_app rfl rfl rfl rfl HAP.out) (fun x => KeptBut (fun k => k = w.heap.size + 1 + 1 ∨ (Value.slice ca t cc).ownBlock = some k) wr x) (fun _ h => h) HK6.out ?_
                change AlongK _ _ _ _ _ { tmps := #[_, _, _, _, _, _, _, _, .pointer (some ⟨w.heap.size + 1 + 1, 0, none⟩), .slice (some ⟨g, go, none⟩) D.length rc, _, _, _, _, .int .i64 (bst : Int), _, _, _, _, _, _, _, _, _, _, _, _, _, _, _, _, _, _, _, _, _, _, _, _, _, _, _, _, _, _, _, _, _, _, _, _, _, _, _, _, _, _, _, _, _, _, _, _, _, _, _, _, _, _, _, _, _, _, _, _, _, _, _, _, _, _, _, _, _, _, _, _, _, _, _, _, _, _, _, _, _, _, _, _, _, _, _, _, _, _, _, _, _, _, _, _, _, .pointer (some ⟨w.heap.size + 1 + 1, 3, none⟩), .slice ca t cc, .slice (some ⟨g, go, none⟩) D.length rc, .int .i64 (bst : Int), .pointer (some ⟨g, go + bst * 7, none⟩), .agg (vsA r), .slice (some ⟨bx, 0, none⟩) 1 1, .slice ca' (t + 1) cc', _, _, _, _, _, _, _, _, _, _, _, _, _], defers := _ } _
                refine alongK_read (.pointer (some ⟨w.heap.size + 1 + 1, 3, none⟩)) rfl rfl (fun wx hS => ex_field rfl rfl wx (by simp [go_sem])) ?_
                change AlongK _ _ _ _ _ { tmps := #[_, _, _, _, _, _, _, _, .pointer (some ⟨w.heap.size + 1 + 1, 0, none⟩), .slice (some ⟨g, go, none⟩) D.length rc, _, _, _, _, .int .i64 (bst : Int), _, _, _, _, _, _, _, _, _, _, _, _, _, _, _, _, _, _, _, _, _, _, _, _, _, _, _, _, _, _, _, _, _, _, _, _, _, _, _, _, _, _, _, _, _, _, _, _, _, _, _, _, _, _, _, _, _, _, _, _, _, _, _, _, _, _, _, _, _, _, _, _, _, _, _, _, _, _, _, _, _, _, _, _, _, _, _, _, _, _, _, _, _, _, _, _, _, .pointer (some ⟨w.heap.size + 1 + 1, 3, none⟩), .slice ca t cc, .slice (some ⟨g, go, none⟩) D.length rc, .int .i64 (bst : Int), .pointer (some ⟨g, go + bst * 7, none⟩), .agg (vsA r), .slice (some ⟨bx, 0, none⟩) 1 1, .slice ca' (t + 1) cc', .pointer (some ⟨w.heap.size + 1 + 1, 3, none⟩), _, _, _, _, _, _, _, _, _, _, _, _], defers := _ } _
                refine alongK_step ?_
                refine opK_store _ rfl rfl (ex_sto rfl rfl rfl HO6.out (by simp)) (fun x => KeptBut (fun k => k = w.heap.size + 1 + 1 ∨ (Value.slice ca t cc).ownBlock = some k) wr x) (fun _ h => h) HK7.out ?_
                change AlongK _ _ _ _ _ { tmps := #[_, _, _, _, _, _, _, _, .pointer (some ⟨w.heap.size + 1 + 1, 0, none⟩), .slice (some ⟨g, go, none⟩) D.length rc, _, _, _, _, .int .i64 (bst : Int), _, _, _, _, _, _, _, _, _, _, _, _, _, _, _, _, _, _, _, _, _, _, _, _, _, _, _, _, _, _, _, _, _, _, _, _, _, _, _, _, _, _, _, _, _, _, _, _, _, _, _, _, _, _, _, _, _, _, _, _, _, _, _, _, _, _, _, _, _, _, _, _, _, _, _, _, _, _, _, _, _, _, _, _, _, _, _, _, _, _, _, _, _, _, _, _, _, .pointer (some ⟨w.heap.size + 1 + 1, 3, none⟩), .slice ca t cc, .slice (some ⟨g, go, none⟩) D.length rc, .int .i64 (bst : Int), .pointer (some ⟨g, go + bst * 7, none⟩), .agg (vsA r), .slice (some ⟨bx, 0, none⟩) 1 1, .slice ca' (t + 1) cc', .pointer (some ⟨w.heap.size + 1 + 1, 3, none⟩), _, _, _, _, _, _, _, _, _, _, _, _], defers := _ } _
                refine alongK_done ?_
                focus
                  generalize w6.setCell ⟨w.heap.size + 1 + 1, 3, none⟩ (.slice ca' (t + 1) cc') = w7 at HM7 HK7 ⊢
                  have va := (VArg.of_own HM7.out.rest).up (Up.drew1 w7)
                  obtain ⟨v8, w8, q1, q2, q3⟩ := sel_app1 (base := w7.heap.size) va hbl (by omega) (Nat.le_refl _)
                  have hu8 := Up.trans (Up.drew1 w7) q3
                  obtain ⟨off', o1, o2⟩ := cut_sufv g go D.length rc (bst + 1) hbl hrc
                  obtain ⟨a9, c9, w9, r1, r2, r3⟩ := sel_app2 (c2 := rc - (bst + 1)) (va.up q3) hbl (by omega) hu8.size q2 o1
                  have HA8 := Lib.hid q1
                  have HA9 := Lib.hid r1
                  have HO9 := Lib.hid r2
                  have HU9 := Lib.hid (up_row hu8 q2 r3 (Nat.le_refl _))
                  have HP1 := Lib.hid (cut_prev g go D.length rc bst (by omega) (by omega))
                  have HP2 := Lib.hid o2
                  clear va q1 q2 q3 hu8 o1 o2 r1 r2 r3 HK6 HK7 HO6 HAP HUn HRUN HKD HKN HE HC
                  go_wp2_with fail
                  refine region_alongK (fun _ => True) (.read 0 (.read 1 (.read 2 (.read 3 (.read 5 (.read 6 (.read 7 (.read 8 (.step 4 (.step 9 (.read 10 (.nil)))))))))))) (by kernel_rfl) rfl (by kernel_rfl) (by kernel_rfl) (fun c a d v w h => by cases d <;> exact h) (trivial) ?_
                  refine alongK_read (.slice none 0 0) rfl rfl (fun wx hS => ex_move (by rfl) (by rfl) wx) ?_
                  change AlongK _ _ _ _ _ { tmps := #[_, _, _, _, _, _, _, _, _, .slice (some ⟨g, go, none⟩) D.length rc, _, _, _, _, .int .i64 (bst : Int), _, .slice none 0 0, _, _, _, _, _, _, _, _, _, _, _, _, _, _, _, _, _, _, _, _, _, _, _, _, _, _, _, _, _, _, _, _, _, _, _, _, _, _, _, _, _, _, _, _, _, _, _, _, _, _, _, _, _, _, _, _, _, _, _, _, _, _, _, _, _, _, _, _, _, _, _, _, _, _, _, _, _, _, _, _, _, _, _, _, _, _, _, _, _, _, _, _, _, _, _, _, _, _, _, _, _, _, _, _, .slice none 0 0, _, _, _, _, _, _, _, _, _, _, _], defers := _ } _
                  refine alongK_read (.slice (some ⟨g, go, none⟩) D.length rc) rfl rfl (fun wx hS => ex_move (by rfl) (by rfl) wx) ?_
                  change AlongK _ _ _ _ _ { tmps := #[_, _, _, _, _, _, _, _, _, .slice (some ⟨g, go, none⟩) D.length rc, _, _, _, _, .int .i64 (bst : Int), _, .slice none 0 0, _, _, _, _, _, _, _, _, _, _, _, _, _, _, _, _, _, _, _, _, _, _, _, _, _, _, _, _, _, _, _, _, _, _, _, _, _, _, _, _, _, _, _, _, _, _, _, _, _, _, _, _, _, _, _, _, _, _, _, _, _, _, _, _, _, _, _, _, _, _, _, _, _, _, _, _, _, _, _, _, _, _, _, _, _, _, _, _, _, _, _, _, _, _, _, _, _, _, _, _, _, _, _, _, .slice none 0 0, .slice (some ⟨g, go, none⟩) D.length rc, _, _, _, _, _, _, _, _, _, _], defers := _ } _
                  refine alongK_read (.int .i64 (bst : Int)) rfl rfl (fun wx hS => ex_move (by rfl) (by rfl) wx) ?_
                  change AlongK _ _ _ _ _ { tmps := #[_, _, _, _, _, _, _, _, _, .slice (some ⟨g, go, none⟩) D.length rc, _, _, _, _, .int .i64 (bst : Int), _, .slice none 0 0, _, _, _, _, _, _, _, _, _, _, _, _, _, _, _, _, _, _, _, _, _, _, _, _, _, _, _, _, _, _, _, _, _, _, _, _, _, _, _, _, _, _, _, _, _, _, _, _, _, _, _, _, _, _, _, _, _, _, _, _, _, _, _, _, _, _, _, _, _, _, _, _, _, _, _, _, _, _, _, _, _, _, _, _, _, _, _, _, _, _, _, _, _, _, _, _, _, _, _, _, _, _, _, _, .slice none 0 0, .slice (some ⟨g, go, none⟩) D.length rc, .int .i64 (bst : Int), _, _, _, _, _, _, _, _, _], defers := _ } _
                  refine alongK_read (.slice (some ⟨g, go, none⟩) bst rc) rfl rfl (fun wx hS => ex_cut (sv := .slice (some ⟨g, go, none⟩) D.length rc) (lv := none) (hv := some (.int .i64 (bst : Int))) rfl rfl rfl rfl wx (HP1.out wx)) ?_
                  change AlongK _ _ _ _ _ { tmps := #[_, _, _, _, _, _, _, _, _, .slice (some ⟨g, go, none⟩) D.length rc, _, _, _, _, .int .i64 (bst : Int), _, .slice none 0 0, _, _, _, _, _, _, _, _, _, _, _, _, _, _, _, _, _, _, _, _, _, _, _, _, _, _, _, _, _, _, _, _, _, _, _, _, _, _, _, _, _, _, _, _, _, _, _, _, _, _, _, _, _, _, _, _, _, _, _, _, _, _, _, _, _, _, _, _, _, _, _, _, _, _, _, _, _, _, _, _, _, _, _, _, _, _, _, _, _, _, _, _, _, _, _, _, _, _, _, _, _, _, _, _, .slice none 0 0, .slice (some ⟨g, go, none⟩) D.length rc, .int .i64 (bst : Int), .slice (some ⟨g, go, none⟩) bst rc, _, _, _, _, _, _, _, _], defers := _ } _
                  refine alongK_read (.slice (some ⟨g, go, none⟩) D.length rc) rfl rfl (fun wx hS => ex_move (by rfl) (by rfl) wx) ?_
                  change AlongK _ _ _ _ _ { tmps := #[_, _, _, _, _, _, _, _, _, .slice (some ⟨g, go, none⟩) D.length rc, _, _, _, _, .int .i64 (bst : Int), _, .slice none 0 0, _, _, _, _, _, _, _, _, _, _, _, _, _, _, _, _, _, _, _, _, _, _, _, _, _, _, _, _, _, _, _, _, _, _, _, _, _, _, _, _, _, _, _, _, _, _, _, _, _, _, _, _, _, _, _, _, _, _, _, _, _, _, _, _, _, _, _, _, _, _, _, _, _, _, _, _, _, _, _, _, _, _, _, _, _, _, _, _, _, _, _, _, _, _, _, _, _, _, _, _, _, _, _, _, .slice none 0 0, .slice (some ⟨g, go, none⟩) D.length rc, .int .i64 (bst : Int), .slice (some ⟨g, go, none⟩) bst rc, _, .slice (some ⟨g, go, none⟩) D.length rc, _, _, _, _, _, _], defers := _ } _
                  refine alongK_read (.int .i64 (bst : Int)) rfl rfl (fun wx hS => ex_move (by rfl) (by rfl) wx) ?_
                  change AlongK _ _ _ _ _ { tmps := #[_, _, _, _, _, _, _, _, _, .slice (some ⟨g, go, none⟩) D.length rc, _, _, _, _, .int .i64 (bst : Int), _, .slice none 0 0, _, _, _, _, _, _, _, _, _, _, _, _, _, _, _, _, _, _, _, _, _, _, _, _, _, _, _, _, _, _, _, _, _, _, _, _, _, _, _, _, _, _, _, _, _, _, _, _, _, _, _, _, _, _, _, _, _, _, _, _, _, _, _, _, _, _, _, _, _, _, _, _, _, _, _, _, _, _, _, _, _, _, _, _, _, _, _, _, _, _, _, _, _, _, _, _, _, _, _, _, _, _, _, _, .slice none 0 0, .slice (some ⟨g, go, none⟩) D.length rc, .int .i64 (bst : Int), .slice (some ⟨g, go, none⟩) bst rc, _, .slice (some ⟨g, go, none⟩) D.length rc, .int .i64 (bst : Int), _, _, _, _, _], defers := _ } _
                  refine alongK_read (.int .i64 ((bst + 1 : Nat) : Int)) rfl rfl (fun wx hS => ex_bin rfl rfl rfl wx (bin_add _ _ bst 1 (by omega) wx)) ?_
                  change AlongK _ _ _ _ _ { tmps := #[_, _, _, _, _, _, _, _, _, .slice (some ⟨g, go, none⟩) D.length rc, _, _, _, _, .int .i64 (bst : Int), _, .slice none 0 0, _, _, _, _, _, _, _, _, _, _, _, _, _, _, _, _, _, _, _, _, _, _, _, _, _, _, _, _, _, _, _, _, _, _, _, _, _, _, _, _, _, _, _, _, _, _, _, _, _, _, _, _, _, _, _, _, _, _, _, _, _, _, _, _, _, _, _, _, _, _, _, _, _, _, _, _, _, _, _, _, _, _, _, _, _, _, _, _, _, _, _, _, _, _, _, _, _, _, _, _, _, _, _, _, .slice none 0 0, .slice (some ⟨g, go, none⟩) D.length rc, .int .i64 (bst : Int), .slice (some ⟨g, go, none⟩) bst rc, _, .slice (some ⟨g, go, none⟩) D.length rc, .int .i64 (bst : Int), .int .i64 ((bst + 1 : Nat) : Int), _, _, _, _], defers := _ } _
                  refine alongK_read (.slice (some ⟨g, off', none⟩) (D.length - (bst + 1)) (rc - (bst + 1))) rfl rfl (fun wx hS => ex_cut (sv := .slice (some ⟨g, go, none⟩) D.length rc) (lv := some (.int .i64 ((bst + 1 : Nat) : Int))) (hv := none) rfl rfl rfl rfl wx (HP2.out wx)) ?_
                  change AlongK _ _ _ _ _ { tmps := #[_, _, _, _, _, _, _, _, _, .slice (some ⟨g, go, none⟩) D.length rc, _, _, _, _, .int .i64 (bst : Int), _, .slice none 0 0, _, _, _, _, _, _, _, _, _, _, _, _, _, _, _, _, _, _, _, _, _, _, _, _, _, _, _, _, _, _, _, _, _, _, _, _, _, _, _, _, _, _, _, _, _, _, _, _, _, _, _, _, _, _, _, _, _, _, _, _, _, _, _, _, _, _, _, _, _, _, _, _, _, _, _, _, _, _, _, _, _, _, _, _, _, _, _, _, _, _, _, _, _, _, _, _, _, _, _, _, _, _, _, _, .slice none 0 0, .slice (some ⟨g, go, none⟩) D.length rc, .int .i64 (bst : Int), .slice (some ⟨g, go, none⟩) bst rc, _, .slice (some ⟨g, go, none⟩) D.length rc, .int .i64 (bst : Int), .int .i64 ((bst + 1 : Nat) : Int), .slice (some ⟨g, off', none⟩) (D.length - (bst + 1)) (rc - (bst + 1)), _, _, _], defers := _ } _
                  refine alongK_step ?_
                  refine opK_run v8 w8 rfl rfl (ex_app rfl rfl rfl rfl HA8.out) (fun _ => True) (fun _ h => h) trivial ?_
                  change AlongK _ _ _ _ _ { tmps := #[_, _, _, _, _, _, _, _, _, .slice (some ⟨g, go, none⟩) D.length rc, _, _, _, _, .int .i64 (bst : Int), _, .slice none 0 0, _, _, _, _, _, _, _, _, _, _, _, _, _, _, _, _, _, _, _, _, _, _, _, _, _, _, _, _, _, _, _, _, _, _, _, _, _, _, _, _, _, _, _, _, _, _, _, _, _, _, _, _, _, _, _, _, _, _, _, _, _, _, _, _, _, _, _, _, _, _, _, _, _, _, _, _, _, _, _, _, _, _, _, _, _, _, _, _, _, _, _, _, _, _, _, _, _, _, _, _, _, _, _, _, .slice none 0 0, .slice (some ⟨g, go, none⟩) D.length rc, .int .i64 (bst : Int), .slice (some ⟨g, go, none⟩) bst rc, v8, .slice (some ⟨g, go, none⟩) D.length rc, .int .i64 (bst : Int), .int .i64 ((bst + 1 : Nat) : Int), .slice (some ⟨g, off', none⟩) (D.length - (bst + 1)) (rc - (bst + 1)), _, _, _], defers := _ } _
                  refine alongK_step ?_
                  refine opK_run (.slice a9 (D.take bst ++ D.drop (bst + 1)).length c9) w9 rfl rfl (ex_app rfl rfl rfl rfl HA9.out) (fun _ => True) (fun _ h => h) trivial ?_
                  change AlongK _ _ _ _ _ { tmps := #[_, _, _, _, _, _, _, _, _, .slice (some ⟨g, go, none⟩) D.length rc, _, _, _, _, .int .i64 (bst : Int), _, .slice none 0 0, _, _, _, _, _, _, _, _, _, _, _, _, _, _, _, _, _, _, _, _, _, _, _, _, _, _, _, _, _, _, _, _, _, _, _, _, _, _, _, _, _, _, _, _, _, _, _, _, _, _, _, _, _, _, _, _, _, _, _, _, _, _, _, _, _, _, _, _, _, _, _, _, _, _, _, _, _, _, _, _, _, _, _, _, _, _, _, _, _, _, _, _, _, _, _, _, _, _, _, _, _, _, _, _, .slice none 0 0, .slice (some ⟨g, go, none⟩) D.length rc, .int .i64 (bst : Int), .slice (some ⟨g, go, none⟩) bst rc, v8, .slice (some ⟨g, go, none⟩) D.length rc, .int .i64 (bst : Int), .int .i64 ((bst + 1 : Nat) : Int), .slice (some ⟨g, off', none⟩) (D.length - (bst + 1)) (rc - (bst + 1)), .slice a9 (D.take bst ++ D.drop (bst + 1)).length c9, _, _], defers := _ } _
                  refine alongK_read (.slice a9 (D.take bst ++ D.drop (bst + 1)).length c9) rfl rfl (fun wx hS => ex_assign (by rfl) (by rfl) wx) ?_
                  change AlongK _ _ _ _ _ { tmps := #[_, _, _, _, _, _, _, _, _, .slice (some ⟨g, go, none⟩) D.length rc, _, _, _, _, .int .i64 (bst : Int), _, .slice a9 (D.take bst ++ D.drop (bst + 1)).length c9, _, _, _, _, _, _, _, _, _, _, _, _, _, _, _, _, _, _, _, _, _, _, _, _, _, _, _, _, _, _, _, _, _, _, _, _, _, _, _, _, _, _, _, _, _, _, _, _, _, _, _, _, _, _, _, _, _, _, _, _, _, _, _, _, _, _, _, _, _, _, _, _, _, _, _, _, _, _, _, _, _, _, _, _, _, _, _, _, _, _, _, _, _, _, _, _, _, _, _, _, _, _, _, _, .slice none 0 0, .slice (some ⟨g, go, none⟩) D.length rc, .int .i64 (bst : Int), .slice (some ⟨g, go, none⟩) bst rc, v8, .slice (some ⟨g, go, none⟩) D.length rc, .int .i64 (bst : Int), .int .i64 ((bst + 1 : Nat) : Int), .slice (some ⟨g, off', none⟩) (D.length - (bst + 1)) (rc - (bst + 1)), .slice a9 (D.take bst ++ D.drop (bst + 1)).length c9, _, _], defers := _ } _
                  refine alongK_done ?_
                  focus
                    go_wp2
                    go_roundw
                    case rel => exact ⟨t + 1, a9, c9, D.take bst ++ D.drop (bst + 1), ca', cc', rfl, htl, by simp; omega, Lib.hid (SelM.sel HS.out hbl (HM7.out.left HU9.out HO9.out) HUP.out HMM.out)⟩
                    case measure => simp; omega
          · have hz3 : ¬ (t : Int) < (qn : Int) := by omega
            obtain rfl : t = qn := by omega
            have HR5 := Lib.hid ((HS.out.kept.block _ (lt_of_block HR3.out) (by omega)).trans HR3.out)
            have HCB := Lib.hid HS.out.cbox
            have FIN : Hid (∀ (w12 : World), wr.grownBy w12 (some (w.heap.size + 1)) → RefP w xs V H B t (.returned (.tuple #[.agg #[.int .i64 V, .int .i64 H, .string B, .slice ca t cc], .bool true])) w12) := fun w12 hg => by
              have hv := HS.out.varg (by omega) HR5.out hg
              refine ⟨fun R' hR' => ?_, up_at (up_kept HU3.out HS.out.kept (by omega)) hg (Nat.le_succ _)⟩
              rw [HUNI.out R' hR']
              refine ⟨fun h => by omega, fun qm e h1 h2 => ?_⟩
              obtain rfl : t = qm := by omega
              exact ⟨ca, cc, rfl, hv⟩
            go_wp2_with (first | (refine wpList_ex rfl (.agg #[.int .i64 V, .int .i64 H, .string B, .slice ca t cc]) wr (ex_loadrow (x := .tmp 8) rfl rfl _ 26 HCB.out Try.underlying26 rfl info_ct) ?_) | (refine wpList_store_agg rfl 26 (.tmp 6) (.tmp 132) rfl (w.heap.size + 1) _ #[.int .i64 V, .int .i64 H, .string B, .slice ca t cc] rfl rfl 26 HR5.out info_ct rfl (one_ct _ _ _ _ _ _) ?_; intro w12 hg12 hgr12))
            exact bodyPost_ret (results_made rfl _ _ _ _ (.bool true) rfl rfl hg12 rfl) rfl (FIN.out _ hgr12)
end
end Go.Proofs.Ytnnjoeppcbbblaa
