import Derived.Test.YtjjaefacfcjgiaaOctWalk
import Derived.Test.YtjjaefacfcjgiaaPreds
namespace Go.Proofs.Ytjjaefacfcjgiaa
set_option linter.unusedVariables false
open Go.RowKit Go.Shelf
attribute [local go_sem] Oper.semAt_some

/-- THE MARKS OF LOOPS OVER FUNCTIONS THAT A FUNCTION HAS LEFT BEHIND. -/
def marks (Ds : List Nat) : List Deferred := Ds.map fun D => { target := .collected D, args := #[] }
/-- each names a block that no call was put into -/
def Open (n₀ : Nat) (Ds : List Nat) (W : World) : Prop := Ds.Nodup ∧ ∀ D, D ∈ Ds → n₀ ≤ D ∧ W.heap[D]? = some (.deferred (some []))

/-- A FUNCTION LEAVES WITH SUCH MARKS: what its return says must abide that each block is shut. -/
theorem leaves_marks {F : Fence} {n : Nat} {P : Program} {fn : Func} {tmps : Array Value} {R : Ending → World → Prop} {n₀ : Nat} (G : World → Prop)
    (hG : ∀ W D, n₀ ≤ D → W.heap[D]? = some (.deferred (some [])) → G W → G (W.putObj D (.deferred none)))
    (hR : ∀ W, G W → LeavesInM F n P fn tmps R [] .returning W) : ∀ (Ds : List Nat) (W : World), Open n₀ Ds W → G W → LeavesInM F n P fn tmps R (marks Ds) .returning W
  | [], W, _, hg => hR W hg
  | D :: Ds, W, ⟨hn, ho⟩, hg => by
    have hD := ho D (by simp)
    refine ⟨by simp, .inl ⟨D, _, rfl, run_takeDeferred hD.2, ?_⟩⟩
    refine leaves_marks G hG hR Ds _ ⟨(List.nodup_cons.1 hn).2, fun E hE => ?_⟩ (hG W D hD.1 hD.2 hg)
    have hE' := ho E (List.mem_cons_of_mem _ hE)
    refine ⟨hE'.1, (World.putObj_heap_other ?_).trans hE'.2⟩
    rintro rfl
    exact (List.nodup_cons.1 hn).1 hE

theorem open_own {β : Type} {n₀ : Nat} {Ds : List Nat} {B : Nat} (hD : ∀ D, D ∈ Ds → D < B) : OwnFrom B (fun (_ : β) W => Open n₀ Ds W) := by
  rintro s W W' row ⟨hn, ho⟩ hg hr
  refine ⟨hn, fun D h => ⟨(ho D h).1, ?_⟩⟩
  have h1 := (ho D h).2
  refine (hg.block D (Array.getElem?_eq_some_iff.1 h1).1 ?_).trans h1
  intro e
  have := (hr D e.symm).1
  have := hD D h
  omega
theorem Open.keeps {n₀ : Nat} {Ds : List Nat} {W W' : World} (h : Open n₀ Ds W) (hk : KeepsOthers W W') : Open n₀ Ds W' :=
  ⟨h.1, fun D hD => ⟨(h.2 D hD).1, hk.same D _ (h.2 D hD).2 rfl⟩⟩
theorem Open.lt {n₀ : Nat} {Ds : List Nat} {W : World} (h : Open n₀ Ds W) : ∀ D, D ∈ Ds → D < W.heap.size := fun D hD => (Array.getElem?_eq_some_iff.1 (h.2 D hD).2).1
theorem Open.cons {n₀ D B : Nat} {Ds : List Nat} {W : World} (h : Open n₀ Ds W) (hB : ∀ E, E ∈ Ds → E < B) (hD : B ≤ D) (hn : n₀ ≤ D) (hk : W.heap[D]? = some (.deferred (some []))) : Open n₀ (D :: Ds) W := by
  refine ⟨List.nodup_cons.2 ⟨fun hm => ?_, h.1⟩, fun E hE => ?_⟩
  · have := hB D hm; omega
  · rcases List.mem_cons.1 hE with rfl | hE
    · exact ⟨hn, hk⟩
    · exact h.2 E hE

set_option maxRecDepth 100000 in
set_option maxHeartbeats 1000000 in
theorem words_any (v : Value) (ws : List Int) (w : World) (hv : Ints .u32 w v ws) (hu : ∀ j, j < ws.length → 0 ≤ ws[j]?.getD 0 ∧ ws[j]?.getD 0 < 4294967296) (hlen : ws.length * 4 ≤ 140737488351232) :
    Calls Try.prog 39 #[v] w fun e w' => ∃ r, e = .returned r ∧ w'.ownsRow w.heap.size 5 1 r (4 * ws.length) ((wordsB ws).map (Value.int .u8)) ∧ Below w.heap.size w w' := by
  obtain ⟨i0, hi, hz0, hz1, hz2⟩ := info_parts info_u8
  obtain ⟨a, cap, rfl, hcap, hnil, hcell⟩ := hv
  clear hnil
  have Hu := Lib.hid hu
  have Hcell := Lib.hid hcell
  clear hu hcell
  refine (callsIn_wide (n := 3)).1 ?_
  refine callsIn_of_wp_marks Try.func39 rfl trivial ?_ rfl
  simp only [Try.ntmps39, List.size_toArray, List.length_cons, List.length_nil, Nat.reduceAdd, Nat.reduceSub, Array.replicate_succ, Array.replicate_zero, List.push_toArray, List.append_toArray, List.nil_append, List.cons_append]
  have hmk := make_u8 (4 * (ws.length : Int)) (4 * ws.length) (by omega) (by omega)
  gi_wp2
  clear hmk
  have r0 := (World.ownsRow_made (base := w.heap.size) (e := 5) (size := 1) w (madeCells #[.int .u8 0] (4 * ws.length)) (4 * ws.length) (Nat.le_refl _) (by unfold maxLen; omega) (by rw [size_madeCells]; omega)).alloc (.cells #[.slice (some ⟨w.heap.size, 0, none⟩) 0 (4 * ws.length)] 22)
  have bO := Boxed.new (w.alloc (.cells (madeCells #[Value.int .u8 0] (4 * ws.length)) 5)) 22 (.slice (some ⟨w.heap.size, 0, none⟩) 0 (4 * ws.length))
  simp only [World.size_alloc] at bO
  have hB0 : Below w.heap.size w ((w.alloc (.cells (madeCells #[Value.int .u8 0] (4 * ws.length)) 5)).alloc (.cells #[.slice (some ⟨w.heap.size, 0, none⟩) 0 (4 * ws.length)] 22)) :=
      ((Below.refl _ w).alloc (Nat.le_refl _) _).alloc (by simp) _
  refine wpIn_loop (fun a' W => ∃ (k : Nat) (Ds : List Nat) (u5 u6 u14 u15 u16 u17 u18 u19 u20 u21 u22 u23 u24 u25 u26 : Value), a' = { tmps := #[Value.slice a ws.length cap, undef, .slice none 0 0, .pointer (some ⟨w.heap.size + 1, 0, none⟩), undef, u5, u6, .slice a ws.length cap, .int .i64 ws.length, .int .i64 (4 * (ws.length : Int)), .slice (some ⟨w.heap.size, 0, none⟩) 0 (4 * ws.length), .slice a ws.length cap, .int .i64 ws.length, .int .i64 k, u14, u15, u16, u17, u18, u19, u20, u21, u22, u23, u24, u25, u26], defers := marks Ds } ∧ k ≤ ws.length ∧
      (∃ v, Boxed W (w.heap.size + 1) 22 v ∧ W.ownsRow w.heap.size 5 1 v (wordsB (ws.take k)).length ((wordsB (ws.take k)).map (Value.int .u8))) ∧ Below w.heap.size w W ∧ Open w.heap.size Ds W)
    (fun a' _ => ws.length - (intOf (a'.tmps.getD 13 undef)).toNat) ?start ?round
  case start =>
    exact ⟨0, [], _, _, _, _, _, _, _, _, _, _, _, _, _, _, _, rfl, Nat.zero_le _, ⟨_, bO, r0⟩, hB0, List.nodup_nil, by simp⟩
  case round =>
    rintro a' W ⟨k, Ds, u5, u6, u14, u15, u16, u17, u18, u19, u20, u21, u22, u23, u24, u25, u26, rfl, hk, ⟨v, hv, hrow⟩, hB, hO⟩
    by_cases hlt : k < ws.length
    · rcases Hcell.out with rfl | ⟨b, off, rfl, hc⟩
      · simp at hlt
      have hck := (hB.cell (p := ⟨b, off + k, none⟩) (World.block_lt_of_cell? w _ (hc k hlt))).trans (hc k hlt)
      have huk := Hu.out k hlt
      have hs : wordsB (ws.take (k + 1)) = wordsB (ws.take k) ++ octAll (ws[k]?.getD 0) 4 := by rw [take_snoc ws k hlt, wordsB_snoc]
      obtain ⟨o, ho⟩ : ∃ o, ws[k]?.getD 0 = o := ⟨_, rfl⟩
      rw [ho] at hck huk hs
      have Hs := Lib.hid hs
      clear hc ho hs
      gi_wp2_with (refine ⟨trivial, ?_⟩; gi_at_call 43; refine (callsIn_wide.2 (falling_any _ _ _)).mono ?_; rintro e w' ⟨rfl, rfl⟩)
      obtain ⟨pre0, hpre⟩ : ∃ pre0, wordsB (ws.take k) = pre0 := ⟨_, rfl⟩
      have hpl : pre0.length = 4 * k := by rw [← hpre, wordsB_length, List.length_take]; omega
      rw [hpre] at hrow Hs
      clear hpre
      have bX := Boxed.new W 48 (.int .u64 o)
      have bS := Boxed.new (W.alloc (.cells #[.int .u64 o] 48)) 3 (.int .i64 4)
      simp only [World.size_alloc] at bS
      have bX := bX.alloc (.cells #[.int .i64 4] 3)
      have bO1 := (hv.alloc (.cells #[.int .u64 o] 48)).alloc (.cells #[.int .i64 4] 3)
      have r1 := (hrow.alloc (.cells #[.int .u64 o] 48)).alloc (.cells #[.int .i64 4] 3)
      have hB1 : Below w.heap.size w ((W.alloc (.cells #[.int .u64 o] 48)).alloc (.cells #[.int .i64 4] 3)) := (hB.alloc hB.size _).alloc (by have := hB.size; simp; omega) _
      have hO1 : Open w.heap.size Ds ((W.alloc (.cells #[.int .u64 o] 48)).alloc (.cells #[.int .i64 4] 3)) := (hO.keeps (KeepsOthers.alloc _ _)).keeps (KeepsOthers.alloc _ _)
      have hlt0 := hv.lt
      have hDs := hO.lt
      refine wpIn_rangeFunc_ownG rfl (by omega) (gf := 46) (lb := #[.pointer (some ⟨W.heap.size + 1, 0, none⟩), .pointer (some ⟨W.heap.size, 0, none⟩)]) rfl trivial (enters_of Try.func46 (by kernel_rfl) rfl)
        (fall_stops 2 (by omega) W.heap.size (W.heap.size + 1) o 4 4 rfl (by omega) (by omega) _ (by simp; omega) (by simp) bX.cell bS.cell)
        (fun h k => h.trans k) (fun W l o o' hl h _ _ => Keep2.put (by simp at hl; omega) (by simp at hl; omega) h) (Below.refl _ _) (fun _ => rfl)
        (fun pre W' => Coll w.heap.size (w.heap.size + 1) W.heap.size (W.heap.size + 1) pre0 o 4 w pre W' ∧ Open w.heap.size Ds W') (fun _ _ _ => False)
        (OwnFrom.and (Coll.own (Nat.le_refl _) (by have := hB.size; simp; omega)) (open_own (fun D hD => by have := hDs D hD; simp; omega))) (fun _ _ _ _ _ hs _ _ => hs) ⟨⟨⟨_, bO1, by simpa using r1, trivial⟩, hB1, bX, bS⟩, hO1⟩ ?act0 ?assign ?body ?done ?stop
      case assign =>
        intro l x W K hK
        gi_wp2
        exact hK
      case body =>
        rintro l pre x W' ⟨⟨⟨v, hv, hrow, _⟩, hB, hx, hs⟩, hO⟩ hlt
        have hc := hv.cell
        have hpl2 : (pre0 ++ pre).length = 4 * k + pre.length := by rw [List.length_append, hpl]
        have Hpl2 := Lib.hid hpl2
        clear hpl2 hpl
        gi_wp2_with (gi_at_builtin; refine wpListIn_append_own _ rfl _ _ 22 rfl w.heap.size 5 i0 (.int .u8 0) 1 1 Try.underlying22 hi hz0 hz1 hz2 rfl (by decide) _ _ _ rfl (hrow.alloc _) ⟨W'.heap.size, 0, none⟩ 1 1 [.int .u8 x] rfl rfl (cell_one_new _ _ _) (by simp [Value.oneCell']) (by unfold maxLen; have := Hpl2.out; omega) (by have := Hpl2.out; omega) (by have := hB.size; simp; omega) ?_; intro v' w1 hown' hgrow _; obtain ⟨g', cap', rfl⟩ := ownsRow_succ hown'; obtain ⟨hv1, hk2, hp2, hcoll⟩ := Coll.step hv hrow hB (Nat.le_refl _) (by omega) hx hs (by omega) (by omega) hown' hgrow; have hc1 := hv1.cell; have hf1 := hv1.frozen)
        rw [show pre0.length + pre.length + 1 = (pre0 ++ pre).length + 1 from by simp]
        exact ⟨hk2.from _, hp2, hcoll, hO.keeps hk2⟩
      case done =>
        rintro D ys W3 hD rfl ⟨⟨⟨v, hv, hrow, _⟩, hB3, hx, hs⟩, hO3⟩ hK
        gi_wp2
        have hD' : W.heap.size + 1 + 1 ≤ D := by simpa using hD
        refine ⟨⟨k + 1, D :: Ds, _, _, _, _, _, _, _, _, _, _, _, _, _, _, _, rfl, by omega, ⟨v, hv, ?_⟩, hB3, hO3.cons hDs (by omega) (by have := hB.size; omega) hK⟩, by simp [intOf]; omega⟩
        rw [Hs.out]; exact hrow
      case stop =>
        rintro D c pre W _ _ h _
        exact h.elim
    · obtain rfl : k = ws.length := by omega
      have ht : ws.take ws.length = ws := List.take_length
      rw [ht] at hrow
      have hc := hv.cell
      clear ht
      gi_wp2
      refine leaves_marks (n₀ := w.heap.size) (fun W => W.ownsRow w.heap.size 5 1 v (4 * ws.length) ((wordsB ws).map (Value.int .u8)) ∧ Below w.heap.size w W) ?_ ?_ Ds W hO ⟨by rw [← wordsB_length]; exact hrow, hB⟩
      · rintro W' D hD hk ⟨hr, hb⟩
        exact ⟨ownsRow_putObj hr _ hk rfl, hb.trans (belowK_b (w := w) (Nat.le_refl _) W' D _ _ hD hk rfl rfl)⟩
      · rintro W' ⟨hr, hb⟩
        exact ⟨_, results_tmp rfl _ _ _, v, rfl, hr, hb⟩
end Go.Proofs.Ytjjaefacfcjgiaa
