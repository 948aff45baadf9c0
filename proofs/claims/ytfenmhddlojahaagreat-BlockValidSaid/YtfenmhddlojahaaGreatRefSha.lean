import Derived.IntWalk
import Derived.BigRegion
import Derived.Great.BuildSlice
import Derived.Test.YtfenmhddlojahaaGreatSha
import Derived.Test.YtfenmhddlojahaaGreatOct
import Derived.Test.YtfenmhddlojahaaGreatGrowth
import Derived.Test.YtfenmhddlojahaaGreatUps
namespace Go.Proofs.YtfenmhddlojahaaGreat
section
/-
  A block's words, one by one.
-/
section
set_option linter.unusedVariables false

theorem sched_take (b : List Int) : ∀ k j, j ≤ k → (sched b k).take (b.length + j) = sched b j
  | 0, j, h => by
    obtain rfl : j = 0 := by omega
    exact List.take_of_length_le (by show b.length ≤ _; omega)
  | k + 1, j, h => by
    by_cases e : j = k + 1
    · rw [e]; exact List.take_of_length_le (by rw [sched_length]; omega)
    · show (sched b k ++ [schedNext (sched b k)]).take (b.length + j) = _
      rw [List.take_append_of_le_length (by rw [sched_length]; omega)]
      exact sched_take b k j (by omega)
theorem aw_lo (p : List Int) (q t : Nat) (h : t < 16) : (allWords p q)[t]?.getD 0 = wordUp p (q + 4 * t) 4 := by
  have e := sched_take (blkWords p q 16) 48 0 (by omega)
  rw [blkWords_length] at e
  have h1 : (allWords p q)[t]?.getD 0 = (blkWords p q 16)[t]?.getD 0 := by
    have h2 : ((allWords p q).take 16)[t]? = (allWords p q)[t]? := by rw [List.getElem?_take, if_pos h]
    rw [← h2]
    show ((sched (blkWords p q 16) 48).take 16)[t]?.getD 0 = _
    rw [e]; rfl
  rw [h1]
  simp [blkWords, h]
theorem aw_take (p : List Int) (q j : Nat) (h : j ≤ 48) : (allWords p q).take (16 + j) = sched (blkWords p q 16) j := by
  have e := sched_take (blkWords p q 16) 48 j h
  rw [blkWords_length] at e
  exact e
theorem aw_hi (p : List Int) (q t : Nat) (h0 : 16 ≤ t) (h : t < 64) :
    (allWords p q)[t]?.getD 0 = (sml ((allWords p q)[t - 2]?.getD 0) 17 19 10 + (allWords p q)[t - 7]?.getD 0 + sml ((allWords p q)[t - 15]?.getD 0) 7 18 3 + (allWords p q)[t - 16]?.getD 0) % 4294967296 := by
  obtain ⟨j, rfl⟩ : ∃ j, t = 16 + j := ⟨t - 16, by omega⟩
  have h1 := aw_take p q j (by omega)
  have h2 := aw_take p q (j + 1) (by omega)
  have hl : (allWords p q).length = 64 := allWords_length p q
  have h3 : (allWords p q).take (16 + j + 1) = (allWords p q).take (16 + j) ++ [(allWords p q)[16 + j]?.getD 0] := take_snoc _ _ (by omega)
  rw [Nat.add_assoc, h2, h1] at h3
  have h4 : [schedNext (sched (blkWords p q 16) j)] = [(allWords p q)[16 + j]?.getD 0] := List.append_cancel_left h3
  have h5 : (allWords p q)[16 + j]?.getD 0 = schedNext (sched (blkWords p q 16) j) := (List.cons.inj h4).1.symm
  have h6 : ∀ i, i < 16 + j → (sched (blkWords p q 16) j)[i]?.getD 0 = (allWords p q)[i]?.getD 0 := by
    intro i hi
    rw [← h1, List.getElem?_take, if_pos hi]
  rw [h5]
  unfold schedNext
  rw [sched_length, blkWords_length, h6 _ (by omega), h6 _ (by omega), h6 _ (by omega), h6 _ (by omega)]
theorem aw_u32 (p : List Int) (h : U8s p) (q : Nat) : U32s (allWords p q) := sched_u32 _ (blkWords_u32 p h q 16) _
theorem aw_snoc (p : List Int) (q t : Nat) (h : t < 64) : (allWords p q).take (t + 1) = (allWords p q).take t ++ [(allWords p q)[t]?.getD 0] := take_snoc _ _ (by rw [allWords_length]; omega)
theorem padB_u8s (bs : List Int) (h : U8s bs) : U8s (padB bs) := by
  intro j hj
  unfold padB
  by_cases hl : j < bs.length
  · rw [List.getElem?_append_left hl]; exact h.at bs j
  · rw [List.getElem?_append_right (by omega)]
    have ht : U8s (padTail bs.length) := by
      intro i hi
      unfold padTail
      cases i with
      | zero => simp
      | succ i =>
        rw [List.getElem?_cons_succ]
        by_cases hz : i < zerosOf bs.length
        · rw [List.getElem?_append_left (by simpa using hz)]; simp [hz]
        · rw [List.getElem?_append_right (by simpa using hz)]
          exact (octAll_u8s _ _).at _ _
    exact ht.at _ _
end

/-
  The reference's padding.
-/
section
set_option linter.unusedVariables false
open Go.RowKit

def sliceLen : Value → Nat
  | .slice _ n _ => n
  | _ => 0

theorem row_sl {W : World} {base : Nat} {e : TypeId} {v : Value} {n : Nat} {xs : List Value} (h : W.ownsRow base e 1 v n xs) (hn : 0 < n) : ∃ g cap, v = .slice (some ⟨g, 0, none⟩) n cap ∧ n ≤ cap := by
  rcases h.2 with ⟨_, h0⟩ | ⟨g, cap, cur, rfl, _, _, hle, _⟩
  · omega
  · exact ⟨g, cap, rfl, hle⟩
theorem pad_so_far (bs : List Int) (z : Nat) (h : zerosOf bs.length = z) : bs ++ [128] ++ List.replicate z 0 ++ octAll (8 * bs.length) 8 = padB bs := by
  unfold padB padTail; rw [h]; simp

set_option maxHeartbeats 1000000 in
theorem refPad_any (v : Value) (bs : List Int) (w : World) (hv : Ints .u8 w v bs) (hl : bs.length ≤ 140737488355200) :
    Calls Tryz.prog 116 #[v] w fun e w' => ∃ r, e = .returned r ∧ w'.ownsRow w.heap.size 5 1 r (padB bs).length ((padB bs).map (Value.int .u8)) ∧ Below w.heap.size w w' := by
  obtain ⟨i0, hi, hz0, hz1, hz2⟩ := info_parts info_u8
  obtain ⟨z, hz⟩ : ∃ z, zerosOf bs.length = z := ⟨_, rfl⟩
  have hzl : z < 64 ∧ (bs.length + 1 + z) % 64 = 56 ∧ ∀ k, k < z → (bs.length + 1 + k) % 64 ≠ 56 := by
    rw [← hz]; unfold zerosOf; exact ⟨by omega, by omega, fun k hk => by omega⟩
  have Hpad := Lib.hid (pad_so_far bs z hz)
  have Hlen : Hid ((padB bs).length = bs.length + 1 + z + 8) := by show _ = _; rw [padB_length, hz]; omega
  obtain ⟨a, cap, rfl, hcap, hnil, hcell⟩ := hv
  have Hnone : Hid (a = none → bs.length = 0 ∧ cap = 0) := fun h => ⟨by have := hnil h; omega, hnil h⟩
  have Hnews := Lib.hid (cells_all (k := .u8) hcell)
  have Hone : Hid (∀ u ∈ bs.map (Value.int .u8), u.oneCell' = true) := ints_oneCell .u8 bs
  have Hput : Hid (∀ wx, Calls Tryz.prog 57 #[.int .i64 (8 * (bs.length : Int)), .int .i64 8] wx fun e w' => ∃ g c, e = .returned (.slice (some ⟨g, 0, none⟩) 8 c) ∧ w'.ownsRow wx.heap.size 5 1 (.slice (some ⟨g, 0, none⟩) 8 c) 8 ((octAll (8 * bs.length) 8).map (Value.int .u8)) ∧ Below wx.heap.size wx w') := by
    intro wx
    refine (refPut_any (8 * bs.length) 8 (by omega) (by omega) 8 (by decide) wx).mono ?_
    rintro e w' ⟨v, rfl, hr, hb⟩
    have e8 : IntKind.u64.wrap (8 * (bs.length : Int)) = 8 * bs.length := by rw [IntKind.wrap_u64]; omega
    rw [e8] at hr
    obtain ⟨g, cap, rfl⟩ := ownsRow_succ hr
    exact ⟨g, cap, rfl, hr, hb⟩
  obtain ⟨hz1', hz2', hz3'⟩ := hzl
  have Hz2 := Lib.hid hz2'
  have Hz3 := Lib.hid hz3'
  clear hcell hnil hz hz2' hz3'
  go_enter Tryz.func116, Tryz.ntmps116
  go_wp2_with (first | (at_builtin; refine wpList_append_own_src _ rfl (.tmp 4) (.tmp 5) 31 rfl w.heap.size 5 i0 (.int .u8 0) 1 1 Tryz.underlying31 hi hz0 hz1 hz2 rfl (by decide) (.slice none 0 0) 0 [] rfl (World.ownsRow_nil _ _ _ _) a bs.length cap (bs.map (Value.int .u8)) rfl Hnone.out (by simp) Hnews.out Hone.out (by unfold maxLen; omega) (by omega) (Nat.le_refl _) ?_; intro v1 w1 hr1 hg1 _; simp only [Nat.zero_add, List.nil_append] at hr1) | (at_builtin; refine wpList_append_own _ rfl (.tmp 6) (.tmp 7) 31 rfl w.heap.size 5 i0 (.int .u8 0) 1 1 Tryz.underlying31 hi hz0 hz1 hz2 rfl (by decide) v1 bs.length _ rfl (hr1.alloc _) ⟨w1.heap.size, 0, none⟩ 1 1 [.int .u8 128] rfl rfl (cell_one_new _ _ _) (by simp [Value.oneCell']) (by unfold maxLen; omega) (by omega) (by have := hg1.size; simp; omega) ?_; intro v2 w2 hr2 hg2 _))
  have hB1 : Below w.heap.size w w1 := (Below.refl _ w).grown hg1 (Nat.le_refl _) (fun k e => by simp [Value.ownBlock] at e)
  have hB2 : Below w.heap.size w w2 := (hB1.alloc hB1.size _).grown hg2 (by have := hB1.size; simp; omega) (fun k e => (hr1.lt k e).1)
  have hr2' : w2.ownsRow w.heap.size 5 1 v2 (bs.length + 1) ((bs ++ [128] ++ List.replicate 0 0).map (Value.int .u8)) := by simpa using hr2
  clear hr1 hg1 hr2 hg2 hB1
  go_loopw [3] (fun v wr => ∃ k n g c : Nat, v = .slice (some ⟨g, 0, none⟩) n c ∧ n ≤ c ∧ k ≤ z ∧ n = bs.length + 1 + k ∧ wr.ownsRow w.heap.size 5 1 v n ((bs ++ [128] ++ List.replicate k 0).map (Value.int .u8)) ∧ Below w.heap.size w wr)
    (fun v _ => bs.length + 1 + z - sliceLen v)
  case atStart =>
    obtain ⟨g, c, rfl, hc⟩ := row_sl hr2' (by omega)
    exact ⟨0, _, g, c, rfl, hc, Nat.zero_le _, rfl, hr2', hB2⟩
  case round =>
    clear hr2' hB2
    obtain ⟨k, n, g, c, rfl, hc, hk, hn, hrow, hB⟩ := hrel
    by_cases hlt : k < z
    · have hne : (n % 64 : Nat) ≠ 56 := by rw [hn]; exact Hz3.out k hlt
      have hd : ((n : Int) % 64 != 56) = true := by simp; omega
      have hrep : bs ++ [128] ++ List.replicate (k + 1) 0 = (bs ++ [128] ++ List.replicate k 0) ++ [(0 : Int)] := by rw [List.replicate_succ']; simp
      have Hrep := Lib.hid hrep
      have Hn := Lib.hid hn
      have hn2 : n ≤ 140737488355270 := by omega
      clear hn hrep
      go_wp2_with (at_builtin; refine wpList_append_own _ rfl (.tmp 13) (.tmp 14) 31 rfl w.heap.size 5 i0 (.int .u8 0) 1 1 Tryz.underlying31 hi hz0 hz1 hz2 rfl (by decide) _ n _ rfl (hrow.alloc _) ⟨wr.heap.size, 0, none⟩ 1 1 [.int .u8 0] rfl rfl (cell_one_new _ _ _) (by simp [Value.oneCell']) (by unfold maxLen; omega) (by omega) (by have := hB.size; simp; omega) ?_; intro v3 w3 hr3 hg3 _; obtain ⟨g3, c3, rfl, hc3⟩ := row_sl hr3 (by omega))
      go_roundw
      case rel => exact ⟨k + 1, n + 1, g3, c3, rfl, hc3, by omega, by have := Hn.out; omega, by rw [Hrep.out, List.map_append]; exact hr3, (hB.alloc hB.size _).grown hg3 (by have := hB.size; simp; omega) (fun q e => (hrow.lt q e).1)⟩
      case measure =>
        have := Hn.out
        simp [sliceLen]; omega
    · obtain rfl : k = z := by omega
      have heq : (n % 64 : Nat) = 56 := by rw [hn]; exact Hz2.out
      have hd : ((n : Int) % 64 != 56) = false := by simp; omega
      have Hn := Lib.hid hn
      have hn2 : n ≤ 140737488355270 := by omega
      clear hn
      have Hone8 : Hid (∀ u ∈ (octAll (8 * bs.length) 8).map (Value.int .u8), u.oneCell' = true) := ints_oneCell .u8 _
      go_wp2_with (first | (go_at_call 57; (with_reducible refine Calls.mono (Hput.out _) ?_); rintro e w3 ⟨g3, c3, rfl, hr3, hB3⟩; have hrow3 := hrow.kept (row := none) ⟨hB3.os, hB3.tape, hB3.output, hB3.size, fun k hk _ => hB3.block k hk⟩ (Classical.em _); have Hcs := Lib.hid (row_cells hr3)) | (at_builtin; refine wpList_append_own _ rfl (.tmp 16) (.tmp 20) 31 rfl w.heap.size 5 i0 (.int .u8 0) 1 1 Tryz.underlying31 hi hz0 hz1 hz2 rfl (by decide) _ n _ rfl hrow3 ⟨g3, 0, none⟩ 8 c3 ((octAll (8 * bs.length) 8).map (Value.int .u8)) rfl (by simp [octAll_length]) Hcs.out Hone8.out (by unfold maxLen; omega) (by omega) (by have := hB.size; have := hB3.size; omega) ?_; intro v4 w4 hr4 hg4 _))
      have hB4 : Below w.heap.size w w4 := (hB.trans (hB3.mono hB.size)).grown hg4 (by have := hB.size; have := hB3.size; omega) (fun q e => (hrow.lt q e).1)
      go_ret
      refine ⟨_, rfl, ?_, hB4⟩
      rw [← List.map_append, Hpad.out, Hn.out, ← Hlen.out] at hr4
      exact hr4
end

/-
  Eight words; turns in a statement that leaves its order open (the reference's).
-/
section
set_option linter.unusedVariables false
open Go.RowKit

theorem turn_quiet {W : World} (x : Int) (n : Nat) (hx : 0 ≤ x ∧ x < 4294967296) (hn : 0 < n ∧ n < 32) (q : Nat) :
    Calls Tryz.prog 117 #[.int .u32 x, .int .u64 n] (W.drewN q) fun e w'' => e = .returned (.int .u32 (rotr x n)) ∧ ∃ m, w'' = W.drewN m :=
  (turn_any x n hx hn (W.drewN q)).mono fun _ _ ⟨he, hm⟩ => ⟨he, q, hm.symm⟩

/-- eight words behind one another -/
def Eight (W : World) (g : Nat) (r : St) : Prop := ∀ j, j < 8 → W.cell? ⟨g, j, none⟩ = some (.int .u32 (r.list[j]?.getD 0))
theorem Eight.new (W : World) (t : TypeId) (r : St) : Eight (W.alloc (.cells #[.int .u32 r.a, .int .u32 r.b, .int .u32 r.c, .int .u32 r.d, .int .u32 r.e, .int .u32 r.f, .int .u32 r.g, .int .u32 r.h] t)) W.heap.size r := by
  intro j hj
  rw [World.cell?_alloc_new]
  match j, hj with
  | 0, _ => rfl
  | 1, _ => rfl
  | 2, _ => rfl
  | 3, _ => rfl
  | 4, _ => rfl
  | 5, _ => rfl
  | 6, _ => rfl
  | 7, _ => rfl
theorem Eight.of (W : World) (t : TypeId) (r : St) (A E : Int) (hA : A = r.a) (hE : E = r.e) : Eight (W.alloc (.cells #[.int .u32 A, .int .u32 r.b, .int .u32 r.c, .int .u32 r.d, .int .u32 E, .int .u32 r.f, .int .u32 r.g, .int .u32 r.h] t)) W.heap.size r := by
  subst hA; subst hE; exact Eight.new W t r
theorem rnd_flat_a (s : St) (k w : Int) : (s.h + big s.e 6 11 25 + chs s.e s.f s.g + k + w + (big s.a 2 13 22 + maj s.a s.b s.c)) % 4294967296 = (rnd s k w).a := by
  show _ = (t1 s k w + t2 s) % 4294967296
  unfold t1 t2; omega
theorem rnd_flat_e (s : St) (k w : Int) : (s.d + (s.h + big s.e 6 11 25 + chs s.e s.f s.g + k + w)) % 4294967296 = (rnd s k w).e := by
  show _ = (s.d + t1 s k w) % 4294967296
  unfold t1; omega
theorem Eight.all {W : World} {g : Nat} {r : St} (h : Eight W g r) :
    W.cell? ⟨g, 0, none⟩ = some (.int .u32 r.a) ∧ W.cell? ⟨g, 1, none⟩ = some (.int .u32 r.b) ∧ W.cell? ⟨g, 2, none⟩ = some (.int .u32 r.c) ∧ W.cell? ⟨g, 3, none⟩ = some (.int .u32 r.d) ∧
    W.cell? ⟨g, 4, none⟩ = some (.int .u32 r.e) ∧ W.cell? ⟨g, 5, none⟩ = some (.int .u32 r.f) ∧ W.cell? ⟨g, 6, none⟩ = some (.int .u32 r.g) ∧ W.cell? ⟨g, 7, none⟩ = some (.int .u32 r.h) :=
  ⟨h 0 (by omega), h 1 (by omega), h 2 (by omega), h 3 (by omega), h 4 (by omega), h 5 (by omega), h 6 (by omega), h 7 (by omega)⟩
theorem Eight.drewN {W : World} {g : Nat} {r : St} (h : Eight W g r) (q : Nat) : Eight (W.drewN q) g r := h
theorem Eight.other {W : World} {g S j : Nat} {r : St} (h : Eight W g r) (hne : g ≠ S) (u : Value) : Eight (W.setCell ⟨S, j, none⟩ u) g r := fun i hi =>
  (World.cell?_of_block (a := ⟨g, i, none⟩) (Below.heap_setCell W ⟨S, j, none⟩ u g hne)).trans (h i hi)
theorem row_at {W : World} {base : Nat} {e : TypeId} {k : IntKind} {g n c : Nat} {zs : List Int} (h : W.ownsRow base e 1 (.slice (some ⟨g, 0, none⟩) n c) n (zs.map (Value.int k))) (j : Nat) (hj : j < n) : W.cell? ⟨g, j, none⟩ = some (.int k (zs[j]?.getD 0)) := by
  have hl : zs.length = n := by have := h.1; simpa using this
  rw [h.cellAt j (by omega)]
  simp [hl, hj]
theorem take_at (l : List Int) (t j : Nat) (h : j < t) : (l.take t)[j]?.getD 0 = l[j]?.getD 0 := by rw [List.getElem?_take, if_pos h]
end
end

/-
  The reference's sum, of words as they are told.
-/
section
set_option linter.unusedVariables false
open Go.RowKit

theorem size_arr8 : (Tryz.prog.info? 150).map (·.size) = some 8 := by kernel_rfl
theorem zero_arr8 : ((Tryz.prog.info? 150).bind (·.zero)).map (·.cells.size) = some 8 := by kernel_rfl

set_option maxRecDepth 100000 in
set_option maxHeartbeats 1000000 in
theorem refWords_any (w : World) : Calls Tryz.prog 115 #[] w fun e w' => e = .returned (.agg (kL.map (Value.int .u32)).toArray) ∧ Below w.heap.size w w' := by
  go_enter Tryz.func115, Tryz.ntmps115
  go_wp2_with (first | (refine wpList_buildFlatArr rfl 148 147 64 _ rfl .u32 kL Tryz.underlying148 size_u32 zero_arr64 rfl ?_) | (refine wpList_store_arr rfl 148 (.tmp 0) (.tmp 1) rfl w.heap.size (List.replicate 64 0) kL rfl rfl 148 (Arr.new w 148 (List.replicate 64 0)) (by rw [size_arr64]; rfl) rfl ?_; intro w2 hA2 hG2))
  exact bodyPost_ret (results_cell_row rfl _ _ w.heap.size 148 _ (0, 0) _ rfl hA2 Tryz.underlying148 rfl (by rw [size_arr64]; rfl)) rfl ⟨rfl, ((Below.refl _ w).alloc (Nat.le_refl _) _).grown hG2 (by simp) (fun j e => by cases e; exact Nat.le_refl _)⟩

theorem Arr.rnd {W : World} {B : Nat} {t : TypeId} {s : St} {k w A E : Int} (h : Arr W B t [A, s.a, s.b, s.c, E, s.e, s.f, s.g]) (hA : A = (rnd s k w).a) (hE : E = (rnd s k w).e) : Arr W B t (rnd s k w).list := by
  subst hA; subst hE; exact h
/-- four octets of a word, laid at once -/
theorem cell_four_new (w : World) (a b c d : Value) (t : TypeId) : ∀ j u, [a, b, c, d][j]? = some u → (w.alloc (.cells #[a, b, c, d] t)).cell? ((⟨w.heap.size, 0, none⟩ : Addr).add j) = some u := by
  intro j u hj
  have h2 : ((⟨w.heap.size, 0, none⟩ : Addr).add j) = ⟨w.heap.size, j, none⟩ := by unfold Addr.add; split <;> simp_all
  rw [h2, cell_of_row _ _ j _ t (0, 0) (heap_alloc_new w _)]
  simpa using hj
theorem octAll_four (x : Int) : octAll x 4 = [x / 16777216 % 256, x / 65536 % 256, x / 256 % 256, x % 256] := by
  show [octAt x 4 0, octAt x 4 1, octAt x 4 2, octAt x 4 3] = _
  have e0 : octAt x 4 0 = x / 16777216 % 256 := rfl
  have e1 : octAt x 4 1 = x / 65536 % 256 := rfl
  have e2 : octAt x 4 2 = x / 256 % 256 := rfl
  have e3 : octAt x 4 3 = x / 1 % 256 := rfl
  rw [e0, e1, e2, e3, Int.ediv_one]
theorem fill64_set' (l : List Int) (x : Int) (t : Nat) (h : l.length = t) (ht : t < 64) : (fill64 l).set t x = fill64 (l ++ [x]) := by
  subst h; exact fill64_set l x ht
theorem word_octets (p : List Int) (i : Nat) (o0 o1 o2 o3 : Int) (h0 : p[i]?.getD 0 = o0) (h1 : p[i + 1]?.getD 0 = o1) (h2 : p[i + 2]?.getD 0 = o2) (h3 : p[i + 3]?.getD 0 = o3) : wordUp p i 4 = o0 * 16777216 + o1 * 65536 + o2 * 256 + o3 := by
  simp only [wordUp, wordStep, Nat.add_zero, h0, h1, h2, h3]; omega

set_option maxRecDepth 100000 in
set_option maxHeartbeats 4000000 in
theorem refSha_any (v : Value) (bs : List Int) (w : World) (hv : Ints .u8 w v bs) (hu : U8s bs) (hl : bs.length ≤ 140737488355200) :
    Calls Tryz.prog 84 #[v] w fun e w' => ∃ r, e = .returned r ∧ w'.ownsRow w.heap.size 5 1 r 32 ((sumB bs).map (Value.int .u8)) ∧ Below w.heap.size w w' := by
  obtain ⟨j0, hj, hy0, hy1, hy2⟩ := info_parts info_u8
  have Hv := Lib.hid hv
  have Hu := Lib.hid hu
  clear hv hu
  go_enter Tryz.func84, Tryz.ntmps84
  go_wp2_with fail
  with_reducible refine Calls.mono (refWords_any _) ?_
  rintro e w1 ⟨rfl, hU1⟩
  have hU1 : Up w w1 := hU1
  go_wp2_with (first | (go_at_call 116; fail) | (refine wpList_store_arr rfl 148 (.tmp 3) (.tmp 20) rfl w1.heap.size (List.replicate 64 0) kL rfl rfl 148 (Arr.new w1 148 (List.replicate 64 0)) (by rw [size_arr64]; rfl) rfl ?_; intro w2 hK2 hG2) | (refine wpList_buildFlatArr rfl 150 147 8 _ rfl .u32 hSt.list Tryz.underlying150 size_u32 zero_arr8 rfl ?_) | (refine wpList_store_arr rfl 150 (.tmp 4) (.tmp 21) rfl w2.heap.size (List.replicate 8 0) hSt.list rfl rfl 150 (Arr.new w2 150 (List.replicate 8 0)) (by rw [size_arr8]; rfl) rfl ?_; intro w3 hS3 hG3))
  have hU2 : Up w w2 := Below.grown (Up.alloc hU1 _) hG2 (Up.alloc hU1 _).size (fun k e => by cases e; exact hU1.size)
  have hU3 : Up w w3 := Below.grown (Up.alloc hU2 _) hG3 (Up.alloc hU2 _).size (fun k e => by cases e; exact hU2.size)
  have hKS : w1.heap.size < w2.heap.size := hK2.lt
  have hK3 : Arr w3 w1.heap.size 148 kL := (hK2.alloc _).grown hG3 (fun e => by simp only [Option.some.injEq] at e; omega)
  have Hpad := Lib.hid (refPad_any v bs w3 (Hv.out.up hU3) hl)
  have Hp64 := Lib.hid (padB_64 bs)
  have Hpl := Lib.hid (padB_length bs)
  have Hpu := Lib.hid (padB_u8s bs Hu.out)
  have Hsum : Hid (sumB bs = wordsB (takeSt hSt (padB bs) ((padB bs).length / 64)).list) := rfl
  generalize padB bs = p at Hpad Hp64 Hpl Hpu Hsum
  with_reducible refine Calls.mono Hpad.out ?_
  rintro e w4 ⟨vp, rfl, hrp, hB4⟩
  have hplt : p.length ≤ 140737488355300 := by have := Hpl.out; unfold zerosOf at this; omega
  obtain ⟨gp, cp, rfl, hcp⟩ := row_sl hrp (by have := Hpl.out; omega)
  have Hrp : Hid (IntsOff w2.heap.size .u8 w4 (.slice (some ⟨gp, 0, none⟩) p.length cp) p) := IntsOff.of_row hrp hS3.lt
  have hU4 : Up w w4 := Up.trans hU3 hB4
  have hS4 := hS3.below hB4
  have hK4 := hK3.below hB4
  have HwS := Lib.hid hU2.size
  have HKS := Lib.hid hKS
  clear hrp hB4 hU1 hU2 hU3 hS3 hK3 hK2 hG2 hG3 Hpad hKS
  have hN : p.length = 64 * (p.length / 64) := by have := Hp64.out; omega
  obtain ⟨N, hNN⟩ : ∃ N, p.length / 64 = N := ⟨_, rfl⟩
  rw [hNN] at hN
  have HN := Lib.hid hN
  have HNN := Lib.hid hNN
  clear hN hNN
  go_wp2
  go_loopw [6] (fun i wr => ∃ k q : Nat, k ≤ N ∧ q = 64 * k ∧ i = .int .i64 q ∧ Arr wr w2.heap.size 150 (takeSt hSt p k).list ∧ Arr wr w1.heap.size 148 kL ∧ w4.grownBy wr (some w2.heap.size) ∧ Up w wr)
    (fun i _ => p.length - (intOf i).toNat)
  case atStart => exact ⟨0, 0, Nat.zero_le _, rfl, rfl, hS4, hK4, World.grownBy.refl _ _, hU4⟩
  case round =>
    clear hS4 hK4 hU4
    obtain ⟨k, q, hk, hq, rfl, hS, hK, hG, hU⟩ := hrel
    by_cases hlt : q < p.length
    · have hq64 : q + 64 ≤ p.length := by have := HN.out; omega
      have hst := takeSt_ok hSt_ok p k
      have hnext : takeSt hSt p (k + 1) = addSt (takeSt hSt p k) (comp (allWords p q) kL (takeSt hSt p k) 64) := by rw [hq]; rfl
      obtain ⟨st, hstt⟩ : ∃ st, takeSt hSt p k = st := ⟨_, rfl⟩
      rw [hstt] at hst hnext hS
      have Hlo : Hid (∀ t, t < 16 → (allWords p q)[t]?.getD 0 = wordUp p (q + 4 * t) 4) := aw_lo p q
      have Hhi : Hid (∀ t, 16 ≤ t → t < 64 → (allWords p q)[t]?.getD 0 = (sml ((allWords p q)[t - 2]?.getD 0) 17 19 10 + (allWords p q)[t - 7]?.getD 0 + sml ((allWords p q)[t - 15]?.getD 0) 7 18 3 + (allWords p q)[t - 16]?.getD 0) % 4294967296) := aw_hi p q
      have Hwu : Hid (U32s (allWords p q)) := aw_u32 p Hpu.out q
      have Hsnoc : Hid (∀ t, t < 64 → (allWords p q).take (t + 1) = (allWords p q).take t ++ [(allWords p q)[t]?.getD 0]) := aw_snoc p q
      have Hwl : Hid ((allWords p q).length = 64) := allWords_length p q
      generalize allWords p q = W at hnext Hlo Hhi Hwu Hsnoc Hwl
      obtain ⟨r64, hr64⟩ : ∃ r, comp W kL st 64 = r := ⟨_, rfl⟩
      rw [hr64] at hnext
      have Hr64 := Lib.hid hr64
      have Hnext := Lib.hid hnext
      have Hq := Lib.hid hq
      have HS := Lib.hid hS
      have HK := Lib.hid hK
      have HG := Lib.hid hG
      have HU := Lib.hid hU
      have Hpi := Lib.hid (Hrp.out.grown hG).ints
      have Htl : Hid (∀ t, t ≤ 64 → (W.take t).length = t) := fun t ht => by rw [List.length_take, Hwl.out]; omega
      clear hr64 hnext hstt hq hS hK hG hU
      obtain ⟨wo, rfl⟩ : ∃ wo : World, wo = wr := ⟨_, rfl⟩
      go_wp2
      go_loopw [8] (fun i wr => ∃ t : Nat, t ≤ 64 ∧ i = .int .i64 t ∧ Arr wr wo.heap.size 148 (fill64 (W.take t)) ∧ Below wo.heap.size wo wr)
        (fun i _ => 64 - (intOf i).toNat)
      case atStart => exact ⟨0, Nat.zero_le _, rfl, Arr.new wo 148 (List.replicate 64 0), (Below.refl _ wo).alloc (Nat.le_refl _) _⟩
      case round =>
        obtain ⟨t, ht, rfl, hA, hB⟩ := hrel
        by_cases htl : t < 64
        · have hsn := Hsnoc.out t htl
          have hlt2 := Htl.out t (by omega)
          have Hsn := Lib.hid hsn
          have Hlt2 := Lib.hid hlt2
          clear hsn hlt2
          by_cases h16 : t < 16
          · have hlo := Hlo.out t h16
            obtain ⟨a', c', he, _, _, hpc⟩ := Hpi.out.up hB
            simp only [Value.slice.injEq, true_and] at he
            obtain ⟨rfl, rfl⟩ := he
            rcases hpc with hpc | ⟨b', o', he, hpc⟩
            · rw [hpc] at hlt; simp at hlt
            simp only [Option.some.injEq, Addr.mk.injEq, and_true] at he
            obtain ⟨rfl, rfl⟩ := he
            obtain ⟨i0, hi0⟩ : ∃ i0, q + 4 * t = i0 := ⟨_, rfl⟩
            have hil : i0 + 3 < p.length := by omega
            have p0 := hpc i0 (by omega)
            have p1 := hpc (i0 + 1) (by omega)
            have p2 := hpc (i0 + 2) (by omega)
            have p3 := hpc (i0 + 3) (by omega)
            rw [Nat.zero_add] at p0 p1 p2 p3
            have u0 := Hpu.out.at p i0
            have u1 := Hpu.out.at p (i0 + 1)
            have u2 := Hpu.out.at p (i0 + 2)
            have u3 := Hpu.out.at p (i0 + 3)
            obtain ⟨x0, e0⟩ : ∃ x, p[i0]?.getD 0 = x := ⟨_, rfl⟩
            obtain ⟨x1, e1⟩ : ∃ x, p[i0 + 1]?.getD 0 = x := ⟨_, rfl⟩
            obtain ⟨x2, e2⟩ : ∃ x, p[i0 + 2]?.getD 0 = x := ⟨_, rfl⟩
            obtain ⟨x3, e3⟩ : ∃ x, p[i0 + 3]?.getD 0 = x := ⟨_, rfl⟩
            rw [hi0, word_octets p i0 x0 x1 x2 x3 e0 e1 e2 e3] at hlo
            rw [e0] at p0 u0
            rw [e1] at p1 u1
            rw [e2] at p2 u2
            rw [e3] at p3 u3
            obtain ⟨i1, f1⟩ : ∃ x, i0 + 1 = x := ⟨_, rfl⟩
            obtain ⟨i2, f2⟩ : ∃ x, i0 + 2 = x := ⟨_, rfl⟩
            obtain ⟨i3, f3⟩ : ∃ x, i0 + 3 = x := ⟨_, rfl⟩
            rw [f1] at p1
            rw [f2] at p2
            rw [f3] at p3
            obtain ⟨t4, f4⟩ : ∃ x, 4 * t = x := ⟨_, rfl⟩
            have w4' : IntKind.i64.wrap (4 * (t : Int)) = t4 := by rw [IntWalk.i64_in _ (by omega)]; omega
            have w0' : IntKind.i64.wrap ((q : Int) + (t4 : Int)) = i0 := by rw [IntWalk.i64_in _ (by omega)]; omega
            have w1' : IntKind.i64.wrap ((i0 : Int) + 1) = i1 := by rw [IntWalk.i64_in _ (by omega)]; omega
            have w2' : IntKind.i64.wrap ((i0 : Int) + 2) = i2 := by rw [IntWalk.i64_in _ (by omega)]; omega
            have w3' : IntKind.i64.wrap ((i0 : Int) + 3) = i3 := by rw [IntWalk.i64_in _ (by omega)]; omega
            have bl : i0 < p.length ∧ i1 < p.length ∧ i2 < p.length ∧ i3 < p.length := by omega
            have HA := Lib.hid hA
            have HB := Lib.hid hB
            have Hlo' := Lib.hid hlo
            clear hlo hA hB hpc hi0 e0 e1 e2 e3 f1 f2 f3 f4
            go_wp2
            refine region_quiet_tail 43 (by kernel_rfl) (by kernel_rfl) ?_
            simp only [List.take_succ_cons, List.take_zero, List.drop_succ_cons, List.drop_zero]
            repeat (any_goals (first | go_big_quiet_step (fail) | quiet_step (fail)))
            refine wpQuiet_nil ?_
            intro q2
            have hAq := HA.out.drewN q2
            have hBq : Below wo.heap.size wo (wr.drewN q2) := HB.out.trans ⟨rfl, rfl, rfl, Nat.le_refl _, fun _ _ => rfl⟩
            change wpList _ _ _ _ _ _
            generalize wr.drewN q2 = wq at hAq hBq ⊢
            have hfr := hAq.free t
            have hce := hAq.cell t (by rw [fill64_length _ (by have := Hlt2.out; omega)]; omega)
            clear p0 p1 p2 p3 w4' w0' w1' w2' w3'
            go_wp2
            go_roundw
            case rel =>
              refine ⟨t + 1, by omega, by go_num, ?_, hBq.setCell (Nat.le_refl _) _⟩
              have hset := hAq.set t (W[t]?.getD 0)
              rw [fill64_set' _ _ t Hlt2.out htl, ← Hsn.out, Hlo'.out] at hset
              exact hset
            case measure => simp [intOf]; omega
          · have hhi := Hhi.out t (by omega) htl
            have hce : ∀ j, j < t → wr.cell? ⟨wo.heap.size, j, none⟩ = some (.int .u32 (W[j]?.getD 0)) := fun j hj => by
              rw [hA.cell j (by rw [fill64_length _ (by have := Hlt2.out; omega)]; omega), fill64_at _ j (by have := Hlt2.out; omega), List.getElem?_take, if_pos hj]
            have c2 := hce (t - 2) (by omega)
            have c7 := hce (t - 7) (by omega)
            have c15 := hce (t - 15) (by omega)
            have c16 := hce (t - 16) (by omega)
            have u2 := Hwu.out (t - 2)
            have u7 := Hwu.out (t - 7)
            have u15 := Hwu.out (t - 15)
            have u16 := Hwu.out (t - 16)
            obtain ⟨x2, e2⟩ : ∃ x, W[t - 2]?.getD 0 = x := ⟨_, rfl⟩
            obtain ⟨x7, e7⟩ : ∃ x, W[t - 7]?.getD 0 = x := ⟨_, rfl⟩
            obtain ⟨x15, e15⟩ : ∃ x, W[t - 15]?.getD 0 = x := ⟨_, rfl⟩
            obtain ⟨x16, e16⟩ : ∃ x, W[t - 16]?.getD 0 = x := ⟨_, rfl⟩
            rw [e2] at c2 u2 hhi
            rw [e7] at c7 u7 hhi
            rw [e15] at c15 u15 hhi
            rw [e16] at c16 u16 hhi
            obtain ⟨t2, f2⟩ : ∃ x, t - 2 = x := ⟨_, rfl⟩
            obtain ⟨t7, f7⟩ : ∃ x, t - 7 = x := ⟨_, rfl⟩
            obtain ⟨t15, f15⟩ : ∃ x, t - 15 = x := ⟨_, rfl⟩
            obtain ⟨t16, f16⟩ : ∃ x, t - 16 = x := ⟨_, rfl⟩
            rw [f2] at c2
            rw [f7] at c7
            rw [f15] at c15
            rw [f16] at c16
            have w2' : IntKind.i64.wrap ((t : Int) - 2) = t2 := by rw [IntWalk.i64_in _ (by omega)]; omega
            have w7' : IntKind.i64.wrap ((t : Int) - 7) = t7 := by rw [IntWalk.i64_in _ (by omega)]; omega
            have w15' : IntKind.i64.wrap ((t : Int) - 15) = t15 := by rw [IntWalk.i64_in _ (by omega)]; omega
            have w16' : IntKind.i64.wrap ((t : Int) - 16) = t16 := by rw [IntWalk.i64_in _ (by omega)]; omega
            have b2 : t2 < 64 ∧ t7 < 64 ∧ t15 < 64 ∧ t16 < 64 := by omega
            obtain ⟨m1, hm1⟩ : ∃ m1, bits .xor .u32 (bits .xor .u32 (rotr x2 17) (rotr x2 19)) (x2 / 1024) = m1 := ⟨_, rfl⟩
            obtain ⟨m2, hm2⟩ : ∃ m2, bits .xor .u32 (bits .xor .u32 (rotr x15 7) (rotr x15 18)) (x15 / 8) = m2 := ⟨_, rfl⟩
            have M1 := bits_u32 .xor (bits .xor .u32 (rotr x2 17) (rotr x2 19)) (x2 / 1024) (.inl rfl)
            have M2 := bits_u32 .xor (bits .xor .u32 (rotr x15 7) (rotr x15 18)) (x15 / 8) (.inl rfl)
            rw [hm1] at M1
            rw [hm2] at M2
            have hs1 : sml x2 17 19 10 = m1 := hm1
            have hs2 : sml x15 7 18 3 = m2 := hm2
            rw [hs1, hs2] at hhi
            have Hhi' := Lib.hid hhi
            have HA := Lib.hid hA
            have HB := Lib.hid hB
            clear hhi hce e2 e7 e15 e16 f2 f7 f15 f16 hs1 hs2 hA hB
            go_wp2
            go_quiet (fail)
            have hAn := HA.out.drewN nq
            have hBn : Below wo.heap.size wo (wr.drewN nq) := HB.out.trans ⟨rfl, rfl, rfl, Nat.le_refl _, fun _ _ => rfl⟩
            have d2 : (wr.drewN nq).cell? ⟨wo.heap.size, t2, none⟩ = some (.int .u32 x2) := c2
            have d7 : (wr.drewN nq).cell? ⟨wo.heap.size, t7, none⟩ = some (.int .u32 x7) := c7
            have d16 : (wr.drewN nq).cell? ⟨wo.heap.size, t16, none⟩ = some (.int .u32 x16) := c16
            clear c2 c7 c15 c16 HA HB
            generalize wr.drewN nq = wn at hAn hBn d2 d7 d16 ⊢
            have T1 : Hid (∀ q, Calls Tryz.prog 117 #[.int .u32 x2, .int .u64 17] (wn.drewN q) fun e w'' => e = .returned (.int .u32 (rotr x2 17)) ∧ ∃ m, w'' = wn.drewN m) := fun q => turn_quiet x2 17 u2 (by omega) q
            have T2 : Hid (∀ q, Calls Tryz.prog 117 #[.int .u32 x2, .int .u64 19] (wn.drewN q) fun e w'' => e = .returned (.int .u32 (rotr x2 19)) ∧ ∃ m, w'' = wn.drewN m) := fun q => turn_quiet x2 19 u2 (by omega) q
            have T3 : Hid (∀ q, Calls Tryz.prog 117 #[.int .u32 x15, .int .u64 7] (wn.drewN q) fun e w'' => e = .returned (.int .u32 (rotr x15 7)) ∧ ∃ m, w'' = wn.drewN m) := fun q => turn_quiet x15 7 u15 (by omega) q
            have T4 : Hid (∀ q, Calls Tryz.prog 117 #[.int .u32 x15, .int .u64 18] (wn.drewN q) fun e w'' => e = .returned (.int .u32 (rotr x15 18)) ∧ ∃ m, w'' = wn.drewN m) := fun q => turn_quiet x15 18 u15 (by omega) q
            have HAn := Lib.hid hAn
            have HBn := Lib.hid hBn
            clear hAn hBn
            go_wp2
            refine region_quiet_tail 29 (by kernel_rfl) (by kernel_rfl) ?_
            simp only [List.take_succ_cons, List.take_zero, List.drop_succ_cons, List.drop_zero]
            repeat (any_goals (first | go_big_quiet_step ((with_reducible (first | exact T1.out _ | exact T2.out _ | exact T3.out _ | exact T4.out _))) | quiet_step ((with_reducible (first | exact T1.out _ | exact T2.out _ | exact T3.out _ | exact T4.out _)))))
            refine wpQuiet_nil ?_
            intro q2
            have hAq := HAn.out.drewN q2
            have hBq : Below wo.heap.size wo (wn.drewN q2) := HBn.out.trans ⟨rfl, rfl, rfl, Nat.le_refl _, fun _ _ => rfl⟩
            change wpList _ _ _ _ _ _
            generalize wn.drewN q2 = wq at hAq hBq ⊢
            have hfr := hAq.free t
            have hce := hAq.cell t (by rw [fill64_length _ (by have := Hlt2.out; omega)]; omega)
            clear HAn HBn d2 d7 d16 T1 T2 T3 T4 w2' w7' w15' w16' hm1 hm2
            go_wp2
            go_roundw
            case rel =>
              refine ⟨t + 1, by omega, by go_num, ?_, hBq.setCell (Nat.le_refl _) _⟩
              have hset := hAq.set t (W[t]?.getD 0)
              rw [fill64_set' _ _ t Hlt2.out htl, ← Hsn.out, Hhi'.out] at hset
              exact hset
            case measure => simp [intOf]; omega
        · obtain rfl : t = 64 := by omega
          have hWf : fill64 (W.take 64) = W := by rw [List.take_of_length_le (by rw [Hwl.out]; omega)]; exact fill64_full W Hwl.out
          rw [hWf] at hA
          have hSa := HS.out.below hB
          have hKa := HK.out.below hB
          have HBa := Lib.hid hB
          have HAa := Lib.hid hA
          have HSa := Lib.hid hSa
          have HKa := Lib.hid hKa
          clear hWf hA hB
          obtain ⟨wa, rfl⟩ : ∃ wa : World, wa = wr := ⟨_, rfl⟩
          go_wp2_with (first | (refine wpList_load_row rfl 150 (.tmp 4) rfl _ rfl 150 _ (0, 0) _ hSa Tryz.underlying150 rfl (by rw [size_arr8]; simp [St.len]) ?_) | (refine wpList_store_arr rfl 150 (.tmp 11) (.tmp 116) rfl wa.heap.size (List.replicate 8 0) st.list rfl rfl 150 (Arr.new wa 150 (List.replicate 8 0)) (by rw [size_arr8]; rfl) rfl ?_; intro w5 hV5 hG5))
          have hU5 : Up wa w5 := Below.grown ((Below.refl _ wa).alloc (Nat.le_refl _) _) hG5 (by simp) (fun k e => by cases e; exact Nat.le_refl _)
          clear hSa hKa hG5
          go_loopw [12] (fun i wr => ∃ t : Nat, t ≤ 64 ∧ i = .int .i64 t ∧ Arr wr wa.heap.size 150 (comp W kL st t).list ∧ Up wa wr)
            (fun i _ => 64 - (intOf i).toNat)
          case atStart => exact ⟨0, Nat.zero_le _, rfl, hV5, hU5⟩
          case round =>
            clear hV5 hU5
            obtain ⟨t, ht, rfl, hV, hU⟩ := hrel
            by_cases htl : t < 64
            · have ck0 := (HKa.out.below hU).cell t (by show t < 64; omega)
              have cw0 := (HAa.out.below hU).cell t (by rw [Hwl.out]; omega)
              have uk := kL_u32 t
              have uw := Hwu.out t
              have hok : (comp W kL st t).Ok := comp_ok hst _ _ _
              have hs : comp W kL st (t + 1) = rnd (comp W kL st t) (kL[t]?.getD 0) (W[t]?.getD 0) := rfl
              obtain ⟨x, hx⟩ : ∃ x, kL[t]?.getD 0 = x := ⟨_, rfl⟩
              obtain ⟨y, hy⟩ : ∃ y, W[t]?.getD 0 = y := ⟨_, rfl⟩
              rw [hx] at ck0 uk hs
              rw [hy] at cw0 uw hs
              obtain ⟨r, hr⟩ : ∃ r, comp W kL st t = r := ⟨_, rfl⟩
              rw [hr] at hV hok hs
              clear hx hy hr
              obtain ⟨a, b, c', d, e, f, g', h'⟩ := r
              obtain ⟨oa, ob, oc, od, oe, of, og, oh⟩ := hok
              have Hs := Lib.hid hs
              obtain ⟨c0, c1, c2, c3, c4, c5', c6, c7⟩ := hV.st
              simp only at c0 c1 c2 c3 c4 c5' c6 c7 oa ob oc od oe of og oh
              have HU := Lib.hid hU
              have HV := Lib.hid hV
              clear hs hV hU
              go_wp2
              go_quiet (fail)
              have hVn := HV.out.drewN nq
              have hUn := Up.drewN HU.out nq
              have ckn : (wr.drewN nq).cell? ⟨w1.heap.size, t, none⟩ = some (.int .u32 x) := ck0
              have cwn : (wr.drewN nq).cell? ⟨wo.heap.size, t, none⟩ = some (.int .u32 y) := cw0
              clear c0 c1 c2 c3 c4 c5' c6 c7 ck0 cw0 HU HV
              generalize wr.drewN nq = wn at hVn hUn ckn cwn ⊢
              have T1 : Hid (∀ q, Calls Tryz.prog 117 #[.int .u32 e, .int .u64 6] (wn.drewN q) fun e' w'' => e' = .returned (.int .u32 (rotr e 6)) ∧ ∃ m, w'' = wn.drewN m) := fun q => turn_quiet e 6 oe (by omega) q
              have T2 : Hid (∀ q, Calls Tryz.prog 117 #[.int .u32 e, .int .u64 11] (wn.drewN q) fun e' w'' => e' = .returned (.int .u32 (rotr e 11)) ∧ ∃ m, w'' = wn.drewN m) := fun q => turn_quiet e 11 oe (by omega) q
              have T3 : Hid (∀ q, Calls Tryz.prog 117 #[.int .u32 e, .int .u64 25] (wn.drewN q) fun e' w'' => e' = .returned (.int .u32 (rotr e 25)) ∧ ∃ m, w'' = wn.drewN m) := fun q => turn_quiet e 25 oe (by omega) q
              obtain ⟨c0, c1, c2, c3, c4, c5', c6, c7⟩ := hVn.st
              simp only at c0 c1 c2 c3 c4 c5' c6 c7
              have HVn := Lib.hid hVn
              have HUn := Lib.hid hUn
              clear hVn hUn
              go_wp2
              go_quiet ((with_reducible (first | exact T1.out _ | exact T2.out _ | exact T3.out _)))
              have hVm := HVn.out.drewN nq
              have hUm := Up.drewN HUn.out nq
              clear c0 c1 c2 c3 c4 c5' c6 c7 HUn HVn T1 T2 T3 ckn cwn
              generalize wn.drewN nq = wm at hVm hUm ⊢
              have T1 : Hid (∀ q, Calls Tryz.prog 117 #[.int .u32 a, .int .u64 2] (wm.drewN q) fun e' w'' => e' = .returned (.int .u32 (rotr a 2)) ∧ ∃ m, w'' = wm.drewN m) := fun q => turn_quiet a 2 oa (by omega) q
              have T2 : Hid (∀ q, Calls Tryz.prog 117 #[.int .u32 a, .int .u64 13] (wm.drewN q) fun e' w'' => e' = .returned (.int .u32 (rotr a 13)) ∧ ∃ m, w'' = wm.drewN m) := fun q => turn_quiet a 13 oa (by omega) q
              have T3 : Hid (∀ q, Calls Tryz.prog 117 #[.int .u32 a, .int .u64 22] (wm.drewN q) fun e' w'' => e' = .returned (.int .u32 (rotr a 22)) ∧ ∃ m, w'' = wm.drewN m) := fun q => turn_quiet a 22 oa (by omega) q
              obtain ⟨c0, c1, c2, c3, c4, c5', c6, c7⟩ := hVm.st
              simp only at c0 c1 c2 c3 c4 c5' c6 c7
              have HVm := Lib.hid hVm
              have HUm := Lib.hid hUm
              clear hVm hUm
              go_wp2
              go_quiet ((with_reducible (first | exact T1.out _ | exact T2.out _ | exact T3.out _)))
              have hVl := HVm.out.drewN nq
              have hUl := Up.drewN HUm.out nq
              clear c0 c1 c2 c3 c4 c5' c6 c7 HUm HVm T1 T2 T3
              generalize wm.drewN nq = wl at hVl hUl ⊢
              obtain ⟨c0, c1, c2, c3, c4, c5', c6, c7⟩ := hVl.st
              simp only at c0 c1 c2 c3 c4 c5' c6 c7
              have HUl := Lib.hid hUl
              have HVl := Lib.hid hVl
              clear hUl
              go_wp2_with (refine wpList_store_arr rfl 150 (.tmp 11) (.tmp 198) rfl wa.heap.size _ [_, _, _, _, _, _, _, _] rfl rfl 150 hVl (by rw [size_arr8]; rfl) rfl ?_; intro w6 hV6 hG6)
              go_roundw
              case rel =>
                refine ⟨t + 1, by omega, by go_num, ?_, Below.grown HUl.out hG6 HUl.out.size (fun j e => by cases e; exact Nat.le_refl _)⟩
                rw [Hs.out]
                exact Arr.rnd (s := ⟨a, b, c', d, e, f, g', h'⟩) hV6 (rnd_flat_a ⟨a, b, c', d, e, f, g', h'⟩ x y) (rnd_flat_e ⟨a, b, c', d, e, f, g', h'⟩ x y)
              case measure => simp [intOf]; omega
            · obtain rfl : t = 64 := by omega
              rw [Hr64.out] at hV
              have hVne : wa.heap.size ≠ w2.heap.size := by have := HSa.out.lt; omega
              have hS0 := HSa.out.below hU
              have hK0 := HKa.out.below hU
              have hG0 : w4.grownBy wr (some w2.heap.size) := grownBy_trans' (grownBy_trans' HG.out (grown_of_below _ HBa.out)) (grown_of_below _ hU)
              have hU0 : Up w wr := Up.trans (Up.trans HU.out HBa.out) hU
              have hrok : r64.Ok := by rw [← Hr64.out]; exact comp_ok hst _ _ _
              have Hok := Lib.hid hrok
              have HS0 := Lib.hid hS0
              have HK0 := Lib.hid hK0
              have HG0 := Lib.hid hG0
              have HV0 := Lib.hid hV
              have HU0 := Lib.hid hU0
              clear hU hV hS0 hK0 hG0 hU0 hrok
              obtain ⟨wb, rfl⟩ : ∃ wb : World, wb = wr := ⟨_, rfl⟩
              go_wp2
              go_loopw [17] (fun i wr => ∃ j : Nat, j ≤ 8 ∧ i = .int .i64 j ∧ Arr wr w2.heap.size 150 ((addSt st r64).list.take j ++ st.list.drop j) ∧ Arr wr wa.heap.size 150 r64.list ∧ wb.grownBy wr (some w2.heap.size))
                (fun i _ => 8 - (intOf i).toNat)
              case atStart => exact ⟨0, Nat.zero_le _, rfl, HS0.out, HV0.out, World.grownBy.refl _ _⟩
              case round =>
                obtain ⟨j, hj8, rfl, hS8, hV8, hG8⟩ := hrel
                by_cases hjl : j < 8
                · have hadd := addSt_at st r64 j hjl
                  have cs0 := hS8.cell j (by rw [over_length j (by rw [St.len, St.len]), St.len]; exact hjl)
                  rw [over_at j (by rw [St.len, St.len]) (by rw [St.len]; exact hjl)] at cs0
                  have cv0 := hV8.cell j (by rw [St.len]; exact hjl)
                  have us := St.list_u32 hst j
                  have uv := St.list_u32 Hok.out j
                  obtain ⟨x, hx⟩ : ∃ x, st.list[j]?.getD 0 = x := ⟨_, rfl⟩
                  obtain ⟨y, hy⟩ : ∃ y, r64.list[j]?.getD 0 = y := ⟨_, rfl⟩
                  rw [hx] at cs0 us hadd
                  rw [hy] at cv0 uv hadd
                  have Hadd := Lib.hid hadd
                  have HS8 := Lib.hid hS8
                  have HV8 := Lib.hid hV8
                  have HG8 := Lib.hid hG8
                  clear hadd hx hy hS8 hV8 hG8
                  go_wp2
                  refine region_quiet_tail 9 (by kernel_rfl) (by kernel_rfl) ?_
                  simp only [List.take_succ_cons, List.take_zero, List.drop_succ_cons, List.drop_zero]
                  repeat (any_goals (first | go_big_quiet_step (fail) | quiet_step (fail)))
                  refine wpQuiet_nil ?_
                  intro q2
                  have hS9 := HS8.out.drewN q2
                  have hV9 := HV8.out.drewN q2
                  have hG9 : wb.grownBy (wr.drewN q2) (some w2.heap.size) := ⟨HG8.out.os, HG8.out.tape, HG8.out.output, HG8.out.size, HG8.out.block⟩
                  change wpList _ _ _ _ _ _
                  generalize wr.drewN q2 = wq at hS9 hV9 hG9 ⊢
                  have hfr := hS9.free j
                  have hce := hS9.cell j (by rw [over_length j (by rw [St.len, St.len]), St.len]; exact hjl)
                  have HS9 := Lib.hid hS9
                  have HV9 := Lib.hid hV9
                  have HG9 := Lib.hid hG9
                  clear cs0 cv0 hS9 hV9 hG9
                  go_wp2
                  go_roundw
                  case rel =>
                    refine ⟨j + 1, by omega, by go_num, ?_, HV9.out.other (Ne.symm hVne) _, grownBy_trans' HG9.out (grownBy_setCell _ _ _)⟩
                    have hset := HS9.out.set j ((x + y) % 4294967296)
                    rw [← Hadd.out, over_set j (by rw [St.len, St.len]) (by rw [St.len]; exact hjl), Hadd.out] at hset
                    exact hset
                  case measure => simp [intOf]; omega
                · obtain rfl : j = 8 := by omega
                  have hS9 : Arr wr w2.heap.size 150 (addSt st r64).list := hS8
                  rw [← Hnext.out] at hS9
                  have hK9 := HK0.out.grown hG8 (fun e => by have := HKS.out; simp only [Option.some.injEq] at e; omega)
                  have hG9 : w4.grownBy wr (some w2.heap.size) := grownBy_trans' HG0.out hG8
                  have hU9 : Up w wr := Below.grown HU0.out hG8 HU0.out.size (fun i e => by cases e; exact HwS.out)
                  have HH := Lib.hid (And.intro hS9 (And.intro hK9 (And.intro hG9 hU9)))
                  clear hS8 hV8 hG8 hS9 hK9 hG9 hU9
                  go_wp2
                  go_roundw
                  case rel => exact ⟨k + 1, q + 64, by have := HN.out; have := Hq.out; omega, by have := Hq.out; omega, by go_num, HH.out.1, HH.out.2.1, HH.out.2.2.1, HH.out.2.2.2⟩
                  case measure => simp [intOf]; omega
    · obtain ⟨fin, hfin⟩ : ∃ fin, takeSt hSt p k = fin := ⟨_, rfl⟩
      have hkN : k = N := by have := HN.out; omega
      have hfo : fin.Ok := by rw [← hfin]; exact takeSt_ok hSt_ok _ _
      have hsum : sumB bs = wordsB fin.list := by rw [Hsum.out, HNN.out, ← hkN, hfin]
      have Hqq := Lib.hid hq
      have hq0 : ¬ ((q : Int) < p.length) := by omega
      rw [hfin] at hS
      have Hsm := Lib.hid hsum
      have HSe := Lib.hid hS
      have Hfu := Lib.hid (St.list_u32 hfo)
      have HUe := Lib.hid hU
      clear hfin hkN hfo hsum hS hK hG hU hq
      obtain ⟨we, rfl⟩ : ∃ we : World, we = wr := ⟨_, rfl⟩
      go_wp2
      go_loopw [18, 19] (fun o i wr => ∃ j : Nat, j ≤ 8 ∧ i = .int .i64 j ∧ wr.ownsRow we.heap.size 5 1 o (4 * j) ((wordsB (fin.list.take j)).map (Value.int .u8)) ∧ Up we wr)
        (fun _ i _ => 8 - (intOf i).toNat)
      case atStart => exact ⟨0, Nat.zero_le _, rfl, World.ownsRow_nil _ _ _ _, Up.refl _⟩
      case round =>
        obtain ⟨j, hj8, rfl, hro, hU⟩ := hrel
        by_cases hjl : j < 8
        · have hck := (HSe.out.below hU).cell j (by rw [St.len]; exact hjl)
          have huk := Hfu.out j
          have hs : wordsB (fin.list.take (j + 1)) = wordsB (fin.list.take j) ++ octAll (fin.list[j]?.getD 0) 4 := by rw [take_snoc fin.list j (by rw [St.len]; exact hjl), wordsB_snoc]
          obtain ⟨o, ho⟩ : ∃ o, fin.list[j]?.getD 0 = o := ⟨_, rfl⟩
          rw [ho] at hck huk hs
          rw [octAll_four] at hs
          have Hs := Lib.hid hs
          have HUj := Lib.hid hU
          have Hro := Lib.hid hro
          clear hs ho hU hro
          go_wp2
          refine region_quiet_tail1 20 (.tmp 18) rfl rfl (by kernel_rfl) (by kernel_rfl) (fun c a d v w h => by cases d <;> exact h) ?_
          simp only [Nat.reduceSub, List.take_succ_cons, List.take_zero, List.drop_succ_cons, List.drop_zero]
          go_simp
          repeat (any_goals (first | go_big_quiet_step (fail) | quiet_step (fail)))
          refine wpQuiet_nil ?_
          intro q2
          have hrq : (wr.drewN q2).ownsRow we.heap.size 5 1 _ (4 * j) ((wordsB (fin.list.take j)).map (Value.int .u8)) := Hro.out
          have hUq := Up.drewN HUj.out q2
          change wpList _ _ _ _ _ _
          generalize wr.drewN q2 = wq at hrq hUq ⊢
          clear hck Hro HUj
          go_wp2_with (at_builtin; go_loud (refine wpList_append_own _ rfl (.tmp 216) (.tmp 236) 31 rfl we.heap.size 5 j0 (.int .u8 0) 1 1 Tryz.underlying31 hj hy0 hy1 hy2 rfl (by decide) _ (4 * j) _ rfl (hrq.alloc _) ⟨wq.heap.size, 0, none⟩ 4 4 [_, _, _, _] rfl rfl (cell_four_new _ _ _ _ _ _) (by simp [Value.oneCell']) (by unfold maxLen; omega) (by omega) (by have := hUq.size; simp; omega) ?_; intro v4 w4 hr4 hg4 _))
          go_roundw
          case rel =>
            refine ⟨j + 1, by omega, by go_num, ?_, Below.grown (Up.alloc hUq _) hg4 (by have := hUq.size; simp; omega) (fun i e => (hrq.lt i e).1)⟩
            have h24 : o / 16777216 % 256 = o / 16777216 := by omega
            rw [Hs.out, h24, List.map_append]
            exact hr4
          case measure => simp [intOf]; omega
        · obtain rfl : j = 8 := by omega
          have hro8 : wr.ownsRow we.heap.size 5 1 _ 32 ((wordsB fin.list).map (Value.int .u8)) := hro
          rw [← Hsm.out] at hro8
          have Hro8 := Lib.hid (ownsRow_base hro8 HUe.out.size)
          have hUf := Up.trans HUe.out hU
          clear hro hro8 hU
          go_wp2
          go_ret
          exact ⟨_, rfl, Hro8.out, hUf⟩
end

/-
  The reference: short.
-/
section
set_option linter.unusedVariables false
open Go.RowKit

theorem cells_new (w : World) (us : List Value) (c : Array Value) (hc : c.toList = us) (t : TypeId) : ∀ j u, us[j]? = some u → (w.alloc (.cells c t)).cell? ((⟨w.heap.size, 0, none⟩ : Addr).add j) = some u := by
  intro j u hj
  have h2 : ((⟨w.heap.size, 0, none⟩ : Addr).add j) = ⟨w.heap.size, j, none⟩ := by unfold Addr.add; split <;> simp_all
  rw [h2, cell_of_row _ _ j _ t (0, 0) (heap_alloc_new w _), ← Array.getElem?_toList, hc]
  exact hj

set_option maxHeartbeats 1000000 in
theorem refShort_any (v : Value) (bs : List Int) (w : World) (hv : Ints .u8 w v bs) (hu : U8s bs) (hl : bs.length ≤ 140737488355200) :
    Calls Tryz.prog 97 #[v] w fun e w' => e = .returned (.string (strOfNums (shortB bs))) ∧ Up w w' := by
  have Hs := Lib.hid (refSha_any v bs w hv hu hl)
  have hsz : (strOfNums (sumB bs)).size = 32 := by rw [strOfNums_size, sumB_length]
  have hext : (strOfNums (sumB bs)).extract 0 8 = strOfNums (shortB bs) := strOfNums_take _ 8
  obtain ⟨a, cap, rfl, _, _, _⟩ := hv
  clear hu hl
  generalize strOfNums (shortB bs) = R at hext ⊢
  go_enter Tryz.func97, Tryz.ntmps97
  go_wp2_with fail
  with_reducible refine Calls.mono Hs.out ?_
  rintro e w1 ⟨r1, rfl, hr1, hU1⟩
  have hcv := (Ints.of_row hr1).str
  clear hr1 Hs
  generalize strOfNums (sumB bs) = Z at hsz hext hcv
  go_wp2
  go_ret
  exact ⟨rfl, hU1⟩
end
end Go.Proofs.YtfenmhddlojahaaGreat
