import Derived.IntWalk
import Derived.Test.YtenhjjbbmmomaaaSha
import Derived.Test.YtenhjjbbmmomaaaRefPut
import Derived.Test.YtenhjjbbmmomaaaOct
namespace Go.Proofs.Ytenhjjbbmmomaaa
/-
  A block's words, one by one.
-/
section
set_option linter.unusedVariables false

theorem sched_take (b : List Int) : ∀ k j, j ≤ k → (sched b k).take (b.length + j) = sched b j
  | 0, j, h => by
    obtain rfl : j = 0 := by omega
    exact List.take_of_length_le (by show b.length ≤ _; omega)
  | k + 1, j, h => by
    by_cases e : j = k + 1
    · rw [e]; exact List.take_of_length_le (by rw [sched_length]; omega)
    · show (sched b k ++ [schedNext (sched b k)]).take (b.length + j) = _
      rw [List.take_append_of_le_length (by rw [sched_length]; omega)]
      exact sched_take b k j (by omega)
theorem aw_lo (p : List Int) (q t : Nat) (h : t < 16) : (allWords p q)[t]?.getD 0 = wordUp p (q + 4 * t) 4 := by
  have e := sched_take (blkWords p q 16) 48 0 (by omega)
  rw [blkWords_length] at e
  have h1 : (allWords p q)[t]?.getD 0 = (blkWords p q 16)[t]?.getD 0 := by
    have h2 : ((allWords p q).take 16)[t]? = (allWords p q)[t]? := by rw [List.getElem?_take, if_pos h]
    rw [← h2]
    show ((sched (blkWords p q 16) 48).take 16)[t]?.getD 0 = _
    rw [e]; rfl
  rw [h1]
  simp [blkWords, h]
theorem aw_take (p : List Int) (q j : Nat) (h : j ≤ 48) : (allWords p q).take (16 + j) = sched (blkWords p q 16) j := by
  have e := sched_take (blkWords p q 16) 48 j h
  rw [blkWords_length] at e
  exact e
theorem aw_hi (p : List Int) (q t : Nat) (h0 : 16 ≤ t) (h : t < 64) :
    (allWords p q)[t]?.getD 0 = (sml ((allWords p q)[t - 2]?.getD 0) 17 19 10 + (allWords p q)[t - 7]?.getD 0 + sml ((allWords p q)[t - 15]?.getD 0) 7 18 3 + (allWords p q)[t - 16]?.getD 0) % 4294967296 := by
  obtain ⟨j, rfl⟩ : ∃ j, t = 16 + j := ⟨t - 16, by omega⟩
  have h1 := aw_take p q j (by omega)
  have h2 := aw_take p q (j + 1) (by omega)
  have hl : (allWords p q).length = 64 := allWords_length p q
  have h3 : (allWords p q).take (16 + j + 1) = (allWords p q).take (16 + j) ++ [(allWords p q)[16 + j]?.getD 0] := take_snoc _ _ (by omega)
  rw [Nat.add_assoc, h2, h1] at h3
  have h4 : [schedNext (sched (blkWords p q 16) j)] = [(allWords p q)[16 + j]?.getD 0] := List.append_cancel_left h3
  have h5 : (allWords p q)[16 + j]?.getD 0 = schedNext (sched (blkWords p q 16) j) := (List.cons.inj h4).1.symm
  have h6 : ∀ i, i < 16 + j → (sched (blkWords p q 16) j)[i]?.getD 0 = (allWords p q)[i]?.getD 0 := by
    intro i hi
    rw [← h1, List.getElem?_take, if_pos hi]
  rw [h5]
  unfold schedNext
  rw [sched_length, blkWords_length, h6 _ (by omega), h6 _ (by omega), h6 _ (by omega), h6 _ (by omega)]
theorem aw_u32 (p : List Int) (h : U8s p) (q : Nat) : U32s (allWords p q) := sched_u32 _ (blkWords_u32 p h q 16) _
theorem aw_snoc (p : List Int) (q t : Nat) (h : t < 64) : (allWords p q).take (t + 1) = (allWords p q).take t ++ [(allWords p q)[t]?.getD 0] := take_snoc _ _ (by rw [allWords_length]; omega)
theorem padB_u8s (bs : List Int) (h : U8s bs) : U8s (padB bs) := by
  intro j hj
  unfold padB
  by_cases hl : j < bs.length
  · rw [List.getElem?_append_left hl]; exact h.at bs j
  · rw [List.getElem?_append_right (by omega)]
    have ht : U8s (padTail bs.length) := by
      intro i hi
      unfold padTail
      cases i with
      | zero => simp
      | succ i =>
        rw [List.getElem?_cons_succ]
        by_cases hz : i < zerosOf bs.length
        · rw [List.getElem?_append_left (by simpa using hz)]; simp [hz]
        · rw [List.getElem?_append_right (by simpa using hz)]
          exact (octAll_u8s _ _).at _ _
    exact ht.at _ _
end

/-
  The reference's padding.
-/
section
set_option linter.unusedVariables false
open Go.RowKit

def sliceLen : Value → Nat
  | .slice _ n _ => n
  | _ => 0

theorem row_sl {W : World} {base : Nat} {e : TypeId} {v : Value} {n : Nat} {xs : List Value} (h : W.ownsRow base e 1 v n xs) (hn : 0 < n) : ∃ g cap, v = .slice (some ⟨g, 0, none⟩) n cap ∧ n ≤ cap := by
  rcases h.2 with ⟨_, h0⟩ | ⟨g, cap, cur, rfl, _, _, hle, _⟩
  · omega
  · exact ⟨g, cap, rfl, hle⟩
theorem pad_so_far (bs : List Int) (z : Nat) (h : zerosOf bs.length = z) : bs ++ [128] ++ List.replicate z 0 ++ octAll (8 * bs.length) 8 = padB bs := by
  unfold padB padTail; rw [h]; simp

set_option maxHeartbeats 1000000 in
theorem refPad_any (v : Value) (bs : List Int) (w : World) (hv : Ints .u8 w v bs) (hl : bs.length ≤ 140737488355200) :
    Calls Try.prog 27 #[v] w fun e w' => ∃ r, e = .returned r ∧ w'.ownsRow w.heap.size 5 1 r (padB bs).length ((padB bs).map (Value.int .u8)) ∧ Below w.heap.size w w' := by
  obtain ⟨i0, hi, hz0, hz1, hz2⟩ := info_parts info_u8
  obtain ⟨z, hz⟩ : ∃ z, zerosOf bs.length = z := ⟨_, rfl⟩
  have hzl : z < 64 ∧ (bs.length + 1 + z) % 64 = 56 ∧ ∀ k, k < z → (bs.length + 1 + k) % 64 ≠ 56 := by
    rw [← hz]; unfold zerosOf; exact ⟨by omega, by omega, fun k hk => by omega⟩
  have Hpad := Lib.hid (pad_so_far bs z hz)
  have Hlen : Hid ((padB bs).length = bs.length + 1 + z + 8) := by show _ = _; rw [padB_length, hz]; omega
  obtain ⟨a, cap, rfl, hcap, hnil, hcell⟩ := hv
  have Hnone : Hid (a = none → bs.length = 0 ∧ cap = 0) := fun h => ⟨by have := hnil h; omega, hnil h⟩
  have Hnews := Lib.hid (cells_all (k := .u8) hcell)
  have Hone : Hid (∀ u ∈ bs.map (Value.int .u8), u.oneCell' = true) := ints_oneCell .u8 bs
  have Hput : Hid (∀ wx, Calls Try.prog 21 #[.int .i64 (8 * (bs.length : Int)), .int .i64 8] wx fun e w' => ∃ g c, e = .returned (.slice (some ⟨g, 0, none⟩) 8 c) ∧ w'.ownsRow wx.heap.size 5 1 (.slice (some ⟨g, 0, none⟩) 8 c) 8 ((octAll (8 * bs.length) 8).map (Value.int .u8)) ∧ Below wx.heap.size wx w') := by
    intro wx
    refine (refPut_any (8 * bs.length) 8 (by omega) (by omega) 8 (by decide) wx).mono ?_
    rintro e w' ⟨v, rfl, hr, hb⟩
    have e8 : IntKind.u64.wrap (8 * (bs.length : Int)) = 8 * bs.length := by rw [IntKind.wrap_u64]; omega
    rw [e8] at hr
    obtain ⟨g, cap, rfl⟩ := ownsRow_succ hr
    exact ⟨g, cap, rfl, hr, hb⟩
  obtain ⟨hz1', hz2', hz3'⟩ := hzl
  have Hz2 := Lib.hid hz2'
  have Hz3 := Lib.hid hz3'
  clear hcell hnil hz hz2' hz3'
  go_enter Try.func27, Try.ntmps27
  go_wp2_with (first | (at_builtin; refine wpList_append_own_src _ rfl (.tmp 4) (.tmp 5) 28 rfl w.heap.size 5 i0 (.int .u8 0) 1 1 Try.underlying28 hi hz0 hz1 hz2 rfl (by decide) (.slice none 0 0) 0 [] rfl (World.ownsRow_nil _ _ _ _) a bs.length cap (bs.map (Value.int .u8)) rfl Hnone.out (by simp) Hnews.out Hone.out (by unfold maxLen; omega) (by omega) (Nat.le_refl _) ?_; intro v1 w1 hr1 hg1 _; simp only [Nat.zero_add, List.nil_append] at hr1) | (at_builtin; refine wpList_append_own _ rfl (.tmp 6) (.tmp 7) 28 rfl w.heap.size 5 i0 (.int .u8 0) 1 1 Try.underlying28 hi hz0 hz1 hz2 rfl (by decide) v1 bs.length _ rfl (hr1.alloc _) ⟨w1.heap.size, 0, none⟩ 1 1 [.int .u8 128] rfl rfl (cell_one_new _ _ _) (by simp [Value.oneCell']) (by unfold maxLen; omega) (by omega) (by have := hg1.size; simp; omega) ?_; intro v2 w2 hr2 hg2 _))
  have hB1 : Below w.heap.size w w1 := (Below.refl _ w).grown hg1 (Nat.le_refl _) (fun k e => by simp [Value.ownBlock] at e)
  have hB2 : Below w.heap.size w w2 := (hB1.alloc hB1.size _).grown hg2 (by have := hB1.size; simp; omega) (fun k e => (hr1.lt k e).1)
  have hr2' : w2.ownsRow w.heap.size 5 1 v2 (bs.length + 1) ((bs ++ [128] ++ List.replicate 0 0).map (Value.int .u8)) := by simpa using hr2
  clear hr1 hg1 hr2 hg2 hB1
  go_loopw [3] (fun v wr => ∃ k n g c : Nat, v = .slice (some ⟨g, 0, none⟩) n c ∧ n ≤ c ∧ k ≤ z ∧ n = bs.length + 1 + k ∧ wr.ownsRow w.heap.size 5 1 v n ((bs ++ [128] ++ List.replicate k 0).map (Value.int .u8)) ∧ Below w.heap.size w wr)
    (fun v _ => bs.length + 1 + z - sliceLen v)
  case atStart =>
    obtain ⟨g, c, rfl, hc⟩ := row_sl hr2' (by omega)
    exact ⟨0, _, g, c, rfl, hc, Nat.zero_le _, rfl, hr2', hB2⟩
  case round =>
    clear hr2' hB2
    obtain ⟨k, n, g, c, rfl, hc, hk, hn, hrow, hB⟩ := hrel
    by_cases hlt : k < z
    · have hne : (n % 64 : Nat) ≠ 56 := by rw [hn]; exact Hz3.out k hlt
      have hd : ((n : Int) % 64 != 56) = true := by simp; omega
      have hrep : bs ++ [128] ++ List.replicate (k + 1) 0 = (bs ++ [128] ++ List.replicate k 0) ++ [(0 : Int)] := by rw [List.replicate_succ']; simp
      have Hrep := Lib.hid hrep
      have Hn := Lib.hid hn
      have hn2 : n ≤ 140737488355270 := by omega
      clear hn hrep
      go_wp2_with (at_builtin; refine wpList_append_own _ rfl (.tmp 13) (.tmp 14) 28 rfl w.heap.size 5 i0 (.int .u8 0) 1 1 Try.underlying28 hi hz0 hz1 hz2 rfl (by decide) _ n _ rfl (hrow.alloc _) ⟨wr.heap.size, 0, none⟩ 1 1 [.int .u8 0] rfl rfl (cell_one_new _ _ _) (by simp [Value.oneCell']) (by unfold maxLen; omega) (by omega) (by have := hB.size; simp; omega) ?_; intro v3 w3 hr3 hg3 _; obtain ⟨g3, c3, rfl, hc3⟩ := row_sl hr3 (by omega))
      go_roundw
      case rel => exact ⟨k + 1, n + 1, g3, c3, rfl, hc3, by omega, by have := Hn.out; omega, by rw [Hrep.out, List.map_append]; exact hr3, (hB.alloc hB.size _).grown hg3 (by have := hB.size; simp; omega) (fun q e => (hrow.lt q e).1)⟩
      case measure =>
        have := Hn.out
        simp [sliceLen]; omega
    · obtain rfl : k = z := by omega
      have heq : (n % 64 : Nat) = 56 := by rw [hn]; exact Hz2.out
      have hd : ((n : Int) % 64 != 56) = false := by simp; omega
      have Hn := Lib.hid hn
      have hn2 : n ≤ 140737488355270 := by omega
      clear hn
      have Hone8 : Hid (∀ u ∈ (octAll (8 * bs.length) 8).map (Value.int .u8), u.oneCell' = true) := ints_oneCell .u8 _
      go_wp2_with (first | (go_at_call 21; (with_reducible refine Calls.mono (Hput.out _) ?_); rintro e w3 ⟨g3, c3, rfl, hr3, hB3⟩; have hrow3 := hrow.kept (row := none) ⟨hB3.os, hB3.tape, hB3.output, hB3.size, fun k hk _ => hB3.block k hk⟩ (Classical.em _); have Hcs := Lib.hid (row_cells hr3)) | (at_builtin; refine wpList_append_own _ rfl (.tmp 16) (.tmp 20) 28 rfl w.heap.size 5 i0 (.int .u8 0) 1 1 Try.underlying28 hi hz0 hz1 hz2 rfl (by decide) _ n _ rfl hrow3 ⟨g3, 0, none⟩ 8 c3 ((octAll (8 * bs.length) 8).map (Value.int .u8)) rfl (by simp [octAll_length]) Hcs.out Hone8.out (by unfold maxLen; omega) (by omega) (by have := hB.size; have := hB3.size; omega) ?_; intro v4 w4 hr4 hg4 _))
      have hB4 : Below w.heap.size w w4 := (hB.trans (hB3.mono hB.size)).grown hg4 (by have := hB.size; have := hB3.size; omega) (fun q e => (hrow.lt q e).1)
      go_ret
      refine ⟨_, rfl, ?_, hB4⟩
      rw [← List.map_append, Hpad.out, Hn.out, ← Hlen.out] at hr4
      exact hr4
end

/-
  Eight words; turns in a statement that leaves its order open (the reference's).
-/
section
set_option linter.unusedVariables false
open Go.RowKit

theorem turn_quiet {W : World} (x : Int) (n : Nat) (hx : 0 ≤ x ∧ x < 4294967296) (hn : 0 < n ∧ n < 32) (q : Nat) :
    Calls Try.prog 28 #[.int .u32 x, .int .u64 n] (W.drewN q) fun e w'' => e = .returned (.int .u32 (rotr x n)) ∧ ∃ m, w'' = W.drewN m :=
  (turn_any x n hx hn (W.drewN q)).mono fun _ _ ⟨he, hm⟩ => ⟨he, q, hm.symm⟩

/-- eight words behind one another -/
def Eight (W : World) (g : Nat) (r : St) : Prop := ∀ j, j < 8 → W.cell? ⟨g, j, none⟩ = some (.int .u32 (r.list[j]?.getD 0))
theorem Eight.new (W : World) (t : TypeId) (r : St) : Eight (W.alloc (.cells #[.int .u32 r.a, .int .u32 r.b, .int .u32 r.c, .int .u32 r.d, .int .u32 r.e, .int .u32 r.f, .int .u32 r.g, .int .u32 r.h] t)) W.heap.size r := by
  intro j hj
  rw [World.cell?_alloc_new]
  match j, hj with
  | 0, _ => rfl
  | 1, _ => rfl
  | 2, _ => rfl
  | 3, _ => rfl
  | 4, _ => rfl
  | 5, _ => rfl
  | 6, _ => rfl
  | 7, _ => rfl
theorem Eight.of (W : World) (t : TypeId) (r : St) (A E : Int) (hA : A = r.a) (hE : E = r.e) : Eight (W.alloc (.cells #[.int .u32 A, .int .u32 r.b, .int .u32 r.c, .int .u32 r.d, .int .u32 E, .int .u32 r.f, .int .u32 r.g, .int .u32 r.h] t)) W.heap.size r := by
  subst hA; subst hE; exact Eight.new W t r
theorem rnd_flat_a (s : St) (k w : Int) : (s.h + big s.e 6 11 25 + chs s.e s.f s.g + k + w + (big s.a 2 13 22 + maj s.a s.b s.c)) % 4294967296 = (rnd s k w).a := by
  show _ = (t1 s k w + t2 s) % 4294967296
  unfold t1 t2; omega
theorem rnd_flat_e (s : St) (k w : Int) : (s.d + (s.h + big s.e 6 11 25 + chs s.e s.f s.g + k + w)) % 4294967296 = (rnd s k w).e := by
  show _ = (s.d + t1 s k w) % 4294967296
  unfold t1; omega
theorem Eight.all {W : World} {g : Nat} {r : St} (h : Eight W g r) :
    W.cell? ⟨g, 0, none⟩ = some (.int .u32 r.a) ∧ W.cell? ⟨g, 1, none⟩ = some (.int .u32 r.b) ∧ W.cell? ⟨g, 2, none⟩ = some (.int .u32 r.c) ∧ W.cell? ⟨g, 3, none⟩ = some (.int .u32 r.d) ∧
    W.cell? ⟨g, 4, none⟩ = some (.int .u32 r.e) ∧ W.cell? ⟨g, 5, none⟩ = some (.int .u32 r.f) ∧ W.cell? ⟨g, 6, none⟩ = some (.int .u32 r.g) ∧ W.cell? ⟨g, 7, none⟩ = some (.int .u32 r.h) :=
  ⟨h 0 (by omega), h 1 (by omega), h 2 (by omega), h 3 (by omega), h 4 (by omega), h 5 (by omega), h 6 (by omega), h 7 (by omega)⟩
theorem Eight.drewN {W : World} {g : Nat} {r : St} (h : Eight W g r) (q : Nat) : Eight (W.drewN q) g r := h
theorem Eight.other {W : World} {g S j : Nat} {r : St} (h : Eight W g r) (hne : g ≠ S) (u : Value) : Eight (W.setCell ⟨S, j, none⟩ u) g r := fun i hi =>
  (World.cell?_of_block (a := ⟨g, i, none⟩) (Below.heap_setCell W ⟨S, j, none⟩ u g hne)).trans (h i hi)
theorem row_at {W : World} {base : Nat} {e : TypeId} {k : IntKind} {g n c : Nat} {zs : List Int} (h : W.ownsRow base e 1 (.slice (some ⟨g, 0, none⟩) n c) n (zs.map (Value.int k))) (j : Nat) (hj : j < n) : W.cell? ⟨g, j, none⟩ = some (.int k (zs[j]?.getD 0)) := by
  have hl : zs.length = n := by have := h.1; simpa using this
  rw [h.cellAt j (by omega)]
  simp [hl, hj]
theorem take_at (l : List Int) (t j : Nat) (h : j < t) : (l.take t)[j]?.getD 0 = l[j]?.getD 0 := by rw [List.getElem?_take, if_pos h]
end
end Go.Proofs.Ytenhjjbbmmomaaa
