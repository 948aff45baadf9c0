import Derived.OwnWalk
import Derived.Laws.BitsLemmas
import Derived.Maps.AppendAt
import Derived.Laws.ShiftsVarLaws
import Derived.Laws.Bits64
import Derived.IntWalk
import Derived.Lib.SlBytesConst
import Derived.Test.YtfenmhddlojahaaGreatSha
import Derived.Test.YtfenmhddlojahaaGreatUps
import Derived.Test.YtfenmhddlojahaaGreatOct
import Derived.Test.YtfenmhddlojahaaGreatBase
import Derived.Test.YtfenmhddlojahaaGreatStrs
namespace Go.Proofs.YtfenmhddlojahaaGreat
/-
  One-time signatures in plain mathematics: texts are lists of octets.
-/
section
set_option linter.unusedVariables false

/-- so many steps on -/
def chainB (xs : List Int) : Nat → List Int
  | 0 => xs
  | k + 1 => shortB (chainB xs k)
/-- how many steps are asked for -/
def stepsN (n : Int) : Nat := (min n 3).toNat
def wotsB : List Int := [119, 111, 116, 115]
/-- what a secret is the short sum of -/
def seedB (seed : List Int) (leaf place : Int) : List Int :=
  wotsB ++ (octAll (IntKind.u64.wrap seed.length) 2 ++ (seed ++ (octAll (IntKind.u64.wrap leaf) 4 ++ octAll (IntKind.u64.wrap place) 1)))
def secretB (seed : List Int) (leaf place : Int) : List Int := shortB (seedB seed leaf place)
/-- the lowest bits as so many digits of two bits -/
def digsB (n : Int) (cnt : Nat) : List Int := (List.range cnt).map fun i => n / 4 ^ (cnt - 1 - i) % 4
/-- what the digits leave -/
def leftB (l : List Int) : Int := l.foldl (fun s d => s + (3 - d)) 0
def numB (bs : List Int) : Int := getB ((sumB bs).take 2)
def partsB (bs : List Int) : List Int := digsB (numB bs) 8 ++ digsB (leftB (digsB (numB bs) 8)) 3
/-- the ends of the secrets, so many steps on -/
def endsB (seed : List Int) (leaf : Int) (ds : List Int) : List (List Int) := (List.range 11).map fun (i : Nat) => chainB (secretB seed leaf (i : Int)) (stepsN (ds[i]?.getD 0))
def signB (seed : List Int) (leaf : Int) (text : List Int) : List (List Int) := endsB seed leaf (partsB text)
def leafB (seed : List Int) (leaf : Int) : List Int := shortB ((List.range 11).map fun (i : Nat) => chainB (secretB seed leaf (i : Int)) 3).flatten
/-- the ends to which parts lead -/
def openEnds (ds : List Int) (parts : List (List Int)) : List (List Int) := (List.range 11).map fun (i : Nat) => chainB (parts[i]?.getD []) (stepsN (3 - ds[i]?.getD 0))
def formedB (parts : List (List Int)) : Bool := parts.length == 11 && parts.all fun p => p.length == 8
def openB (text : List Int) (parts : List (List Int)) : List Int := if formedB parts then shortB (openEnds (partsB text) parts).flatten else []

theorem chainB_u8s (xs : List Int) (h : U8s xs) : ∀ k, U8s (chainB xs k)
  | 0 => h
  | _ + 1 => shortB_u8s _
theorem chainB_length (xs : List Int) (h : xs.length = 8) : ∀ k, (chainB xs k).length = 8
  | 0 => h
  | _ + 1 => shortB_length _
theorem chainB_le (xs : List Int) (n : Nat) (hn : 8 ≤ n) (h : xs.length ≤ n) : ∀ k, (chainB xs k).length ≤ n
  | 0 => h
  | _ + 1 => by show (shortB _).length ≤ n; rw [shortB_length]; exact hn
theorem chainB_add (xs : List Int) (i : Nat) : ∀ j, chainB (chainB xs i) j = chainB xs (i + j)
  | 0 => rfl
  | j + 1 => by show shortB _ = chainB xs ((i + j) + 1); rw [chainB_add xs i j]; rfl
theorem wotsB_u8s : U8s wotsB := fun j hj => by
  match j, hj with
  | 0, _ => decide
  | 1, _ => decide
  | 2, _ => decide
  | 3, _ => decide
theorem seedB_u8s (seed : List Int) (h : U8s seed) (leaf place : Int) : U8s (seedB seed leaf place) :=
  wotsB_u8s.append ((octAll_u8s _ _).append (h.append ((octAll_u8s _ _).append (octAll_u8s _ _))))
theorem seedB_length (seed : List Int) (leaf place : Int) : (seedB seed leaf place).length = seed.length + 11 := by
  simp [seedB, octAll_length, wotsB]; omega
theorem secretB_length (seed : List Int) (leaf place : Int) : (secretB seed leaf place).length = 8 := shortB_length _
theorem secretB_u8s (seed : List Int) (leaf place : Int) : U8s (secretB seed leaf place) := shortB_u8s _
theorem digsB_length (n : Int) (c : Nat) : (digsB n c).length = c := by simp [digsB]
theorem digsB_range (n : Int) (c j : Nat) : 0 ≤ (digsB n c)[j]?.getD 0 ∧ (digsB n c)[j]?.getD 0 ≤ 3 := by
  by_cases h : j < c
  · simp [digsB, h]; omega
  · rw [List.getElem?_eq_none (by rw [digsB_length]; omega)]; decide
theorem partsB_length (bs : List Int) : (partsB bs).length = 11 := by simp [partsB, digsB_length]
theorem partsB_range (bs : List Int) (j : Nat) : 0 ≤ (partsB bs)[j]?.getD 0 ∧ (partsB bs)[j]?.getD 0 ≤ 3 := by
  unfold partsB
  by_cases h : j < 8
  · rw [List.getElem?_append_left (by rw [digsB_length]; exact h)]; exact digsB_range _ _ _
  · rw [List.getElem?_append_right (by rw [digsB_length]; omega)]; exact digsB_range _ _ _
/-- the digits so far -/
def digsTo (n : Int) (cnt k : Nat) : List Int := (List.range k).map fun i => n / 4 ^ (cnt - 1 - i) % 4
theorem digsTo_succ (n : Int) (cnt k : Nat) : digsTo n cnt (k + 1) = digsTo n cnt k ++ [n / 4 ^ (cnt - 1 - k) % 4] := by simp [digsTo, List.range_succ]
theorem digsTo_length (n : Int) (cnt k : Nat) : (digsTo n cnt k).length = k := by simp [digsTo]
theorem digsTo_all (n : Int) (cnt : Nat) : digsTo n cnt cnt = digsB n cnt := rfl
theorem leftB_snoc (l : List Int) (d : Int) : leftB (l ++ [d]) = leftB l + (3 - d) := by simp [leftB, List.foldl_append]
theorem leftB_range (l : List Int) (h : ∀ j : Nat, 0 ≤ l[j]?.getD 0 ∧ l[j]?.getD 0 ≤ 3) : 0 ≤ leftB l ∧ leftB l ≤ 3 * l.length := by
  have key : ∀ k, k ≤ l.length → 0 ≤ leftB (l.take k) ∧ leftB (l.take k) ≤ 3 * k := by
    intro k
    induction k with
    | zero => intro _; simp [leftB]
    | succ k ih =>
      intro hk
      have h1 := ih (by omega)
      have h2 := h k
      rw [take_snoc l k (by omega), leftB_snoc]
      omega
  have := key l.length (Nat.le_refl _)
  rwa [List.take_length] at this
theorem left8_range (n : Int) : 0 ≤ leftB (digsB n 8) ∧ leftB (digsB n 8) ≤ 24 := by
  have := leftB_range (digsB n 8) (digsB_range n 8)
  rw [digsB_length] at this
  omega
theorem numB_range (bs : List Int) : 0 ≤ numB bs ∧ numB bs < 65536 := by
  have hu := sumB_u8s bs
  have hl : ((sumB bs).take 2).length = 2 := by simp [sumB_length]
  obtain ⟨a, b, h⟩ : ∃ a b, (sumB bs).take 2 = [a, b] := by
    match (sumB bs).take 2, hl with
    | [a, b], _ => exact ⟨a, b, rfl⟩
  have h2 := hu.take 2
  rw [h] at h2
  have ha : 0 ≤ a ∧ a < 256 := by simpa using h2 0 (by simp)
  have hb : 0 ≤ b ∧ b < 256 := by simpa using h2 1 (by simp)
  unfold numB
  rw [h]
  show 0 ≤ getStep (getStep 0 a) b ∧ getStep (getStep 0 a) b < 65536
  unfold getStep
  omega
/-- what the reference makes of the first two octets -/
theorem numB_two (bs : List Int) : numB bs = (sumB bs)[0]?.getD 0 * 256 + (sumB bs)[1]?.getD 0 := by
  have hu := sumB_u8s bs
  have hl := sumB_length bs
  have h0 := hu.at _ 0
  have h1 := hu.at _ 1
  have e : (sumB bs).take 2 = [(sumB bs)[0]?.getD 0, (sumB bs)[1]?.getD 0] := by
    match hs : sumB bs, hl with
    | a :: b :: r, _ => rfl
  unfold numB
  rw [e]
  show getStep (getStep 0 _) _ = _
  unfold getStep
  omega
/-- the page's law on digits -/
theorem digits_24 (n : Int) : (digsB n 8).sum + (16 * (leftB (digsB n 8) / 16 % 4) + 4 * (leftB (digsB n 8) / 4 % 4) + leftB (digsB n 8) % 4) = 24 := by
  have hr := left8_range n
  have e : leftB (digsB n 8) = 24 - (digsB n 8).sum := by
    obtain ⟨a, b, c, d, e, f, g, h, hl⟩ : ∃ a b c d e f g h, digsB n 8 = [a, b, c, d, e, f, g, h] := ⟨_, _, _, _, _, _, _, _, rfl⟩
    rw [hl]
    simp [leftB]
    omega
  omega

theorem stepsN_le (n : Int) : stepsN n ≤ 3 := by unfold stepsN; omega
theorem steps_sum (d : Int) (h : 0 ≤ d ∧ d ≤ 3) : stepsN d + stepsN (3 - d) = 3 := by unfold stepsN; omega

theorem endsB_length (seed : List Int) (leaf : Int) (ds : List Int) : (endsB seed leaf ds).length = 11 := by simp [endsB]
theorem endsB_at (seed : List Int) (leaf : Int) (ds : List Int) (i : Nat) (h : i < 11) : (endsB seed leaf ds)[i]?.getD [] = chainB (secretB seed leaf i) (stepsN (ds[i]?.getD 0)) := by simp [endsB, h]
theorem endsB_8 (seed : List Int) (leaf : Int) (ds : List Int) (i : Nat) (h : i < 11) : ((endsB seed leaf ds)[i]?.getD []).length = 8 := by
  rw [endsB_at _ _ _ _ h]; exact chainB_length _ (secretB_length _ _ _) _
theorem formed_signB (seed : List Int) (leaf : Int) (text : List Int) : formedB (signB seed leaf text) = true := by
  simp only [formedB, signB, endsB, List.length_map, List.length_range, beq_self_eq_true, Bool.true_and, List.all_map, List.all_eq_true, List.mem_range]
  intro i hi
  simp [chainB_length _ (secretB_length seed leaf i)]
/-- WHAT IS SIGNED OPENS. -/
theorem open_sign (seed : List Int) (leaf : Int) (text : List Int) : openB text (signB seed leaf text) = leafB seed leaf := by
  unfold openB leafB
  rw [if_pos (formed_signB seed leaf text)]
  congr 2
  unfold openEnds
  apply List.map_congr_left
  intro i hi
  have hi' := List.mem_range.1 hi
  show chainB ((endsB seed leaf (partsB text))[i]?.getD []) _ = _
  rw [endsB_at _ _ _ _ hi', chainB_add, steps_sum _ (partsB_range text i)]
/-- STEPS ADD UP. -/
theorem chain_sum (xs : List Int) (a b : Int) (ha : 0 ≤ a) (hb : 0 ≤ b) (h : a + b ≤ 3) : chainB (chainB xs (stepsN a)) (stepsN b) = chainB xs (stepsN (a + b)) := by
  rw [chainB_add]; congr 1; unfold stepsN; omega
theorem chain_far (xs : List Int) (a : Int) (h : 3 ≤ a) : chainB xs (stepsN a) = chainB xs (stepsN 3) := by
  congr 1; unfold stepsN; omega
end

/-
  digits and left.
-/
section
set_option linter.unusedVariables false
open Go.RowKit

theorem info_int : (Tryz.prog.info? 3).map (fun i => (i.zero, i.size, i.bytes)) = some (some (.int .i64 0), 1, 8) := by kernel_rfl
theorem make_int (K : Int) (k : Nat) (hK : K = k) (hk : k ≤ 1048576) (u : World) : (Instr.makeSlice 96 (.int .i64 0) (.int .i64 K)).run Tryz.prog u =
      .ok (.slice (some ⟨u.heap.size, 0, none⟩) 0 k) (u.alloc (.cells (madeCells #[.int .i64 0] k) 3)) := by
  subst hK
  obtain ⟨i0, hi, hz0, hz1, hz2⟩ := info_parts info_int
  have h := run_make (P := Tryz.prog) u 96 3 i0 (.int .i64 0) Tryz.underlying96 hi hz0 .i64 .i64 0 (k : Int) (by omega) (by omega) (by rw [hz2]; omega) (by omega)
  simpa [hz1, Value.cells] using h
theorem i64_and3 (n : Int) : bits .and .i64 n 3 = n % 4 := by
  have h3 : (BitVec.ofInt 64 3).toNat = 2 ^ 2 - 1 := by decide
  have key : (BitVec.ofInt 64 n &&& BitVec.ofInt 64 3).toNat = (n % ((2 ^ 64 : Nat) : Int)).toNat % 2 ^ 2 := by
    rw [BitVec.toNat_and, BitVec.toNat_ofInt, h3, Nat.and_two_pow_sub_one_eq_mod]
  show IntKind.i64.wrap ((BitVec.ofInt 64 n &&& BitVec.ofInt 64 3).toNat : Nat) = n % 4
  rw [key, IntKind.wrap_i64]
  omega
theorem two_four (x : Int) (k : Nat) : x / 2 ^ (2 * k) = x / 4 ^ k := by
  rw [Int.pow_mul]; rfl

set_option maxHeartbeats 1000000 in
theorem digits_any (x : Int) (c : Nat) (hx : 0 ≤ x ∧ x < 65536) (hc : 0 < c ∧ c ≤ 8) (w : World) :
    Calls Tryz.prog 143 #[.int .i64 x, .int .i64 c] w fun e w' => ∃ v, e = .returned v ∧ w'.ownsRow w.heap.size 3 1 v c ((digsB x c).map (Value.int .i64)) ∧ Up w w' := by
  obtain ⟨i0, hi, hz0, hz1, hz2⟩ := info_parts info_int
  have hmk := make_int (c : Int) c rfl (by omega)
  go_enter Tryz.func143, Tryz.ntmps143
  go_wp2
  clear hmk
  have r0 := World.ownsRow_made (base := w.heap.size) (e := 3) (size := 1) w (madeCells #[.int .i64 0] c) c (Nat.le_refl _) (by unfold maxLen; omega) (by first | (rw [size_madeCells]; done) | (rw [size_madeCells]; omega))
  have hB0 : Up w (w.alloc (.cells (madeCells #[Value.int .i64 0] c) 3)) := Up.alloc (Up.refl w) _
  go_loopw [5, 10] (fun o i wr => ∃ k : Nat, k ≤ c ∧ i = .int .i64 k ∧ wr.ownsRow w.heap.size 3 1 o k ((digsTo x c k).map (Value.int .i64)) ∧ Up w wr)
    (fun _ i _ => c - (intOf i).toNat)
  case atStart => exact ⟨0, Nat.zero_le _, rfl, r0, hB0⟩
  case round =>
    obtain ⟨k, hk, rfl, hrow, hB⟩ := hrel
    clear r0 hB0
    by_cases hlt : k < c
    · have hs := digsTo_succ x c k
      obtain ⟨m, hm⟩ : ∃ m : Nat, c - 1 - k = m := ⟨_, rfl⟩
      have hm2 : (c : Int) - 1 - (k : Int) = m := by omega
      have hm3 : m < 8 := by omega
      rw [hm] at hs
      have hd : bits .and .i64 (x / 2 ^ (2 * m)) 3 = x / 4 ^ m % 4 := by rw [i64_and3, two_four]
      rw [← hd] at hs
      have Hs := Lib.hid hs
      clear hs hm hd
      go_wp2_with (at_builtin; refine wpList_append_own _ rfl (.tmp 13) (.tmp 22) 96 rfl w.heap.size 3 i0 (.int .i64 0) 1 8 Tryz.underlying96 hi hz0 hz1 hz2 rfl (by decide) _ k _ rfl (hrow.alloc _) ⟨wr.heap.size, 0, none⟩ 1 1 [.int .i64 (bits .and .i64 (x / 2 ^ (2 * m)) 3)] rfl rfl (cell_one_new _ _ _) (by simp [Value.oneCell']) (by unfold maxLen; omega) (by omega) (by have := hB.size; simp; omega) ?_; intro v' w1 hown' hgrow _)
      go_roundw
      case rel => exact ⟨k + 1, by omega, by go_num, by rw [Hs.out, List.map_append]; exact hown', (Up.alloc hB _).grown hgrow (by have := hB.size; simp; omega) (fun q e => (hrow.lt q e).1)⟩
      case measure => simp [intOf]; omega
    · obtain rfl : k = c := by omega
      have e := digsTo_all x k
      have He := Lib.hid e
      clear e
      go_wp2
      go_ret
      exact ⟨_, rfl, by rw [← He.out]; exact hrow, hB⟩

set_option maxHeartbeats 1000000 in
theorem left_any (v : Value) (ds : List Int) (w : World) (hv : Ints .i64 w v ds) (hd : ∀ j : Nat, 0 ≤ ds[j]?.getD 0 ∧ ds[j]?.getD 0 ≤ 3) (hl : ds.length ≤ 100) :
    Calls Tryz.prog 144 #[v] w fun e w' => e = .returned (.int .i64 (leftB ds)) ∧ w = w' := by
  obtain ⟨a, cap, rfl, hcap, hnil, hcell⟩ := hv
  go_enter Tryz.func144, Tryz.ntmps144
  go_wp2
  go_loop [3, 8] (fun s i => ∃ k : Nat, k ≤ ds.length ∧ i = .int .i64 k ∧ s = .int .i64 (leftB (ds.take k))) (fun _ i => ds.length - (intOf i).toNat)
  case atStart => exact ⟨0, Nat.zero_le _, rfl, rfl⟩
  case round =>
    obtain ⟨k, hk, rfl, rfl⟩ := hrel
    by_cases hlt : k < ds.length
    · rcases hcell with rfl | ⟨b, off, rfl, hc⟩
      · simp at hlt
      have hck := hc k hlt
      have hdk := hd k
      have hr := leftB_range (ds.take k) (fun j => by
        by_cases h : j < k
        · rw [List.getElem?_take, if_pos h]; exact hd j
        · rw [List.getElem?_eq_none (by rw [List.length_take]; omega)]; decide)
      have hr2 : (ds.take k).length ≤ 100 := by rw [List.length_take]; omega
      have hs : leftB (ds.take (k + 1)) = leftB (ds.take k) + (3 - ds[k]?.getD 0) := by rw [take_snoc ds k hlt, leftB_snoc]
      obtain ⟨o, ho⟩ : ∃ o, ds[k]?.getD 0 = o := ⟨_, rfl⟩
      obtain ⟨s, hs2⟩ : ∃ s, leftB (ds.take k) = s := ⟨_, rfl⟩
      rw [ho] at hck hdk hs
      rw [hs2] at hr hs ⊢
      have Hs := Lib.hid hs
      clear hc ho hs hs2
      go_wp2
      go_round
      case rel => exact ⟨k + 1, by omega, by go_num, by rw [Hs.out]⟩
      case measure => simp [intOf]; omega
    · obtain rfl : k = ds.length := by omega
      have ht : ds.take ds.length = ds := List.take_length
      rw [ht]
      clear ht
      go_wp2
      go_ret
      exact ⟨rfl, rfl⟩
end

/-
  Parts: a text's digits.
-/
section
set_option linter.unusedVariables false
open Go.RowKit

theorem parts_join (bs : List Int) : (digsB (numB bs) 8).map (Value.int .i64) ++ (digsB (leftB (digsB (numB bs) 8)) 3).map (Value.int .i64) = (partsB bs).map (Value.int .i64) := by
  unfold partsB; rw [List.map_append]

set_option maxHeartbeats 1000000 in
theorem parts_any (v : Value) (bs : List Int) (w : World) (hv : Ints .u8 w v bs) (hu : U8s bs) (hl : bs.length ≤ 140737488355328) :
    Calls Tryz.prog 133 #[v] w fun e w' => ∃ r, e = .returned r ∧ w'.ownsRow w.heap.size 3 1 r 11 ((partsB bs).map (Value.int .i64)) ∧ Up w w' := by
  obtain ⟨i0, hi, hz0, hz1, hz2⟩ := info_parts info_int
  have Hs := Lib.hid (sum_any v bs w hv hu hl)
  have Hl := Lib.hid (sumB_length bs)
  have Hsu := Lib.hid (sumB_u8s bs)
  have Hn := Lib.hid (numB_range bs)
  have Hj := Lib.hid (parts_join bs)
  have hnum : getB ((sumB bs).take 2) = numB bs := rfl
  have Hnum := Lib.hid hnum
  clear hv hu hl hnum
  generalize partsB bs = PB at Hj ⊢
  generalize sumB bs = S at Hs Hl Hsu Hnum
  generalize numB bs = n at Hn Hj Hnum
  have Hlr := Lib.hid (left8_range n)
  have Hd8 := Lib.hid (digsB_length n 8)
  have Hdr := Lib.hid (digsB_range n 8)
  go_enter Tryz.func133, Tryz.ntmps133
  go_wp2_with fail
  with_reducible refine Calls.mono Hs.out ?_
  rintro e w1 ⟨r1, rfl, hr1, hU1⟩
  have hU1 : Up w w1 := hU1
  obtain ⟨g1, c1, rfl, hc1⟩ := row_slice hr1 (by omega)
  have Hp := Lib.hid ((Ints.of_row hr1).pre 2 (by rw [Hl.out]; omega))
  clear hr1
  have Hg := Lib.hid (get_any _ _ w1 Hp.out (Hsu.out.take 2) (by rw [List.length_take]; omega))
  rw [Hnum.out] at Hg
  go_wp2_with fail
  with_reducible refine Calls.mono Hg.out ?_
  rintro e w2 ⟨rfl, rfl⟩
  clear Hg Hp
  have Hd := Lib.hid (digits_any n 8 Hn.out (by omega) w1)
  go_wp2_with fail
  with_reducible refine Calls.mono Hd.out ?_
  rintro e w3 ⟨r3, rfl, hr3, hU3⟩
  have hU3 : Up w w3 := Up.trans hU1 hU3
  have hr3 := ownsRow_base hr3 hU1.size
  have hI3 := Ints.of_row hr3
  have Hle := Lib.hid (left_any _ _ w3 hI3 Hdr.out (by rw [Hd8.out]; omega))
  generalize leftB (digsB n 8) = m at Hle Hlr Hj
  generalize digsB n 8 = D8 at hr3 hI3 Hj Hle Hd8 Hdr
  clear hI3 Hd
  obtain ⟨g3, c3, rfl, hc3⟩ := row_slice hr3 (by omega)
  have Hr3 := Lib.hid hr3
  clear hr3
  go_wp2_with fail
  with_reducible refine Calls.mono Hle.out ?_
  rintro e w4 ⟨rfl, rfl⟩
  clear Hle
  have Hd := Lib.hid (digits_any m 3 (by have := Hlr.out; omega) (by omega) w3)
  generalize digsB m 3 = D3 at Hj Hd
  go_wp2_with fail
  with_reducible refine Calls.mono Hd.out ?_
  rintro e w5 ⟨r5, rfl, hr5, hU5⟩
  obtain ⟨g5, c5, rfl, hc5⟩ := row_slice hr5 (by omega)
  have hr3 := ownsRow_up Hr3.out hU5
  have hU5 : Up w w5 := Up.trans hU3 hU5
  have hl3 : D3.length = 3 := by have := hr5.1; simpa using this
  have Hcs := Lib.hid (row_cells hr5)
  have Hone : Hid (∀ u ∈ D3.map (Value.int .i64), u.oneCell' = true) := ints_oneCell .i64 D3
  clear hr5 Hd
  go_wp2_with (at_builtin; refine wpList_append_own_src _ rfl (.tmp 9) (.tmp 12) 96 rfl w.heap.size 3 i0 (.int .i64 0) 1 8 Tryz.underlying96 hi hz0 hz1 hz2 rfl (by decide) (.slice (some ⟨g3, 0, none⟩) 8 c3) 8 _ rfl hr3 (some ⟨g5, 0, none⟩) 3 c5 (D3.map (Value.int .i64)) rfl (by simp) (by rw [List.length_map, hl3]) (fun ad had => by cases had; exact Hcs.out) Hone.out (by unfold maxLen; omega) (by omega) hU5.size ?_; intro v6 w6 hr6 hg6 _)
  have hU6 : Up w w6 := Below.grown hU5 hg6 hU5.size (fun k e => (hr3.lt k e).1)
  rw [Hj.out] at hr6
  go_ret
  exact ⟨_, rfl, hr6, hU6⟩
end

/-
  Chain and Secret.
-/
section
set_option linter.unusedVariables false
open Go.RowKit

set_option maxHeartbeats 1000000 in
theorem chain_any (zs : List Int) (n : Int) (w : World) (hu : U8s zs) (hl : zs.length ≤ 140737488355328) :
    Calls Tryz.prog 134 #[.string (strOfNums zs), .int .i64 n] w fun e w' => e = .returned (.string (strOfNums (chainB zs (stepsN n)))) ∧ Up w w' := by
  obtain ⟨L, hmin⟩ : ∃ L, (if (3 : Int) < n then (3 : Int) else n) = L := ⟨_, rfl⟩
  obtain ⟨K, hK⟩ : ∃ K, stepsN n = K := ⟨_, rfl⟩
  have hLK : ∀ k : Nat, (k : Int) < L ↔ k < K := by
    intro k; rw [← hmin, ← hK]; unfold stepsN; split <;> omega
  have HLK := Lib.hid hLK
  have hK3 : K ≤ 3 := by rw [← hK]; exact stepsN_le n
  rw [hK]
  clear hK hLK
  go_enter Tryz.func134, Tryz.ntmps134
  go_wp2
  clear hmin
  go_loopw [0, 7] (fun s i wr => ∃ k : Nat, k ≤ K ∧ i = .int .i64 k ∧ s = .string (strOfNums (chainB zs k)) ∧ Up w wr)
    (fun _ i _ => K - (intOf i).toNat)
  case atStart => exact ⟨0, Nat.zero_le _, rfl, rfl, Up.refl w⟩
  case round =>
    obtain ⟨k, hk, rfl, rfl, hB⟩ := hrel
    by_cases hlt : k < K
    · have hd : (k : Int) < L := (HLK.out k).2 hlt
      have hux := chainB_u8s zs hu k
      have hlx := chainB_le zs 140737488355328 (by omega) hl k
      have hs : chainB zs (k + 1) = shortB (chainB zs k) := rfl
      generalize chainB zs k = x at hux hlx hs ⊢
      have Hs := Lib.hid hs
      obtain ⟨a, c, w1, hconv, hI, hU1⟩ := conv_str x hux wr
      have HI := Lib.hid hI
      have Hux := Lib.hid hux
      clear hs hI hux
      go_wp2_with (go_at_call 142; (with_reducible refine Calls.mono (short_flat _ [x] x (by simp) (by simp) _ (Rows8.new1 w1 _ _ x _ rfl HI.out) Hux.out hlx) ?_); rintro e w2 ⟨rfl, hU2⟩)
      go_roundw
      case rel => exact ⟨k + 1, by omega, by go_num, by rw [Hs.out], Up.trans (Up.alloc (Up.trans hB hU1) _) hU2⟩
      case measure => simp [intOf]; omega
    · obtain rfl : k = K := by omega
      have hd : ¬ (k : Int) < L := fun h => by have := (HLK.out k).1 h; omega
      go_wp2
      go_ret
      exact ⟨rfl, hB⟩

theorem seed_flat (zs : List Int) (leaf place : Int) : [wotsB, octAll (IntKind.u64.wrap zs.length) 2, zs, octAll (IntKind.u64.wrap leaf) 4, octAll (IntKind.u64.wrap place) 1].flatten = seedB zs leaf place := by
  simp [seedB]
theorem put_own (n : Int) (hn : -9223372036854775808 ≤ n ∧ n ≤ 9223372036854775807) (k : Nat) (hk : k ≤ 8) (w : World) :
    Calls Tryz.prog 54 #[.int .i64 n, .int .i64 k] w fun e w' => ∃ a c, e = .returned (.slice a k c) ∧ Ints .u8 w' (.slice a k c) (octAll (IntKind.u64.wrap n) k) ∧ Up w w' := by
  refine (put_any n k hn (by omega) k (by omega) w).mono ?_
  rintro e w' ⟨v, rfl, hr, hU⟩
  have hI := Ints.of_row hr
  obtain ⟨a, c, e, _⟩ := id hI
  rw [octAll_length] at e
  subst e
  exact ⟨a, c, rfl, hI, hU⟩

end
end Go.Proofs.YtfenmhddlojahaaGreat
