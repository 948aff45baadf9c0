import Derived.Lib.SlBytesConst
import Derived.Test.YtjjaefacfcjgiaaWotsPlain
import Derived.Test.YtjjaefacfcjgiaaStrs
import Derived.Test.YtjjaefacfcjgiaaShaShort
import Derived.Test.YtjjaefacfcjgiaaOctWalk
/-
  Chain and Secret.
-/
namespace Go.Proofs.Ytjjaefacfcjgiaa
set_option linter.unusedVariables false
open Go.RowKit

theorem short_flat (vs : Value) (ls : List (List Int)) (x : List Int) (hx : ls.flatten = x) (hl : ls.length ≤ 100) (w : World) (hv : Rows8 w vs ls) (hu : U8s x) (hn : x.length ≤ 140737488355328) :
    Calls Try.prog 28 #[vs] w fun e w' => e = .returned (.string (strOfNums (shortB x))) ∧ Up w w' := by
  subst hx
  exact short_any vs ls w hv hu (by omega) hn

set_option maxHeartbeats 1000000 in
theorem chain_any (zs : List Int) (n : Int) (w : World) (hu : U8s zs) (hl : zs.length ≤ 140737488355328) :
    Calls Try.prog 11 #[.string (strOfNums zs), .int .i64 n] w fun e w' => e = .returned (.string (strOfNums (chainB zs (stepsN n)))) ∧ Up w w' := by
  obtain ⟨L, hmin⟩ : ∃ L, (if (3 : Int) < n then (3 : Int) else n) = L := ⟨_, rfl⟩
  obtain ⟨K, hK⟩ : ∃ K, stepsN n = K := ⟨_, rfl⟩
  have hLK : ∀ k : Nat, (k : Int) < L ↔ k < K := by
    intro k; rw [← hmin, ← hK]; unfold stepsN; split <;> omega
  have HLK := Lib.hid hLK
  have hK3 : K ≤ 3 := by rw [← hK]; exact stepsN_le n
  rw [hK]
  clear hK hLK
  go_enter Try.func11, Try.ntmps11
  go_wp2
  clear hmin
  go_loopw [0, 7] (fun s i wr => ∃ k : Nat, k ≤ K ∧ i = .int .i64 k ∧ s = .string (strOfNums (chainB zs k)) ∧ Up w wr)
    (fun _ i _ => K - (intOf i).toNat)
  case atStart => exact ⟨0, Nat.zero_le _, rfl, rfl, Up.refl w⟩
  case round =>
    obtain ⟨k, hk, rfl, rfl, hB⟩ := hrel
    by_cases hlt : k < K
    · have hd : (k : Int) < L := (HLK.out k).2 hlt
      have hux := chainB_u8s zs hu k
      have hlx := chainB_le zs 140737488355328 (by omega) hl k
      have hs : chainB zs (k + 1) = shortB (chainB zs k) := rfl
      generalize chainB zs k = x at hux hlx hs ⊢
      have Hs := Lib.hid hs
      obtain ⟨a, c, w1, hconv, hI, hU1⟩ := conv_str x hux wr
      have HI := Lib.hid hI
      have Hux := Lib.hid hux
      clear hs hI hux
      go_wp2_with (go_at_call 28; (with_reducible refine Calls.mono (short_flat _ [x] x (by simp) (by simp) _ (Rows8.new1 w1 _ _ x _ rfl HI.out) Hux.out hlx) ?_); rintro e w2 ⟨rfl, hU2⟩)
      go_roundw
      case rel => exact ⟨k + 1, by omega, by go_num, by rw [Hs.out], Up.trans (Up.alloc (Up.trans hB hU1) _) hU2⟩
      case measure => simp [intOf]; omega
    · obtain rfl : k = K := by omega
      have hd : ¬ (k : Int) < L := fun h => by have := (HLK.out k).1 h; omega
      go_wp2
      go_ret
      exact ⟨rfl, hB⟩

theorem seed_flat (zs : List Int) (leaf place : Int) : [wotsB, octAll (IntKind.u64.wrap zs.length) 2, zs, octAll (IntKind.u64.wrap leaf) 4, octAll (IntKind.u64.wrap place) 1].flatten = seedB zs leaf place := by
  simp [seedB]
theorem Rows8.new5 (w : World) (t : TypeId) (u0 u1 u2 u3 u4 : Value) (l0 l1 l2 l3 l4 : List Int) (b : Nat) (hb : b = w.heap.size) (h0 : Ints .u8 w u0 l0) (h1 : Ints .u8 w u1 l1) (h2 : Ints .u8 w u2 l2) (h3 : Ints .u8 w u3 l3) (h4 : Ints .u8 w u4 l4) :
    Rows8 (w.alloc (.cells #[u0, u1, u2, u3, u4] t)) (.slice (some ⟨b, 0, none⟩) 5 5) [l0, l1, l2, l3, l4] := by
  subst hb
  exact Rows8.new w t [u0, u1, u2, u3, u4] [l0, l1, l2, l3, l4] rfl fun j hj => by
    match j, hj with
    | 0, _ => exact h0
    | 1, _ => exact h1
    | 2, _ => exact h2
    | 3, _ => exact h3
    | 4, _ => exact h4
theorem put_own (n : Int) (hn : -9223372036854775808 ≤ n ∧ n ≤ 9223372036854775807) (k : Nat) (hk : k ≤ 8) (w : World) :
    Calls Try.prog 30 #[.int .i64 n, .int .i64 k] w fun e w' => ∃ a c, e = .returned (.slice a k c) ∧ Ints .u8 w' (.slice a k c) (octAll (IntKind.u64.wrap n) k) ∧ Up w w' := by
  refine (put_any n k hn (by omega) k (by omega) w).mono ?_
  rintro e w' ⟨v, rfl, hr, hU⟩
  have hI := Ints.of_row hr
  obtain ⟨a, c, e, _⟩ := id hI
  rw [octAll_length] at e
  subst e
  exact ⟨a, c, rfl, hI, hU⟩

set_option maxHeartbeats 1000000 in
theorem secret_any (zs : List Int) (leaf place : Int) (w : World) (hu : U8s zs) (hl : zs.length ≤ 140737488355200) (hleaf : -9223372036854775808 ≤ leaf ∧ leaf ≤ 9223372036854775807) (hplace : -9223372036854775808 ≤ place ∧ place ≤ 9223372036854775807) :
    Calls Try.prog 13 #[.string (strOfNums zs), .int .i64 leaf, .int .i64 place] w fun e w' => e = .returned (.string (strOfNums (secretB zs leaf place))) ∧ Up w w' := by
  have hsz := strOfNums_size zs
  have Hu := Lib.hid hu
  have Hsu := Lib.hid (seedB_u8s zs hu leaf place)
  have hsl : (seedB zs leaf place).length ≤ 140737488355328 := by rw [seedB_length]; omega
  have Hsl := Lib.hid hsl
  have Hf := Lib.hid (seed_flat zs leaf place)
  have hI0 : Ints .u8 (w.alloc (.cells #[.int .u8 119, .int .u8 111, .int .u8 116, .int .u8 115] 5 (4, 5))) (.slice (some ⟨w.heap.size, 0, none⟩) 4 4) wotsB := Ints.newf w .u8 5 _ _ wotsB _ _ rfl rfl rfl
  have HI0 := Lib.hid hI0
  have Hp1 := Lib.hid (fun wx => put_own zs.length (by omega) 2 (by omega) wx)
  have Hp2 := Lib.hid (fun wx => put_own leaf hleaf 4 (by omega) wx)
  have Hp3 := Lib.hid (fun wx => put_own place hplace 1 (by omega) wx)
  show Calls _ _ _ w fun e w' => e = .returned (.string (strOfNums (shortB (seedB zs leaf place)))) ∧ _
  generalize seedB zs leaf place = X at Hsu Hsl Hf ⊢
  generalize hP1 : octAll (IntKind.u64.wrap zs.length) 2 = P1 at Hf Hp1
  generalize hP2 : octAll (IntKind.u64.wrap leaf) 4 = P2 at Hf Hp2
  generalize hP3 : octAll (IntKind.u64.wrap place) 1 = P3 at Hf Hp3
  clear hI0 hsl hu hP1 hP2 hP3
  have kc := fun (w : World) (C : Array Value) (n c : Nat) => Lib.run_convert_bytes_const (P := Try.prog) w 22 5 C n c Try.underlying22 Try.underlying5
  go_enter Try.func13, Try.ntmps13
  go_wp2_with fail
  with_reducible refine Calls.mono (Hp1.out _) ?_
  rintro e w1 ⟨a1, c1, rfl, hI1, hU1⟩
  have hU01 : Up w w1 := Up.trans (Up.alloc (Up.refl w) _) hU1
  have HI0 := Lib.hid (HI0.out.up hU1)
  have HI1 := Lib.hid hI1
  obtain ⟨a2, c2, w2, hconv, hI2, hU2⟩ := conv_str zs Hu.out w1
  have HI2 := Lib.hid hI2
  have hU02 := Up.trans hU01 hU2
  have HI0 := Lib.hid (HI0.out.up hU2)
  have HI1 := Lib.hid (HI1.out.up hU2)
  clear hI1 hU1 hI2 hU2 hU01
  go_wp2_with fail
  with_reducible refine Calls.mono (Hp2.out _) ?_
  rintro e w3 ⟨a3, c3, rfl, hI3, hU3⟩
  have hU03 := Up.trans hU02 hU3
  have HI0 := Lib.hid (HI0.out.up hU3)
  have HI1 := Lib.hid (HI1.out.up hU3)
  have HI2 := Lib.hid (HI2.out.up hU3)
  have HI3 := Lib.hid hI3
  clear hI3 hU3 hU02 hconv
  go_wp2_with fail
  with_reducible refine Calls.mono (Hp3.out _) ?_
  rintro e w4 ⟨a4, c4, rfl, hI4, hU4⟩
  have hU04 := Up.trans hU03 hU4
  have HI0 := Lib.hid (HI0.out.up hU4)
  have HI1 := Lib.hid (HI1.out.up hU4)
  have HI2 := Lib.hid (HI2.out.up hU4)
  have HI3 := Lib.hid (HI3.out.up hU4)
  have HI4 := Lib.hid hI4
  clear hI4 hU4 hU03
  go_wp2_with fail
  with_reducible refine Calls.mono (short_flat _ _ X Hf.out (by simp) _ (Rows8.new5 w4 _ _ _ _ _ _ _ _ _ _ _ _ rfl HI0.out HI1.out HI2.out HI3.out HI4.out) Hsu.out Hsl.out) ?_
  rintro e w5 ⟨rfl, hU5⟩
  have hU05 := Up.trans (Up.alloc hU04 _) hU5
  go_wp2
  go_ret
  exact ⟨rfl, hU05⟩
end Go.Proofs.Ytjjaefacfcjgiaa
