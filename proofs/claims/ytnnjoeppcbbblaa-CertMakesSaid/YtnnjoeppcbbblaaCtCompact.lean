import Derived.Test.YtnnjoeppcbbblaaCtDel
/-
  slices.CompactFunc of statements by their signers, in a row of one's own.
-/
namespace Go.Proofs.Ytnnjoeppcbbblaa
set_option maxRecDepth 100000
section
set_option linter.unusedVariables false
open Go.RowKit Go.Sort Go.Lib

set_option maxHeartbeats 400000 in
theorem same_gr (x y : Vs) (W : World) :
    Calls Try.prog 23 (#[.agg (vsA x), .agg (vsA y)] ++ #[]) W fun e w' => e = .returned (.bool (vsK x == vsK y)) ∧ Gr W w' := by
  obtain ⟨⟨K1, V1, H1, B1, T1, G1⟩, S1⟩ := x
  obtain ⟨⟨K2, V2, H2, B2, T2, G2⟩, S2⟩ := y
  show Calls Try.prog 23 #[.agg #[.int .i64 K1, .int .i64 V1, .int .i64 H1, .string (strOfNums B1), .int .i64 T1, .int .i64 G1, .string S1], .agg #[.int .i64 K2, .int .i64 V2, .int .i64 H2, .string (strOfNums B2), .int .i64 T2, .int .i64 G2, .string S2]] W fun e w' => e = .returned (.bool (G1 == G2)) ∧ Gr W w'
  generalize strOfNums B1 = B1'
  generalize strOfNums B2 = B2'
  have h0 := heap_alloc_new W (.cells #[.int .i64 K1, .int .i64 V1, .int .i64 H1, .string B1', .int .i64 T1, .int .i64 G1, .string S1] 38)
  have h1 := ((Up.alloc (Up.refl (W.alloc (.cells #[.int .i64 K1, .int .i64 V1, .int .i64 H1, .string B1', .int .i64 T1, .int .i64 G1, .string S1] 38))) (.cells #[.int .i64 K2, .int .i64 V2, .int .i64 H2, .string B2', .int .i64 T2, .int .i64 G2, .string S2] 38)).block _ (lt_of_block h0)).trans h0
  have h2 := heap_alloc_new (W.alloc (.cells #[.int .i64 K1, .int .i64 V1, .int .i64 H1, .string B1', .int .i64 T1, .int .i64 G1, .string S1] 38)) (.cells #[.int .i64 K2, .int .i64 V2, .int .i64 H2, .string B2', .int .i64 T2, .int .i64 G2, .string S2] 38)
  rw [show (W.alloc (.cells #[.int .i64 K1, .int .i64 V1, .int .i64 H1, .string B1', .int .i64 T1, .int .i64 G1, .string S1] 38)).heap.size = W.heap.size + 1 by simp] at h2
  have c1 := (vt_cells h1).2.2.2.2.2.1
  have c2 := (vt_cells h2).2.2.2.2.2.1
  clear h0 h1 h2
  go_enter Try.func23, Try.ntmps23
  go_wp2
  go_ret
  exact ⟨rfl, (Gr.alloc _ _).trans (Gr.alloc _ _)⟩

theorem bin_dec2 (x y : Operand) (k K : Nat) (h1 : k < K) (h2 : K ≤ k + 1) (h : K ≤ 9223372036854775807) (w : World) : (do eqGuard .sub 3 x y (.int .i64 (K : Nat)) (.int .i64 1); binOp .sub 3 (.int .i64 (K : Nat)) (.int .i64 1) : Sem Value).run Try.prog w = .ok (.int .i64 (k : Nat)) w := by
  obtain rfl : K = k + 1 := by omega
  exact bin_dec x y k h w
theorem ex_index2 {o : Oper} {x y : Operand} {ρ : Operand → Value} {blk off k j m c : Nat} (hop : o.op = .indexAddr 22 x y) (hx : ρ x = .slice (some ⟨blk, off + k * 7, none⟩) m c) (hy : ρ y = .int .i64 ((j : Nat) : Int)) (hj : j < m) (h0 : True ∨ 0 = 0 := by omega) (w : World) :
    (execOp ρ o).run Try.prog w = .ok (.value (.pointer (some ⟨blk, off + (k + j) * 7, none⟩))) w := by
  have := ex_index (P := Try.prog) Try.underlying22 Try.sizeOf38 hop hx hy hj w
  rwa [show off + k * 7 + j * 7 = off + (k + j) * 7 by omega] at this

theorem cptF_snoc (y : Vs) : ∀ (l : List Vs) (p : Int), cptF vsK p (l ++ [y]) = cptF vsK p l ++ (if vsK y = (l.getLast?.map vsK).getD p then [] else [y])
  | [], p => by
    show (if vsK y = p then ([] : List Vs) else [y]) = _
    rfl
  | x :: t, p => by
    have e : ((x :: t).getLast?.map vsK).getD p = (t.getLast?.map vsK).getD (vsK x) := by
      cases t with
      | nil => rfl
      | cons z u => simp [List.getLast?_cons]
    rw [List.cons_append, cptF, cptF, cptF_snoc y t (vsK x), e]
    by_cases h : vsK x = p
    · rw [if_pos h, if_pos h]
    · rw [if_neg h, if_neg h, List.cons_append]
theorem cpt_next (d : Array Vs) (q : Nat) (h1 : 1 ≤ q) (h2 : q < d.size) : cpt vsK (d.toList.take (q + 1)) = if vsK d[q]! = vsK d[q - 1]! then cpt vsK (d.toList.take q) else cpt vsK (d.toList.take q) ++ [d[q]!] := by
  rw [tk_succ d q h2]
  obtain ⟨r, rfl⟩ : ∃ r, q = r + 1 := ⟨q - 1, by omega⟩
  have hl : (d.toList.take (r + 1)).getLast? = some d[r]! := by rw [tk_succ d r (by omega)]; simp
  cases hc : d.toList.take (r + 1) with
  | nil => rw [hc] at hl; cases hl
  | cons x t =>
    rw [hc] at hl
    have e : (t.getLast?.map vsK).getD (vsK x) = vsK d[r]! := by
      cases t with
      | nil => simp at hl; simp [hl]
      | cons z u => rw [List.getLast?_cons_cons] at hl; rw [hl]; rfl
    show x :: cptF vsK (vsK x) (t ++ [d[r + 1]!]) = if vsK d[r + 1]! = vsK d[r + 1 - 1]! then x :: cptF vsK (vsK x) t else (x :: cptF vsK (vsK x) t) ++ [d[r + 1]!]
    rw [cptF_snoc, e, Nat.add_sub_cancel]
    by_cases h : vsK d[r + 1]! = vsK d[r]!
    · rw [if_pos h, if_pos h, List.append_nil]
    · rw [if_neg h, if_neg h]; rfl
theorem cpt_all (d : Array Vs) (k : Nat) (hk : k ≤ d.size) (h : ∀ i, 1 ≤ i → i < k → vsK d[i]! ≠ vsK d[i - 1]!) : cpt vsK (d.toList.take k) = d.toList.take k := by
  induction k with
  | zero => rfl
  | succ k ih =>
    cases k with
    | zero =>
      rw [tk_succ d 0 (by omega)]; rfl
    | succ k =>
      rw [cpt_next d (k + 1) (by omega) (by omega), if_neg (h (k + 1) (by omega) (by omega)), ih (by omega) (fun i h1 h2 => h i h1 (by omega)), ← tk_succ d (k + 1) (by omega)]

/-- what CompactFunc leaves -/
structure Comp (w0 : World) (blk off n cap : Nat) (d : Array Vs) (e : Ending) (w' : World) : Prop where
  ex : ∃ (k : Nat) (d' : Array Vs), e = .returned (.slice (some ⟨blk, off, none⟩) k cap) ∧ k ≤ n ∧ SW w0 blk off d' w' ∧ d'.size = n ∧ d'.toList.take k = cpt vsK d.toList

set_option maxHeartbeats 1000000 in
theorem compact_any {w0 : World} {blk off : Nat} {d : Array Vs} (R : RowK vsC 7 w0 blk off d) (n cap : Nat) (hn : d.size = n) (hcap : n ≤ cap) (hc63 : cap ≤ 9223372036854775807) (hsz : n < 4611686018427387904) (w : World) (hS : SW w0 blk off d w) :
    Calls Try.prog 22 #[.slice (some ⟨blk, off, none⟩) n cap, .func (.func 23) #[] #[]] w (Comp w0 blk off n cap d) := by
  have HS0 := Lib.hid hS
  have HN := Lib.hid hn
  have HALL : Hid (d.toList.take n = d.toList) := Lib.hid (List.take_of_length_le (by simp; omega))
  clear hS hn
  by_cases h2 : n < 2
  · have hz : (n : Int) < 2 := by omega
    go_enter Try.func22, Try.ntmps22
    go_wp2
    go_ret
    refine ⟨n, d, rfl, Nat.le_refl _, HS0.out, HN.out, ?_⟩
    have := cpt_all d n (by rw [HN.out]; exact Nat.le_refl _) (fun i h1 h3 => by omega)
    rw [HALL.out] at this
    rw [HALL.out, this]
  · have hz : ¬ (n : Int) < 2 := by omega
    go_enter Try.func22, Try.ntmps22
    go_wp2
    go_loopw [5] (fun vk wr => ∃ K : Nat, vk = .int .i64 (K : Nat) ∧ 1 ≤ K ∧ K ≤ n ∧ Hid (SW w0 blk off d wr) ∧ Hid (∀ i, 1 ≤ i → i < K → vsK d[i]! ≠ vsK d[i - 1]!))
      (fun vk _ => n - (intOf vk).toNat)
    case atStart => exact ⟨1, rfl, by omega, by omega, HS0, Lib.hid (fun i h1 h2 => by omega)⟩
    case round =>
      obtain ⟨K, rfl, hk0, hk, HS, HP⟩ := hrel
      obtain ⟨k, hK1, hK2⟩ : ∃ k, k < K ∧ K ≤ k + 1 := ⟨K - 1, by omega, by omega⟩
      by_cases hlt : K < n
      · have hz2 : (K : Int) < (n : Int) := by omega
        have hds := HN.out
        go_wp2_with fail
        obtain ⟨xv, hxv⟩ : ∃ u, d[K]! = u := ⟨_, rfl⟩
        obtain ⟨yv, hyv⟩ : ∃ u, d[k]! = u := ⟨_, rfl⟩
        have Hx := Lib.hid hxv
        have Hy := Lib.hid hyv
        have HI := Lib.hid (And.intro (show K < d.size by omega) (show k < d.size by omega))
        have HC : Hid (∀ (W : World), SW w0 blk off d W → Calls Try.prog 23 (#[.agg (vsA xv), .agg (vsA yv)] ++ #[]) W fun e w' => e = .returned (.bool (vsK xv == vsK yv)) ∧ SW w0 blk off d w') := fun W h => (same_gr xv yv W).mono fun e w' ⟨h1, h2⟩ => ⟨h1, h2.sw h⟩
        clear hxv hyv hds
        generalize wr = wz at HS ⊢
        by_cases hB : vsK xv = vsK yv
        · rw [show (vsK xv == vsK yv) = true by simpa using hB] at HC
          have HK := Lib.hid hB
          clear hB
          refine region_alongK (fun x => SW w0 blk off d x) (.read 0 (.read 1 (.read 2 (.read 3 (.read 4 (.read 5 (.read 6 (.read 7 (.read 8 (.read 9 (.step 10 (.nil)))))))))))) (by kernel_rfl) rfl (by kernel_rfl) (by kernel_rfl) (fun c a d v w h => by cases d <;> exact h) (HS.out.drew) ?_
          refine alongK_read (.func (.func 23) #[] #[]) rfl rfl (fun wx hS => ex_move (by rfl) (by rfl) wx) ?_
          change AlongK _ _ _ _ _ { tmps := #[.slice (some ⟨blk, off, none⟩) n cap, .func (.func 23) #[] #[], _, _, _, .int .i64 ((K : Nat) : Int), _, _, _, _, _, _, _, _, _, _, _, _, .func (.func 23) #[] #[], _, _, _, _, _, _, _, _, _, _, _, _, _, _, _, _, _, _, _, _, _, _, _, _, _, _, _, _, _, _, _, _, _, _, _, _, _, _, _, _, _, _, _, _, _, _, _], defers := _ } _
          refine alongK_read (.slice (some ⟨blk, off, none⟩) n cap) rfl rfl (fun wx hS => ex_move (by rfl) (by rfl) wx) ?_
          change AlongK _ _ _ _ _ { tmps := #[.slice (some ⟨blk, off, none⟩) n cap, .func (.func 23) #[] #[], _, _, _, .int .i64 ((K : Nat) : Int), _, _, _, _, _, _, _, _, _, _, _, _, .func (.func 23) #[] #[], .slice (some ⟨blk, off, none⟩) n cap, _, _, _, _, _, _, _, _, _, _, _, _, _, _, _, _, _, _, _, _, _, _, _, _, _, _, _, _, _, _, _, _, _, _, _, _, _, _, _, _, _, _, _, _, _, _], defers := _ } _
          refine alongK_read (.int .i64 ((K : Nat) : Int)) rfl rfl (fun wx hS => ex_move (by rfl) (by rfl) wx) ?_
          change AlongK _ _ _ _ _ { tmps := #[.slice (some ⟨blk, off, none⟩) n cap, .func (.func 23) #[] #[], _, _, _, .int .i64 ((K : Nat) : Int), _, _, _, _, _, _, _, _, _, _, _, _, .func (.func 23) #[] #[], .slice (some ⟨blk, off, none⟩) n cap, .int .i64 ((K : Nat) : Int), _, _, _, _, _, _, _, _, _, _, _, _, _, _, _, _, _, _, _, _, _, _, _, _, _, _, _, _, _, _, _, _, _, _, _, _, _, _, _, _, _, _, _, _, _], defers := _ } _
          refine alongK_read (.pointer (some ⟨blk, off + (K) * 7, none⟩)) rfl rfl (fun wx hS => ex_index Try.underlying22 Try.sizeOf38 rfl rfl rfl (by omega) wx) ?_
          change AlongK _ _ _ _ _ { tmps := #[.slice (some ⟨blk, off, none⟩) n cap, .func (.func 23) #[] #[], _, _, _, .int .i64 ((K : Nat) : Int), _, _, _, _, _, _, _, _, _, _, _, _, .func (.func 23) #[] #[], .slice (some ⟨blk, off, none⟩) n cap, .int .i64 ((K : Nat) : Int), .pointer (some ⟨blk, off + (K) * 7, none⟩), _, _, _, _, _, _, _, _, _, _, _, _, _, _, _, _, _, _, _, _, _, _, _, _, _, _, _, _, _, _, _, _, _, _, _, _, _, _, _, _, _, _, _, _], defers := _ } _
          refine alongK_read (.agg (vsA xv)) rfl rfl (fun wx hS => ex_elem rfl rfl hS R rfl HI.out.1 Hx.out) ?_
          change AlongK _ _ _ _ _ { tmps := #[.slice (some ⟨blk, off, none⟩) n cap, .func (.func 23) #[] #[], _, _, _, .int .i64 ((K : Nat) : Int), _, _, _, _, _, _, _, _, _, _, _, _, .func (.func 23) #[] #[], .slice (some ⟨blk, off, none⟩) n cap, .int .i64 ((K : Nat) : Int), .pointer (some ⟨blk, off + (K) * 7, none⟩), .agg (vsA xv), _, _, _, _, _, _, _, _, _, _, _, _, _, _, _, _, _, _, _, _, _, _, _, _, _, _, _, _, _, _, _, _, _, _, _, _, _, _, _, _, _, _, _], defers := _ } _
          refine alongK_read (.slice (some ⟨blk, off, none⟩) n cap) rfl rfl (fun wx hS => ex_move (by rfl) (by rfl) wx) ?_
          change AlongK _ _ _ _ _ { tmps := #[.slice (some ⟨blk, off, none⟩) n cap, .func (.func 23) #[] #[], _, _, _, .int .i64 ((K : Nat) : Int), _, _, _, _, _, _, _, _, _, _, _, _, .func (.func 23) #[] #[], .slice (some ⟨blk, off, none⟩) n cap, .int .i64 ((K : Nat) : Int), .pointer (some ⟨blk, off + (K) * 7, none⟩), .agg (vsA xv), .slice (some ⟨blk, off, none⟩) n cap, _, _, _, _, _, _, _, _, _, _, _, _, _, _, _, _, _, _, _, _, _, _, _, _, _, _, _, _, _, _, _, _, _, _, _, _, _, _, _, _, _, _], defers := _ } _
          refine alongK_read (.int .i64 ((K : Nat) : Int)) rfl rfl (fun wx hS => ex_move (by rfl) (by rfl) wx) ?_
          change AlongK _ _ _ _ _ { tmps := #[.slice (some ⟨blk, off, none⟩) n cap, .func (.func 23) #[] #[], _, _, _, .int .i64 ((K : Nat) : Int), _, _, _, _, _, _, _, _, _, _, _, _, .func (.func 23) #[] #[], .slice (some ⟨blk, off, none⟩) n cap, .int .i64 ((K : Nat) : Int), .pointer (some ⟨blk, off + (K) * 7, none⟩), .agg (vsA xv), .slice (some ⟨blk, off, none⟩) n cap, .int .i64 ((K : Nat) : Int), _, _, _, _, _, _, _, _, _, _, _, _, _, _, _, _, _, _, _, _, _, _, _, _, _, _, _, _, _, _, _, _, _, _, _, _, _, _, _, _, _], defers := _ } _
          refine alongK_read (.int .i64 ((k : Nat) : Int)) rfl rfl (fun wx hS => ex_bin rfl rfl rfl wx (bin_dec2 _ _ k K hK1 hK2 (by omega) wx)) ?_
          change AlongK _ _ _ _ _ { tmps := #[.slice (some ⟨blk, off, none⟩) n cap, .func (.func 23) #[] #[], _, _, _, .int .i64 ((K : Nat) : Int), _, _, _, _, _, _, _, _, _, _, _, _, .func (.func 23) #[] #[], .slice (some ⟨blk, off, none⟩) n cap, .int .i64 ((K : Nat) : Int), .pointer (some ⟨blk, off + (K) * 7, none⟩), .agg (vsA xv), .slice (some ⟨blk, off, none⟩) n cap, .int .i64 ((K : Nat) : Int), .int .i64 ((k : Nat) : Int), _, _, _, _, _, _, _, _, _, _, _, _, _, _, _, _, _, _, _, _, _, _, _, _, _, _, _, _, _, _, _, _, _, _, _, _, _, _, _, _], defers := _ } _
          refine alongK_read (.pointer (some ⟨blk, off + (k) * 7, none⟩)) rfl rfl (fun wx hS => ex_index Try.underlying22 Try.sizeOf38 rfl rfl rfl (by omega) wx) ?_
          change AlongK _ _ _ _ _ { tmps := #[.slice (some ⟨blk, off, none⟩) n cap, .func (.func 23) #[] #[], _, _, _, .int .i64 ((K : Nat) : Int), _, _, _, _, _, _, _, _, _, _, _, _, .func (.func 23) #[] #[], .slice (some ⟨blk, off, none⟩) n cap, .int .i64 ((K : Nat) : Int), .pointer (some ⟨blk, off + (K) * 7, none⟩), .agg (vsA xv), .slice (some ⟨blk, off, none⟩) n cap, .int .i64 ((K : Nat) : Int), .int .i64 ((k : Nat) : Int), .pointer (some ⟨blk, off + (k) * 7, none⟩), _, _, _, _, _, _, _, _, _, _, _, _, _, _, _, _, _, _, _, _, _, _, _, _, _, _, _, _, _, _, _, _, _, _, _, _, _, _, _], defers := _ } _
          refine alongK_read (.agg (vsA yv)) rfl rfl (fun wx hS => ex_elem rfl rfl hS R rfl HI.out.2 Hy.out) ?_
          change AlongK _ _ _ _ _ { tmps := #[.slice (some ⟨blk, off, none⟩) n cap, .func (.func 23) #[] #[], _, _, _, .int .i64 ((K : Nat) : Int), _, _, _, _, _, _, _, _, _, _, _, _, .func (.func 23) #[] #[], .slice (some ⟨blk, off, none⟩) n cap, .int .i64 ((K : Nat) : Int), .pointer (some ⟨blk, off + (K) * 7, none⟩), .agg (vsA xv), .slice (some ⟨blk, off, none⟩) n cap, .int .i64 ((K : Nat) : Int), .int .i64 ((k : Nat) : Int), .pointer (some ⟨blk, off + (k) * 7, none⟩), .agg (vsA yv), _, _, _, _, _, _, _, _, _, _, _, _, _, _, _, _, _, _, _, _, _, _, _, _, _, _, _, _, _, _, _, _, _, _, _, _, _, _], defers := _ } _
          refine alongK_step ?_
          refine opK_callv (vs := [.agg (vsA xv), .agg (vsA yv)]) (cb := #[]) rfl rfl rfl rfl (enters_of Try.func23 (by kernel_rfl) rfl) rfl ?_
          with_reducible refine Calls.mono (HC.out _ HS.out.drew) ?_
          rintro e w5 ⟨rfl, hS5⟩
          refine ⟨_, rfl, (fun x => SW w0 blk off d x), (fun _ h => h), hS5, ?_⟩
          change AlongK _ _ _ _ _ { tmps := #[.slice (some ⟨blk, off, none⟩) n cap, .func (.func 23) #[] #[], _, _, _, .int .i64 ((K : Nat) : Int), _, _, _, _, _, _, _, _, _, _, _, _, .func (.func 23) #[] #[], .slice (some ⟨blk, off, none⟩) n cap, .int .i64 ((K : Nat) : Int), .pointer (some ⟨blk, off + (K) * 7, none⟩), .agg (vsA xv), .slice (some ⟨blk, off, none⟩) n cap, .int .i64 ((K : Nat) : Int), .int .i64 ((k : Nat) : Int), .pointer (some ⟨blk, off + (k) * 7, none⟩), .agg (vsA yv), .bool true, _, _, _, _, _, _, _, _, _, _, _, _, _, _, _, _, _, _, _, _, _, _, _, _, _, _, _, _, _, _, _, _, _, _, _, _, _], defers := _ } _
          refine alongK_done ?_
          focus
            have HS5 := Lib.hid hS5
            clear hS5
            have HK1 : Hid (cpt vsK (d.toList.take (K + 1)) = d.toList.take (K)) := Lib.hid (by rw [cpt_next d K (by omega) (by have := HN.out; omega), if_pos (by rw [Hx.out, show K - 1 = k by omega, Hy.out]; exact HK.out)]; exact cpt_all d K (by have := HN.out; omega) HP.out)
            have q1 : (n : Int) - (K : Int) = ((n - (K) : Nat) : Int) := by omega
            have q2 : (K : Int) ≤ (n : Int) := by omega
            have q3 : (K : Int) ≤ (cap : Int) := by omega
            have q4 : (K : Int) < (cap : Int) := by omega
            go_wp2
            go_loopw [5, 7] (fun vk vj wr => ∃ kk J : Nat, ∃ dk : Array Vs, vk = .int .i64 (kk : Nat) ∧ vj = .int .i64 (J : Int) ∧ kk < K + J ∧ 1 ≤ J ∧ K + J ≤ n ∧ dk.size = n ∧ 1 ≤ kk ∧ Hid (SW w0 blk off dk wr) ∧ Hid (dk.toList.take kk = cpt vsK (d.toList.take (K + J)) ∧ dk.toList.drop (K + J - 1) = d.toList.drop (K + J - 1)))
              (fun _ vj _ => n - (intOf vj).toNat)
            case atStart => exact ⟨K, 1, d, by go_num, rfl, by omega, by omega, by omega, HN.out, by omega, HS5, Lib.hid ⟨HK1.out.symm, rfl⟩⟩
            case round =>
              obtain ⟨kk, J, dk, rfl, rfl, hkj, hJ1, hjn, hdk, hkk, HS, HL⟩ := hrel
              obtain ⟨j, hj1, hj2⟩ : ∃ j, j < J ∧ J ≤ j + 1 := ⟨J - 1, by omega, by omega⟩
              have HDR : Hid (dk.toList.drop (K + j) = d.toList.drop (K + j)) := Lib.hid (by have := HL.out.2; rwa [show K + J - 1 = K + j by omega] at this)
              have HDR2 : Hid (dk.toList.drop (K + J) = d.toList.drop (K + J)) := Lib.hid (by have := drop_next HDR.out; rwa [show K + j + 1 = K + J by omega] at this)
              have HDN : Hid (dk.size = d.size) := Lib.hid (by rw [HN.out]; exact hdk)
              by_cases hlt2 : J < n - (K)
              · have hz3 : (J : Int) < ((n - (K) : Nat) : Int) := by omega
                have HX2 : Hid (d[K + J]! = dk[K + J]! ∧ d[K + j]! = dk[K + j]!) := ⟨(drop_get HDR2.out).symm, (drop_get HDR.out).symm⟩
                have hnx := cpt_next d (K + J) (by omega) (by have := HN.out; omega)
                rw [show K + J - 1 = K + j by omega] at hnx
                have HNX : Hid ((vsK d[K + J]! = vsK d[K + j]! → cpt vsK (d.toList.take (K + J + 1)) = cpt vsK (d.toList.take (K + J))) ∧ (vsK d[K + J]! ≠ vsK d[K + j]! → cpt vsK (d.toList.take (K + J + 1)) = cpt vsK (d.toList.take (K + J)) ++ [d[K + J]!])) := ⟨fun h => by rw [hnx, if_pos h], fun h => by rw [hnx, if_neg h]⟩
                clear hnx
                have hds := hdk
                go_wp2_with fail
                obtain ⟨xv, hxv⟩ : ∃ u, dk[K + J]! = u := ⟨_, rfl⟩
                obtain ⟨yv, hyv⟩ : ∃ u, dk[K + j]! = u := ⟨_, rfl⟩
                have Hx := Lib.hid hxv
                have Hy := Lib.hid hyv
                have HI := Lib.hid (And.intro (show K + J < dk.size by omega) (show K + j < dk.size by omega))
                have HC : Hid (∀ (W : World), SW w0 blk off dk W → Calls Try.prog 23 (#[.agg (vsA xv), .agg (vsA yv)] ++ #[]) W fun e w' => e = .returned (.bool (vsK xv == vsK yv)) ∧ SW w0 blk off dk w') := fun W h => (same_gr xv yv W).mono fun e w' ⟨h1, h2⟩ => ⟨h1, h2.sw h⟩
                clear hxv hyv hds
                generalize wr = wz at HS ⊢
                by_cases hB : vsK xv = vsK yv
                · rw [show (vsK xv == vsK yv) = true by simpa using hB] at HC
                  have HK := Lib.hid hB
                  clear hB
                  refine region_alongK (fun x => SW w0 blk off dk x) (.read 0 (.read 1 (.read 2 (.read 3 (.read 4 (.read 5 (.read 6 (.read 7 (.read 8 (.read 9 (.step 10 (.read 11 (.nil))))))))))))) (by kernel_rfl) rfl (by kernel_rfl) (by kernel_rfl) (fun c a d v w h => by cases d <;> exact h) (HS.out.drew) ?_
                  refine alongK_read (.func (.func 23) #[] #[]) rfl rfl (fun wx hS => ex_move (by rfl) (by rfl) wx) ?_
                  change AlongK _ _ _ _ _ { tmps := #[_, .func (.func 23) #[] #[], _, _, _, .int .i64 ((kk : Nat) : Int), .slice (some ⟨blk, off + (K) * 7, none⟩) (n - (K)) (cap - (K)), .int .i64 ((J : Nat) : Int), _, _, _, _, _, _, _, _, _, _, _, _, _, _, _, _, _, _, _, _, _, _, _, _, _, _, _, _, _, _, .func (.func 23) #[] #[], _, _, _, _, _, _, _, _, _, _, _, _, _, _, _, _, _, _, _, _, _, _, _, _, _, _, _], defers := _ } _
                  refine alongK_read (.slice (some ⟨blk, off + (K) * 7, none⟩) (n - (K)) (cap - (K))) rfl rfl (fun wx hS => ex_move (by rfl) (by rfl) wx) ?_
                  change AlongK _ _ _ _ _ { tmps := #[_, .func (.func 23) #[] #[], _, _, _, .int .i64 ((kk : Nat) : Int), .slice (some ⟨blk, off + (K) * 7, none⟩) (n - (K)) (cap - (K)), .int .i64 ((J : Nat) : Int), _, _, _, _, _, _, _, _, _, _, _, _, _, _, _, _, _, _, _, _, _, _, _, _, _, _, _, _, _, _, .func (.func 23) #[] #[], .slice (some ⟨blk, off + (K) * 7, none⟩) (n - (K)) (cap - (K)), _, _, _, _, _, _, _, _, _, _, _, _, _, _, _, _, _, _, _, _, _, _, _, _, _, _], defers := _ } _
                  refine alongK_read (.int .i64 ((J : Nat) : Int)) rfl rfl (fun wx hS => ex_move (by rfl) (by rfl) wx) ?_
                  change AlongK _ _ _ _ _ { tmps := #[_, .func (.func 23) #[] #[], _, _, _, .int .i64 ((kk : Nat) : Int), .slice (some ⟨blk, off + (K) * 7, none⟩) (n - (K)) (cap - (K)), .int .i64 ((J : Nat) : Int), _, _, _, _, _, _, _, _, _, _, _, _, _, _, _, _, _, _, _, _, _, _, _, _, _, _, _, _, _, _, .func (.func 23) #[] #[], .slice (some ⟨blk, off + (K) * 7, none⟩) (n - (K)) (cap - (K)), .int .i64 ((J : Nat) : Int), _, _, _, _, _, _, _, _, _, _, _, _, _, _, _, _, _, _, _, _, _, _, _, _, _], defers := _ } _
                  refine alongK_read (.pointer (some ⟨blk, off + (K + (J)) * 7, none⟩)) rfl rfl (fun wx hS => ex_index2 (k := K) (j := J) rfl rfl rfl (by omega) (by omega) wx) ?_
                  change AlongK _ _ _ _ _ { tmps := #[_, .func (.func 23) #[] #[], _, _, _, .int .i64 ((kk : Nat) : Int), .slice (some ⟨blk, off + (K) * 7, none⟩) (n - (K)) (cap - (K)), .int .i64 ((J : Nat) : Int), _, _, _, _, _, _, _, _, _, _, _, _, _, _, _, _, _, _, _, _, _, _, _, _, _, _, _, _, _, _, .func (.func 23) #[] #[], .slice (some ⟨blk, off + (K) * 7, none⟩) (n - (K)) (cap - (K)), .int .i64 ((J : Nat) : Int), .pointer (some ⟨blk, off + (K + (J)) * 7, none⟩), _, _, _, _, _, _, _, _, _, _, _, _, _, _, _, _, _, _, _, _, _, _, _, _], defers := _ } _
                  refine alongK_read (.agg (vsA xv)) rfl rfl (fun wx hS => ex_elem rfl rfl hS R HDN.out HI.out.1 Hx.out) ?_
                  change AlongK _ _ _ _ _ { tmps := #[_, .func (.func 23) #[] #[], _, _, _, .int .i64 ((kk : Nat) : Int), .slice (some ⟨blk, off + (K) * 7, none⟩) (n - (K)) (cap - (K)), .int .i64 ((J : Nat) : Int), _, _, _, _, _, _, _, _, _, _, _, _, _, _, _, _, _, _, _, _, _, _, _, _, _, _, _, _, _, _, .func (.func 23) #[] #[], .slice (some ⟨blk, off + (K) * 7, none⟩) (n - (K)) (cap - (K)), .int .i64 ((J : Nat) : Int), .pointer (some ⟨blk, off + (K + (J)) * 7, none⟩), .agg (vsA xv), _, _, _, _, _, _, _, _, _, _, _, _, _, _, _, _, _, _, _, _, _, _, _], defers := _ } _
                  refine alongK_read (.slice (some ⟨blk, off + (K) * 7, none⟩) (n - (K)) (cap - (K))) rfl rfl (fun wx hS => ex_move (by rfl) (by rfl) wx) ?_
                  change AlongK _ _ _ _ _ { tmps := #[_, .func (.func 23) #[] #[], _, _, _, .int .i64 ((kk : Nat) : Int), .slice (some ⟨blk, off + (K) * 7, none⟩) (n - (K)) (cap - (K)), .int .i64 ((J : Nat) : Int), _, _, _, _, _, _, _, _, _, _, _, _, _, _, _, _, _, _, _, _, _, _, _, _, _, _, _, _, _, _, .func (.func 23) #[] #[], .slice (some ⟨blk, off + (K) * 7, none⟩) (n - (K)) (cap - (K)), .int .i64 ((J : Nat) : Int), .pointer (some ⟨blk, off + (K + (J)) * 7, none⟩), .agg (vsA xv), .slice (some ⟨blk, off + (K) * 7, none⟩) (n - (K)) (cap - (K)), _, _, _, _, _, _, _, _, _, _, _, _, _, _, _, _, _, _, _, _, _, _], defers := _ } _
                  refine alongK_read (.int .i64 ((J : Nat) : Int)) rfl rfl (fun wx hS => ex_move (by rfl) (by rfl) wx) ?_
                  change AlongK _ _ _ _ _ { tmps := #[_, .func (.func 23) #[] #[], _, _, _, .int .i64 ((kk : Nat) : Int), .slice (some ⟨blk, off + (K) * 7, none⟩) (n - (K)) (cap - (K)), .int .i64 ((J : Nat) : Int), _, _, _, _, _, _, _, _, _, _, _, _, _, _, _, _, _, _, _, _, _, _, _, _, _, _, _, _, _, _, .func (.func 23) #[] #[], .slice (some ⟨blk, off + (K) * 7, none⟩) (n - (K)) (cap - (K)), .int .i64 ((J : Nat) : Int), .pointer (some ⟨blk, off + (K + (J)) * 7, none⟩), .agg (vsA xv), .slice (some ⟨blk, off + (K) * 7, none⟩) (n - (K)) (cap - (K)), .int .i64 ((J : Nat) : Int), _, _, _, _, _, _, _, _, _, _, _, _, _, _, _, _, _, _, _, _, _], defers := _ } _
                  refine alongK_read (.int .i64 ((j : Nat) : Int)) rfl rfl (fun wx hS => ex_bin rfl rfl rfl wx (bin_dec2 _ _ j J hj1 hj2 (by omega) wx)) ?_
                  change AlongK _ _ _ _ _ { tmps := #[_, .func (.func 23) #[] #[], _, _, _, .int .i64 ((kk : Nat) : Int), .slice (some ⟨blk, off + (K) * 7, none⟩) (n - (K)) (cap - (K)), .int .i64 ((J : Nat) : Int), _, _, _, _, _, _, _, _, _, _, _, _, _, _, _, _, _, _, _, _, _, _, _, _, _, _, _, _, _, _, .func (.func 23) #[] #[], .slice (some ⟨blk, off + (K) * 7, none⟩) (n - (K)) (cap - (K)), .int .i64 ((J : Nat) : Int), .pointer (some ⟨blk, off + (K + (J)) * 7, none⟩), .agg (vsA xv), .slice (some ⟨blk, off + (K) * 7, none⟩) (n - (K)) (cap - (K)), .int .i64 ((J : Nat) : Int), .int .i64 ((j : Nat) : Int), _, _, _, _, _, _, _, _, _, _, _, _, _, _, _, _, _, _, _, _], defers := _ } _
                  refine alongK_read (.pointer (some ⟨blk, off + (K + (j)) * 7, none⟩)) rfl rfl (fun wx hS => ex_index2 (k := K) (j := j) rfl rfl rfl (by omega) (by omega) wx) ?_
                  change AlongK _ _ _ _ _ { tmps := #[_, .func (.func 23) #[] #[], _, _, _, .int .i64 ((kk : Nat) : Int), .slice (some ⟨blk, off + (K) * 7, none⟩) (n - (K)) (cap - (K)), .int .i64 ((J : Nat) : Int), _, _, _, _, _, _, _, _, _, _, _, _, _, _, _, _, _, _, _, _, _, _, _, _, _, _, _, _, _, _, .func (.func 23) #[] #[], .slice (some ⟨blk, off + (K) * 7, none⟩) (n - (K)) (cap - (K)), .int .i64 ((J : Nat) : Int), .pointer (some ⟨blk, off + (K + (J)) * 7, none⟩), .agg (vsA xv), .slice (some ⟨blk, off + (K) * 7, none⟩) (n - (K)) (cap - (K)), .int .i64 ((J : Nat) : Int), .int .i64 ((j : Nat) : Int), .pointer (some ⟨blk, off + (K + (j)) * 7, none⟩), _, _, _, _, _, _, _, _, _, _, _, _, _, _, _, _, _, _, _], defers := _ } _
                  refine alongK_read (.agg (vsA yv)) rfl rfl (fun wx hS => ex_elem rfl rfl hS R HDN.out HI.out.2 Hy.out) ?_
                  change AlongK _ _ _ _ _ { tmps := #[_, .func (.func 23) #[] #[], _, _, _, .int .i64 ((kk : Nat) : Int), .slice (some ⟨blk, off + (K) * 7, none⟩) (n - (K)) (cap - (K)), .int .i64 ((J : Nat) : Int), _, _, _, _, _, _, _, _, _, _, _, _, _, _, _, _, _, _, _, _, _, _, _, _, _, _, _, _, _, _, .func (.func 23) #[] #[], .slice (some ⟨blk, off + (K) * 7, none⟩) (n - (K)) (cap - (K)), .int .i64 ((J : Nat) : Int), .pointer (some ⟨blk, off + (K + (J)) * 7, none⟩), .agg (vsA xv), .slice (some ⟨blk, off + (K) * 7, none⟩) (n - (K)) (cap - (K)), .int .i64 ((J : Nat) : Int), .int .i64 ((j : Nat) : Int), .pointer (some ⟨blk, off + (K + (j)) * 7, none⟩), .agg (vsA yv), _, _, _, _, _, _, _, _, _, _, _, _, _, _, _, _, _, _], defers := _ } _
                  refine alongK_step ?_
                  refine opK_callv (vs := [.agg (vsA xv), .agg (vsA yv)]) (cb := #[]) rfl rfl rfl rfl (enters_of Try.func23 (by kernel_rfl) rfl) rfl ?_
                  with_reducible refine Calls.mono (HC.out _ HS.out.drew) ?_
                  rintro e w5 ⟨rfl, hS5⟩
                  refine ⟨_, rfl, (fun x => SW w0 blk off dk x), (fun _ h => h), hS5, ?_⟩
                  change AlongK _ _ _ _ _ { tmps := #[_, .func (.func 23) #[] #[], _, _, _, .int .i64 ((kk : Nat) : Int), .slice (some ⟨blk, off + (K) * 7, none⟩) (n - (K)) (cap - (K)), .int .i64 ((J : Nat) : Int), _, _, _, _, _, _, _, _, _, _, _, _, _, _, _, _, _, _, _, _, _, _, _, _, _, _, _, _, _, _, .func (.func 23) #[] #[], .slice (some ⟨blk, off + (K) * 7, none⟩) (n - (K)) (cap - (K)), .int .i64 ((J : Nat) : Int), .pointer (some ⟨blk, off + (K + (J)) * 7, none⟩), .agg (vsA xv), .slice (some ⟨blk, off + (K) * 7, none⟩) (n - (K)) (cap - (K)), .int .i64 ((J : Nat) : Int), .int .i64 ((j : Nat) : Int), .pointer (some ⟨blk, off + (K + (j)) * 7, none⟩), .agg (vsA yv), .bool true, _, _, _, _, _, _, _, _, _, _, _, _, _, _, _, _, _], defers := _ } _
                  refine alongK_read (.bool (!true)) rfl rfl (fun wx hS => ex_not rfl rfl wx) ?_
                  change AlongK _ _ _ _ _ { tmps := #[_, .func (.func 23) #[] #[], _, _, _, .int .i64 ((kk : Nat) : Int), .slice (some ⟨blk, off + (K) * 7, none⟩) (n - (K)) (cap - (K)), .int .i64 ((J : Nat) : Int), _, _, _, _, _, _, _, _, _, _, _, _, _, _, _, _, _, _, _, _, _, _, _, _, _, _, _, _, _, _, .func (.func 23) #[] #[], .slice (some ⟨blk, off + (K) * 7, none⟩) (n - (K)) (cap - (K)), .int .i64 ((J : Nat) : Int), .pointer (some ⟨blk, off + (K + (J)) * 7, none⟩), .agg (vsA xv), .slice (some ⟨blk, off + (K) * 7, none⟩) (n - (K)) (cap - (K)), .int .i64 ((J : Nat) : Int), .int .i64 ((j : Nat) : Int), .pointer (some ⟨blk, off + (K + (j)) * 7, none⟩), .agg (vsA yv), .bool true, .bool (!true), _, _, _, _, _, _, _, _, _, _, _, _, _, _, _, _], defers := _ } _
                  refine alongK_done ?_
                  focus
                    have HS5 := Lib.hid hS5
                    clear hS5
                    go_wp2
                    go_roundw
                    case rel => exact ⟨kk, J + 1, dk, rfl, by go_num, by omega, by omega, by omega, hdk, hkk, HS5, Lib.hid ⟨by rw [HL.out.1]; exact (HNX.out.1 (by rw [HX2.out.1, HX2.out.2, Hx.out, Hy.out]; exact HK.out)).symm, HDR2.out⟩⟩
                    case measure => simp [intOf]; omega
                · rw [show (vsK xv == vsK yv) = false by simpa using hB] at HC
                  have HK := Lib.hid hB
                  clear hB
                  refine region_alongK (fun x => SW w0 blk off dk x) (.read 0 (.read 1 (.read 2 (.read 3 (.read 4 (.read 5 (.read 6 (.read 7 (.read 8 (.read 9 (.step 10 (.read 11 (.nil))))))))))))) (by kernel_rfl) rfl (by kernel_rfl) (by kernel_rfl) (fun c a d v w h => by cases d <;> exact h) (HS.out.drew) ?_
                  refine alongK_read (.func (.func 23) #[] #[]) rfl rfl (fun wx hS => ex_move (by rfl) (by rfl) wx) ?_
                  change AlongK _ _ _ _ _ { tmps := #[_, .func (.func 23) #[] #[], _, _, _, .int .i64 ((kk : Nat) : Int), .slice (some ⟨blk, off + (K) * 7, none⟩) (n - (K)) (cap - (K)), .int .i64 ((J : Nat) : Int), _, _, _, _, _, _, _, _, _, _, _, _, _, _, _, _, _, _, _, _, _, _, _, _, _, _, _, _, _, _, .func (.func 23) #[] #[], _, _, _, _, _, _, _, _, _, _, _, _, _, _, _, _, _, _, _, _, _, _, _, _, _, _, _], defers := _ } _
                  refine alongK_read (.slice (some ⟨blk, off + (K) * 7, none⟩) (n - (K)) (cap - (K))) rfl rfl (fun wx hS => ex_move (by rfl) (by rfl) wx) ?_
                  change AlongK _ _ _ _ _ { tmps := #[_, .func (.func 23) #[] #[], _, _, _, .int .i64 ((kk : Nat) : Int), .slice (some ⟨blk, off + (K) * 7, none⟩) (n - (K)) (cap - (K)), .int .i64 ((J : Nat) : Int), _, _, _, _, _, _, _, _, _, _, _, _, _, _, _, _, _, _, _, _, _, _, _, _, _, _, _, _, _, _, .func (.func 23) #[] #[], .slice (some ⟨blk, off + (K) * 7, none⟩) (n - (K)) (cap - (K)), _, _, _, _, _, _, _, _, _, _, _, _, _, _, _, _, _, _, _, _, _, _, _, _, _, _], defers := _ } _
                  refine alongK_read (.int .i64 ((J : Nat) : Int)) rfl rfl (fun wx hS => ex_move (by rfl) (by rfl) wx) ?_
                  change AlongK _ _ _ _ _ { tmps := #[_, .func (.func 23) #[] #[], _, _, _, .int .i64 ((kk : Nat) : Int), .slice (some ⟨blk, off + (K) * 7, none⟩) (n - (K)) (cap - (K)), .int .i64 ((J : Nat) : Int), _, _, _, _, _, _, _, _, _, _, _, _, _, _, _, _, _, _, _, _, _, _, _, _, _, _, _, _, _, _, .func (.func 23) #[] #[], .slice (some ⟨blk, off + (K) * 7, none⟩) (n - (K)) (cap - (K)), .int .i64 ((J : Nat) : Int), _, _, _, _, _, _, _, _, _, _, _, _, _, _, _, _, _, _, _, _, _, _, _, _, _], defers := _ } _
                  refine alongK_read (.pointer (some ⟨blk, off + (K + (J)) * 7, none⟩)) rfl rfl (fun wx hS => ex_index2 (k := K) (j := J) rfl rfl rfl (by omega) (by omega) wx) ?_
                  change AlongK _ _ _ _ _ { tmps := #[_, .func (.func 23) #[] #[], _, _, _, .int .i64 ((kk : Nat) : Int), .slice (some ⟨blk, off + (K) * 7, none⟩) (n - (K)) (cap - (K)), .int .i64 ((J : Nat) : Int), _, _, _, _, _, _, _, _, _, _, _, _, _, _, _, _, _, _, _, _, _, _, _, _, _, _, _, _, _, _, .func (.func 23) #[] #[], .slice (some ⟨blk, off + (K) * 7, none⟩) (n - (K)) (cap - (K)), .int .i64 ((J : Nat) : Int), .pointer (some ⟨blk, off + (K + (J)) * 7, none⟩), _, _, _, _, _, _, _, _, _, _, _, _, _, _, _, _, _, _, _, _, _, _, _, _], defers := _ } _
                  refine alongK_read (.agg (vsA xv)) rfl rfl (fun wx hS => ex_elem rfl rfl hS R HDN.out HI.out.1 Hx.out) ?_
                  change AlongK _ _ _ _ _ { tmps := #[_, .func (.func 23) #[] #[], _, _, _, .int .i64 ((kk : Nat) : Int), .slice (some ⟨blk, off + (K) * 7, none⟩) (n - (K)) (cap - (K)), .int .i64 ((J : Nat) : Int), _, _, _, _, _, _, _, _, _, _, _, _, _, _, _, _, _, _, _, _, _, _, _, _, _, _, _, _, _, _, .func (.func 23) #[] #[], .slice (some ⟨blk, off + (K) * 7, none⟩) (n - (K)) (cap - (K)), .int .i64 ((J : Nat) : Int), .pointer (some ⟨blk, off + (K + (J)) * 7, none⟩), .agg (vsA xv), _, _, _, _, _, _, _, _, _, _, _, _, _, _, _, _, _, _, _, _, _, _, _], defers := _ } _
                  refine alongK_read (.slice (some ⟨blk, off + (K) * 7, none⟩) (n - (K)) (cap - (K))) rfl rfl (fun wx hS => ex_move (by rfl) (by rfl) wx) ?_
                  change AlongK _ _ _ _ _ { tmps := #[_, .func (.func 23) #[] #[], _, _, _, .int .i64 ((kk : Nat) : Int), .slice (some ⟨blk, off + (K) * 7, none⟩) (n - (K)) (cap - (K)), .int .i64 ((J : Nat) : Int), _, _, _, _, _, _, _, _, _, _, _, _, _, _, _, _, _, _, _, _, _, _, _, _, _, _, _, _, _, _, .func (.func 23) #[] #[], .slice (some ⟨blk, off + (K) * 7, none⟩) (n - (K)) (cap - (K)), .int .i64 ((J : Nat) : Int), .pointer (some ⟨blk, off + (K + (J)) * 7, none⟩), .agg (vsA xv), .slice (some ⟨blk, off + (K) * 7, none⟩) (n - (K)) (cap - (K)), _, _, _, _, _, _, _, _, _, _, _, _, _, _, _, _, _, _, _, _, _, _], defers := _ } _
                  refine alongK_read (.int .i64 ((J : Nat) : Int)) rfl rfl (fun wx hS => ex_move (by rfl) (by rfl) wx) ?_
                  change AlongK _ _ _ _ _ { tmps := #[_, .func (.func 23) #[] #[], _, _, _, .int .i64 ((kk : Nat) : Int), .slice (some ⟨blk, off + (K) * 7, none⟩) (n - (K)) (cap - (K)), .int .i64 ((J : Nat) : Int), _, _, _, _, _, _, _, _, _, _, _, _, _, _, _, _, _, _, _, _, _, _, _, _, _, _, _, _, _, _, .func (.func 23) #[] #[], .slice (some ⟨blk, off + (K) * 7, none⟩) (n - (K)) (cap - (K)), .int .i64 ((J : Nat) : Int), .pointer (some ⟨blk, off + (K + (J)) * 7, none⟩), .agg (vsA xv), .slice (some ⟨blk, off + (K) * 7, none⟩) (n - (K)) (cap - (K)), .int .i64 ((J : Nat) : Int), _, _, _, _, _, _, _, _, _, _, _, _, _, _, _, _, _, _, _, _, _], defers := _ } _
                  refine alongK_read (.int .i64 ((j : Nat) : Int)) rfl rfl (fun wx hS => ex_bin rfl rfl rfl wx (bin_dec2 _ _ j J hj1 hj2 (by omega) wx)) ?_
                  change AlongK _ _ _ _ _ { tmps := #[_, .func (.func 23) #[] #[], _, _, _, .int .i64 ((kk : Nat) : Int), .slice (some ⟨blk, off + (K) * 7, none⟩) (n - (K)) (cap - (K)), .int .i64 ((J : Nat) : Int), _, _, _, _, _, _, _, _, _, _, _, _, _, _, _, _, _, _, _, _, _, _, _, _, _, _, _, _, _, _, .func (.func 23) #[] #[], .slice (some ⟨blk, off + (K) * 7, none⟩) (n - (K)) (cap - (K)), .int .i64 ((J : Nat) : Int), .pointer (some ⟨blk, off + (K + (J)) * 7, none⟩), .agg (vsA xv), .slice (some ⟨blk, off + (K) * 7, none⟩) (n - (K)) (cap - (K)), .int .i64 ((J : Nat) : Int), .int .i64 ((j : Nat) : Int), _, _, _, _, _, _, _, _, _, _, _, _, _, _, _, _, _, _, _, _], defers := _ } _
                  refine alongK_read (.pointer (some ⟨blk, off + (K + (j)) * 7, none⟩)) rfl rfl (fun wx hS => ex_index2 (k := K) (j := j) rfl rfl rfl (by omega) (by omega) wx) ?_
                  change AlongK _ _ _ _ _ { tmps := #[_, .func (.func 23) #[] #[], _, _, _, .int .i64 ((kk : Nat) : Int), .slice (some ⟨blk, off + (K) * 7, none⟩) (n - (K)) (cap - (K)), .int .i64 ((J : Nat) : Int), _, _, _, _, _, _, _, _, _, _, _, _, _, _, _, _, _, _, _, _, _, _, _, _, _, _, _, _, _, _, .func (.func 23) #[] #[], .slice (some ⟨blk, off + (K) * 7, none⟩) (n - (K)) (cap - (K)), .int .i64 ((J : Nat) : Int), .pointer (some ⟨blk, off + (K + (J)) * 7, none⟩), .agg (vsA xv), .slice (some ⟨blk, off + (K) * 7, none⟩) (n - (K)) (cap - (K)), .int .i64 ((J : Nat) : Int), .int .i64 ((j : Nat) : Int), .pointer (some ⟨blk, off + (K + (j)) * 7, none⟩), _, _, _, _, _, _, _, _, _, _, _, _, _, _, _, _, _, _, _], defers := _ } _
                  refine alongK_read (.agg (vsA yv)) rfl rfl (fun wx hS => ex_elem rfl rfl hS R HDN.out HI.out.2 Hy.out) ?_
                  change AlongK _ _ _ _ _ { tmps := #[_, .func (.func 23) #[] #[], _, _, _, .int .i64 ((kk : Nat) : Int), .slice (some ⟨blk, off + (K) * 7, none⟩) (n - (K)) (cap - (K)), .int .i64 ((J : Nat) : Int), _, _, _, _, _, _, _, _, _, _, _, _, _, _, _, _, _, _, _, _, _, _, _, _, _, _, _, _, _, _, .func (.func 23) #[] #[], .slice (some ⟨blk, off + (K) * 7, none⟩) (n - (K)) (cap - (K)), .int .i64 ((J : Nat) : Int), .pointer (some ⟨blk, off + (K + (J)) * 7, none⟩), .agg (vsA xv), .slice (some ⟨blk, off + (K) * 7, none⟩) (n - (K)) (cap - (K)), .int .i64 ((J : Nat) : Int), .int .i64 ((j : Nat) : Int), .pointer (some ⟨blk, off + (K + (j)) * 7, none⟩), .agg (vsA yv), _, _, _, _, _, _, _, _, _, _, _, _, _, _, _, _, _, _], defers := _ } _
                  refine alongK_step ?_
                  refine opK_callv (vs := [.agg (vsA xv), .agg (vsA yv)]) (cb := #[]) rfl rfl rfl rfl (enters_of Try.func23 (by kernel_rfl) rfl) rfl ?_
                  with_reducible refine Calls.mono (HC.out _ HS.out.drew) ?_
                  rintro e w5 ⟨rfl, hS5⟩
                  refine ⟨_, rfl, (fun x => SW w0 blk off dk x), (fun _ h => h), hS5, ?_⟩
                  change AlongK _ _ _ _ _ { tmps := #[_, .func (.func 23) #[] #[], _, _, _, .int .i64 ((kk : Nat) : Int), .slice (some ⟨blk, off + (K) * 7, none⟩) (n - (K)) (cap - (K)), .int .i64 ((J : Nat) : Int), _, _, _, _, _, _, _, _, _, _, _, _, _, _, _, _, _, _, _, _, _, _, _, _, _, _, _, _, _, _, .func (.func 23) #[] #[], .slice (some ⟨blk, off + (K) * 7, none⟩) (n - (K)) (cap - (K)), .int .i64 ((J : Nat) : Int), .pointer (some ⟨blk, off + (K + (J)) * 7, none⟩), .agg (vsA xv), .slice (some ⟨blk, off + (K) * 7, none⟩) (n - (K)) (cap - (K)), .int .i64 ((J : Nat) : Int), .int .i64 ((j : Nat) : Int), .pointer (some ⟨blk, off + (K + (j)) * 7, none⟩), .agg (vsA yv), .bool false, _, _, _, _, _, _, _, _, _, _, _, _, _, _, _, _, _], defers := _ } _
                  refine alongK_read (.bool (!false)) rfl rfl (fun wx hS => ex_not rfl rfl wx) ?_
                  change AlongK _ _ _ _ _ { tmps := #[_, .func (.func 23) #[] #[], _, _, _, .int .i64 ((kk : Nat) : Int), .slice (some ⟨blk, off + (K) * 7, none⟩) (n - (K)) (cap - (K)), .int .i64 ((J : Nat) : Int), _, _, _, _, _, _, _, _, _, _, _, _, _, _, _, _, _, _, _, _, _, _, _, _, _, _, _, _, _, _, .func (.func 23) #[] #[], .slice (some ⟨blk, off + (K) * 7, none⟩) (n - (K)) (cap - (K)), .int .i64 ((J : Nat) : Int), .pointer (some ⟨blk, off + (K + (J)) * 7, none⟩), .agg (vsA xv), .slice (some ⟨blk, off + (K) * 7, none⟩) (n - (K)) (cap - (K)), .int .i64 ((J : Nat) : Int), .int .i64 ((j : Nat) : Int), .pointer (some ⟨blk, off + (K + (j)) * 7, none⟩), .agg (vsA yv), .bool false, .bool (!false), _, _, _, _, _, _, _, _, _, _, _, _, _, _, _, _], defers := _ } _
                  refine alongK_done ?_
                  focus
                    have HS5 := Lib.hid hS5
                    clear hS5
                    have hkn : kk < n := by omega
                    have HP5 := Lib.hid (SWK.put HS5.out R kk (by omega) xv)
                    have HQ7 : Hid (∀ (o : Oper) (ρ : Operand → Value) (x' : Operand), o.op = .load 38 x' → ρ x' = .pointer (some ⟨blk, off + (K) * 7 + (J) * 7, none⟩) → (execOp ρ o).run Try.prog w5 = .ok (.value (.agg (vsA xv))) w5) := fun o ρ x' h1 h2 => ex_elem h1 (i := K + J) (by rw [h2, show off + (K) * 7 + (J) * 7 = off + (K + J) * 7 by omega]) HS5.out R HDN.out HI.out.1 Hx.out
                    have HQ := Lib.hid (fun (o : Oper) (ρ : Operand → Value) (x' y' : Operand) (h1 : o.op = .store 38 x' y') (h2 : ρ x' = .pointer (some ⟨blk, off + kk * 7, none⟩)) (h3 : ρ y' = .agg (vsA xv)) => ex_put h1 h2 xv h3 HS5.out R HDN.out (show kk < dk.size by omega))
                    go_wp2_with (first | (refine wpList_exs rfl _ (HQ.out _ _ (.tmp 56) (.tmp 55) rfl rfl rfl) ?_; generalize w5.setCells blk (off + kk * 7) (vsC xv) = w6 at HP5 ⊢; clear HQ HQ7) | (refine wpList_ex rfl (.agg (vsA xv)) _ (HQ7.out _ _ (.tmp 54) rfl rfl) ?_))
                    go_roundw
                    case rel => exact ⟨kk + 1, J + 1, dk.setIfInBounds kk xv, by go_num, by go_num, by omega, by omega, by omega, by rw [Array.size_setIfInBounds]; exact hdk, by omega, HP5, Lib.hid ⟨by rw [take_set (by omega), HL.out.1]; exact ((HNX.out.2 (by rw [HX2.out.1, HX2.out.2, Hx.out, Hy.out]; exact HK.out)).trans (by rw [HX2.out.1, Hx.out])).symm, by rw [show K + (J + 1) - 1 = K + J by omega, drop_set (by omega)]; exact HDR2.out⟩⟩
                    case measure => simp [intOf]; omega
              · have hjq : K + J = n := by omega
                obtain ⟨d', e1, e2, e3, e4⟩ := sw_zero HS.out R HDN.out kk (n - kk) (by omega)
                have HZ := Lib.hid (And.intro e1 (And.intro e2 e4))
                have HQ := Lib.hid (fun (o : Oper) (ρ : Operand → Value) (x' : Operand) (c : Nat) (h1 : o.op = .call { callee := .builtin .clear, args := #[x'], argTypes := #[22] }) (h2 : ρ x' = .slice (some ⟨blk, off + kk * 7, none⟩) (n - kk) c) => ex_clear h1 h2 (show n - kk ≠ 0 by omega) e3)
                clear e1 e2 e3 e4
                have hz4 : ¬ (J : Int) < ((n - (K) : Nat) : Int) := by omega
                have r1 : (n : Int) - kk = ((n - kk : Nat) : Int) := by omega
                have r2 : (kk : Int) ≤ (n : Int) := by omega
                have r3 : (kk : Int) ≤ (cap : Int) := by omega
                have r4 : (kk : Int) < (cap : Int) := by omega
                go_wp2_with (refine wpList_ex rfl (.tuple #[]) _ (HQ.out _ _ (.tmp 61) _ rfl rfl) ?_; generalize wr.setCells blk (off + kk * 7) (Builtin.zeroCells (vsA default) (n - kk)).toList = w3 at HZ ⊢; clear HQ)
                go_ret
                refine ⟨kk, d', rfl, by omega, HZ.out.2.2, HZ.out.1.trans hdk, ?_⟩
                rw [HZ.out.2.1, HL.out.1, hjq, HALL.out]
        · rw [show (vsK xv == vsK yv) = false by simpa using hB] at HC
          have HK := Lib.hid hB
          clear hB
          refine region_alongK (fun x => SW w0 blk off d x) (.read 0 (.read 1 (.read 2 (.read 3 (.read 4 (.read 5 (.read 6 (.read 7 (.read 8 (.read 9 (.step 10 (.nil)))))))))))) (by kernel_rfl) rfl (by kernel_rfl) (by kernel_rfl) (fun c a d v w h => by cases d <;> exact h) (HS.out.drew) ?_
          refine alongK_read (.func (.func 23) #[] #[]) rfl rfl (fun wx hS => ex_move (by rfl) (by rfl) wx) ?_
          change AlongK _ _ _ _ _ { tmps := #[.slice (some ⟨blk, off, none⟩) n cap, .func (.func 23) #[] #[], _, _, _, .int .i64 ((K : Nat) : Int), _, _, _, _, _, _, _, _, _, _, _, _, .func (.func 23) #[] #[], _, _, _, _, _, _, _, _, _, _, _, _, _, _, _, _, _, _, _, _, _, _, _, _, _, _, _, _, _, _, _, _, _, _, _, _, _, _, _, _, _, _, _, _, _, _, _], defers := _ } _
          refine alongK_read (.slice (some ⟨blk, off, none⟩) n cap) rfl rfl (fun wx hS => ex_move (by rfl) (by rfl) wx) ?_
          change AlongK _ _ _ _ _ { tmps := #[.slice (some ⟨blk, off, none⟩) n cap, .func (.func 23) #[] #[], _, _, _, .int .i64 ((K : Nat) : Int), _, _, _, _, _, _, _, _, _, _, _, _, .func (.func 23) #[] #[], .slice (some ⟨blk, off, none⟩) n cap, _, _, _, _, _, _, _, _, _, _, _, _, _, _, _, _, _, _, _, _, _, _, _, _, _, _, _, _, _, _, _, _, _, _, _, _, _, _, _, _, _, _, _, _, _, _], defers := _ } _
          refine alongK_read (.int .i64 ((K : Nat) : Int)) rfl rfl (fun wx hS => ex_move (by rfl) (by rfl) wx) ?_
          change AlongK _ _ _ _ _ { tmps := #[.slice (some ⟨blk, off, none⟩) n cap, .func (.func 23) #[] #[], _, _, _, .int .i64 ((K : Nat) : Int), _, _, _, _, _, _, _, _, _, _, _, _, .func (.func 23) #[] #[], .slice (some ⟨blk, off, none⟩) n cap, .int .i64 ((K : Nat) : Int), _, _, _, _, _, _, _, _, _, _, _, _, _, _, _, _, _, _, _, _, _, _, _, _, _, _, _, _, _, _, _, _, _, _, _, _, _, _, _, _, _, _, _, _, _], defers := _ } _
          refine alongK_read (.pointer (some ⟨blk, off + (K) * 7, none⟩)) rfl rfl (fun wx hS => ex_index Try.underlying22 Try.sizeOf38 rfl rfl rfl (by omega) wx) ?_
          change AlongK _ _ _ _ _ { tmps := #[.slice (some ⟨blk, off, none⟩) n cap, .func (.func 23) #[] #[], _, _, _, .int .i64 ((K : Nat) : Int), _, _, _, _, _, _, _, _, _, _, _, _, .func (.func 23) #[] #[], .slice (some ⟨blk, off, none⟩) n cap, .int .i64 ((K : Nat) : Int), .pointer (some ⟨blk, off + (K) * 7, none⟩), _, _, _, _, _, _, _, _, _, _, _, _, _, _, _, _, _, _, _, _, _, _, _, _, _, _, _, _, _, _, _, _, _, _, _, _, _, _, _, _, _, _, _, _], defers := _ } _
          refine alongK_read (.agg (vsA xv)) rfl rfl (fun wx hS => ex_elem rfl rfl hS R rfl HI.out.1 Hx.out) ?_
          change AlongK _ _ _ _ _ { tmps := #[.slice (some ⟨blk, off, none⟩) n cap, .func (.func 23) #[] #[], _, _, _, .int .i64 ((K : Nat) : Int), _, _, _, _, _, _, _, _, _, _, _, _, .func (.func 23) #[] #[], .slice (some ⟨blk, off, none⟩) n cap, .int .i64 ((K : Nat) : Int), .pointer (some ⟨blk, off + (K) * 7, none⟩), .agg (vsA xv), _, _, _, _, _, _, _, _, _, _, _, _, _, _, _, _, _, _, _, _, _, _, _, _, _, _, _, _, _, _, _, _, _, _, _, _, _, _, _, _, _, _, _], defers := _ } _
          refine alongK_read (.slice (some ⟨blk, off, none⟩) n cap) rfl rfl (fun wx hS => ex_move (by rfl) (by rfl) wx) ?_
          change AlongK _ _ _ _ _ { tmps := #[.slice (some ⟨blk, off, none⟩) n cap, .func (.func 23) #[] #[], _, _, _, .int .i64 ((K : Nat) : Int), _, _, _, _, _, _, _, _, _, _, _, _, .func (.func 23) #[] #[], .slice (some ⟨blk, off, none⟩) n cap, .int .i64 ((K : Nat) : Int), .pointer (some ⟨blk, off + (K) * 7, none⟩), .agg (vsA xv), .slice (some ⟨blk, off, none⟩) n cap, _, _, _, _, _, _, _, _, _, _, _, _, _, _, _, _, _, _, _, _, _, _, _, _, _, _, _, _, _, _, _, _, _, _, _, _, _, _, _, _, _, _], defers := _ } _
          refine alongK_read (.int .i64 ((K : Nat) : Int)) rfl rfl (fun wx hS => ex_move (by rfl) (by rfl) wx) ?_
          change AlongK _ _ _ _ _ { tmps := #[.slice (some ⟨blk, off, none⟩) n cap, .func (.func 23) #[] #[], _, _, _, .int .i64 ((K : Nat) : Int), _, _, _, _, _, _, _, _, _, _, _, _, .func (.func 23) #[] #[], .slice (some ⟨blk, off, none⟩) n cap, .int .i64 ((K : Nat) : Int), .pointer (some ⟨blk, off + (K) * 7, none⟩), .agg (vsA xv), .slice (some ⟨blk, off, none⟩) n cap, .int .i64 ((K : Nat) : Int), _, _, _, _, _, _, _, _, _, _, _, _, _, _, _, _, _, _, _, _, _, _, _, _, _, _, _, _, _, _, _, _, _, _, _, _, _, _, _, _, _], defers := _ } _
          refine alongK_read (.int .i64 ((k : Nat) : Int)) rfl rfl (fun wx hS => ex_bin rfl rfl rfl wx (bin_dec2 _ _ k K hK1 hK2 (by omega) wx)) ?_
          change AlongK _ _ _ _ _ { tmps := #[.slice (some ⟨blk, off, none⟩) n cap, .func (.func 23) #[] #[], _, _, _, .int .i64 ((K : Nat) : Int), _, _, _, _, _, _, _, _, _, _, _, _, .func (.func 23) #[] #[], .slice (some ⟨blk, off, none⟩) n cap, .int .i64 ((K : Nat) : Int), .pointer (some ⟨blk, off + (K) * 7, none⟩), .agg (vsA xv), .slice (some ⟨blk, off, none⟩) n cap, .int .i64 ((K : Nat) : Int), .int .i64 ((k : Nat) : Int), _, _, _, _, _, _, _, _, _, _, _, _, _, _, _, _, _, _, _, _, _, _, _, _, _, _, _, _, _, _, _, _, _, _, _, _, _, _, _, _], defers := _ } _
          refine alongK_read (.pointer (some ⟨blk, off + (k) * 7, none⟩)) rfl rfl (fun wx hS => ex_index Try.underlying22 Try.sizeOf38 rfl rfl rfl (by omega) wx) ?_
          change AlongK _ _ _ _ _ { tmps := #[.slice (some ⟨blk, off, none⟩) n cap, .func (.func 23) #[] #[], _, _, _, .int .i64 ((K : Nat) : Int), _, _, _, _, _, _, _, _, _, _, _, _, .func (.func 23) #[] #[], .slice (some ⟨blk, off, none⟩) n cap, .int .i64 ((K : Nat) : Int), .pointer (some ⟨blk, off + (K) * 7, none⟩), .agg (vsA xv), .slice (some ⟨blk, off, none⟩) n cap, .int .i64 ((K : Nat) : Int), .int .i64 ((k : Nat) : Int), .pointer (some ⟨blk, off + (k) * 7, none⟩), _, _, _, _, _, _, _, _, _, _, _, _, _, _, _, _, _, _, _, _, _, _, _, _, _, _, _, _, _, _, _, _, _, _, _, _, _, _, _], defers := _ } _
          refine alongK_read (.agg (vsA yv)) rfl rfl (fun wx hS => ex_elem rfl rfl hS R rfl HI.out.2 Hy.out) ?_
          change AlongK _ _ _ _ _ { tmps := #[.slice (some ⟨blk, off, none⟩) n cap, .func (.func 23) #[] #[], _, _, _, .int .i64 ((K : Nat) : Int), _, _, _, _, _, _, _, _, _, _, _, _, .func (.func 23) #[] #[], .slice (some ⟨blk, off, none⟩) n cap, .int .i64 ((K : Nat) : Int), .pointer (some ⟨blk, off + (K) * 7, none⟩), .agg (vsA xv), .slice (some ⟨blk, off, none⟩) n cap, .int .i64 ((K : Nat) : Int), .int .i64 ((k : Nat) : Int), .pointer (some ⟨blk, off + (k) * 7, none⟩), .agg (vsA yv), _, _, _, _, _, _, _, _, _, _, _, _, _, _, _, _, _, _, _, _, _, _, _, _, _, _, _, _, _, _, _, _, _, _, _, _, _, _], defers := _ } _
          refine alongK_step ?_
          refine opK_callv (vs := [.agg (vsA xv), .agg (vsA yv)]) (cb := #[]) rfl rfl rfl rfl (enters_of Try.func23 (by kernel_rfl) rfl) rfl ?_
          with_reducible refine Calls.mono (HC.out _ HS.out.drew) ?_
          rintro e w5 ⟨rfl, hS5⟩
          refine ⟨_, rfl, (fun x => SW w0 blk off d x), (fun _ h => h), hS5, ?_⟩
          change AlongK _ _ _ _ _ { tmps := #[.slice (some ⟨blk, off, none⟩) n cap, .func (.func 23) #[] #[], _, _, _, .int .i64 ((K : Nat) : Int), _, _, _, _, _, _, _, _, _, _, _, _, .func (.func 23) #[] #[], .slice (some ⟨blk, off, none⟩) n cap, .int .i64 ((K : Nat) : Int), .pointer (some ⟨blk, off + (K) * 7, none⟩), .agg (vsA xv), .slice (some ⟨blk, off, none⟩) n cap, .int .i64 ((K : Nat) : Int), .int .i64 ((k : Nat) : Int), .pointer (some ⟨blk, off + (k) * 7, none⟩), .agg (vsA yv), .bool false, _, _, _, _, _, _, _, _, _, _, _, _, _, _, _, _, _, _, _, _, _, _, _, _, _, _, _, _, _, _, _, _, _, _, _, _, _], defers := _ } _
          refine alongK_done ?_
          focus
            have HS5 := Lib.hid hS5
            clear hS5
            go_wp2
            go_roundw
            case rel => exact ⟨K + 1, by go_num, by omega, by omega, HS5, Lib.hid (fun i h1 h3 => (Nat.lt_succ_iff_lt_or_eq.1 h3).elim (HP.out i h1) (fun e => by subst e; rw [Hx.out, show i - 1 = k by omega, Hy.out]; exact HK.out))⟩
            case measure => simp [intOf]; omega
      · obtain rfl : K = n := by omega
        go_wp2
        go_ret
        refine ⟨K, d, rfl, Nat.le_refl _, HS.out, HN.out, ?_⟩
        have := cpt_all d K (by rw [HN.out]; exact Nat.le_refl _) HP.out
        rw [HALL.out] at this
        rw [HALL.out, this]
end
end Go.Proofs.Ytnnjoeppcbbblaa
