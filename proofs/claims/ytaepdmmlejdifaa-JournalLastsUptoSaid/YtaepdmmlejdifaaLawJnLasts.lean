import Derived.Test.YtaepdmmlejdifaaAlong
import Derived.Test.YtaepdmmlejdifaaJnRef
import Derived.Test.YtaepdmmlejdifaaJnWrite
/-
  JournalLasts: the walk.
-/
namespace Go.Proofs.Ytaepdmmlejdifaa
set_option maxRecDepth 100000
section
set_option linter.unusedVariables false
open Go.RowKit

theorem ex_cutT {P : Program} {t : TypeId} {o : Oper} {x : Operand} {lo hi : Option Operand} {ρ : Operand → Value} {sv v : Value} {lv hv : Option Value} (hop : o.op = .slice t x lo hi none) (hx : ρ x = sv) (hl : lo.map ρ = lv) (hh : hi.map ρ = hv) (w : World) (hr : (Instr.sliceAt t sv lv hv none).run P w = .ok v w) : (execOp ρ o).run P w = .ok (.value v) w := by
  simp [execOp, hop, hx, hl, hh, hr, Result.andThen]
/-- s[:k], of slices -/
theorem cut_preR (a : Option Addr) (n c k : Nat) (hk : k ≤ n) (hn : n ≤ c) (w : World) : (Instr.sliceAt 26 (.slice a n c) none (some (.int .i64 k)) none).run Try.prog w = .ok (.slice a k c) w := by
  have h1 : (Instr.slice 26 (.slice a n c) none (some (.int .i64 k)) none).run Try.prog w = .ok (.slice a k c) w := by
    have hs : (sizeOf 22).run Try.prog w = .ok 1 w := by simp [go_sem]
    have h0 : (k : Int) ≤ (c : Int) := by omega
    simp [Instr.slice, run_underlying (P := Try.prog) (w := w) Try.underlying26, Instr.sliceBounds, run_sliceBound, go_sem, h0]
  simpa [Instr.sliceAt, run_underlying (P := Try.prog) (w := w) Try.underlying26] using h1
theorem Rows8.pre {W : World} {a : Option Addr} {n c : Nat} {ls : List (List Int)} (h : Rows8 W (.slice a n c) ls) (k : Nat) (hk : k ≤ ls.length) : Rows8 W (.slice a k c) (ls.take k) := by
  obtain ⟨a', c', he, h2, h3, h4⟩ := h
  simp only [Value.slice.injEq] at he
  obtain ⟨rfl, rfl, rfl⟩ := he
  have hl : (ls.take k).length = k := by rw [List.length_take]; omega
  refine ⟨a, c, by rw [hl], by rw [hl]; omega, h3, h4.imp (fun e => by rw [e]; simp) ?_⟩
  rintro ⟨b, off, rfl, hc⟩
  refine ⟨b, off, rfl, fun j hj => ?_⟩
  rw [hl] at hj
  rw [List.getElem?_take, if_pos hj]
  exact hc j (by omega)
theorem add_to (x y : Operand) (k M : Nat) (hM : M = k + 1) (hk : k ≤ 1000000000) (w : World) : (do eqGuard .add 3 x y (.int .i64 (k : Int)) (.int .i64 1); binOp .add 3 (.int .i64 (k : Int)) (.int .i64 1) : Sem Value).run Try.prog w = .ok (.int .i64 (M : Int)) w := by
  subst hM
  simp [eqGuard, go_sem]
  rw [IntKind.wrap_i64]
  omega
/-- the values that a slice of slices holds -/
theorem Rows8.vals {W : World} {v : Value} {ls : List (List Int)} (h : Rows8 W v ls) : ∃ (a : Option Addr) (c : Nat) (us : List Value), v = .slice a ls.length c ∧ us.length = ls.length ∧ (a = none → ls.length = 0 ∧ c = 0) ∧ (∀ ad, a = some ad → ∀ j u, us[j]? = some u → W.cell? (ad.add j) = some u) ∧
    (∀ j, j < ls.length → Ints .u8 W (us.getD j undef) (ls[j]?.getD [])) ∧ (∀ u ∈ us, u.oneCell' = true) := by
  obtain ⟨a, c, rfl, h2, h3, h4⟩ := h
  rcases h4 with rfl | ⟨b, off, rfl, hc⟩
  · exact ⟨a, c, [], rfl, rfl, fun e => ⟨rfl, h3 e⟩, fun ad _ j u hj => by simp at hj, fun j hj => by simp at hj, fun u hu => by simp at hu⟩
  · let f : Nat → Value := fun j => (W.cell? ⟨b, off + j, none⟩).getD undef
    have hf : ∀ j, j < ls.length → W.cell? ⟨b, off + j, none⟩ = some (f j) ∧ Ints .u8 W (f j) (ls[j]?.getD []) := fun j hj => by
      obtain ⟨u, h5, h6⟩ := hc j hj
      have e : f j = u := by show (W.cell? ⟨b, off + j, none⟩).getD undef = u; rw [h5]; rfl
      rw [e]; exact ⟨h5, h6⟩
    refine ⟨_, c, (List.range ls.length).map f, rfl, by simp, (fun e => by cases e), ?_, ?_, ?_⟩
    · intro ad e j u hj
      cases e
      have hj' : j < ls.length := by simpa using (List.getElem?_eq_some_iff.1 hj).1
      have h2 : ((⟨b, off, none⟩ : Addr).add j) = ⟨b, off + j, none⟩ := by unfold Addr.add; split <;> simp_all
      rw [h2, (hf j hj').1]
      simpa [hj'] using hj
    · intro j hj
      have e : ((List.range ls.length).map f).getD j undef = f j := by simp [List.getD, hj]
      rw [e]; exact (hf j hj).2
    · intro u hu
      obtain ⟨j, hj, rfl⟩ := List.mem_map.1 hu
      obtain ⟨_, _, e, _⟩ := (hf j (by simpa using hj)).2
      rw [e]; rfl
theorem getD_two {us vs : List Value} {ls ms : List (List Int)} (h1 : us.length = ls.length) (h2 : vs.length = ms.length) {p : Value → List Int → Prop} (ha : ∀ j, j < ls.length → p (us.getD j undef) (ls[j]?.getD [])) (hb : ∀ j, j < ms.length → p (vs.getD j undef) (ms[j]?.getD [])) :
    ∀ j, j < (ls ++ ms).length → p ((us ++ vs).getD j undef) ((ls ++ ms)[j]?.getD []) := by
  intro j hj
  rw [List.length_append] at hj
  by_cases h : j < ls.length
  · rw [List.getElem?_append_left h, show (us ++ vs).getD j undef = us.getD j undef from by simp [List.getD, List.getElem?_append_left (show j < us.length by omega)]]
    exact ha j h
  · rw [List.getElem?_append_right (by omega), show (us ++ vs).getD j undef = vs.getD (j - ls.length) undef from by simp [List.getD, List.getElem?_append_right (show us.length ≤ j by omega), h1]]
    exact hb _ (by omega)
/-- one record in a slice of its own, away from the disk -/
theorem one_rec {b0 g : Nat} {o : Value} {room fl : Nat} {bs cs : List Int} {w W : World} {u : Value} (hd : Dk W b0 g o room fl bs) (hb : b0 = w.heap.size) (hU : Up w W) (hc : Ints .u8 w u cs) :
    RowsF (fun b => ¬ WrS g o b) (W.alloc (.cells #[u] 22)) (.slice (some ⟨W.heap.size, 0, none⟩) 1 1) [cs] := by
  subst hb
  have hdu := dk_up hd
  have hua : Up W (W.alloc (.cells #[u] 22)) := Up.alloc (Up.refl W) _
  refine ⟨_, 1, rfl, Nat.le_refl _, by simp, .inr ⟨W.heap.size, 0, rfl, fun e => by have := hdu _ e; omega, fun j hj => ?_⟩⟩
  obtain rfl : j = 0 := by simpa using hj
  refine ⟨u, by rw [World.cell?_alloc_new]; rfl, ?_⟩
  have h9 : IntsF (fun b => b < w.heap.size) w u cs := IntsF.of hc (fun b hb => hb)
  exact ((h9.up hU).up hua).weak fun b hb _ e => by
    rcases e with e | e
    · have := hd.base; omega
    · have := (hd.row.lt b e).1; omega

set_option maxHeartbeats 4000000 in
theorem lawJnLasts_any (va vb vc : Value) (xs bs : List (List Int)) (cs : List Int) (keep : Int) (w : World) (ha : Rows8 w va xs) (hb : Rows8 w vb bs) (hc : Ints .u8 w vc cs)
    (ua : ∀ j, j < xs.length → U8s (xs[j]?.getD [])) (ub : ∀ j, j < bs.length → U8s (bs[j]?.getD [])) (uc : U8s cs) (na : xs.length ≤ 1048576) (la : xs.flatten.length ≤ 1048576) (nb : bs.length ≤ 1048576) (lb : bs.flatten.length ≤ 1048576) (lc : cs.length ≤ 1048576) :
    Calls Try.prog 4 #[va, vb, .int .i64 keep, vc] w fun e w' => e = .returned (.bool true) ∧ Up w w' := by
  obtain ⟨i0, hi, hz0, hz1, hz2⟩ := info_parts info_row8
  have Hal := Lib.hid (jnAlive_any w)
  obtain ⟨aa, ca, usa, rfl, hla, hna, hca, hia, h1a⟩ := ha.vals
  obtain ⟨ab, cb, usb, rfl, hlb, hnb, hcb, hib, h1b⟩ := hb.vals
  obtain ⟨ac, cc, rfl, _, _, _⟩ := id hc
  have HA := Lib.hid ha
  have HB := Lib.hid hb
  have HC := Lib.hid hc
  have Hna := Lib.hid hna
  have Hnb := Lib.hid hnb
  have Hca := Lib.hid hca
  have Hcb := Lib.hid hcb
  have Hia := Lib.hid hia
  have Hib := Lib.hid hib
  have H1a := Lib.hid h1a
  have H1b := Lib.hid h1b
  have Hla := Lib.hid hla
  have Hlb := Lib.hid hlb
  have uall : Hid (∀ r ∈ xs ++ bs, U8s r) := Lib.hid fun r hr => by
    rcases List.mem_append.1 hr with h | h
    · obtain ⟨j, hj, rfl⟩ := List.getElem_of_mem h
      have := ua j hj
      simpa [hj] using this
    · obtain ⟨j, hj, rfl⟩ := List.getElem_of_mem h
      have := ub j hj
      simpa [hj] using this
  have HUc := Lib.hid uc
  have La := Lib.hid la
  have Lb := Lib.hid lb
  have hx : ∀ (ls : List (List Int)), ls.flatten.length ≤ 1048576 → ∀ k : Nat, (ls[k]?.getD []).length ≤ 9223372036854775807 := fun ls hl k => by
    by_cases hk : k < ls.length
    · have h1 := flat_le ls (k + 1)
      rw [flat_snoc ls k hk, List.length_append] at h1
      omega
    · rw [List.getElem?_eq_none (by omega)]; simp
  have Hx := Lib.hid hx
  clear ha hb hc hna hnb hca hcb hia hib h1a h1b ua ub uc hla hlb la lb hx
  go_enter Try.func4, Try.ntmps4
  go_wp2_with fail
  with_reducible refine Calls.mono Hal.out ?_
  rintro e w1 ⟨rfl, u1⟩
  have U1 := Lib.hid u1
  have Hn := Lib.hid (dkNew_any 262144 w1)
  clear u1
  go_wp2_with fail
  with_reducible refine Calls.mono Hn.out ?_
  rintro e w2 ⟨rfl, hw2⟩
  have H2 := Lib.hid (show Dk w2 w.heap.size w1.heap.size (.slice none 0 0) 262144 0 [] by rw [← hw2]; exact dk_new0 262144 w1 w.heap.size U1.out.size)
  have U2 := Lib.hid (show Up w w2 by rw [← hw2]; exact Up.alloc U1.out _)
  have HAF := Lib.hid (((RowsF.of HA.out (fun b hb => hb)).up U2.out).old H2.out)
  clear hw2 Hn
  obtain ⟨g, hg⟩ : ∃ g, w1.heap.size = g := ⟨_, rfl⟩
  rw [hg] at H2 HAF ⊢
  clear hg
  by_cases sa : Shorts xs
  rotate_left
  · have Hw := Lib.hid (jnWrite_long _ xs w2 H2.out U2.out.size HAF.out (by omega) (Hx.out xs La.out) sa)
    clear sa
    go_wp2_with fail
    with_reducible refine Calls.mono Hw.out ?_
    rintro e w3 ⟨rfl, o3, h3, s3⟩
    have U3 := Lib.hid (H2.out.next s3 U2.out)
    clear h3 s3
    go_wp2
    go_ret
    exact ⟨rfl, U3.out⟩
  have Hw := Lib.hid (jnWrite_any _ xs w2 H2.out U2.out.size HAF.out (by omega) (by have := La.out; omega) sa)
  have Sa := Lib.hid sa
  clear sa
  by_cases fa : (frames xs).length ≤ 262144
  rotate_left
  · rw [show dkAppE 262144 [] (frames xs) = 17 from if_neg (by simpa using fa), show dkApp 262144 [] (frames xs) = [] from if_neg (by simpa using fa)] at Hw
    clear fa
    go_wp2_with fail
    with_reducible refine Calls.mono Hw.out ?_
    rintro e w3 ⟨rfl, o3, h3, s3⟩
    have U3 := Lib.hid (H2.out.next s3 U2.out)
    clear h3 s3
    go_wp2
    go_ret
    exact ⟨rfl, U3.out⟩
  rw [show dkAppE 262144 [] (frames xs) = 0 from if_pos (by simpa using fa), show dkApp 262144 [] (frames xs) = frames xs from if_pos (by simpa using fa)] at Hw
  clear fa
  go_wp2_with fail
  with_reducible refine Calls.mono Hw.out ?_
  rintro e w3 ⟨rfl, o3, h3, s3⟩
  have U3 := Lib.hid (H2.out.next s3 U2.out)
  have H3 := Lib.hid h3
  have Hf := Lib.hid (dkFlush_any w3 h3)
  clear h3 s3 Hw
  go_wp2_with fail
  with_reducible refine Calls.mono Hf.out ?_
  rintro e w4 ⟨rfl, h4, s4⟩
  have U4 := Lib.hid (H3.out.next s4 U3.out)
  have H4 := Lib.hid h4
  have HBF := Lib.hid (((RowsF.of HB.out (fun b hb => hb)).up U4.out).old h4)
  clear h4 s4 Hf
  by_cases sb : Shorts bs
  rotate_left
  · have Hw := Lib.hid (jnWrite_long _ bs w4 H4.out U4.out.size HBF.out (by omega) (Hx.out bs Lb.out) sb)
    clear sb
    go_wp2_with fail
    with_reducible refine Calls.mono Hw.out ?_
    rintro e w5 ⟨rfl, o5, h5, s5⟩
    have U5 := Lib.hid (H4.out.next s5 U4.out)
    clear h5 s5
    go_wp2
    go_ret
    exact ⟨rfl, U5.out⟩
  have Hw := Lib.hid (jnWrite_any _ bs w4 H4.out U4.out.size HBF.out (by omega) (by have := Lb.out; omega) sb)
  have Sb := Lib.hid sb
  clear sb
  by_cases fb : (frames xs).length + (frames bs).length ≤ 262144
  rotate_left
  · rw [show dkAppE 262144 (frames xs) (frames bs) = 17 from if_neg fb, show dkApp 262144 (frames xs) (frames bs) = frames xs from if_neg fb] at Hw
    clear fb
    go_wp2_with fail
    with_reducible refine Calls.mono Hw.out ?_
    rintro e w5 ⟨rfl, o5, h5, s5⟩
    have U5 := Lib.hid (H4.out.next s5 U4.out)
    clear h5 s5
    go_wp2
    go_ret
    exact ⟨rfl, U5.out⟩
  rw [show dkAppE 262144 (frames xs) (frames bs) = 0 from if_pos fb, show dkApp 262144 (frames xs) (frames bs) = frames (xs ++ bs) from by rw [frames_append]; exact if_pos fb] at Hw
  have Hfb : Hid ((frames (xs ++ bs)).length ≤ 262144) := Lib.hid (by rw [frames_append, List.length_append]; exact fb)
  clear fb
  go_wp2_with fail
  with_reducible refine Calls.mono Hw.out ?_
  rintro e w5 ⟨rfl, o5, h5, s5⟩
  have U5 := Lib.hid (H4.out.next s5 U4.out)
  have H5 := Lib.hid h5
  have Hcr := Lib.hid (dkCrash_any keep w5 h5)
  clear h5 s5 Hw
  go_wp2_with fail
  with_reducible refine Calls.mono Hcr.out ?_
  rintro e w6 ⟨rfl, o6, h6, s6⟩
  have U6 := Lib.hid (H5.out.next s6 U5.out)
  have hk := dkKeep_le keep H5.out.fl
  have Sall : Hid (Shorts (xs ++ bs)) := Lib.hid fun r hr => (List.mem_append.1 hr).elim (Sa.out r) (Sb.out r)
  obtain ⟨k, hk1, hsc, htk, hkn, hkk⟩ := scan_cut (xs ++ bs) _ Sall.out hk.2
  have hka := cut_keeps xs bs _ k hk.1 hkk
  have hus : U8s ((frames (xs ++ bs)).take (dkKeep keep (frames xs).length (frames (xs ++ bs)))) := (frames_u8s uall.out).take _
  have hR7 := jnRecover_any w6 h6 hus U6.out.size
  rw [hsc] at hR7
  simp only [htk] at hR7
  have hkl : ((xs ++ bs).take k).length = k := by rw [List.length_take]; omega
  rw [hkl] at hR7
  have HR7 := Lib.hid hR7
  have H6 := Lib.hid h6
  have Hkl := Lib.hid hkl
  rw [List.length_append] at hk1
  have Sk : Hid (Shorts ((xs ++ bs).take k)) := Lib.hid fun r hr => Sall.out r (List.mem_of_mem_take hr)
  have Uk : Hid (∀ r ∈ (xs ++ bs).take k, U8s r) := Lib.hid fun r hr => uall.out r (List.mem_of_mem_take hr)
  clear h6 s6 Hcr hk hsc htk hkn hkk hus hR7 hkl
  go_wp2_with fail
  with_reducible refine Calls.mono HR7.out ?_
  rintro e w7 ⟨a7, c7, rfl, o7, h7, s7, r7⟩
  have U7 := Lib.hid (H6.out.next s7 U6.out)
  have H7 := Lib.hid h7
  have R7 := Lib.hid r7
  clear h7 s7 r7 HR7
  go_wp2_with (first
    | (at_builtin; refine wpList_append_own_src w7 rfl (.tmp 36) (.tmp 37) 26 rfl w7.heap.size 22 i0 (.slice none 0 0) 1 24 Try.underlying26 hi hz0 hz1 hz2 rfl (by decide) (.slice none 0 0) 0 [] rfl (World.ownsRow_nil _ _ _ _) aa xs.length ca usa rfl Hna.out (by rw [Hla.out, Nat.mul_one]) (fun ad e j u hj => later_cellF (Hca.out ad e j u hj) U7.out) H1a.out (by unfold maxLen; omega) (by omega) (Nat.le_refl _) ?_; intro v8 w8 own8 grow8 _; rw [Nat.zero_add, List.nil_append] at own8; obtain ⟨a8, c8, rfl⟩ := row_shape own8; have Own8 := Lib.hid own8; have V8 : Hid (Up w7 w8) := Lib.hid (up_grown (by simpa [Value.ownBlock] using grow8)); clear own8 grow8)
    | (at_builtin; refine wpList_append_own_src w8 rfl (.tmp 38) (.tmp 39) 26 rfl w7.heap.size 22 i0 (.slice none 0 0) 1 24 Try.underlying26 hi hz0 hz1 hz2 rfl (by decide) (.slice a8 xs.length c8) xs.length usa rfl Own8.out ab bs.length cb usb rfl Hnb.out (by rw [Hlb.out, Nat.mul_one]) (fun ad e j u hj => later_cellF (Hcb.out ad e j u hj) (Up.trans U7.out V8.out)) H1b.out (by unfold maxLen; omega) (by omega) V8.out.size ?_; intro v9 w9 own9 grow9 _; obtain ⟨a9, c9, rfl⟩ := row_shape own9; have hc9 : xs.length + bs.length ≤ c9 := (by rcases own9.2 with ⟨e, h0⟩ | ⟨g9, q9, cur9, e, _, _, hle9, _⟩ <;> (simp only [Value.slice.injEq] at e; omega)); have hcut := cut_preR a9 (xs.length + bs.length) c9 k hk1 hc9 w9; have Own9 := Lib.hid own9; have Grow9 := Lib.hid grow9; clear own9 grow9))
  have V9 : Hid (Up w7 w9) := Lib.hid (up_row V8.out Own8.out Grow9.out (Nat.le_refl _))
  have hall : Rows8 w9 (.slice a9 (xs.length + bs.length) c9) (xs ++ bs) := (RowsF.of_row (F := fun _ => True) Own9.out (by rw [List.length_append, List.length_append, Hla.out, Hlb.out]) (fun _ _ => trivial) (getD_two Hla.out Hlb.out (p := fun u z => IntsF (fun _ => True) w9 u z) (fun j hj => IntsF.of ((Hia.out j hj).up (Up.trans U7.out V9.out)) (fun _ _ => trivial)) (fun j hj => IntsF.of ((Hib.out j hj).up (Up.trans U7.out V9.out)) (fun _ _ => trivial)))).rows
  have Hls := Lib.hid (lists_any _ _ ((xs ++ bs).take k) w9 ((R7.out.up V9.out).rows) (hall.pre k (by rw [List.length_append]; exact hk1)) (by rw [Hkl.out]; omega))
  have hk9 : k ≤ 1000000000 := by omega
  clear hall hcut hc9
  with_reducible refine Calls.mono Hls.out ?_
  rintro e w10 ⟨rfl, u10⟩
  have U10 : Hid (Up w w10) := Lib.hid (Up.trans (Up.trans U7.out V9.out) u10)
  have H10 := Lib.hid (H7.out.up (Up.trans V9.out u10))
  have R10 := Lib.hid (R7.out.up (Up.trans V9.out u10))
  have Hk9 := Lib.hid hk9
  clear u10 Hls hk9
  generalize (xs ++ bs).take k = LS at H10 R10 Hkl Sk Uk
  have HO := Lib.hid (one_rec H10.out rfl U10.out HC.out)
  have hua : Up w10 (w10.alloc (.cells #[.slice ac cs.length cc] 22)) := Up.alloc (Up.refl w10) _
  have H10a := Lib.hid (H10.out.up hua)
  have R10a := Lib.hid (R10.out.up hua)
  have U10a := Lib.hid (Up.trans U10.out hua)
  clear hua
  by_cases sc : cs.length ≤ 16384
  rotate_left
  · have Hw := Lib.hid (jnWrite_long _ [cs] _ H10a.out U10a.out.size HO.out (by simp) (fun j => by
      match j with
      | 0 => simp; omega
      | j + 1 => simp) (fun h => sc (h cs (by simp))))
    clear sc
    go_wp2_with fail
    with_reducible refine Calls.mono Hw.out ?_
    rintro e w11 ⟨rfl, o11, h11, s11⟩
    have U11 := Lib.hid (H10a.out.next s11 U10a.out)
    clear h11 s11
    go_wp2
    go_ret
    exact ⟨rfl, U11.out⟩
  have Hsc : Hid (Shorts (LS ++ [cs])) := Lib.hid fun r hr => (List.mem_append.1 hr).elim (Sk.out r) (fun h => by simp at h; rw [h]; exact sc)
  have Hw := Lib.hid (jnWrite_any _ [cs] _ H10a.out U10a.out.size HO.out (by simp) (by simp; omega) (fun r hr => by simp at hr; rw [hr]; exact sc))
  clear sc
  by_cases fc : (frames LS).length + (frames [cs]).length ≤ 262144
  rotate_left
  · rw [show dkAppE 262144 (frames LS) (frames [cs]) = 17 from if_neg fc, show dkApp 262144 (frames LS) (frames [cs]) = frames LS from if_neg fc] at Hw
    clear fc
    go_wp2_with fail
    with_reducible refine Calls.mono Hw.out ?_
    rintro e w11 ⟨rfl, o11, h11, s11⟩
    have U11 := Lib.hid (H10a.out.next s11 U10a.out)
    clear h11 s11
    go_wp2
    go_ret
    exact ⟨rfl, U11.out⟩
  rw [show dkAppE 262144 (frames LS) (frames [cs]) = 0 from if_pos fc, show dkApp 262144 (frames LS) (frames [cs]) = frames (LS ++ [cs]) from by rw [frames_append]; exact if_pos fc] at Hw
  clear fc
  go_wp2_with fail
  with_reducible refine Calls.mono Hw.out ?_
  rintro e w11 ⟨rfl, o11, h11, s11⟩
  have U11 := Lib.hid (H10a.out.next s11 U10a.out)
  have R11 := Lib.hid (R10a.out.step s11)
  have H11 := Lib.hid h11
  have Hf := Lib.hid (dkFlush_any w11 h11)
  clear h11 s11 Hw
  go_wp2_with fail
  with_reducible refine Calls.mono Hf.out ?_
  rintro e w12 ⟨rfl, h12, s12⟩
  have U12 := Lib.hid (H11.out.next s12 U11.out)
  have R12 := Lib.hid (R11.out.step s12)
  have hus : U8s (frames (LS ++ [cs])) := frames_u8s fun r hr => (List.mem_append.1 hr).elim (Uk.out r) (fun h => by simp at h; rw [h]; exact HUc.out)
  have hR13 := jnRecover_any w12 h12 hus U12.out.size
  rw [scan_whole _ Hsc.out] at hR13
  have H12 := Lib.hid h12
  obtain ⟨M, hM⟩ : ∃ M, (LS ++ [cs]).length = M := ⟨_, rfl⟩
  simp only [hM] at hR13
  have HM : Hid (M = k + 1) := Lib.hid (by rw [← hM, List.length_append, List.length_singleton, Hkl.out])
  have HR13 := Lib.hid hR13
  clear h12 s12 hR13 hus Hf hM
  go_wp2_with fail
  with_reducible refine Calls.mono HR13.out ?_
  rintro e w13 ⟨a13, c13, rfl, o13', h13, s13, r13⟩
  have U13 := Lib.hid (H12.out.next s13 U12.out)
  have R13 := Lib.hid (R12.out.step s13)
  have hmr := r13.rows
  obtain ⟨b13, o13, rfl, hcell13⟩ : ∃ b off, a13 = some ⟨b, off, none⟩ ∧ ∀ j, j < (LS ++ [cs]).length → ∃ u, w13.cell? ⟨b, off + j, none⟩ = some u ∧ Ints .u8 w13 u ((LS ++ [cs])[j]?.getD []) := by
    obtain ⟨a', c', he, _, _, h4⟩ := hmr
    simp only [Value.slice.injEq] at he
    obtain ⟨rfl, _, _⟩ := he
    rcases h4 with h4 | ⟨b, off, rfl, hc⟩
    · simp at h4
    · exact ⟨b, off, rfl, hc⟩
  have HMc : Hid (M ≤ c13) := Lib.hid (by
    obtain ⟨a', c', he, h2, _⟩ := hmr
    simp only [Value.slice.injEq] at he
    omega)
  have HkM : Hid (k < M) := Lib.hid (by have := HM.out; omega)
  obtain ⟨ve, hve, hie⟩ := hcell13 k (by rw [List.length_append, List.length_singleton, Hkl.out]; omega)
  rw [show (LS ++ [cs])[k]?.getD [] = cs from by rw [← Hkl.out]; simp] at hie
  obtain ⟨ae, ce, rfl, _, _, _⟩ := id hie
  have CE : Hid (∀ wx, Up w13 wx → wx.cell? ⟨b13, o13 + k * 1, none⟩ = some (.slice ae cs.length ce)) := Lib.hid fun wx hx => by rw [Nat.mul_one]; exact later_cellF hve hx
  have CV0 : Hid (∀ wx, Up w13 wx → (convert 22 9 (.slice ae cs.length ce)).run Try.prog wx = .ok (.string (strOfNums cs)) wx) := Lib.hid fun wx hx => (hie.up hx).str
  have CC0 : Hid (∀ wx, Up w13 wx → (convert 22 9 (.slice ac cs.length cc)).run Try.prog wx = .ok (.string (strOfNums cs)) wx) := Lib.hid fun wx hx => ((HC.out.up U13.out).up hx).str
  have HL : Hid (∀ wx, Up w13 wx → Calls Try.prog 10 #[.slice (some ⟨b13, o13, none⟩) k c13, .slice a7 k c7] wx fun e w' => e = .returned (.bool true) ∧ Up wx w') := Lib.hid fun wx hx => lists_any _ _ LS wx (by
    have := hmr.pre k (by rw [List.length_append, Hkl.out]; omega)
    rw [List.take_append_of_le_length (by rw [Hkl.out]; omega), List.take_of_length_le (by rw [Hkl.out]; omega)] at this
    exact this.up hx) (R13.out.rows.up hx) (by rw [Hkl.out]; have := Hk9.out; omega)
  have HD : Hid (Up w13 w13.drew) := Lib.hid (Up.drew1 w13)
  clear h13 s13 r13 hmr hcell13 hve hie
  generalize strOfNums cs = SC at CV0 CC0
  have CV : Hid (∀ wx, Up w13 wx → (convert 22 9 (.slice ae cs.length ce)).run Try.prog wx = .ok (.string SC) wx) := CV0
  have CC : Hid (∀ wx, Up w13 wx → (convert 22 9 (.slice ac cs.length cc)).run Try.prog wx = .ok (.string SC) wx) := CC0
  clear CV0 CC0
  go_wp2
  refine region_alongK (fun x => Up w13 x) (.read 0 (.read 1 (.read 2 (.read 3 (.read 4 (.read 5 (.read 6 (.read 7 (.read 8 (.read 9 (.read 10 (.read 11 (.read 12 (.read 13 (.read 14 (.read 15 (.step 16 (.read 17 (.read 18 (.read 19 (.read 20 (.read 21 (.read 22 (.read 23 (.read 24 (.read 25 (.read 26 (.read 27 (.read 28 (.read 29 (.nil))))))))))))))))))))))))))))))) (by kernel_rfl) rfl (by kernel_rfl) (by kernel_rfl) (fun c a d v w h => by cases d <;> exact h) (HD.out) ?_
  refine alongK_read (.int .i64 0) rfl rfl (fun wx hS => ex_move (by rfl) (by rfl) wx) ?_
  change AlongK _ _ _ _ _ { tmps := #[_, _, _, .slice ac cs.length cc, _, _, _, _, _, _, .slice a7 k c7, _, _, .slice (some ⟨b13, o13, none⟩) M c13, .int .i64 0, _, _, _, _, _, _, _, _, _, _, _, _, _, _, _, _, _, _, _, _, _, _, _, _, _, _, _, _, _, _, _, _, _, _, _, _, _, _, _, _, _, _, _, _, _, _, _, _, _, _, _, _, _, _, _, _, _, _, _, _, _, _, _, .int .i64 0, _, _, _, _, _, _, _, _, _, _, _, _, _, _, _, _, _, _, _, _, _, _, _, _, _, _, _, _], defers := _ } _
  refine alongK_read (.bool true) rfl rfl (fun wx hS => ex_eqi rfl (by rfl) (by rfl) (by simp) wx) ?_
  change AlongK _ _ _ _ _ { tmps := #[_, _, _, .slice ac cs.length cc, _, _, _, _, _, _, .slice a7 k c7, _, _, .slice (some ⟨b13, o13, none⟩) M c13, .int .i64 0, _, _, _, _, _, _, _, _, _, _, _, _, _, _, _, _, _, _, _, _, _, _, _, _, _, _, _, _, _, _, _, _, _, _, _, _, _, _, _, _, _, _, _, _, _, _, _, _, _, _, _, _, _, _, _, _, _, _, _, _, _, _, _, .int .i64 0, .bool true, _, _, _, _, _, _, _, _, _, _, _, _, _, _, _, _, _, _, _, _, _, _, _, _, _, _, _], defers := _ } _
  refine alongK_read (.bool true) rfl rfl (fun wx hS => ex_move (by rfl) (by rfl) wx) ?_
  change AlongK _ _ _ _ _ { tmps := #[_, _, _, .slice ac cs.length cc, _, _, _, _, _, _, .slice a7 k c7, _, _, .slice (some ⟨b13, o13, none⟩) M c13, .int .i64 0, _, _, _, _, _, _, _, _, _, _, _, _, _, _, _, _, _, _, _, _, _, _, _, _, _, _, _, _, _, _, _, _, _, _, _, _, _, _, _, _, _, _, _, _, _, _, _, _, _, _, _, _, _, _, _, _, _, _, _, _, _, _, _, .int .i64 0, .bool true, .bool true, _, _, _, _, _, _, _, _, _, _, _, _, _, _, _, _, _, _, _, _, _, _, _, _, _, _], defers := _ } _
  refine alongK_read (.slice (some ⟨b13, o13, none⟩) M c13) rfl rfl (fun wx hS => ex_move (by rfl) (by rfl) wx) ?_
  change AlongK _ _ _ _ _ { tmps := #[_, _, _, .slice ac cs.length cc, _, _, _, _, _, _, .slice a7 k c7, _, _, .slice (some ⟨b13, o13, none⟩) M c13, .int .i64 0, _, _, _, _, _, _, _, _, _, _, _, _, _, _, _, _, _, _, _, _, _, _, _, _, _, _, _, _, _, _, _, _, _, _, _, _, _, _, _, _, _, _, _, _, _, _, _, _, _, _, _, _, _, _, _, _, _, _, _, _, _, _, _, .int .i64 0, .bool true, .bool true, .slice (some ⟨b13, o13, none⟩) M c13, _, _, _, _, _, _, _, _, _, _, _, _, _, _, _, _, _, _, _, _, _, _, _, _, _], defers := _ } _
  refine alongK_read (.int .i64 M) rfl rfl (fun wx hS => ex_lensl Try.underlying26 rfl rfl wx) ?_
  change AlongK _ _ _ _ _ { tmps := #[_, _, _, .slice ac cs.length cc, _, _, _, _, _, _, .slice a7 k c7, _, _, .slice (some ⟨b13, o13, none⟩) M c13, .int .i64 0, _, _, _, _, _, _, _, _, _, _, _, _, _, _, _, _, _, _, _, _, _, _, _, _, _, _, _, _, _, _, _, _, _, _, _, _, _, _, _, _, _, _, _, _, _, _, _, _, _, _, _, _, _, _, _, _, _, _, _, _, _, _, _, .int .i64 0, .bool true, .bool true, .slice (some ⟨b13, o13, none⟩) M c13, .int .i64 M, _, _, _, _, _, _, _, _, _, _, _, _, _, _, _, _, _, _, _, _, _, _, _, _], defers := _ } _
  refine alongK_read (.slice a7 k c7) rfl rfl (fun wx hS => ex_move (by rfl) (by rfl) wx) ?_
  change AlongK _ _ _ _ _ { tmps := #[_, _, _, .slice ac cs.length cc, _, _, _, _, _, _, .slice a7 k c7, _, _, .slice (some ⟨b13, o13, none⟩) M c13, .int .i64 0, _, _, _, _, _, _, _, _, _, _, _, _, _, _, _, _, _, _, _, _, _, _, _, _, _, _, _, _, _, _, _, _, _, _, _, _, _, _, _, _, _, _, _, _, _, _, _, _, _, _, _, _, _, _, _, _, _, _, _, _, _, _, _, .int .i64 0, .bool true, .bool true, .slice (some ⟨b13, o13, none⟩) M c13, .int .i64 M, .slice a7 k c7, _, _, _, _, _, _, _, _, _, _, _, _, _, _, _, _, _, _, _, _, _, _, _], defers := _ } _
  refine alongK_read (.int .i64 k) rfl rfl (fun wx hS => ex_lensl Try.underlying26 rfl rfl wx) ?_
  change AlongK _ _ _ _ _ { tmps := #[_, _, _, .slice ac cs.length cc, _, _, _, _, _, _, .slice a7 k c7, _, _, .slice (some ⟨b13, o13, none⟩) M c13, .int .i64 0, _, _, _, _, _, _, _, _, _, _, _, _, _, _, _, _, _, _, _, _, _, _, _, _, _, _, _, _, _, _, _, _, _, _, _, _, _, _, _, _, _, _, _, _, _, _, _, _, _, _, _, _, _, _, _, _, _, _, _, _, _, _, _, .int .i64 0, .bool true, .bool true, .slice (some ⟨b13, o13, none⟩) M c13, .int .i64 M, .slice a7 k c7, .int .i64 k, _, _, _, _, _, _, _, _, _, _, _, _, _, _, _, _, _, _, _, _, _, _], defers := _ } _
  refine alongK_read (.int .i64 M) rfl rfl (fun wx hS => ex_bin rfl rfl rfl wx (add_to _ _ k M HM.out Hk9.out wx)) ?_
  change AlongK _ _ _ _ _ { tmps := #[_, _, _, .slice ac cs.length cc, _, _, _, _, _, _, .slice a7 k c7, _, _, .slice (some ⟨b13, o13, none⟩) M c13, .int .i64 0, _, _, _, _, _, _, _, _, _, _, _, _, _, _, _, _, _, _, _, _, _, _, _, _, _, _, _, _, _, _, _, _, _, _, _, _, _, _, _, _, _, _, _, _, _, _, _, _, _, _, _, _, _, _, _, _, _, _, _, _, _, _, _, .int .i64 0, .bool true, .bool true, .slice (some ⟨b13, o13, none⟩) M c13, .int .i64 M, .slice a7 k c7, .int .i64 k, .int .i64 M, _, _, _, _, _, _, _, _, _, _, _, _, _, _, _, _, _, _, _, _, _], defers := _ } _
  refine alongK_read (.bool true) rfl rfl (fun wx hS => ex_eqi rfl (by rfl) (by rfl) (by simp) wx) ?_
  change AlongK _ _ _ _ _ { tmps := #[_, _, _, .slice ac cs.length cc, _, _, _, _, _, _, .slice a7 k c7, _, _, .slice (some ⟨b13, o13, none⟩) M c13, .int .i64 0, _, _, _, _, _, _, _, _, _, _, _, _, _, _, _, _, _, _, _, _, _, _, _, _, _, _, _, _, _, _, _, _, _, _, _, _, _, _, _, _, _, _, _, _, _, _, _, _, _, _, _, _, _, _, _, _, _, _, _, _, _, _, _, .int .i64 0, .bool true, .bool true, .slice (some ⟨b13, o13, none⟩) M c13, .int .i64 M, .slice a7 k c7, .int .i64 k, .int .i64 M, .bool true, _, _, _, _, _, _, _, _, _, _, _, _, _, _, _, _, _, _, _, _], defers := _ } _
  refine alongK_read (.bool true) rfl rfl (fun wx hS => ex_pickt rfl (by rfl) (by rfl) wx) ?_
  change AlongK _ _ _ _ _ { tmps := #[_, _, _, .slice ac cs.length cc, _, _, _, _, _, _, .slice a7 k c7, _, _, .slice (some ⟨b13, o13, none⟩) M c13, .int .i64 0, _, _, _, _, _, _, _, _, _, _, _, _, _, _, _, _, _, _, _, _, _, _, _, _, _, _, _, _, _, _, _, _, _, _, _, _, _, _, _, _, _, _, _, _, _, _, _, _, _, _, _, _, _, _, _, _, _, _, _, _, _, _, _, .int .i64 0, .bool true, .bool true, .slice (some ⟨b13, o13, none⟩) M c13, .int .i64 M, .slice a7 k c7, .int .i64 k, .int .i64 M, .bool true, .bool true, _, _, _, _, _, _, _, _, _, _, _, _, _, _, _, _, _, _, _], defers := _ } _
  refine alongK_read (.bool true) rfl rfl (fun wx hS => ex_move (by rfl) (by rfl) wx) ?_
  change AlongK _ _ _ _ _ { tmps := #[_, _, _, .slice ac cs.length cc, _, _, _, _, _, _, .slice a7 k c7, _, _, .slice (some ⟨b13, o13, none⟩) M c13, .int .i64 0, _, _, _, _, _, _, _, _, _, _, _, _, _, _, _, _, _, _, _, _, _, _, _, _, _, _, _, _, _, _, _, _, _, _, _, _, _, _, _, _, _, _, _, _, _, _, _, _, _, _, _, _, _, _, _, _, _, _, _, _, _, _, _, .int .i64 0, .bool true, .bool true, .slice (some ⟨b13, o13, none⟩) M c13, .int .i64 M, .slice a7 k c7, .int .i64 k, .int .i64 M, .bool true, .bool true, .bool true, _, _, _, _, _, _, _, _, _, _, _, _, _, _, _, _, _, _], defers := _ } _
  refine alongK_read (.slice (some ⟨b13, o13, none⟩) M c13) rfl rfl (fun wx hS => ex_move (by rfl) (by rfl) wx) ?_
  change AlongK _ _ _ _ _ { tmps := #[_, _, _, .slice ac cs.length cc, _, _, _, _, _, _, .slice a7 k c7, _, _, .slice (some ⟨b13, o13, none⟩) M c13, .int .i64 0, _, _, _, _, _, _, _, _, _, _, _, _, _, _, _, _, _, _, _, _, _, _, _, _, _, _, _, _, _, _, _, _, _, _, _, _, _, _, _, _, _, _, _, _, _, _, _, _, _, _, _, _, _, _, _, _, _, _, _, _, _, _, _, .int .i64 0, .bool true, .bool true, .slice (some ⟨b13, o13, none⟩) M c13, .int .i64 M, .slice a7 k c7, .int .i64 k, .int .i64 M, .bool true, .bool true, .bool true, .slice (some ⟨b13, o13, none⟩) M c13, _, _, _, _, _, _, _, _, _, _, _, _, _, _, _, _, _], defers := _ } _
  refine alongK_read (.slice a7 k c7) rfl rfl (fun wx hS => ex_move (by rfl) (by rfl) wx) ?_
  change AlongK _ _ _ _ _ { tmps := #[_, _, _, .slice ac cs.length cc, _, _, _, _, _, _, .slice a7 k c7, _, _, .slice (some ⟨b13, o13, none⟩) M c13, .int .i64 0, _, _, _, _, _, _, _, _, _, _, _, _, _, _, _, _, _, _, _, _, _, _, _, _, _, _, _, _, _, _, _, _, _, _, _, _, _, _, _, _, _, _, _, _, _, _, _, _, _, _, _, _, _, _, _, _, _, _, _, _, _, _, _, .int .i64 0, .bool true, .bool true, .slice (some ⟨b13, o13, none⟩) M c13, .int .i64 M, .slice a7 k c7, .int .i64 k, .int .i64 M, .bool true, .bool true, .bool true, .slice (some ⟨b13, o13, none⟩) M c13, .slice a7 k c7, _, _, _, _, _, _, _, _, _, _, _, _, _, _, _, _], defers := _ } _
  refine alongK_read (.int .i64 k) rfl rfl (fun wx hS => ex_lensl Try.underlying26 rfl rfl wx) ?_
  change AlongK _ _ _ _ _ { tmps := #[_, _, _, .slice ac cs.length cc, _, _, _, _, _, _, .slice a7 k c7, _, _, .slice (some ⟨b13, o13, none⟩) M c13, .int .i64 0, _, _, _, _, _, _, _, _, _, _, _, _, _, _, _, _, _, _, _, _, _, _, _, _, _, _, _, _, _, _, _, _, _, _, _, _, _, _, _, _, _, _, _, _, _, _, _, _, _, _, _, _, _, _, _, _, _, _, _, _, _, _, _, .int .i64 0, .bool true, .bool true, .slice (some ⟨b13, o13, none⟩) M c13, .int .i64 M, .slice a7 k c7, .int .i64 k, .int .i64 M, .bool true, .bool true, .bool true, .slice (some ⟨b13, o13, none⟩) M c13, .slice a7 k c7, .int .i64 k, _, _, _, _, _, _, _, _, _, _, _, _, _, _, _], defers := _ } _
  refine alongK_read (.slice (some ⟨b13, o13, none⟩) k c13) rfl rfl (fun wx hS => ex_cutT (sv := .slice (some ⟨b13, o13, none⟩) M c13) (lv := none) (hv := some (.int .i64 (k : Int))) rfl rfl rfl rfl wx (cut_preR _ _ _ _ (Nat.le_of_lt HkM.out) HMc.out wx)) ?_
  change AlongK _ _ _ _ _ { tmps := #[_, _, _, .slice ac cs.length cc, _, _, _, _, _, _, .slice a7 k c7, _, _, .slice (some ⟨b13, o13, none⟩) M c13, .int .i64 0, _, _, _, _, _, _, _, _, _, _, _, _, _, _, _, _, _, _, _, _, _, _, _, _, _, _, _, _, _, _, _, _, _, _, _, _, _, _, _, _, _, _, _, _, _, _, _, _, _, _, _, _, _, _, _, _, _, _, _, _, _, _, _, .int .i64 0, .bool true, .bool true, .slice (some ⟨b13, o13, none⟩) M c13, .int .i64 M, .slice a7 k c7, .int .i64 k, .int .i64 M, .bool true, .bool true, .bool true, .slice (some ⟨b13, o13, none⟩) M c13, .slice a7 k c7, .int .i64 k, .slice (some ⟨b13, o13, none⟩) k c13, _, _, _, _, _, _, _, _, _, _, _, _, _, _], defers := _ } _
  refine alongK_read (.slice a7 k c7) rfl rfl (fun wx hS => ex_move (by rfl) (by rfl) wx) ?_
  change AlongK _ _ _ _ _ { tmps := #[_, _, _, .slice ac cs.length cc, _, _, _, _, _, _, .slice a7 k c7, _, _, .slice (some ⟨b13, o13, none⟩) M c13, .int .i64 0, _, _, _, _, _, _, _, _, _, _, _, _, _, _, _, _, _, _, _, _, _, _, _, _, _, _, _, _, _, _, _, _, _, _, _, _, _, _, _, _, _, _, _, _, _, _, _, _, _, _, _, _, _, _, _, _, _, _, _, _, _, _, _, .int .i64 0, .bool true, .bool true, .slice (some ⟨b13, o13, none⟩) M c13, .int .i64 M, .slice a7 k c7, .int .i64 k, .int .i64 M, .bool true, .bool true, .bool true, .slice (some ⟨b13, o13, none⟩) M c13, .slice a7 k c7, .int .i64 k, .slice (some ⟨b13, o13, none⟩) k c13, .slice a7 k c7, _, _, _, _, _, _, _, _, _, _, _, _, _], defers := _ } _
  refine alongK_step ?_
  refine opK_call (vs := [.slice (some ⟨b13, o13, none⟩) k c13, .slice a7 k c7]) rfl rfl rfl (enters_of Try.func10 (by kernel_rfl) rfl) rfl ?_
  with_reducible refine Calls.mono (HL.out _ HD.out) ?_
  rintro e w14 ⟨rfl, l2⟩
  have L2 := Lib.hid l2
  clear l2
  refine ⟨_, rfl, (fun x => Up w13 x), (fun x hx => hx), Up.trans HD.out L2.out, ?_⟩
  change AlongK _ _ _ _ _ { tmps := #[_, _, _, .slice ac cs.length cc, _, _, _, _, _, _, .slice a7 k c7, _, _, .slice (some ⟨b13, o13, none⟩) M c13, .int .i64 0, _, _, _, _, _, _, _, _, _, _, _, _, _, _, _, _, _, _, _, _, _, _, _, _, _, _, _, _, _, _, _, _, _, _, _, _, _, _, _, _, _, _, _, _, _, _, _, _, _, _, _, _, _, _, _, _, _, _, _, _, _, _, _, .int .i64 0, .bool true, .bool true, .slice (some ⟨b13, o13, none⟩) M c13, .int .i64 M, .slice a7 k c7, .int .i64 k, .int .i64 M, .bool true, .bool true, .bool true, .slice (some ⟨b13, o13, none⟩) M c13, .slice a7 k c7, .int .i64 k, .slice (some ⟨b13, o13, none⟩) k c13, .slice a7 k c7, .bool true, _, _, _, _, _, _, _, _, _, _, _, _], defers := _ } _
  refine alongK_read (.bool true) rfl rfl (fun wx hS => ex_pickt rfl (by rfl) (by rfl) wx) ?_
  change AlongK _ _ _ _ _ { tmps := #[_, _, _, .slice ac cs.length cc, _, _, _, _, _, _, .slice a7 k c7, _, _, .slice (some ⟨b13, o13, none⟩) M c13, .int .i64 0, _, _, _, _, _, _, _, _, _, _, _, _, _, _, _, _, _, _, _, _, _, _, _, _, _, _, _, _, _, _, _, _, _, _, _, _, _, _, _, _, _, _, _, _, _, _, _, _, _, _, _, _, _, _, _, _, _, _, _, _, _, _, _, .int .i64 0, .bool true, .bool true, .slice (some ⟨b13, o13, none⟩) M c13, .int .i64 M, .slice a7 k c7, .int .i64 k, .int .i64 M, .bool true, .bool true, .bool true, .slice (some ⟨b13, o13, none⟩) M c13, .slice a7 k c7, .int .i64 k, .slice (some ⟨b13, o13, none⟩) k c13, .slice a7 k c7, .bool true, .bool true, _, _, _, _, _, _, _, _, _, _, _], defers := _ } _
  refine alongK_read (.bool true) rfl rfl (fun wx hS => ex_move (by rfl) (by rfl) wx) ?_
  change AlongK _ _ _ _ _ { tmps := #[_, _, _, .slice ac cs.length cc, _, _, _, _, _, _, .slice a7 k c7, _, _, .slice (some ⟨b13, o13, none⟩) M c13, .int .i64 0, _, _, _, _, _, _, _, _, _, _, _, _, _, _, _, _, _, _, _, _, _, _, _, _, _, _, _, _, _, _, _, _, _, _, _, _, _, _, _, _, _, _, _, _, _, _, _, _, _, _, _, _, _, _, _, _, _, _, _, _, _, _, _, .int .i64 0, .bool true, .bool true, .slice (some ⟨b13, o13, none⟩) M c13, .int .i64 M, .slice a7 k c7, .int .i64 k, .int .i64 M, .bool true, .bool true, .bool true, .slice (some ⟨b13, o13, none⟩) M c13, .slice a7 k c7, .int .i64 k, .slice (some ⟨b13, o13, none⟩) k c13, .slice a7 k c7, .bool true, .bool true, .bool true, _, _, _, _, _, _, _, _, _, _], defers := _ } _
  refine alongK_read (.slice (some ⟨b13, o13, none⟩) M c13) rfl rfl (fun wx hS => ex_move (by rfl) (by rfl) wx) ?_
  change AlongK _ _ _ _ _ { tmps := #[_, _, _, .slice ac cs.length cc, _, _, _, _, _, _, .slice a7 k c7, _, _, .slice (some ⟨b13, o13, none⟩) M c13, .int .i64 0, _, _, _, _, _, _, _, _, _, _, _, _, _, _, _, _, _, _, _, _, _, _, _, _, _, _, _, _, _, _, _, _, _, _, _, _, _, _, _, _, _, _, _, _, _, _, _, _, _, _, _, _, _, _, _, _, _, _, _, _, _, _, _, .int .i64 0, .bool true, .bool true, .slice (some ⟨b13, o13, none⟩) M c13, .int .i64 M, .slice a7 k c7, .int .i64 k, .int .i64 M, .bool true, .bool true, .bool true, .slice (some ⟨b13, o13, none⟩) M c13, .slice a7 k c7, .int .i64 k, .slice (some ⟨b13, o13, none⟩) k c13, .slice a7 k c7, .bool true, .bool true, .bool true, .slice (some ⟨b13, o13, none⟩) M c13, _, _, _, _, _, _, _, _, _], defers := _ } _
  refine alongK_read (.slice a7 k c7) rfl rfl (fun wx hS => ex_move (by rfl) (by rfl) wx) ?_
  change AlongK _ _ _ _ _ { tmps := #[_, _, _, .slice ac cs.length cc, _, _, _, _, _, _, .slice a7 k c7, _, _, .slice (some ⟨b13, o13, none⟩) M c13, .int .i64 0, _, _, _, _, _, _, _, _, _, _, _, _, _, _, _, _, _, _, _, _, _, _, _, _, _, _, _, _, _, _, _, _, _, _, _, _, _, _, _, _, _, _, _, _, _, _, _, _, _, _, _, _, _, _, _, _, _, _, _, _, _, _, _, .int .i64 0, .bool true, .bool true, .slice (some ⟨b13, o13, none⟩) M c13, .int .i64 M, .slice a7 k c7, .int .i64 k, .int .i64 M, .bool true, .bool true, .bool true, .slice (some ⟨b13, o13, none⟩) M c13, .slice a7 k c7, .int .i64 k, .slice (some ⟨b13, o13, none⟩) k c13, .slice a7 k c7, .bool true, .bool true, .bool true, .slice (some ⟨b13, o13, none⟩) M c13, .slice a7 k c7, _, _, _, _, _, _, _, _], defers := _ } _
  refine alongK_read (.int .i64 k) rfl rfl (fun wx hS => ex_lensl Try.underlying26 rfl rfl wx) ?_
  change AlongK _ _ _ _ _ { tmps := #[_, _, _, .slice ac cs.length cc, _, _, _, _, _, _, .slice a7 k c7, _, _, .slice (some ⟨b13, o13, none⟩) M c13, .int .i64 0, _, _, _, _, _, _, _, _, _, _, _, _, _, _, _, _, _, _, _, _, _, _, _, _, _, _, _, _, _, _, _, _, _, _, _, _, _, _, _, _, _, _, _, _, _, _, _, _, _, _, _, _, _, _, _, _, _, _, _, _, _, _, _, .int .i64 0, .bool true, .bool true, .slice (some ⟨b13, o13, none⟩) M c13, .int .i64 M, .slice a7 k c7, .int .i64 k, .int .i64 M, .bool true, .bool true, .bool true, .slice (some ⟨b13, o13, none⟩) M c13, .slice a7 k c7, .int .i64 k, .slice (some ⟨b13, o13, none⟩) k c13, .slice a7 k c7, .bool true, .bool true, .bool true, .slice (some ⟨b13, o13, none⟩) M c13, .slice a7 k c7, .int .i64 k, _, _, _, _, _, _, _], defers := _ } _
  refine alongK_read (.pointer (some ⟨b13, o13 + k * 1, none⟩)) rfl rfl (fun wx hS => ex_index Try.underlying26 Try.sizeOf22 rfl rfl rfl (HkM.out) wx) ?_
  change AlongK _ _ _ _ _ { tmps := #[_, _, _, .slice ac cs.length cc, _, _, _, _, _, _, .slice a7 k c7, _, _, .slice (some ⟨b13, o13, none⟩) M c13, .int .i64 0, _, _, _, _, _, _, _, _, _, _, _, _, _, _, _, _, _, _, _, _, _, _, _, _, _, _, _, _, _, _, _, _, _, _, _, _, _, _, _, _, _, _, _, _, _, _, _, _, _, _, _, _, _, _, _, _, _, _, _, _, _, _, _, .int .i64 0, .bool true, .bool true, .slice (some ⟨b13, o13, none⟩) M c13, .int .i64 M, .slice a7 k c7, .int .i64 k, .int .i64 M, .bool true, .bool true, .bool true, .slice (some ⟨b13, o13, none⟩) M c13, .slice a7 k c7, .int .i64 k, .slice (some ⟨b13, o13, none⟩) k c13, .slice a7 k c7, .bool true, .bool true, .bool true, .slice (some ⟨b13, o13, none⟩) M c13, .slice a7 k c7, .int .i64 k, .pointer (some ⟨b13, o13 + k * 1, none⟩), _, _, _, _, _, _], defers := _ } _
  refine alongK_read (.slice ae cs.length ce) rfl rfl (fun wx hS => ex_load Try.isAgg22 rfl rfl wx (CE.out wx hS)) ?_
  change AlongK _ _ _ _ _ { tmps := #[_, _, _, .slice ac cs.length cc, _, _, _, _, _, _, .slice a7 k c7, _, _, .slice (some ⟨b13, o13, none⟩) M c13, .int .i64 0, _, _, _, _, _, _, _, _, _, _, _, _, _, _, _, _, _, _, _, _, _, _, _, _, _, _, _, _, _, _, _, _, _, _, _, _, _, _, _, _, _, _, _, _, _, _, _, _, _, _, _, _, _, _, _, _, _, _, _, _, _, _, _, .int .i64 0, .bool true, .bool true, .slice (some ⟨b13, o13, none⟩) M c13, .int .i64 M, .slice a7 k c7, .int .i64 k, .int .i64 M, .bool true, .bool true, .bool true, .slice (some ⟨b13, o13, none⟩) M c13, .slice a7 k c7, .int .i64 k, .slice (some ⟨b13, o13, none⟩) k c13, .slice a7 k c7, .bool true, .bool true, .bool true, .slice (some ⟨b13, o13, none⟩) M c13, .slice a7 k c7, .int .i64 k, .pointer (some ⟨b13, o13 + k * 1, none⟩), .slice ae cs.length ce, _, _, _, _, _], defers := _ } _
  refine alongK_read (.string SC) rfl rfl (fun wx hS => ex_conv rfl rfl wx wx (CV.out wx hS)) ?_
  change AlongK _ _ _ _ _ { tmps := #[_, _, _, .slice ac cs.length cc, _, _, _, _, _, _, .slice a7 k c7, _, _, .slice (some ⟨b13, o13, none⟩) M c13, .int .i64 0, _, _, _, _, _, _, _, _, _, _, _, _, _, _, _, _, _, _, _, _, _, _, _, _, _, _, _, _, _, _, _, _, _, _, _, _, _, _, _, _, _, _, _, _, _, _, _, _, _, _, _, _, _, _, _, _, _, _, _, _, _, _, _, .int .i64 0, .bool true, .bool true, .slice (some ⟨b13, o13, none⟩) M c13, .int .i64 M, .slice a7 k c7, .int .i64 k, .int .i64 M, .bool true, .bool true, .bool true, .slice (some ⟨b13, o13, none⟩) M c13, .slice a7 k c7, .int .i64 k, .slice (some ⟨b13, o13, none⟩) k c13, .slice a7 k c7, .bool true, .bool true, .bool true, .slice (some ⟨b13, o13, none⟩) M c13, .slice a7 k c7, .int .i64 k, .pointer (some ⟨b13, o13 + k * 1, none⟩), .slice ae cs.length ce, .string SC, _, _, _, _], defers := _ } _
  refine alongK_read (.slice ac cs.length cc) rfl rfl (fun wx hS => ex_move (by rfl) (by rfl) wx) ?_
  change AlongK _ _ _ _ _ { tmps := #[_, _, _, .slice ac cs.length cc, _, _, _, _, _, _, .slice a7 k c7, _, _, .slice (some ⟨b13, o13, none⟩) M c13, .int .i64 0, _, _, _, _, _, _, _, _, _, _, _, _, _, _, _, _, _, _, _, _, _, _, _, _, _, _, _, _, _, _, _, _, _, _, _, _, _, _, _, _, _, _, _, _, _, _, _, _, _, _, _, _, _, _, _, _, _, _, _, _, _, _, _, .int .i64 0, .bool true, .bool true, .slice (some ⟨b13, o13, none⟩) M c13, .int .i64 M, .slice a7 k c7, .int .i64 k, .int .i64 M, .bool true, .bool true, .bool true, .slice (some ⟨b13, o13, none⟩) M c13, .slice a7 k c7, .int .i64 k, .slice (some ⟨b13, o13, none⟩) k c13, .slice a7 k c7, .bool true, .bool true, .bool true, .slice (some ⟨b13, o13, none⟩) M c13, .slice a7 k c7, .int .i64 k, .pointer (some ⟨b13, o13 + k * 1, none⟩), .slice ae cs.length ce, .string SC, .slice ac cs.length cc, _, _, _], defers := _ } _
  refine alongK_read (.string SC) rfl rfl (fun wx hS => ex_conv rfl rfl wx wx (CC.out wx hS)) ?_
  change AlongK _ _ _ _ _ { tmps := #[_, _, _, .slice ac cs.length cc, _, _, _, _, _, _, .slice a7 k c7, _, _, .slice (some ⟨b13, o13, none⟩) M c13, .int .i64 0, _, _, _, _, _, _, _, _, _, _, _, _, _, _, _, _, _, _, _, _, _, _, _, _, _, _, _, _, _, _, _, _, _, _, _, _, _, _, _, _, _, _, _, _, _, _, _, _, _, _, _, _, _, _, _, _, _, _, _, _, _, _, _, .int .i64 0, .bool true, .bool true, .slice (some ⟨b13, o13, none⟩) M c13, .int .i64 M, .slice a7 k c7, .int .i64 k, .int .i64 M, .bool true, .bool true, .bool true, .slice (some ⟨b13, o13, none⟩) M c13, .slice a7 k c7, .int .i64 k, .slice (some ⟨b13, o13, none⟩) k c13, .slice a7 k c7, .bool true, .bool true, .bool true, .slice (some ⟨b13, o13, none⟩) M c13, .slice a7 k c7, .int .i64 k, .pointer (some ⟨b13, o13 + k * 1, none⟩), .slice ae cs.length ce, .string SC, .slice ac cs.length cc, .string SC, _, _], defers := _ } _
  refine alongK_read (.bool true) rfl rfl (fun wx hS => ex_eqs rfl (by rfl) (by rfl) wx) ?_
  change AlongK _ _ _ _ _ { tmps := #[_, _, _, .slice ac cs.length cc, _, _, _, _, _, _, .slice a7 k c7, _, _, .slice (some ⟨b13, o13, none⟩) M c13, .int .i64 0, _, _, _, _, _, _, _, _, _, _, _, _, _, _, _, _, _, _, _, _, _, _, _, _, _, _, _, _, _, _, _, _, _, _, _, _, _, _, _, _, _, _, _, _, _, _, _, _, _, _, _, _, _, _, _, _, _, _, _, _, _, _, _, .int .i64 0, .bool true, .bool true, .slice (some ⟨b13, o13, none⟩) M c13, .int .i64 M, .slice a7 k c7, .int .i64 k, .int .i64 M, .bool true, .bool true, .bool true, .slice (some ⟨b13, o13, none⟩) M c13, .slice a7 k c7, .int .i64 k, .slice (some ⟨b13, o13, none⟩) k c13, .slice a7 k c7, .bool true, .bool true, .bool true, .slice (some ⟨b13, o13, none⟩) M c13, .slice a7 k c7, .int .i64 k, .pointer (some ⟨b13, o13 + k * 1, none⟩), .slice ae cs.length ce, .string SC, .slice ac cs.length cc, .string SC, .bool true, _], defers := _ } _
  refine alongK_read (.bool true) rfl rfl (fun wx hS => ex_pickt rfl (by rfl) (by rfl) wx) ?_
  change AlongK _ _ _ _ _ { tmps := #[_, _, _, .slice ac cs.length cc, _, _, _, _, _, _, .slice a7 k c7, _, _, .slice (some ⟨b13, o13, none⟩) M c13, .int .i64 0, _, _, _, _, _, _, _, _, _, _, _, _, _, _, _, _, _, _, _, _, _, _, _, _, _, _, _, _, _, _, _, _, _, _, _, _, _, _, _, _, _, _, _, _, _, _, _, _, _, _, _, _, _, _, _, _, _, _, _, _, _, _, _, .int .i64 0, .bool true, .bool true, .slice (some ⟨b13, o13, none⟩) M c13, .int .i64 M, .slice a7 k c7, .int .i64 k, .int .i64 M, .bool true, .bool true, .bool true, .slice (some ⟨b13, o13, none⟩) M c13, .slice a7 k c7, .int .i64 k, .slice (some ⟨b13, o13, none⟩) k c13, .slice a7 k c7, .bool true, .bool true, .bool true, .slice (some ⟨b13, o13, none⟩) M c13, .slice a7 k c7, .int .i64 k, .pointer (some ⟨b13, o13 + k * 1, none⟩), .slice ae cs.length ce, .string SC, .slice ac cs.length cc, .string SC, .bool true, .bool true], defers := _ } _
  refine alongK_read (.bool true) rfl rfl (fun wx hS => ex_assign (by rfl) (by rfl) wx) ?_
  change AlongK _ _ _ _ _ { tmps := #[_, _, _, .slice ac cs.length cc, _, _, _, _, .bool true, _, .slice a7 k c7, _, _, .slice (some ⟨b13, o13, none⟩) M c13, .int .i64 0, _, _, _, _, _, _, _, _, _, _, _, _, _, _, _, _, _, _, _, _, _, _, _, _, _, _, _, _, _, _, _, _, _, _, _, _, _, _, _, _, _, _, _, _, _, _, _, _, _, _, _, _, _, _, _, _, _, _, _, _, _, _, _, .int .i64 0, .bool true, .bool true, .slice (some ⟨b13, o13, none⟩) M c13, .int .i64 M, .slice a7 k c7, .int .i64 k, .int .i64 M, .bool true, .bool true, .bool true, .slice (some ⟨b13, o13, none⟩) M c13, .slice a7 k c7, .int .i64 k, .slice (some ⟨b13, o13, none⟩) k c13, .slice a7 k c7, .bool true, .bool true, .bool true, .slice (some ⟨b13, o13, none⟩) M c13, .slice a7 k c7, .int .i64 k, .pointer (some ⟨b13, o13 + k * 1, none⟩), .slice ae cs.length ce, .string SC, .slice ac cs.length cc, .string SC, .bool true, .bool true], defers := _ } _
  refine alongK_done ?_
  go_wp2
  go_ret
  exact ⟨rfl, Up.trans U13.out (Up.trans HD.out L2.out)⟩
end
end Go.Proofs.Ytaepdmmlejdifaa
