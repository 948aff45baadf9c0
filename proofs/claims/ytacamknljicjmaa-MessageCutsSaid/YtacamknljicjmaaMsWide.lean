import Derived.Deep.DeepAppendWide
import Derived.Test.YtacamknljicjmaaMsRead
/-
  message: Read, of octets that are more than 2^47 (a little).
-/
namespace Go.Proofs.Ytacamknljicjmaa
set_option maxRecDepth 100000
section
set_option linter.unusedVariables false
open Go.RowKit Go.Sort Go.Lib

/-- append onto a slice of the call's own, of whatever slice, up to the growth's own bound -/
theorem wpList_append_own_srcW {P : Program} (w : World) {ops : Array Oper} {rest : List Oper} {o : Oper} {a : Act} {Q : Exit → Act → World → Prop} (hgd : o.guard = none) (s x : Operand) (t : TypeId)
    (ho : o.op = .call { callee := .builtin .append, args := #[s, x], argTypes := #[t, t] })
    (base : Nat) (e : TypeId) (i : TypeInfo) (z : Value) (size bytes : Nat) (ht : P.underlying t = some (.slice e)) (hi : P.info? e = some i) (hz : i.zero = some z)
    (hsize : i.size = size) (hby : i.bytes = bytes) (hzs : z.cells.size = size) (hsz : 0 < size)
    (v : Value) (n : Nat) (xs : List Value) (hs : a.eval s = v) (hown : w.ownsRow base e size v n xs)
    (ao : Option Addr) (m c : Nat) (news : List Value) (hx : a.eval x = .slice ao m c) (hnone : ao = none → m = 0 ∧ c = 0) (hl : news.length = m * size) (hnews : ∀ ad, ao = some ad → ∀ j u, news[j]? = some u → w.cell? (ad.add j) = some u) (h1 : ∀ u ∈ news, u.oneCell' = true)
    (h63 : n + m ≤ maxLen) (hbytes : ((n + m) + (n + m) / 4 + 192) * bytes ≤ 281474976710656) (hbase : base ≤ w.heap.size)
    (h : ∀ v' w', w'.ownsRow base e size v' (n + m) (xs ++ news) → w.grownBy w' v.ownBlock → (v' = .slice none 0 0 → v = .slice none 0 0) → wpList P ops Q rest (a.put o.dst v') w') : wpList P ops Q (o :: rest) a w := by
  cases ao with
  | some ad => exact wpList_append_own_wide w hgd s x t ho base e i z size bytes ht hi hz hsize hby hzs hsz v n xs hs hown ad m c news hx hl (hnews ad rfl) h1 h63 hbytes hbase fun v' w' h2 h3 h4 => h v' w' h2 h3 (fun e => (h4.1 e).1)
  | none =>
    obtain ⟨rfl, rfl⟩ := hnone rfl
    obtain rfl : news = [] := List.eq_nil_of_length_eq_zero (by simpa using hl)
    exact wpList_append_own_none hgd s x t ho base e i size ht hi v n xs hs hown hx (h v w (by simpa using hown) (World.grownBy.refl _ _) id)

set_option maxHeartbeats 1000000 in
theorem clone8_someW (ad : Addr) (c : Nat) (bs : List Int) (w : World) (hs : Ints .u8 w (.slice (some ad) bs.length c) bs) (hl : bs.length ≤ 140737488400000) :
    Calls Try.prog 33 #[.slice (some ad) bs.length c] w fun e w' => ∃ r, e = .returned r ∧ w'.ownsRow w.heap.size 5 1 r bs.length (bs.map (Value.int .u8)) ∧ Up w w' := by
  obtain ⟨i0, hi, hz0, hz1, hz2⟩ := info_parts info_u8
  have hnn := Lib.run_eql_slice_nil (P := Try.prog) w 34 5 (some ad) bs.length c 0 0 Try.underlying34
  obtain ⟨a1, c1, he, hc1, hn1, hcs⟩ := hs.up (Up.alloc (Up.refl w) (.cells #[] 5))
  simp only [Value.slice.injEq] at he
  obtain ⟨rfl, _, rfl⟩ := he
  have Hnews := Lib.hid (cells_all hcs)
  have r0 := ownsRow_empty w 5
  clear hs hcs hn1 hc1
  go_enter Try.func33, Try.ntmps33
  go_wp2_with (at_builtin; refine wpList_append_own_srcW _ rfl (.tmp 5) (.tmp 6) 34 rfl w.heap.size 5 i0 (.int .u8 0) 1 1 Try.underlying34 hi hz0 hz1 hz2 rfl (by decide) _ 0 _ rfl r0 (some ad) bs.length c (bs.map (Value.int .u8)) rfl (fun e => by cases e) (by simp) Hnews.out (u8_cells bs) (by unfold maxLen; omega) (by omega) (by simp) ?_; intro v' w3 hown' hgrow _)
  rw [Nat.zero_add, List.nil_append] at hown'
  go_ret
  exact ⟨_, rfl, hown', Below.grown (Up.alloc (Up.refl w) _) hgrow (by simp) (fun q e => (r0.lt q e).1)⟩
theorem clone8_wide (v : Value) (bs : List Int) (w : World) (hs : Ints .u8 w v bs) (hl : bs.length ≤ 140737488400000) :
    Calls Try.prog 33 #[v] w fun e w' => ∃ r, e = .returned r ∧ w'.ownsRow w.heap.size 5 1 r bs.length (bs.map (Value.int .u8)) ∧ Up w w' := by
  obtain ⟨a, c, rfl, h1, h2, h3⟩ := hs
  cases a with
  | none =>
    have h0 := none_empty h3 rfl
    obtain rfl := List.eq_nil_of_length_eq_zero h0
    obtain rfl := h2 rfl
    exact (clone8_nil w).mono fun e w' ⟨he, hw⟩ => ⟨_, he, World.ownsRow_nil _ _ _ _, by rw [← hw]; exact Up.refl w⟩
  | some ad => exact clone8_someW ad c bs w ⟨_, _, rfl, h1, h2, h3⟩ hl

theorem open_wide (v : Value) (zs : List Int) (w : World) (hv : Ints .u8 w v zs) (hl : zs.length ≤ 140737488400000) :
    Calls Try.prog 16 #[v] w fun e w' => ∃ g l, e = .returned (.pointer (some ⟨g, 0, none⟩)) ∧ Rd w' g l 0 zs ∧ Up w w' ∧ w.heap.size ≤ g ∧ (∀ k, l.ownBlock = some k → w.heap.size ≤ k ∧ k < w'.heap.size) := by
  have Hc := Lib.hid (clone8_wide v zs w hv hl)
  obtain ⟨a, c, rfl, _, _, _⟩ := hv
  go_enter Try.func16, Try.ntmps16
  go_wp2_with fail
  with_reducible refine Calls.mono Hc.out ?_
  rintro e w1 ⟨r, rfl, h1, h2⟩
  have H1 := Lib.hid h1
  have H2 := Lib.hid h2
  obtain ⟨a1, c1, rfl⟩ := row_shape h1
  clear h1 h2
  go_wp2
  go_ret
  exact ⟨_, _, rfl, ⟨heap_alloc_new _ _, (Ints.of_row H1.out).up (Up.alloc (Up.refl w1) _), fun k e => by have := (H1.out.lt k e).2; omega⟩, Up.alloc H2.out _, H2.out.size, fun k e => ⟨(H1.out.lt k e).1, by have := (H1.out.lt k e).2; simp; omega⟩⟩

set_option maxHeartbeats 4000000 in
theorem msRd_wide (v : Value) (zs : List Int) (w : World) (hs : Ints .u8 w v zs) (hz : U8s zs) (hl : zs.length ≤ 140737488400000) :
    Calls Try.prog 7 #[v] w (MsTold w (rdM zs) (rdE zs)) := by
  have HO : Hid (∀ wx, Up w wx → Calls Try.prog 16 #[v] wx fun e w' => ∃ g l, e = .returned (.pointer (some ⟨g, 0, none⟩)) ∧ Rd w' g l 0 zs ∧ Up wx w' ∧ wx.heap.size ≤ g ∧ (∀ k, l.ownBlock = some k → wx.heap.size ≤ k ∧ k < w'.heap.size)) := fun wx u => open_wide v zs wx (hs.up u) hl
  have HR : Hid (∀ (g : Nat) (l : Value) (W : World), Rd W g l 0 zs → (∀ k, l.ownBlock = some k → k < W.heap.size) → Calls Try.prog 15 #[.pointer (some ⟨g, 0, none⟩)] W (MsRd g W (rMs (0, zs)))) := fun g l W h k => msRead_on g l (0, zs) W W (Reads.start h) (inv0 hz) k (lt_of_block h.1)
  have HP : Hid (∀ (p : Ps) (W : World), MIn W (rMs (0, zs)) p → Calls Try.prog 6 #[.agg (msA (rMs (0, zs)) p)] W fun e w' => ∃ r, e = .returned (.tuple #[r, .int .i64 (putE (rMs (0, zs)))]) ∧ Ints .u8 w' r (putB (rMs (0, zs))) ∧ Up W w') := fun p W h => msPut_any _ p W h (rMs_ok (inv0 hz))
  have HV : Hid (∀ wx, Up w wx → Ints .u8 wx v zs) := fun wx u => hs.up u
  have RY : Hid (putE (rMs (0, zs)) = 0 → strOfNums (putB (rMs (0, zs))) = strOfNums zs → rdM zs = rMs (0, zs) ∧ rdE zs = 0) := fun k1 k2 => by unfold rdM rdE; rw [if_pos ⟨k1, k2⟩, if_pos ⟨k1, k2⟩]; exact ⟨rfl, rfl⟩
  have RN : Hid (¬ (putE (rMs (0, zs)) = 0 ∧ strOfNums (putB (rMs (0, zs))) = strOfNums zs) → rdM zs = zM 0 ∧ rdE zs = 33) := fun k => by unfold rdM rdE; rw [if_neg (show ¬ RdOk zs from k), if_neg (show ¬ RdOk zs from k)]; exact ⟨rfl, rfl⟩
  have Z0 : Hid ((msA (zM 0) zP).size = 28 ∧ (msA (zM 0) zP).all (·.oneCell') = true ∧ (∀ w : World, (Instr.alloc 33 true (.tuple #[])).run Try.prog w = .ok (.pointer (some ⟨w.heap.size, 0, none⟩)) (w.alloc (.cells (msA (zM 0) zP) 33))) ∧ ∀ w : World, (Instr.build 33 #[]).run Try.prog w = .ok (.agg (msA (zM 0) zP)) w) := ⟨rfl, msA_one _ _, alloc_ms, build_ms0⟩
  have HMS : Hid (∀ p, (msA (rMs (0, zs)) p).size = 28 ∧ (msA (rMs (0, zs)) p).all (·.oneCell') = true) := fun p => ⟨rfl, msA_one _ p⟩
  generalize hPOST : MsTold w (rdM zs) (rdE zs) = POST
  have HPZ : Hid (∀ w', rdM zs = zM 0 ∧ rdE zs = 33 → Up w w' → POST (.returned (.tuple #[.agg (msA (zM 0) zP), .int .i64 33])) w') := fun w' k u => by rw [← hPOST]; exact ⟨⟨zP, by rw [k.1, k.2], by rw [k.1]; exact zM_in _ _⟩, u⟩
  have HPM : Hid (∀ w' p, rdM zs = rMs (0, zs) ∧ rdE zs = 0 → MIn w' (rMs (0, zs)) p → Up w w' → POST (.returned (.tuple #[.agg (msA (rMs (0, zs)) p), .int .i64 0])) w') := fun w' p k i u => by rw [← hPOST]; exact ⟨⟨p, by rw [k.1, k.2], by rw [k.1]; exact i⟩, u⟩
  obtain ⟨va, vc, rfl, _, _, _⟩ := hs
  clear hPOST hz hl
  generalize rdM zs = RM at *
  generalize rdE zs = RE at *
  generalize hM : rMs (0, zs) = M at *
  generalize putE M = PE at *
  generalize putB M = PB at *
  generalize msA (zM 0) zP = z at *
  clear hM
  generalize hn : zs.length = n at *
  clear hn
  go_enter Try.func7, Try.ntmps7
  go_wp2_with (refine wpList_allocT rfl rfl Z0.out.2.2.1 ?_; intro b2 w2 k2 s2 u2; refine Stp.h ?_)
  have HX2 := Lib.hid k2
  have HU2 := Lib.hid u2
  have HS2 := Lib.hid s2
  clear k2 s2 u2
  refine Stp.mk ?_
  go_wp2_with fail
  with_reducible refine Calls.mono (HO.out _ HU2.out) ?_
  rintro e w3 ⟨g, l, rfl, k1, k2, k3, k4⟩
  have HR3 := Lib.hid k1
  have HU3 := Lib.hid (Up.trans HU2.out k2)
  have HX3 := Lib.hid ((k2.block _ (lt_of_block HX2.out)).trans HX2.out)
  have HG3 : Hid (w.heap.size ≤ g ∧ b2 < g) := ⟨Nat.le_trans HU2.out.size k3, Nat.lt_of_lt_of_le (lt_of_block HX2.out) k3⟩
  have HL3 : Hid (∀ k, l.ownBlock = some k → k < w3.heap.size) := fun k hk => (k4 k hk).2
  clear k1 k2 k3 k4
  go_wp2_with fail
  with_reducible refine Calls.mono (HR.out g l w3 HR3.out HL3.out) ?_
  rintro e w4 ⟨⟨p, rfl, k1, kl⟩, k2⟩
  have HM4 := Lib.hid k1
  have HLOW : Hid (MLow w3.heap.size p ∧ b2 < w3.heap.size) := ⟨kl, lt_of_block HX3.out⟩
  clear kl
  have HU4 := Lib.hid (up_at HU3.out k2 HG3.out.1)
  have HX4 := Lib.hid (block_read HX3.out k2 (by have := HG3.out; omega))
  have HMP := Lib.hid (HMS.out p)
  clear k1 k2
  have HPP := Lib.hid (fun W h => HP.out p W h)
  have HPMP := Lib.hid (fun w' => HPM.out w' p)
  generalize msA M p = cs at *
  go_wp2_with (refine wpList_allocT rfl rfl Z0.out.2.2.1 ?_; intro b4 w5 k5 s5 u5; refine Stp.h ?_)
  have HX5 := Lib.hid ((u5.block _ (lt_of_block HX4.out)).trans HX4.out)
  have HU5 := Lib.hid (Up.trans HU4.out u5)
  have HY5 := Lib.hid k5
  have HM5 := Lib.hid (HM4.out.up u5)
  have HF5 : Hid (b2 ≠ b4 ∧ w.heap.size ≤ b4 ∧ w.heap.size ≤ b2) := ⟨fun e => by have := lt_of_block HX4.out; omega, Nat.le_trans HU4.out.size s5, HS2.out⟩
  have HS5 := Lib.hid (show w4.heap.size ≤ b4 from s5)
  have HLT := Lib.hid HM4.out.lt
  have HU45 := Lib.hid u5
  clear k5 s5 u5
  refine Stp.mk ?_
  go_wp2_with (refine wpList_storeT (B := b4) rfl rfl rfl rfl HY5.out (by rw [info_ms, HMP.out.1]) (by rw [Z0.out.1, HMP.out.1]) HMP.out.2 ?_; intro w6 k6 g6; refine Stp.h ?_)
  have HY6 := Lib.hid k6
  have HX6 := Lib.hid (block_read HX5.out g6 HF5.out.1)
  have HU6 := Lib.hid (up_at HU5.out g6 HF5.out.2.1)
  have HM6 := Lib.hid (HM4.out.up (up_at HU45.out g6 HS5.out))
  clear k6 g6 HX5 HY5 HU5 HM5
  refine Stp.mk ?_
  go_wp2_with (refine wpList_ex rfl (.agg cs) _ (ex_loadrow rfl rfl _ 33 HY6.out Try.underlying33 rfl (by rw [info_ms, HMP.out.1])) ?_; refine Stp.h ?_)
  refine Stp.mk ?_
  go_wp2_with fail
  with_reducible refine Calls.mono (HPP.out w6 HM6.out) ?_
  rintro e w7 ⟨r, rfl, k1, k2⟩
  have HI7 := Lib.hid k1
  have HU7 := Lib.hid (Up.trans HU6.out k2)
  have HM7 := Lib.hid (HM6.out.up k2)
  have HX7 := Lib.hid ((k2.block _ (lt_of_block HX6.out)).trans HX6.out)
  have HY7 := Lib.hid ((k2.block _ (lt_of_block HY6.out)).trans HY6.out)
  obtain ⟨ra, rc, rfl, _, _, _⟩ := k1
  clear k2
  generalize hrn : PB.length = rn at *
  clear hrn
  by_cases hE : PE = 0
  · have HBQ := Lib.hid (bytesEq_any (.slice ra rn rc) (.slice va n vc) PB zs w7 HI7.out (HV.out _ HU7.out))
    have e0 : (PE != 0) = false := by rw [bne_eq_false_iff_eq]; exact hE
    by_cases hq : strOfNums PB = strOfNums zs
    · rw [bD_true hq] at HBQ
      have hrr := Lib.hid (RY.out hE hq)
      clear hq hE RY RN
      go_wp2_with fail
      with_reducible refine Calls.mono HBQ.out ?_
      rintro e w8 ⟨rfl, rfl⟩
      go_wp2_with (refine wpList_ex rfl (.agg cs) _ (ex_loadrow rfl rfl _ 33 HY7.out Try.underlying33 rfl (by rw [info_ms, HMP.out.1])) ?_; refine Stp.h ?_)
      refine Stp.mk ?_
      go_wp2_with (refine wpList_storeT (B := b2) (c1 := cs) rfl rfl rfl rfl HX7.out (by rw [info_ms, HMP.out.1]) (by rw [Z0.out.1, HMP.out.1]) HMP.out.2 ?_; intro w9 k9 g9; refine Stp.h ?_)
      refine Stp.mk ?_
      go_wp2
      exact bodyPost_ret (results_msr rfl _ _ b2 _ (.int .i64 0) rfl rfl k9 HMP.out.1) rfl (HPMP.out _ hrr.out (HM7.out.box HLOW.out.1 HLOW.out.2 g9) (up_at HU7.out g9 HF5.out.2.2))
    · rw [bD_false hq] at HBQ
      have hrr := Lib.hid (RN.out (fun k => hq k.2))
      clear hq hE RY RN
      go_wp2_with fail
      with_reducible refine Calls.mono HBQ.out ?_
      rintro e w8 ⟨rfl, rfl⟩
      go_wp2_with (refine wpList_ex rfl (.agg z) _ (ex_build0 _ _ (Z0.out.2.2.2 _) rfl) ?_; refine Stp.h ?_)
      refine Stp.mk ?_
      go_wp2_with (refine wpList_storeT (B := b2) (c1 := z) rfl rfl rfl rfl HX7.out (by rw [info_ms, Z0.out.1]) rfl Z0.out.2.1 ?_; intro w9 k9 g9; refine Stp.h ?_)
      refine Stp.mk ?_
      go_wp2
      exact bodyPost_ret (results_msr rfl _ _ b2 _ (.int .i64 33) rfl rfl k9 Z0.out.1) rfl (HPZ.out _ hrr.out (up_at HU7.out g9 HF5.out.2.2))
  · have hrr := Lib.hid (RN.out (fun k => hE k.1))
    have e0 : (PE == 0) = false := by rw [beq_eq_false_iff_ne]; exact hE
    have e1 : (PE != 0) = true := by rw [bne, e0]; rfl
    clear hE RY RN
    go_wp2_with (refine wpList_ex rfl (.agg z) _ (ex_build0 _ _ (Z0.out.2.2.2 _) rfl) ?_; refine Stp.h ?_)
    refine Stp.mk ?_
    go_wp2_with (refine wpList_storeT (B := b2) (c1 := z) rfl rfl rfl rfl HX7.out (by rw [info_ms, Z0.out.1]) rfl Z0.out.2.1 ?_; intro w9 k9 g9; refine Stp.h ?_)
    refine Stp.mk ?_
    go_wp2
    exact bodyPost_ret (results_msr rfl _ _ b2 _ (.int .i64 33) rfl rfl k9 Z0.out.1) rfl (HPZ.out _ hrr.out (up_at HU7.out g9 HF5.out.2.2))
end
end Go.Proofs.Ytacamknljicjmaa
