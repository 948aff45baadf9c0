import Derived.Test.YtacamknljicjmaaMsDec
/-
  message: Read.
-/
namespace Go.Proofs.Ytacamknljicjmaa
set_option maxRecDepth 100000
section
set_option linter.unusedVariables false
open Go.RowKit Go.Sort Go.Lib

theorem bytesEq_any (v u : Value) (xs ys : List Int) (w : World) (hv : Ints .u8 w v xs) (hu : Ints .u8 w u ys) :
    Calls Try.prog 17 #[v, u] w fun e w' => e = .returned (.bool (bD (strOfNums xs = strOfNums ys))) ∧ w = w' := by
  have s1 := hv.str
  have s2 := hu.str
  obtain ⟨a, c, rfl, _, _, _⟩ := hv
  obtain ⟨b, d, rfl, _, _, _⟩ := hu
  have he : Hid (((strOfNums xs).toList == (strOfNums ys).toList) = bD (strOfNums xs = strOfNums ys)) := by
    (have k : ((strOfNums xs).toList == (strOfNums ys).toList) = bD (strOfNums xs = strOfNums ys) := by
      by_cases g : strOfNums xs = strOfNums ys
      · rw [bD_true g, g]; simp
      · rw [bD_false g, beq_eq_false_iff_ne]; exact fun h => g (toList_inj h))
    exact k
  have hE := he.out
  generalize bD (strOfNums xs = strOfNums ys) = R at he hE ⊢
  generalize strOfNums xs = X at *
  generalize strOfNums ys = Y at *
  generalize xs.length = n at *
  generalize ys.length = m at *
  clear he
  go_enter Try.func17, Try.ntmps17
  go_wp2
  go_ret
  first | exact ⟨rfl, rfl⟩ | exact ⟨by simp [hE], rfl⟩
theorem results_msr {fn : Func} {p q : Tmp} (h : fn.results = #[.cell p 33, .tmp q]) (tmps : Array Value) (w : World) (A : Nat) (cs : Array Value) (u : Value) (hp : tmps.getD p undef = .pointer (some ⟨A, 0, none⟩)) (ht : tmps.getD q undef = u)
    (hA : w.heap[A]? = some (.cells cs 33 (0, 0))) (hcs : cs.size = 28) :
    (results fn tmps).run Try.prog w = .ok (.tuple #[.agg cs, u]) w := by
  have hp' : tmps[p]?.getD undef = .pointer (some ⟨A, 0, none⟩) := by simpa using hp
  have ht' : tmps[q]?.getD undef = u := by simpa using ht
  have hl := run_loadVar_row (P := Try.prog) w A 33 33 cs (0, 0) _ hA Try.underlying33 rfl (by rw [info_ms, hcs])
  simp [results, h, hp', ht', asAddr, hl]
theorem build_ms0 (w : World) : (Instr.build 33 #[]).run Try.prog w = .ok (.agg (msA (zM 0) zP)) w := by
  simp [msA, msLs, bkLs, vsC, ctLs, tsC, zM, zV, zC, zB, zT, zP, zL, strOfNums, go_sem]
/-- are octets a message's? the message -/
def RdOk (zs : List Int) : Prop := putE (rMs (0, zs)) = 0 ∧ strOfNums (putB (rMs (0, zs))) = strOfNums zs
open Classical in
noncomputable def rdM (zs : List Int) : Mm := if RdOk zs then rMs (0, zs) else zM 0
open Classical in
noncomputable def rdE (zs : List Int) : Int := if RdOk zs then 0 else 33
/-- what Read tells -/
structure MsTold (w : World) (m : Mm) (E : Int) (e : Ending) (w' : World) : Prop where
  ex : ∃ p : Ps, e = .returned (.tuple #[.agg (msA m p), .int .i64 E]) ∧ MIn w' m p
  up : Up w w'

theorem varg_box {W W' : World} {a : Option Addr} {n c B : Nat} {xs : List Vs} (h : VArg W (.slice a n c) xs) (hB : ∀ b off, a = some ⟨b, off, none⟩ → b ≠ B) (hG : W.grownBy W' (some B)) : VArg W' (.slice a n c) xs := by
  obtain ⟨a', cap', e, h2, h3, h4⟩ := h
  cases e
  refine ⟨a, c, rfl, h2, h3, h4.imp id ?_⟩
  rintro ⟨b, off, h5, h6⟩
  refine ⟨b, off, h5, fun j hj => ?_⟩
  have k := h6 j hj
  rw [List.getElem?_eq_getElem (by rw [vsF_length]; exact hj)] at k ⊢
  rw [← k]
  exact World.cell?_of_block (a := ⟨b, off + j, none⟩) (hG.block b (World.block_lt_of_cell? W _ k) (fun e => hB b off h5 (by simpa using e)))
theorem targ_box {W W' : World} {a : Option Addr} {n c B : Nat} {xs : List Ts} (h : TArg W (.slice a n c) xs) (hB : ∀ b off, a = some ⟨b, off, none⟩ → b ≠ B) (hG : W.grownBy W' (some B)) : TArg W' (.slice a n c) xs := by
  obtain ⟨a', cap', e, h2, h3, h4⟩ := h
  cases e
  refine ⟨a, c, rfl, h2, h3, h4.imp id ?_⟩
  rintro ⟨b, off, h5, h6⟩
  refine ⟨b, off, h5, fun i x hi k hk => ?_⟩
  have q := h6 i x hi k hk
  rw [← q]
  exact World.cell?_of_block (a := ⟨b, off + (i * 5 + k), none⟩) (hG.block b (World.block_lt_of_cell? W _ q) (fun e => hB b off h5 (by simpa using e)))
theorem MIn.box {W W' : World} {m : Mm} {p : Ps} {B base : Nat} (h : MIn W m p) (hl : MLow base p) (hb : B < base) (hG : W.grownBy W' (some B)) : MIn W' m p :=
  ⟨varg_box h.j (fun b off e => by have := hl.j b off e; omega) hG, targ_box h.x (fun b off e => by have := hl.x b off e; omega) hG, varg_box h.c (fun b off e => by have := hl.c b off e; omega) hG, varg_box h.l (fun b off e => by have := hl.l b off e; omega) hG⟩
set_option maxHeartbeats 4000000 in
theorem msRd_any (v : Value) (zs : List Int) (w : World) (hs : Ints .u8 w v zs) (hz : U8s zs) (hl : zs.length ≤ 140737488355328) :
    Calls Try.prog 7 #[v] w (MsTold w (rdM zs) (rdE zs)) := by
  have HO : Hid (∀ wx, Up w wx → Calls Try.prog 16 #[v] wx fun e w' => ∃ g l, e = .returned (.pointer (some ⟨g, 0, none⟩)) ∧ Rd w' g l 0 zs ∧ Up wx w' ∧ wx.heap.size ≤ g ∧ (∀ k, l.ownBlock = some k → wx.heap.size ≤ k ∧ k < w'.heap.size)) := fun wx u => open_reader v zs wx (hs.up u) hl
  have HR : Hid (∀ (g : Nat) (l : Value) (W : World), Rd W g l 0 zs → (∀ k, l.ownBlock = some k → k < W.heap.size) → Calls Try.prog 15 #[.pointer (some ⟨g, 0, none⟩)] W (MsRd g W (rMs (0, zs)))) := fun g l W h k => msRead_on g l (0, zs) W W (Reads.start h) (inv0 hz) k (lt_of_block h.1)
  have HP : Hid (∀ (p : Ps) (W : World), MIn W (rMs (0, zs)) p → Calls Try.prog 6 #[.agg (msA (rMs (0, zs)) p)] W fun e w' => ∃ r, e = .returned (.tuple #[r, .int .i64 (putE (rMs (0, zs)))]) ∧ Ints .u8 w' r (putB (rMs (0, zs))) ∧ Up W w') := fun p W h => msPut_any _ p W h (rMs_ok (inv0 hz))
  have HV : Hid (∀ wx, Up w wx → Ints .u8 wx v zs) := fun wx u => hs.up u
  have RY : Hid (putE (rMs (0, zs)) = 0 → strOfNums (putB (rMs (0, zs))) = strOfNums zs → rdM zs = rMs (0, zs) ∧ rdE zs = 0) := fun k1 k2 => by unfold rdM rdE; rw [if_pos ⟨k1, k2⟩, if_pos ⟨k1, k2⟩]; exact ⟨rfl, rfl⟩
  have RN : Hid (¬ (putE (rMs (0, zs)) = 0 ∧ strOfNums (putB (rMs (0, zs))) = strOfNums zs) → rdM zs = zM 0 ∧ rdE zs = 33) := fun k => by unfold rdM rdE; rw [if_neg (show ¬ RdOk zs from k), if_neg (show ¬ RdOk zs from k)]; exact ⟨rfl, rfl⟩
  have Z0 : Hid ((msA (zM 0) zP).size = 28 ∧ (msA (zM 0) zP).all (·.oneCell') = true ∧ (∀ w : World, (Instr.alloc 33 true (.tuple #[])).run Try.prog w = .ok (.pointer (some ⟨w.heap.size, 0, none⟩)) (w.alloc (.cells (msA (zM 0) zP) 33))) ∧ ∀ w : World, (Instr.build 33 #[]).run Try.prog w = .ok (.agg (msA (zM 0) zP)) w) := ⟨rfl, msA_one _ _, alloc_ms, build_ms0⟩
  have HMS : Hid (∀ p, (msA (rMs (0, zs)) p).size = 28 ∧ (msA (rMs (0, zs)) p).all (·.oneCell') = true) := fun p => ⟨rfl, msA_one _ p⟩
  generalize hPOST : MsTold w (rdM zs) (rdE zs) = POST
  have HPZ : Hid (∀ w', rdM zs = zM 0 ∧ rdE zs = 33 → Up w w' → POST (.returned (.tuple #[.agg (msA (zM 0) zP), .int .i64 33])) w') := fun w' k u => by rw [← hPOST]; exact ⟨⟨zP, by rw [k.1, k.2], by rw [k.1]; exact zM_in _ _⟩, u⟩
  have HPM : Hid (∀ w' p, rdM zs = rMs (0, zs) ∧ rdE zs = 0 → MIn w' (rMs (0, zs)) p → Up w w' → POST (.returned (.tuple #[.agg (msA (rMs (0, zs)) p), .int .i64 0])) w') := fun w' p k i u => by rw [← hPOST]; exact ⟨⟨p, by rw [k.1, k.2], by rw [k.1]; exact i⟩, u⟩
  obtain ⟨va, vc, rfl, _, _, _⟩ := hs
  clear hPOST hz hl
  generalize rdM zs = RM at *
  generalize rdE zs = RE at *
  generalize hM : rMs (0, zs) = M at *
  generalize putE M = PE at *
  generalize putB M = PB at *
  generalize msA (zM 0) zP = z at *
  clear hM
  generalize hn : zs.length = n at *
  clear hn
  go_enter Try.func7, Try.ntmps7
  go_wp2_with (refine wpList_allocT rfl rfl Z0.out.2.2.1 ?_; intro b2 w2 k2 s2 u2; refine Stp.h ?_)
  have HX2 := Lib.hid k2
  have HU2 := Lib.hid u2
  have HS2 := Lib.hid s2
  clear k2 s2 u2
  refine Stp.mk ?_
  go_wp2_with fail
  with_reducible refine Calls.mono (HO.out _ HU2.out) ?_
  rintro e w3 ⟨g, l, rfl, k1, k2, k3, k4⟩
  have HR3 := Lib.hid k1
  have HU3 := Lib.hid (Up.trans HU2.out k2)
  have HX3 := Lib.hid ((k2.block _ (lt_of_block HX2.out)).trans HX2.out)
  have HG3 : Hid (w.heap.size ≤ g ∧ b2 < g) := ⟨Nat.le_trans HU2.out.size k3, Nat.lt_of_lt_of_le (lt_of_block HX2.out) k3⟩
  have HL3 : Hid (∀ k, l.ownBlock = some k → k < w3.heap.size) := fun k hk => (k4 k hk).2
  clear k1 k2 k3 k4
  go_wp2_with fail
  with_reducible refine Calls.mono (HR.out g l w3 HR3.out HL3.out) ?_
  rintro e w4 ⟨⟨p, rfl, k1, kl⟩, k2⟩
  have HM4 := Lib.hid k1
  have HLOW : Hid (MLow w3.heap.size p ∧ b2 < w3.heap.size) := ⟨kl, lt_of_block HX3.out⟩
  clear kl
  have HU4 := Lib.hid (up_at HU3.out k2 HG3.out.1)
  have HX4 := Lib.hid (block_read HX3.out k2 (by have := HG3.out; omega))
  have HMP := Lib.hid (HMS.out p)
  clear k1 k2
  have HPP := Lib.hid (fun W h => HP.out p W h)
  have HPMP := Lib.hid (fun w' => HPM.out w' p)
  generalize msA M p = cs at *
  go_wp2_with (refine wpList_allocT rfl rfl Z0.out.2.2.1 ?_; intro b4 w5 k5 s5 u5; refine Stp.h ?_)
  have HX5 := Lib.hid ((u5.block _ (lt_of_block HX4.out)).trans HX4.out)
  have HU5 := Lib.hid (Up.trans HU4.out u5)
  have HY5 := Lib.hid k5
  have HM5 := Lib.hid (HM4.out.up u5)
  have HF5 : Hid (b2 ≠ b4 ∧ w.heap.size ≤ b4 ∧ w.heap.size ≤ b2) := ⟨fun e => by have := lt_of_block HX4.out; omega, Nat.le_trans HU4.out.size s5, HS2.out⟩
  have HS5 := Lib.hid (show w4.heap.size ≤ b4 from s5)
  have HLT := Lib.hid HM4.out.lt
  have HU45 := Lib.hid u5
  clear k5 s5 u5
  refine Stp.mk ?_
  go_wp2_with (refine wpList_storeT (B := b4) rfl rfl rfl rfl HY5.out (by rw [info_ms, HMP.out.1]) (by rw [Z0.out.1, HMP.out.1]) HMP.out.2 ?_; intro w6 k6 g6; refine Stp.h ?_)
  have HY6 := Lib.hid k6
  have HX6 := Lib.hid (block_read HX5.out g6 HF5.out.1)
  have HU6 := Lib.hid (up_at HU5.out g6 HF5.out.2.1)
  have HM6 := Lib.hid (HM4.out.up (up_at HU45.out g6 HS5.out))
  clear k6 g6 HX5 HY5 HU5 HM5
  refine Stp.mk ?_
  go_wp2_with (refine wpList_ex rfl (.agg cs) _ (ex_loadrow rfl rfl _ 33 HY6.out Try.underlying33 rfl (by rw [info_ms, HMP.out.1])) ?_; refine Stp.h ?_)
  refine Stp.mk ?_
  go_wp2_with fail
  with_reducible refine Calls.mono (HPP.out w6 HM6.out) ?_
  rintro e w7 ⟨r, rfl, k1, k2⟩
  have HI7 := Lib.hid k1
  have HU7 := Lib.hid (Up.trans HU6.out k2)
  have HM7 := Lib.hid (HM6.out.up k2)
  have HX7 := Lib.hid ((k2.block _ (lt_of_block HX6.out)).trans HX6.out)
  have HY7 := Lib.hid ((k2.block _ (lt_of_block HY6.out)).trans HY6.out)
  obtain ⟨ra, rc, rfl, _, _, _⟩ := k1
  clear k2
  generalize hrn : PB.length = rn at *
  clear hrn
  by_cases hE : PE = 0
  · have HBQ := Lib.hid (bytesEq_any (.slice ra rn rc) (.slice va n vc) PB zs w7 HI7.out (HV.out _ HU7.out))
    have e0 : (PE != 0) = false := by rw [bne_eq_false_iff_eq]; exact hE
    by_cases hq : strOfNums PB = strOfNums zs
    · rw [bD_true hq] at HBQ
      have hrr := Lib.hid (RY.out hE hq)
      clear hq hE RY RN
      go_wp2_with fail
      with_reducible refine Calls.mono HBQ.out ?_
      rintro e w8 ⟨rfl, rfl⟩
      go_wp2_with (refine wpList_ex rfl (.agg cs) _ (ex_loadrow rfl rfl _ 33 HY7.out Try.underlying33 rfl (by rw [info_ms, HMP.out.1])) ?_; refine Stp.h ?_)
      refine Stp.mk ?_
      go_wp2_with (refine wpList_storeT (B := b2) (c1 := cs) rfl rfl rfl rfl HX7.out (by rw [info_ms, HMP.out.1]) (by rw [Z0.out.1, HMP.out.1]) HMP.out.2 ?_; intro w9 k9 g9; refine Stp.h ?_)
      refine Stp.mk ?_
      go_wp2
      exact bodyPost_ret (results_msr rfl _ _ b2 _ (.int .i64 0) rfl rfl k9 HMP.out.1) rfl (HPMP.out _ hrr.out (HM7.out.box HLOW.out.1 HLOW.out.2 g9) (up_at HU7.out g9 HF5.out.2.2))
    · rw [bD_false hq] at HBQ
      have hrr := Lib.hid (RN.out (fun k => hq k.2))
      clear hq hE RY RN
      go_wp2_with fail
      with_reducible refine Calls.mono HBQ.out ?_
      rintro e w8 ⟨rfl, rfl⟩
      go_wp2_with (refine wpList_ex rfl (.agg z) _ (ex_build0 _ _ (Z0.out.2.2.2 _) rfl) ?_; refine Stp.h ?_)
      refine Stp.mk ?_
      go_wp2_with (refine wpList_storeT (B := b2) (c1 := z) rfl rfl rfl rfl HX7.out (by rw [info_ms, Z0.out.1]) rfl Z0.out.2.1 ?_; intro w9 k9 g9; refine Stp.h ?_)
      refine Stp.mk ?_
      go_wp2
      exact bodyPost_ret (results_msr rfl _ _ b2 _ (.int .i64 33) rfl rfl k9 Z0.out.1) rfl (HPZ.out _ hrr.out (up_at HU7.out g9 HF5.out.2.2))
  · have hrr := Lib.hid (RN.out (fun k => hE k.1))
    have e0 : (PE == 0) = false := by rw [beq_eq_false_iff_ne]; exact hE
    have e1 : (PE != 0) = true := by rw [bne, e0]; rfl
    clear hE RY RN
    go_wp2_with (refine wpList_ex rfl (.agg z) _ (ex_build0 _ _ (Z0.out.2.2.2 _) rfl) ?_; refine Stp.h ?_)
    refine Stp.mk ?_
    go_wp2_with (refine wpList_storeT (B := b2) (c1 := z) rfl rfl rfl rfl HX7.out (by rw [info_ms, Z0.out.1]) rfl Z0.out.2.1 ?_; intro w9 k9 g9; refine Stp.h ?_)
    refine Stp.mk ?_
    go_wp2
    exact bodyPost_ret (results_msr rfl _ _ b2 _ (.int .i64 33) rfl rfl k9 Z0.out.1) rfl (HPZ.out _ hrr.out (up_at HU7.out g9 HF5.out.2.2))
end
end Go.Proofs.Ytacamknljicjmaa
