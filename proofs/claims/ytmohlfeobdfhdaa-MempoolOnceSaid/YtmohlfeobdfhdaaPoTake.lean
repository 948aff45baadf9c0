import Derived.Test.YtmohlfeobdfhdaaPoAwait
import Derived.Test.YtmohlfeobdfhdaaPoIdx
/-
  mempool.Take.
-/
namespace Go.Proofs.Ytmohlfeobdfhdaa
set_option maxRecDepth 100000
section
set_option linter.unusedVariables false
open Go.RowKit Go.Sort Go.Lib

/-- the nonces behind these -/
def tkN : List Int → List Ts → List Int
  | N, [] => N
  | N, x :: t => tkN (N.set x.1.F.toNat (wrap64 (x.1.N + 1))) t
/-- each is the next one of its account's, as those ahead of it leave them -/
def Taken : List Int → List Ts → Prop
  | _, [] => True
  | N, x :: t => nextS N x.1.F x.1.N = true ∧ Taken (N.set x.1.F.toNat (wrap64 (x.1.N + 1))) t
theorem tkN_snoc (x : Ts) : ∀ (t : List Ts) (N : List Int), tkN N (t ++ [x]) = (tkN N t).set x.1.F.toNat (wrap64 (x.1.N + 1))
  | [], N => rfl
  | y :: t, N => tkN_snoc x t _
theorem taken_snoc (x : Ts) : ∀ (t : List Ts) (N : List Int), Taken N t → nextS (tkN N t) x.1.F x.1.N = true → Taken N (t ++ [x])
  | [], N, _, h => ⟨h, trivial⟩
  | y :: t, N, h, h2 => ⟨h.1, taken_snoc x t _ h.2 h2⟩
/-- what Take answers -/
structure Took (N : List Int) (xs out : List Ts) : Prop where
  turn : Taken N out
  four : out.length ≤ 4
  some : ∀ x, x ∈ out → x ∈ xs
theorem Took.snoc {N : List Int} {xs out : List Ts} (h : Took N xs out) (x : Ts) (hx : x ∈ xs) (hl : out.length < 4) (hn : nextS (tkN N out) x.1.F x.1.N = true) : Took N xs (out ++ [x]) :=
  ⟨taken_snoc x out N h.turn hn, by rw [List.length_append, List.length_singleton]; omega, fun y hy => by
    rcases List.mem_append.1 hy with h1 | h1
    · exact h.some y h1
    · rw [List.mem_singleton.1 h1]; exact hx⟩

/-- the first that is there -/
theorem firstIn_any (v : Value) (xs : List Ts) (b m : Nat) (S : Int → Int → Bool) (w : World) (hx : TArg w v xs) (hok : ∀ (j : Nat) (x : Ts), xs[j]? = some x → TsOk x) (hn : xs.length < 4611686018427387904) (hs : SlotSet w b m S) :
    Calls Try.prog 14 #[v, .func (.func 15) #[.map (some b)] #[]] w fun e w' => Up w w' ∧ (e = .returned (.int .i64 (-1)) ∨ ∃ k x, e = .returned (.int .i64 ((k : Nat) : Int)) ∧ xs[k]? = some x ∧ S x.1.F x.1.N = true) := by
  obtain ⟨a, cap, rfl, _⟩ := id hx
  by_cases h0 : xs = []
  · subst h0
    exact (tsIndex_zero a cap _ w).mono fun e w' ⟨he, hw⟩ => ⟨by rw [hw]; exact Up.refl w, .inl he⟩
  · obtain ⟨blk, off, rfl⟩ := hx.ptr (List.length_pos_iff.2 h0)
    have hget : ∀ i, i < xs.length → xs[i]? = some (xs[i]?.getD default) := fun i hi => by rw [List.getElem?_eq_getElem hi]; rfl
    refine (tsIndexM_any 15 (.map (some b)) (enters_of Try.func15 (by kernel_rfl) rfl) (fun _ W => Up w W) (fun i => xs[i]?.getD default) (fun i => S (xs[i]?.getD default).1.F (xs[i]?.getD default).1.N) blk off xs.length cap hn
      (fun i W hi hU => (hx.up hU).load (hget i hi))
      (fun i W hi hU => (has_any b m S (xs[i]?.getD default) (hok i _ (hget i hi)) W (hs.up hU)).mono fun e w' ⟨he, hG⟩ => ⟨he, Up.trans hU hG.up⟩) w (Up.refl w)).mono fun e w' ⟨k, h1, h2, h3, h4, h5⟩ => ?_
    by_cases hk : k < xs.length
    · rw [if_pos hk] at h4
      exact ⟨h5, .inr ⟨k, _, h4, hget k hk, h3 hk⟩⟩
    · rw [if_neg hk] at h4
      exact ⟨h5, .inl h4⟩

set_option maxHeartbeats 1000000 in
theorem take_any (v va : Value) (xs : List Ts) (ac : List Ac) (w : World) (hx : TArg w v xs) (hok : ∀ (j : Nat) (x : Ts), xs[j]? = some x → TsOk x) (hn : xs.length < 4611686018427387904)
    (ha : AArg w va ac) (hoka : ∀ (j : Nat) (x : Ac), ac[j]? = some x → AcOk x) (hna : ac.length < 100000) :
    Calls Try.prog 10 #[v, va] w fun e w' => ∃ r out, e = .returned r ∧ w'.ownsRow (w.heap.size + 1) 29 5 r out.length (tsF out) ∧ Up w w' ∧ Took (ac.map (·.2)) xs out := by
  obtain ⟨i0, hi0, hz0, hz1, hz2⟩ := info_partsT info_tsd
  have Hw := Lib.hid (awaited_any va ac w ha hoka (by omega))
  obtain ⟨a0, cap0, rfl, _⟩ := id hx
  have HX := Lib.hid hx
  have HOK := Lib.hid (And.intro hok hn)
  generalize ac.map (·.2) = N0 at Hw ⊢
  generalize ac.length = na at Hw hna
  obtain ⟨n, hnl⟩ : ∃ n, xs.length = n := ⟨_, rfl⟩
  have HN := Lib.hid hnl
  rw [hnl] at hn ⊢
  clear hx hok hnl ha hoka
  go_enter Try.func10, Try.ntmps10
  go_wp2_with fail
  with_reducible refine Calls.mono Hw.out ?_
  rintro e w1 ⟨rfl, hU1, hS1⟩
  have HU1 := Lib.hid hU1
  have HS1 := Lib.hid hS1
  have HR1 : Hid (w1.ownsRow (w.heap.size + 1) 29 5 (.slice none 0 0) ([] : List Ts).length (tsF [])) := Lib.hid (World.ownsRow_nil _ _ _ _)
  have HT1 : Hid (Took N0 xs [] ∧ ([] : List Ts).length ≤ 0) := Lib.hid ⟨⟨trivial, by simp, fun x hx => by cases hx⟩, Nat.le_refl _⟩
  clear hU1 hS1 Hw
  go_wp2
  go_loopw [6, 10] (fun vo vi wr => ∃ (i : Nat) (out : List Ts), vi = .int .i64 (i : Nat) ∧ i ≤ 4 ∧ Hid (wr.ownsRow (w.heap.size + 1) 29 5 vo out.length (tsF out)) ∧ Hid (SlotSet wr w.heap.size (na + i) (nextS (tkN N0 out))) ∧ Hid (Up w wr) ∧ Hid (Took N0 xs out ∧ out.length ≤ i)) (fun _ vi _ => 4 - (RowKit.intOf vi).toNat)
  case atStart => exact ⟨0, [], rfl, by omega, HR1, HS1, HU1, HT1⟩
  case round =>
    obtain ⟨i, out, rfl, hi, HR, HS, HU, HT⟩ := hrel
    by_cases hlt : i < 4
    · have hz : (i : Int) < 4 := by omega
      have Hf := Lib.hid (firstIn_any _ xs w.heap.size _ _ wr (HX.out.up HU.out) HOK.out.1 HOK.out.2 HS.out)
      rw [HN.out] at Hf
      go_wp2_with fail
      with_reducible refine Calls.mono Hf.out ?_
      rintro e w2 ⟨hU2, hor⟩
      have HU2 := Lib.hid (Up.trans HU.out hU2)
      have HS2 := Lib.hid (HS.out.up hU2)
      have HR2 := Lib.hid (ownsRow_up HR.out hU2)
      clear Hf HU HS HR hU2
      rcases hor with rfl | ⟨k, x, rfl, hxk, hSx⟩
      · go_wp2
        go_ret
        exact ⟨_, out, rfl, HR2.out, HU2.out, HT.out.1⟩
      · have hkn : k < n := by have := (List.getElem?_eq_some_iff.1 hxk).1; rw [HN.out] at this; exact this
        have hz2 : (k : Int) < (n : Int) := by omega
        have hz3 : (0 : Int) ≤ (k : Int) := by omega
        obtain ⟨b, off, rfl⟩ := HX.out.ptr (by have := HN.out; omega)
        have hl := (HX.out.up HU2.out).load hxk
        have HTX := Lib.hid (And.intro (HOK.out.1 k x hxk) (And.intro hSx (List.mem_of_getElem? hxk)))
        have hun := HU2.out.size
        have hbl := HS2.out.lt
        have ho4 := HT.out.2
        obtain ⟨ca, cc, rfl⟩ := row_shape HR2.out
        obtain ⟨ca', cc', w3, k1, k2, k3⟩ := app_st (z := .agg (tsA default)) Try.underlying22 info_tsd rfl (by omega) (w.heap.size + 1) w2 ca cc out.length (tsF out) (tsA x) HR2.out rfl (fun v hv => by rw [tsA_eq] at hv; exact tsC_one x v (by simpa using hv)) (by omega) (by unfold maxLen; omega) (by unfold maxLen; omega) (by omega)
        have hbs := build_ts1 x w2
        have hua := Up.alloc (Up.refl w2) (.cells (tsA x) 29)
        have HR3 : Hid (w3.ownsRow (w.heap.size + 1) 29 5 (.slice ca' (out.length + 1) cc') (out.length + 1) (tsF (out ++ [x]))) := Lib.hid (by rw [tsF_append, tsF_cons, show tsC x ++ tsF [] = (tsA x).toList by rw [tsA_eq]; simp [tsF]]; exact k2)
        have hrow : ∀ q, (Value.slice ca out.length cc).ownBlock = some q → w.heap.size + 1 ≤ q := fun q e => (HR2.out.lt q e).1
        have HS3 := Lib.hid ((HS2.out.up hua).kept k3 (fun e => by have := hrow _ e.symm; omega))
        have HU3 : Hid (Up w w3) := Lib.hid (up_grown (grown_new (grown_up (HU2.out.trans hua) none) k3 (fun q e => by have := hrow q e; omega)))
        have hl3 := (HX.out.up HU3.out).load hxk
        have Hp := Lib.hid (pass_any w.heap.size (na + i) _ x HTX.out.1 (by omega) w3 HS3.out)
        generalize tsA x = cs at hl hbs hl3 k1 Hp
        clear k2 k3 hua hrow HS2 HR2 HU2 HS3
        go_wp2_with (refine wpList_ex rfl (.agg cs) w2 (ex_ldt (x := .tmp 21) rfl rfl hl) ?_; refine Stp.h ?_)
        refine Stp.mk ?_
        refine wpList_ex rfl (.slice (some ⟨w2.heap.size, 0, none⟩) 1 1) _ (ex_slice1 _ _ hbs rfl rfl) ?_
        refine wpList_ex rfl (.slice ca' (out.length + 1) cc') w3 (ex_app k1 rfl rfl rfl rfl) ?_
        go_wp2_with (refine wpList_ex rfl (.agg cs) w3 (ex_ldt (x := .tmp 28) rfl rfl hl3) ?_)
        with_reducible refine Calls.mono Hp.out ?_
        rintro e w4 ⟨rfl, hg4, hs4⟩
        have HG4 := Lib.hid hg4
        have HS4 := Lib.hid hs4
        clear hg4 hs4 Hp
        go_wp2
        go_roundw
        case rel =>
          refine ⟨i + 1, out ++ [x], by go_num, hlt, Lib.hid ?_, Lib.hid ?_, Lib.hid ?_, Lib.hid ⟨HT.out.1.snoc x HTX.out.2.2 (by omega) HTX.out.2.1, by rw [List.length_append, List.length_singleton]; omega⟩⟩
          · have := own_read HR3.out HG4.out (Nat.lt_succ_self _)
            rwa [show (out ++ [x]).length = out.length + 1 by simp]
          · rw [tkN_snoc]
            exact HS4.out.congr fun f k _ _ => nextS_pass _ _ _ HTX.out.2.1 f k
          · exact up_at HU3.out HG4.out (Nat.le_refl _)
        case measure => simp [RowKit.intOf]; omega
    · obtain rfl : i = 4 := by omega
      go_wp2
      go_ret
      exact ⟨_, out, rfl, HR.out, HU.out, HT.out.1⟩
end
end Go.Proofs.Ytmohlfeobdfhdaa
