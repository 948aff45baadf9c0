import Derived.Test.YtnnjoeppcbbblaaCtBy
/-
  cert.Make of whatever statements.
-/
namespace Go.Proofs.Ytnnjoeppcbbblaa
set_option maxRecDepth 100000
section
set_option linter.unusedVariables false
open Go.RowKit Go.Sort Go.Lib

theorem clone_nil (n c : Nat) (w : World) : Calls Try.prog 18 #[.slice none n c] w fun e w' => e = .returned (.slice none 0 0) ∧ w' = w := by
  have hnn := Lib.run_eql_slice_nil (P := Try.prog) w 22 38 none n c 0 0 Try.underlying22
  go_enter Try.func18, Try.ntmps18
  go_wp2
  go_ret
  exact ⟨rfl, rfl⟩
theorem del_nil (fv : Value) (w : World) : Calls Try.prog 17 #[.slice none 0 0, fv] w fun e w' => e = .returned (.slice none 0 0) ∧ w' = w := by
  have H := Lib.hid (index_zero none 0 fv w)
  go_enter Try.func17, Try.ntmps17
  go_wp2_with fail
  with_reducible refine Calls.mono H.out ?_
  rintro e w1 ⟨rfl, rfl⟩
  go_wp2
  go_ret
  exact ⟨rfl, rfl⟩
theorem insertion_nil (fv : Value) (w : World) : Calls Try.prog 42 #[.slice none 0 0, .int .i64 0, .int .i64 0, fv] w fun e w' => e = .returned (.tuple #[]) ∧ w' = w := by
  go_enter Try.func42, Try.ntmps42
  go_wp2
  go_loop [8] (fun vi => vi = .int .i64 1) (fun vi => 0)
  case atStart => rfl
  case round =>
    obtain rfl := hrel
    go_wp2
    go_end0
    exact ⟨rfl, rfl⟩
theorem stable_nil (fv : Value) (w : World) : Calls Try.prog 31 #[.slice none 0 0, .int .i64 0, fv] w fun e w' => e = .returned (.tuple #[]) ∧ w' = w := by
  have H := Lib.hid (insertion_nil fv w)
  go_enter Try.func31, Try.ntmps31
  go_wp2
  go_loop [7, 8] (fun va vb => va = .int .i64 0 ∧ vb = .int .i64 20) (fun _ _ => 0)
  case atStart => exact ⟨rfl, rfl⟩
  case round =>
    obtain ⟨rfl, rfl⟩ := hrel
    go_wp2_with fail
    with_reducible refine Calls.mono H.out ?_
    rintro e w1 ⟨rfl, rfl⟩
    go_wp2
    go_loop [6] (fun va => va = .int .i64 20) (fun _ => 0)
    case atStart => rfl
    case round =>
      obtain rfl := hrel
      go_wp2
      go_end0
      exact ⟨rfl, rfl⟩
theorem sort_nil (fv : Value) (w : World) : Calls Try.prog 20 #[.slice none 0 0, fv] w fun e w' => e = .returned (.tuple #[]) ∧ w' = w := by
  have H := Lib.hid (stable_nil fv w)
  go_enter Try.func20, Try.ntmps20
  go_wp2_with fail
  with_reducible refine Calls.mono H.out ?_
  rintro e w1 ⟨rfl, rfl⟩
  go_wp2
  go_end0
  exact ⟨rfl, rfl⟩
theorem compact_nil (fv : Value) (w : World) : Calls Try.prog 22 #[.slice none 0 0, fv] w fun e w' => e = .returned (.slice none 0 0) ∧ w' = w := by
  go_enter Try.func22, Try.ntmps22
  go_wp2
  go_ret
  exact ⟨rfl, rfl⟩
set_option maxHeartbeats 400000 in
theorem bySigner_nil (M : Nat) (w : World) : Calls Try.prog 10 #[.slice none 0 0, forV M] w fun e w' => ∃ R, ByS w [] R e w' := by
  unfold forV
  have H1 := Lib.hid (fun w => clone_nil 0 0 w)
  have H2 := Lib.hid del_nil
  have H3 := Lib.hid sort_nil
  have H4 := Lib.hid compact_nil
  go_enter Try.func10, Try.ntmps10
  go_wp2_with fail
  with_reducible refine Calls.mono (H1.out _) ?_
  rintro e w1 ⟨rfl, rfl⟩
  go_wp2_with fail
  with_reducible refine Calls.mono (H2.out _ _) ?_
  rintro e w1 ⟨rfl, rfl⟩
  go_wp2_with fail
  with_reducible refine Calls.mono (H3.out _ _) ?_
  rintro e w1 ⟨rfl, rfl⟩
  go_wp2_with fail
  with_reducible refine Calls.mono (H4.out _ _) ?_
  rintro e w1 ⟨rfl, rfl⟩
  go_wp2
  go_ret
  exact ⟨[], ⟨none, 0, rfl, ⟨none, 0, rfl, Nat.le_refl _, fun _ => rfl, .inl rfl⟩, fun ad e => by cases e⟩, ⟨List.Pairwise.nil, fun _ => rfl⟩, Up.alloc (Up.refl _) _⟩

/-- bySigner of whatever slice -/
theorem bySigner_any (lv : Value) (xs : List Vs) (M : Nat) (mV mH : Int) (mB : ByteArray) (w : World) (hl : VArg w lv xs) (hb : xs.length * 72 ≤ 140737488355328)
    (hM : w.heap[M]? = some (.cells #[.int .i64 mV, .int .i64 mH, .string mB] 24 (0, 0))) :
    Calls Try.prog 10 #[lv, forV M] w fun e w' => ∃ R, ByS w (xs.filter (vsOf mV mH mB)) R e w' := by
  obtain ⟨a, cap, rfl, h1, h2, h3⟩ := hl
  cases a with
  | none =>
    obtain rfl := h2 rfl
    have : xs = [] := List.eq_nil_of_length_eq_zero (by omega)
    subst this
    exact bySigner_nil _ w
  | some ad =>
    refine bySigner_some ad xs.length cap M mV mH mB xs w rfl h1 (fun j u hj => ?_) hb hM
    have hl : j < xs.length * 7 := by have := (List.getElem?_eq_some_iff.1 hj).1; rwa [vsF_length] at this
    rcases h3 with rfl | ⟨b, off, e, h4⟩
    · simp at hl
    · cases e
      have h2 : ((⟨b, off, none⟩ : Addr).add j) = ⟨b, off + j, none⟩ := by unfold Addr.add; split <;> simp_all
      rw [h2, h4 j hl, hj]

theorem votesFor_any (V H : Int) (B : ByteArray) (w : World) : Calls Try.prog 11 #[.agg #[.int .i64 V, .int .i64 H, .string B]] w fun e w' => e = .returned (forV w.heap.size) ∧ w' = w.alloc (.cells #[.int .i64 V, .int .i64 H, .string B] 24) := by
  go_enter Try.func11, Try.ntmps11
  go_wp2
  go_ret
  exact ⟨rfl, rfl⟩
theorem results_made {fn : Func} {p q : Tmp} (h : fn.results = #[.cell p 26, .tmp q]) (tmps : Array Value) (w : World) (A : Nat) (cs : Array Value) (u : Value) (hp : tmps.getD p undef = .pointer (some ⟨A, 0, none⟩)) (ht : tmps.getD q undef = u)
    (hA : w.heap[A]? = some (.cells cs 26 (0, 0))) (hcs : cs.size = 4) :
    (results fn tmps).run Try.prog w = .ok (.tuple #[.agg cs, u]) w := by
  have hp' : tmps[p]?.getD undef = .pointer (some ⟨A, 0, none⟩) := by simpa using hp
  have ht' : tmps[q]?.getD undef = u := by simpa using ht
  have hl := run_loadVar_row (P := Try.prog) w A 26 26 cs (0, 0) _ hA Try.underlying26 rfl (by rw [info_ct, hcs])
  simp [results, h, hp', ht', asAddr, hl]
theorem ex_slc {o : Oper} {x y : Operand} {ρ : Operand → Value} {g go n cap q : Nat} (hop : o.op = .slice 22 x none (some y) none) (hx : ρ x = .slice (some ⟨g, go, none⟩) n cap) (hy : ρ y = .int .i64 (q : Int)) (hq : 0 < q ∧ q ≤ cap) (w : World) : (execOp ρ o).run Try.prog w = .ok (.value (.slice (some ⟨g, go, none⟩) q cap)) w := by
  have h1 : (q : Int) ≤ (cap : Int) := by omega
  have h4 : (cap : Nat) ≠ 0 := by omega
  unfold execOp; rw [hop]; simp only [hx, hy, Option.map_some, Option.map_none]
  simp [Instr.sliceAt, go_sem, h1, h4, Result.andThen]
theorem ex_build4 {P : Program} {o : Oper} {ρ : Operand → Value} {v : Value} {a b c d : Operand} {t : TypeId} {v0 v1 v2 v3 : Value} (w w' : World) (hr : (Instr.build t #[(0, v0), (1, v1), (2, v2), (3, v3)]).run P w = .ok v w') (hop : o.op = .build t #[(0, a), (1, b), (2, c), (3, d)]) (ha : ρ a = v0) (hb : ρ b = v1) (hc : ρ c = v2) (hd : ρ d = v3) : (execOp ρ o).run P w = .ok (.value v) w' :=
  ex_build hop (by simp only [List.map_toArray, List.map_cons, List.map_nil, ha, hb, hc, hd]) w w' hr

/-- none -/
def noCt : Array Value := #[.int .i64 0, .int .i64 0, .string ⟨#[]⟩, .slice none 0 0]
set_option maxHeartbeats 1000000 in
theorem make_low (lv : Value) (V H : Int) (B : ByteArray) (q : Int) (w : World) (hq : q < 1) :
    Calls Try.prog 5 #[lv, .agg #[.int .i64 V, .int .i64 H, .string B], .int .i64 q] w fun e w' => e = .returned (.tuple #[.agg noCt, .bool false]) ∧ Up w w' := by
  have hm := heap_alloc_new (w.alloc (.cells #[.int .i64 V, .int .i64 H, .string B] 24)) (.cells #[.int .i64 0, .int .i64 0, .string ⟨#[]⟩, .slice none 0 0] 26)
  rw [show (w.alloc (.cells #[.int .i64 V, .int .i64 H, .string B] 24)).heap.size = w.heap.size + 1 by simp] at hm
  have HM := Lib.hid hm
  clear hm
  go_enter Try.func5, Try.ntmps5
  go_wp2
  exact bodyPost_ret (results_made rfl _ _ _ _ _ rfl rfl HM.out rfl) rfl ⟨rfl, Up.alloc (Up.alloc (Up.refl w) _) _⟩

/-- what Make answers where a quorum is asked -/
structure MadeP (w : World) (xs : List Vs) (V H : Int) (B : ByteArray) (q : Nat) (e : Ending) (w' : World) : Prop where
  ex : ∃ R, Firsts vsK (xs.filter (vsOf V H B)) R ∧ (R.length < q → e = .returned (.tuple #[.agg noCt, .bool false])) ∧
    (q ≤ R.length → ∃ (a : Option Addr) (cap : Nat), e = .returned (.tuple #[.agg #[.int .i64 V, .int .i64 H, .string B, .slice a q cap], .bool true]) ∧ VArg w' (.slice a q cap) (R.take q))
  up : Up w w'

theorem VArg.take {W : World} {a : Option Addr} {cap : Nat} {xs : List Vs} (h : VArg W (.slice a xs.length cap) xs) (q : Nat) (hq : q ≤ xs.length) : VArg W (.slice a q cap) (xs.take q) := by
  obtain ⟨a', cap', e, h1, h2, h3⟩ := h
  cases e
  have hl : (xs.take q).length = q := by rw [List.length_take]; omega
  refine ⟨a, cap, by rw [hl], by rw [hl]; omega, h2, ?_⟩
  rcases h3 with rfl | ⟨b, off, e, h4⟩
  · exact .inl (by simp)
  · refine .inr ⟨b, off, e, fun j hj => ?_⟩
    rw [hl] at hj
    rw [h4 j (by omega)]
    have := vsF_append (xs.take q) (xs.drop q)
    rw [List.take_append_drop] at this
    rw [this, List.getElem?_append_left (by rw [vsF_length, hl]; exact hj)]
theorem varg_row {W : World} {g go q cap : Nat} {xs : List Vs} (h : VArg W (.slice (some ⟨g, go, none⟩) q cap) xs) {C : Nat} (hC : C ≠ g) (cs : Array Value) : VArg (W.setRow C cs) (.slice (some ⟨g, go, none⟩) q cap) xs := by
  obtain ⟨a', cap', e, h1, h2, h3⟩ := h
  cases e
  refine ⟨_, _, rfl, h1, h2, h3.imp id ?_⟩
  rintro ⟨b, off, e, h4⟩
  cases e
  exact ⟨g, go, rfl, fun j hj => by rw [← h4 j hj]; exact World.cell?_of_block (setRow_other W C g cs (fun e => hC e.symm))⟩
theorem VArg.ptr {W : World} {a : Option Addr} {n cap : Nat} {xs : List Vs} (h : VArg W (.slice a n cap) xs) (hx : 0 < xs.length) : ∃ b off, a = some ⟨b, off, none⟩ := by
  obtain ⟨a', cap', e, h1, h2, h3⟩ := h
  cases e
  rcases h3 with rfl | ⟨b, off, e, _⟩
  · simp at hx
  · exact ⟨b, off, e⟩

set_option maxHeartbeats 4000000 in
theorem make_high (lv : Value) (xs : List Vs) (V H : Int) (B : ByteArray) (qn : Nat) (w : World) (hl : VArg w lv xs) (hb : xs.length * 72 ≤ 140737488355328) (hq : 1 ≤ qn) (hq2 : qn ≤ 9223372036854775807) :
    Calls Try.prog 5 #[lv, .agg #[.int .i64 V, .int .i64 H, .string B], .int .i64 (qn : Int)] w (MadeP w xs V H B qn) := by
  have HFor := Lib.hid (fun wx => votesFor_any V H B wx)
  have HBy : Hid (∀ (wx : World) (M : Nat), VArg wx lv xs → wx.heap[M]? = some (.cells #[.int .i64 V, .int .i64 H, .string B] 24 (0, 0)) → Calls Try.prog 10 #[lv, forV M] wx fun e w' => ∃ R, ByS wx (xs.filter (vsOf V H B)) R e w') := fun wx M h1 h2 => bySigner_any lv xs M V H B wx h1 hb h2
  have hma := heap_alloc_new w (.cells #[.int .i64 V, .int .i64 H, .string B] 24)
  have u2 := Up.alloc (Up.refl (w.alloc (.cells #[.int .i64 V, .int .i64 H, .string B] 24))) (.cells #[.int .i64 0, .int .i64 0, .string ⟨#[]⟩, .slice none 0 0] 26)
  have hmb := (u2.block _ (lt_of_block hma)).trans hma
  have hcb := heap_alloc_new (w.alloc (.cells #[.int .i64 V, .int .i64 H, .string B] 24)) (.cells #[.int .i64 0, .int .i64 0, .string ⟨#[]⟩, .slice none 0 0] 26)
  rw [show (w.alloc (.cells #[.int .i64 V, .int .i64 H, .string B] 24)).heap.size = w.heap.size + 1 by simp] at hcb
  have HMB0 := Lib.hid hmb
  have HCB0 := Lib.hid hcb
  have HU0 := Lib.hid (Up.trans (Up.alloc (Up.refl w) (.cells #[.int .i64 V, .int .i64 H, .string B] 24)) u2)
  have HL0 := Lib.hid (hl.up HU0.out)
  have hz : ¬ (qn : Int) < 1 := by omega
  obtain ⟨c0, c1, c2⟩ := mk_cells hmb
  clear hma u2 hmb hcb hl
  go_enter Try.func5, Try.ntmps5
  go_wp2_with fail
  have hne : w.heap.size ≠ w.heap.size + 1 := by omega
  have HCBW : Hid (w.heap.size ≤ w.heap.size + 1) := Lib.hid (by omega)
  generalize w.heap.size + 1 = CB at HCB0 hne HCBW ⊢
  have HCBW2 := HCBW
  generalize w.heap.size = MB at HMB0 hne HCBW c0 c1 c2 ⊢
  generalize (w.alloc (.cells #[.int .i64 V, .int .i64 H, .string B] 24)).alloc (.cells #[.int .i64 0, .int .i64 0, .string ⟨#[]⟩, .slice none 0 0] 26) = w1 at HMB0 HCB0 HU0 HL0 c0 c1 c2 ⊢
  with_reducible refine Calls.mono (HFor.out _) ?_
  rintro e w2 ⟨rfl, hw2⟩
  have u2 := Up.alloc (Up.refl w1) (.cells #[.int .i64 V, .int .i64 H, .string B] 24)
  rw [← hw2] at u2
  have hm2 : w2.heap[w1.heap.size]? = some (.cells #[.int .i64 V, .int .i64 H, .string B] 24 (0, 0)) := by rw [hw2]; exact heap_alloc_new _ _
  have Hb := Lib.hid (HBy.out w2 _ (HL0.out.up u2) hm2)
  have HU2 := Lib.hid (Up.trans HU0.out u2)
  have HMB2 := Lib.hid ((u2.block _ (lt_of_block HMB0.out)).trans HMB0.out)
  have HCB2 := Lib.hid ((u2.block _ (lt_of_block HCB0.out)).trans HCB0.out)
  clear hw2 hm2 u2 c0 c1 c2
  go_wp2_with fail
  with_reducible refine Calls.mono Hb.out ?_
  rintro e w3 ⟨R, ⟨a, cap, rfl, hv, ha⟩, hf, hU3⟩
  have HU3 := Lib.hid (Up.trans HU2.out hU3)
  have HMB3 := Lib.hid ((hU3.block _ (lt_of_block HMB2.out)).trans HMB2.out)
  have HAB : Hid (∀ ad, a = some ad → CB < ad.block) := fun ad e => Nat.lt_of_lt_of_le (lt_of_block HCB2.out) (ha ad e)
  have HCB3 := Lib.hid ((hU3.block _ (lt_of_block HCB2.out)).trans HCB2.out)
  have HV := Lib.hid hv
  have HF := Lib.hid hf
  have hcap : R.length ≤ cap := by obtain ⟨_, _, e, h, _⟩ := hv; cases e; exact h
  clear hv ha hf hU3 Hb
  generalize hrn : R.length = rn at HV hcap
  have HRN := Lib.hid hrn
  clear hrn
  by_cases hlt : rn < qn
  · have hz2 : (rn : Int) < (qn : Int) := by omega
    go_wp2_with (refine wpList_store_agg rfl 26 (.tmp 6) (.tmp 20) rfl CB _ #[.int .i64 0, .int .i64 0, .string ⟨#[]⟩, .slice none 0 0] rfl rfl 26 HCB3.out info_ct rfl (one_ct _ _ _ _ _ _) ?_; intro w12 hg12 hgr12)
    refine bodyPost_ret (results_made rfl _ _ _ _ _ rfl rfl hg12 rfl) rfl ⟨⟨R, HF.out, fun _ => rfl, fun h => absurd h (by rw [HRN.out]; omega)⟩, up_at HU3.out hgr12 HCBW2.out⟩
  · have hz2 : ¬ (rn : Int) < (qn : Int) := by omega
    have hqc : 0 < qn ∧ qn ≤ cap := ⟨by omega, by omega⟩
    obtain ⟨g, go, hag⟩ := HV.out.ptr (by have := HRN.out; omega)
    have hgo : CB ≠ g := by have := HAB.out _ hag; simp at this; omega
    clear HAB
    subst hag
    have HV2 : Hid (VArg w3 (.slice (some ⟨g, go, none⟩) qn cap) (R.take qn)) := Lib.hid (VArg.take (by have := HV.out; rwa [← HRN.out] at this) qn (by rw [HRN.out]; omega))
    go_wp2_with fail
    have HMB := Lib.hid (show w3.drew.heap[MB]? = _ from HMB3.out)
    have HCB := Lib.hid (show w3.drew.heap[CB]? = _ from HCB3.out)
    have HMB2' : Hid ((w3.drew.setRow CB #[.int .i64 V, .int .i64 H, .string B, .slice (some ⟨g, go, none⟩) qn cap]).heap[MB]? = some (.cells #[.int .i64 V, .int .i64 H, .string B] 24 (0, 0))) := Lib.hid (by rw [setRow_other _ _ _ _ hne]; exact HMB.out)
    have HUD := Lib.hid (Up.trans HU3.out (Up.drew1 w3))
    have HV3 := Lib.hid (HV2.out.up (Up.drew1 w3))
    clear HMB2
    have HMB2 := HMB2'
    generalize w3 = wz at HMB HCB HMB2 HUD HV3 ⊢
    refine region_alongK (fun x => x.heap[MB]? = some (.cells #[.int .i64 V, .int .i64 H, .string B] 24 (0, 0))) (.read 0 (.read 1 (.read 2 (.read 3 (.read 4 (.read 5 (.read 6 (.read 7 (.read 8 (.read 9 (.step 10 (.read 11 (.nil))))))))))))) (by kernel_rfl) rfl (by kernel_rfl) (by kernel_rfl) (fun c a d v w h => by cases d <;> exact h) (HMB.out) ?_
    refine alongK_read (.pointer (some ⟨MB, 0, none⟩)) rfl rfl (fun wx hS => ex_field rfl rfl wx (by simp [go_sem])) ?_
    change AlongK _ _ _ _ _ { tmps := #[_, _, .int .i64 (qn : Int), _, .pointer (some ⟨MB, 0, none⟩), _, .pointer (some ⟨CB, 0, none⟩), .bool false, .slice (some ⟨g, go, none⟩) rn cap, _, _, _, _, _, _, _, _, _, _, _, _, .pointer (some ⟨MB, 0, none⟩), _, _, _, _, _, _, _, _, _], defers := _ } _
    refine alongK_read (.int .i64 V) rfl rfl (fun wx hS => ex_load Try.isAgg3 rfl rfl wx ((mk_cells hS).1)) ?_
    change AlongK _ _ _ _ _ { tmps := #[_, _, .int .i64 (qn : Int), _, .pointer (some ⟨MB, 0, none⟩), _, .pointer (some ⟨CB, 0, none⟩), .bool false, .slice (some ⟨g, go, none⟩) rn cap, _, _, _, _, _, _, _, _, _, _, _, _, .pointer (some ⟨MB, 0, none⟩), .int .i64 V, _, _, _, _, _, _, _, _], defers := _ } _
    refine alongK_read (.pointer (some ⟨MB, 1, none⟩)) rfl rfl (fun wx hS => ex_field rfl rfl wx (by simp [go_sem])) ?_
    change AlongK _ _ _ _ _ { tmps := #[_, _, .int .i64 (qn : Int), _, .pointer (some ⟨MB, 0, none⟩), _, .pointer (some ⟨CB, 0, none⟩), .bool false, .slice (some ⟨g, go, none⟩) rn cap, _, _, _, _, _, _, _, _, _, _, _, _, .pointer (some ⟨MB, 0, none⟩), .int .i64 V, .pointer (some ⟨MB, 1, none⟩), _, _, _, _, _, _, _], defers := _ } _
    refine alongK_read (.int .i64 H) rfl rfl (fun wx hS => ex_load Try.isAgg3 rfl rfl wx ((mk_cells hS).2.1)) ?_
    change AlongK _ _ _ _ _ { tmps := #[_, _, .int .i64 (qn : Int), _, .pointer (some ⟨MB, 0, none⟩), _, .pointer (some ⟨CB, 0, none⟩), .bool false, .slice (some ⟨g, go, none⟩) rn cap, _, _, _, _, _, _, _, _, _, _, _, _, .pointer (some ⟨MB, 0, none⟩), .int .i64 V, .pointer (some ⟨MB, 1, none⟩), .int .i64 H, _, _, _, _, _, _], defers := _ } _
    refine alongK_read (.pointer (some ⟨MB, 2, none⟩)) rfl rfl (fun wx hS => ex_field rfl rfl wx (by simp [go_sem])) ?_
    change AlongK _ _ _ _ _ { tmps := #[_, _, .int .i64 (qn : Int), _, .pointer (some ⟨MB, 0, none⟩), _, .pointer (some ⟨CB, 0, none⟩), .bool false, .slice (some ⟨g, go, none⟩) rn cap, _, _, _, _, _, _, _, _, _, _, _, _, .pointer (some ⟨MB, 0, none⟩), .int .i64 V, .pointer (some ⟨MB, 1, none⟩), .int .i64 H, .pointer (some ⟨MB, 2, none⟩), _, _, _, _, _], defers := _ } _
    refine alongK_read (.string B) rfl rfl (fun wx hS => ex_load Try.isAgg9 rfl rfl wx ((mk_cells hS).2.2)) ?_
    change AlongK _ _ _ _ _ { tmps := #[_, _, .int .i64 (qn : Int), _, .pointer (some ⟨MB, 0, none⟩), _, .pointer (some ⟨CB, 0, none⟩), .bool false, .slice (some ⟨g, go, none⟩) rn cap, _, _, _, _, _, _, _, _, _, _, _, _, .pointer (some ⟨MB, 0, none⟩), .int .i64 V, .pointer (some ⟨MB, 1, none⟩), .int .i64 H, .pointer (some ⟨MB, 2, none⟩), .string B, _, _, _, _], defers := _ } _
    refine alongK_read (.slice (some ⟨g, go, none⟩) rn cap) rfl rfl (fun wx hS => ex_move (by rfl) (by rfl) wx) ?_
    change AlongK _ _ _ _ _ { tmps := #[_, _, .int .i64 (qn : Int), _, .pointer (some ⟨MB, 0, none⟩), _, .pointer (some ⟨CB, 0, none⟩), .bool false, .slice (some ⟨g, go, none⟩) rn cap, _, _, _, _, _, _, _, _, _, _, _, _, .pointer (some ⟨MB, 0, none⟩), .int .i64 V, .pointer (some ⟨MB, 1, none⟩), .int .i64 H, .pointer (some ⟨MB, 2, none⟩), .string B, .slice (some ⟨g, go, none⟩) rn cap, _, _, _], defers := _ } _
    refine alongK_read (.int .i64 (qn : Int)) rfl rfl (fun wx hS => ex_move (by rfl) (by rfl) wx) ?_
    change AlongK _ _ _ _ _ { tmps := #[_, _, .int .i64 (qn : Int), _, .pointer (some ⟨MB, 0, none⟩), _, .pointer (some ⟨CB, 0, none⟩), .bool false, .slice (some ⟨g, go, none⟩) rn cap, _, _, _, _, _, _, _, _, _, _, _, _, .pointer (some ⟨MB, 0, none⟩), .int .i64 V, .pointer (some ⟨MB, 1, none⟩), .int .i64 H, .pointer (some ⟨MB, 2, none⟩), .string B, .slice (some ⟨g, go, none⟩) rn cap, .int .i64 (qn : Int), _, _], defers := _ } _
    refine alongK_read (.slice (some ⟨g, go, none⟩) qn cap) rfl rfl (fun wx hS => ex_slc rfl rfl rfl hqc wx) ?_
    change AlongK _ _ _ _ _ { tmps := #[_, _, .int .i64 (qn : Int), _, .pointer (some ⟨MB, 0, none⟩), _, .pointer (some ⟨CB, 0, none⟩), .bool false, .slice (some ⟨g, go, none⟩) rn cap, _, _, _, _, _, _, _, _, _, _, _, _, .pointer (some ⟨MB, 0, none⟩), .int .i64 V, .pointer (some ⟨MB, 1, none⟩), .int .i64 H, .pointer (some ⟨MB, 2, none⟩), .string B, .slice (some ⟨g, go, none⟩) rn cap, .int .i64 (qn : Int), .slice (some ⟨g, go, none⟩) qn cap, _], defers := _ } _
    refine alongK_read (.agg #[.int .i64 V, .int .i64 H, .string B, .slice (some ⟨g, go, none⟩) qn cap]) rfl rfl (fun wx hS => ex_build4 wx wx (by simp [go_sem]) rfl rfl rfl rfl rfl) ?_
    change AlongK _ _ _ _ _ { tmps := #[_, _, .int .i64 (qn : Int), _, .pointer (some ⟨MB, 0, none⟩), _, .pointer (some ⟨CB, 0, none⟩), .bool false, .slice (some ⟨g, go, none⟩) rn cap, _, _, _, _, _, _, _, _, _, _, _, _, .pointer (some ⟨MB, 0, none⟩), .int .i64 V, .pointer (some ⟨MB, 1, none⟩), .int .i64 H, .pointer (some ⟨MB, 2, none⟩), .string B, .slice (some ⟨g, go, none⟩) rn cap, .int .i64 (qn : Int), .slice (some ⟨g, go, none⟩) qn cap, .agg #[.int .i64 V, .int .i64 H, .string B, .slice (some ⟨g, go, none⟩) qn cap]], defers := _ } _
    refine alongK_step ?_
    refine opK_store (wz.drew.setRow CB #[.int .i64 V, .int .i64 H, .string B, .slice (some ⟨g, go, none⟩) qn cap]) rfl rfl (ex_storerow rfl rfl rfl wz.drew 26 HCB.out info_ct rfl (one_ct _ _ _ _ _ _)) (fun x => x.heap[MB]? = some (.cells #[.int .i64 V, .int .i64 H, .string B] 24 (0, 0))) (fun _ h => h) HMB2.out ?_
    change AlongK _ _ _ _ _ { tmps := #[_, _, .int .i64 (qn : Int), _, .pointer (some ⟨MB, 0, none⟩), _, .pointer (some ⟨CB, 0, none⟩), .bool false, .slice (some ⟨g, go, none⟩) rn cap, _, _, _, _, _, _, _, _, _, _, _, _, .pointer (some ⟨MB, 0, none⟩), .int .i64 V, .pointer (some ⟨MB, 1, none⟩), .int .i64 H, .pointer (some ⟨MB, 2, none⟩), .string B, .slice (some ⟨g, go, none⟩) rn cap, .int .i64 (qn : Int), .slice (some ⟨g, go, none⟩) qn cap, .agg #[.int .i64 V, .int .i64 H, .string B, .slice (some ⟨g, go, none⟩) qn cap]], defers := _ } _
    refine alongK_read (.bool true) rfl rfl (fun wx hS => ex_assign (by rfl) (by rfl) wx) ?_
    change AlongK _ _ _ _ _ { tmps := #[_, _, .int .i64 (qn : Int), _, .pointer (some ⟨MB, 0, none⟩), _, .pointer (some ⟨CB, 0, none⟩), .bool true, .slice (some ⟨g, go, none⟩) rn cap, _, _, _, _, _, _, _, _, _, _, _, _, .pointer (some ⟨MB, 0, none⟩), .int .i64 V, .pointer (some ⟨MB, 1, none⟩), .int .i64 H, .pointer (some ⟨MB, 2, none⟩), .string B, .slice (some ⟨g, go, none⟩) rn cap, .int .i64 (qn : Int), .slice (some ⟨g, go, none⟩) qn cap, .agg #[.int .i64 V, .int .i64 H, .string B, .slice (some ⟨g, go, none⟩) qn cap]], defers := _ } _
    refine alongK_done ?_
    have HEND := Lib.hid (setRow_heap wz.drew CB _ #[.int .i64 V, .int .i64 H, .string B, .slice (some ⟨g, go, none⟩) qn cap] 26 (0, 0) HCB.out)
    have HUE := Lib.hid (up_at HUD.out (grownBy_setRow wz.drew CB #[.int .i64 V, .int .i64 H, .string B, .slice (some ⟨g, go, none⟩) qn cap]) HCBW2.out)
    have HV4 : Hid (VArg (wz.drew.setRow CB #[.int .i64 V, .int .i64 H, .string B, .slice (some ⟨g, go, none⟩) qn cap]) (.slice (some ⟨g, go, none⟩) qn cap) (R.take qn)) := Lib.hid (varg_row HV3.out hgo _)
    generalize (wz.drew.setRow CB #[.int .i64 V, .int .i64 H, .string B, .slice (some ⟨g, go, none⟩) qn cap]) = w4 at HEND HUE HV4 ⊢
    go_wp2
    refine bodyPost_ret (results_made rfl _ _ _ _ _ rfl rfl HEND.out rfl) rfl ⟨⟨R, HF.out, fun h => absurd h (by rw [HRN.out]; omega), fun _ => ⟨_, _, rfl, ?_⟩⟩, HUE.out⟩
    exact HV4.out
end
end Go.Proofs.Ytnnjoeppcbbblaa
