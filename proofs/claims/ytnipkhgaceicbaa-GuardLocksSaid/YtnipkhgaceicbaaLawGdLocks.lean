import Derived.Test.YtnipkhgaceicbaaGdAlive
import Derived.Test.YtnipkhgaceicbaaGdArg
/-
  mootlaw17.GuardLocks.
-/
namespace Go.Proofs.Ytnipkhgaceicbaa
set_option maxRecDepth 100000
section
set_option linter.unusedVariables false
open Go.RowKit Go.Sort Go.Lib

theorem alloc_gs (w : World) : (Instr.alloc 28 true (.tuple #[])).run Try.prog w = .ok (.pointer (some ⟨w.heap.size, 0, none⟩)) (w.alloc (.cells #[.int .i64 0, .int .i64 0, .int .i64 0, .string ⟨#[]⟩, .int .i64 0, .int .i64 0, .string ⟨#[]⟩, .int .i64 0, .int .i64 0, .string ⟨#[]⟩, .bool false] 28)) := by
  simp [go_sem]
theorem bool_eql (D E : Bool) (h : D = !E) (p q : Operand) (w : World) : (do eqGuard .eql 4 p q (.bool D) (.bool E); binOp .eql 4 (.bool D) (.bool E) : Sem Value).run Try.prog w = .ok (.bool false) w := by
  subst h
  cases E <;> simp [eqGuard, go_sem]
/-- nothing is above itself -/
theorem hi_self (V H : Int) : hiB V H V H = false := by
  unfold hiB; exact decide_eq_false (by omega)
theorem hi_lock1 (s : Gs) (m : Mk) : hiB s.c.V s.c.H (lockG s m).c.V (lockG s m).c.H = false := by
  unfold lockG
  by_cases h : hiB m.V m.H s.c.V s.c.H = true
  · rw [if_pos h]
    unfold hiB at h ⊢
    have h := of_decide_eq_true h
    exact decide_eq_false (by show ¬ (m.V < s.c.V ∨ s.c.V = m.V ∧ m.H < s.c.H); omega)
  · rw [if_neg h]; exact hi_self _ _
theorem hi_lock2 (s : Gs) (m : Mk) : hiB m.V m.H (lockG s m).c.V (lockG s m).c.H = false := by
  unfold lockG
  by_cases h : hiB m.V m.H s.c.V s.c.H = true
  · rw [if_pos h]; exact hi_self _ _
  · rw [if_neg h]; simpa using h
theorem lock_same (s : Gs) (m : Mk) : hiB m.V m.H s.c.V s.c.H = !decide ((lockG s m).c.V = s.c.V ∧ (lockG s m).c.H = s.c.H ∧ (lockG s m).c.B = s.c.B) := by
  unfold lockG
  by_cases h : hiB m.V m.H s.c.V s.c.H = true
  · rw [if_pos h, h]
    unfold hiB at h
    have h := of_decide_eq_true h
    have : decide (m.V = s.c.V ∧ m.H = s.c.H ∧ m.B = s.c.B) = false := decide_eq_false (by rintro ⟨e1, e2, _⟩; omega)
    show true = !decide (m.V = s.c.V ∧ m.H = s.c.H ∧ m.B = s.c.B)
    rw [this]; rfl
  · rw [if_neg h]; simp at h; rw [h]; simp

theorem enter_lock (s : Gs) (v : Int) : (enterG s v).c = s.c := by unfold enterG; split <;> rfl
set_option maxHeartbeats 4000000 in
theorem guardLocks_any (v0 v1 : Value) (ms : List Mk) (vs : List Int) (w : World) (hm : MArg w v0 ms) (hv : Ints .i64 w v1 vs) (hml : ms.length ≤ maxLen) (hvl : vs.length ≤ maxLen) (hok : ∀ (j : Nat) (x : Mk), ms[j]? = some x → MkOk x) :
    Calls Try.prog 3 #[v0, v1] w fun e w' => e = .returned (.bool true) ∧ Up w w' := by
  obtain ⟨a, cap, rfl, _⟩ := id hm
  obtain ⟨n, hn⟩ : ∃ n, ms.length = n := ⟨_, rfl⟩
  rw [hn] at hm hml ⊢
  obtain ⟨a2, cap2, rfl, _⟩ := id hv
  obtain ⟨n2, hn2⟩ : ∃ n, vs.length = n := ⟨_, rfl⟩
  rw [hn2] at hv hvl ⊢
  have HN2 := Lib.hid hn2
  unfold maxLen at hml hvl
  have HM := Lib.hid hm
  have HN := Lib.hid hn
  have HV := Lib.hid hv
  have HAl := Lib.hid (fun wx => gdAlive_any wx)
  have HBg := Lib.hid (fun wx => begin_any wx)
  have hsz0 : (gsA gs0).size = 11 := rfl
  have hone0 := gsA_one gs0
  clear hm hn hn2 hv hok
  go_enter Try.func3, Try.ntmps3
  go_wp2_with fail
  with_reducible refine Calls.mono (HAl.out _) ?_
  rintro e w1 ⟨rfl, hU1⟩
  go_wp2_with fail
  with_reducible refine Calls.mono (HBg.out _) ?_
  rintro e w2 ⟨rfl, hU2⟩
  have HU2 := Lib.hid ((hU1.trans hU2).trans (Up.alloc (Up.refl w2) (.cells (gsA gs0) 28)))
  have HS2 := Lib.hid (heap_alloc_new w2 (.cells (gsA gs0) 28))
  have hsb : w.heap.size ≤ w2.heap.size := (hU1.trans hU2).size
  go_upto_region 4 with (refine wpList_exs rfl (w2.alloc (.cells (gsA gs0) 28)) (ex_fillG (x := .tmp 5) (y := .tmp 14) rfl rfl rfl (by rw [info_gs, hsz0]) (by rw [hsz0]; rfl) hone0) ?_)
  clear hU1 hU2 HAl HBg hsz0 hone0
  generalize w2.alloc (.cells (gsA gs0) 28) = wa at HU2 HS2 ⊢
  generalize w2.heap.size = SB at HS2 hsb ⊢
  have HSB := Lib.hid hsb
  have HR0 : Hid (∃ s, wa.heap[SB]? = some (.cells (gsA s) 28 (0, 0)) ∧ Up w wa) := Lib.hid ⟨_, HS2.out, HU2.out⟩
  clear HU2 HS2 hsb
  go_wp2
  go_loopw [6] (fun vi wr => ∃ i : Nat, vi = .int .i64 (i : Nat) ∧ i ≤ n ∧ Hid (∃ s, wr.heap[SB]? = some (.cells (gsA s) 28 (0, 0)) ∧ Up w wr)) (fun vi _ => n - (intOf vi).toNat)
  case atStart => exact ⟨0, rfl, Nat.zero_le _, HR0⟩
  case round =>
    obtain ⟨i, rfl, hi, HS⟩ := hrel
    obtain ⟨s, hs, hU⟩ := HS.out
    by_cases hlt : i < n
    · have hz : (i : Int) < (n : Int) := by omega
      obtain ⟨m, hmi⟩ : ∃ x, ms[i]? = some x := ⟨ms[i]'(by have := HN.out; omega), List.getElem?_eq_getElem _⟩
      obtain ⟨b, off, rfl⟩ := HM.out.ptr (by have := HN.out; omega)
      have HLd := Lib.hid (fun wx hu => (HM.out.up (W' := wx) hu).load hmi)
      have HLk := Lib.hid (fun wx => lock_any s m wx)
      have HH1 : Hid (∀ wx, Calls Try.prog 8 #[.agg s.c.l.toArray, .agg (lockG s m).c.l.toArray] wx fun e w' => e = .returned (.bool false) ∧ Up wx w') := Lib.hid fun wx => by
        have := refHi_any s.c (lockG s m).c wx
        rwa [hi_lock1] at this
      have HH2 : Hid (∀ wx, Calls Try.prog 8 #[.agg m.l.toArray, .agg (lockG s m).c.l.toArray] wx fun e w' => e = .returned (.bool false) ∧ Up wx w') := Lib.hid fun wx => by
        have := refHi_any m (lockG s m).c wx
        rwa [hi_lock2] at this
      have HEq := Lib.hid (fun p q wx => mk_eql3 (lockG s m).c.V (lockG s m).c.H (lockG s m).c.B s.c.V s.c.H s.c.B p q wx)
      have hDE := lock_same s m
      have hsz : (gsA s).size = 11 := rfl
      have hszt : (gsA (lockG s m)).size = 11 := rfl
      have honet := gsA_one (lockG s m)
      have hat := gs_lock s
      have hatt := gs_lock (lockG s m)
      have HU := Lib.hid hU
      have HSS := Lib.hid hs
      have HNX : Hid (∃ t, gsA (lockG s m) = gsA t) := Lib.hid ⟨_, rfl⟩
      clear hs hU HS HR0
      change Hid (∀ p q wx, (do eqGuard .eql 26 p q (.agg (lockG s m).c.l.toArray) (.agg s.c.l.toArray); binOp .eql 26 (.agg (lockG s m).c.l.toArray) (.agg s.c.l.toArray) : Sem Value).run Try.prog wx = .ok (.bool _) wx) at HEq
      change Hid (∀ wx, Up w wx → (loadVar 26 ⟨b, off + i * 3, none⟩).run Try.prog wx = .ok (.agg m.l.toArray) wx) at HLd
      have hcl : s.c.l.length = 3 := rfl
      have htl : (lockG s m).c.l.length = 3 := rfl
      generalize decide ((lockG s m).c.V = s.c.V ∧ (lockG s m).c.H = s.c.H ∧ (lockG s m).c.B = s.c.B) = E at HEq hDE
      generalize hiB m.V m.H s.c.V s.c.H = D at HLk hDE
      generalize gsA (lockG s m) = ct at HLk hszt honet hatt HNX
      generalize (lockG s m).c.l = tl at HH1 HH2 HEq hatt htl
      generalize gsA s = cs at HLk hsz hat HSS
      generalize s.c.l = cl at HH1 HEq hat hcl
      generalize m.l = ml at HLk HH2 HLd
      have HDE := Lib.hid (fun p q wx => bool_eql D E hDE p q wx)
      clear hDE hmi
      go_upto_region 7 with fail
      go_cut [7, 8] from 15 to 53 (fun s7 s8 wx => ∃ TB, s7 = .pointer (some ⟨TB, 0, none⟩) ∧ s8 = .bool D ∧ Hid (wx.heap[TB]? = some (.cells ct 28 (0, 0)) ∧ wx.heap[SB]? = some (.cells cs 28 (0, 0)) ∧ Up wr wx))
      case first =>
        refine region_alongK (fun x => Up wr x) (.read 0 (.read 1 (.read 2 (.read 3 (.read 4 (.fork 5 (.read 6 (.read 7 (.read 8 (.step 9 (.step 10 (.read 11 (.nil))))))) 9 (.step 5 (.read 6 (.read 7 (.read 8 (.step 10 (.read 11 (.nil))))))))))))) (by kernel_rfl) rfl (by kernel_rfl) (by kernel_rfl) (fun c a d v w h => by cases d <;> exact h) (Up.drew1 wr) ?_
        refine alongK_read (.agg cs) rfl rfl (fun wx hS => ex_loadrow rfl rfl wx 28 ((hS.block _ (lt_of_block HSS.out)).trans HSS.out) Try.underlying28 rfl (by rw [info_gs, hsz])) ?_
        change AlongK _ _ _ _ _ { tmps := #[.slice (some ⟨b, off, none⟩) n cap, _, _, _, _, .pointer (some ⟨SB, 0, none⟩), .int .i64 (i : Nat), _, _, _, _, _, _, _, _, _, _, _, _, _, _, _, .agg cs, _, _, _, _, _, _, _, _, _, _, _, _, _, _, _, _, _, _, _, _, _, _, _, _, _, _, _, _, _, _, _, _, _, _, _, _, _, _, _, _, _, _, _, _, _, _, _, _, _, _, _, _, _, _, _, _, _, _, _, _, _, _, _, _, _, _, _, _], defers := [] } _
        refine alongK_read (.slice (some ⟨b, off, none⟩) n cap) rfl rfl (fun wx hS => ex_move (by rfl) (by rfl) wx) ?_
        change AlongK _ _ _ _ _ { tmps := #[.slice (some ⟨b, off, none⟩) n cap, _, _, _, _, .pointer (some ⟨SB, 0, none⟩), .int .i64 (i : Nat), _, _, _, _, _, _, _, _, _, _, _, _, _, _, _, .agg cs, .slice (some ⟨b, off, none⟩) n cap, _, _, _, _, _, _, _, _, _, _, _, _, _, _, _, _, _, _, _, _, _, _, _, _, _, _, _, _, _, _, _, _, _, _, _, _, _, _, _, _, _, _, _, _, _, _, _, _, _, _, _, _, _, _, _, _, _, _, _, _, _, _, _, _, _, _, _], defers := [] } _
        refine alongK_read (.int .i64 (i : Nat)) rfl rfl (fun wx hS => ex_move (by rfl) (by rfl) wx) ?_
        change AlongK _ _ _ _ _ { tmps := #[.slice (some ⟨b, off, none⟩) n cap, _, _, _, _, .pointer (some ⟨SB, 0, none⟩), .int .i64 (i : Nat), _, _, _, _, _, _, _, _, _, _, _, _, _, _, _, .agg cs, .slice (some ⟨b, off, none⟩) n cap, .int .i64 (i : Nat), _, _, _, _, _, _, _, _, _, _, _, _, _, _, _, _, _, _, _, _, _, _, _, _, _, _, _, _, _, _, _, _, _, _, _, _, _, _, _, _, _, _, _, _, _, _, _, _, _, _, _, _, _, _, _, _, _, _, _, _, _, _, _, _, _, _], defers := [] } _
        refine alongK_read (.pointer (some ⟨b, off + i * 3, none⟩)) rfl rfl (fun wx hS => ex_index Try.underlying22 Try.sizeOf26 rfl rfl rfl ((by omega)) wx) ?_
        change AlongK _ _ _ _ _ { tmps := #[.slice (some ⟨b, off, none⟩) n cap, _, _, _, _, .pointer (some ⟨SB, 0, none⟩), .int .i64 (i : Nat), _, _, _, _, _, _, _, _, _, _, _, _, _, _, _, .agg cs, .slice (some ⟨b, off, none⟩) n cap, .int .i64 (i : Nat), .pointer (some ⟨b, off + i * 3, none⟩), _, _, _, _, _, _, _, _, _, _, _, _, _, _, _, _, _, _, _, _, _, _, _, _, _, _, _, _, _, _, _, _, _, _, _, _, _, _, _, _, _, _, _, _, _, _, _, _, _, _, _, _, _, _, _, _, _, _, _, _, _, _, _, _, _], defers := [] } _
        refine alongK_read (.agg ml.toArray) rfl rfl (fun wx hS => ex_ldG (x := .tmp 25) rfl rfl (HLd.out wx (HU.out.trans hS))) ?_
        change AlongK _ _ _ _ _ { tmps := #[.slice (some ⟨b, off, none⟩) n cap, _, _, _, _, .pointer (some ⟨SB, 0, none⟩), .int .i64 (i : Nat), _, _, _, _, _, _, _, _, _, _, _, _, _, _, _, .agg cs, .slice (some ⟨b, off, none⟩) n cap, .int .i64 (i : Nat), .pointer (some ⟨b, off + i * 3, none⟩), .agg ml.toArray, _, _, _, _, _, _, _, _, _, _, _, _, _, _, _, _, _, _, _, _, _, _, _, _, _, _, _, _, _, _, _, _, _, _, _, _, _, _, _, _, _, _, _, _, _, _, _, _, _, _, _, _, _, _, _, _, _, _, _, _, _, _, _, _], defers := [] } _
        refine alongK_fork ?_ ?_
        refine opK_call (vs := [.agg cs, .agg ml.toArray]) rfl rfl rfl (enters_of Try.func7 (by kernel_rfl) rfl) rfl ?_
        with_reducible refine Calls.mono (HLk.out _) ?_
        rintro e w7 ⟨rfl, hU7⟩
        have HU7 := Lib.hid (Up.trans (Up.drew1 wr) hU7)
        clear hU7
        refine ⟨_, rfl, (fun x => Up wr x), (fun _ h => h), HU7.out, ?_⟩
        change AlongK _ _ _ _ _ { tmps := #[.slice (some ⟨b, off, none⟩) n cap, _, _, _, _, .pointer (some ⟨SB, 0, none⟩), .int .i64 (i : Nat), _, _, _, _, _, _, _, _, _, _, _, _, _, _, _, .agg cs, .slice (some ⟨b, off, none⟩) n cap, .int .i64 (i : Nat), .pointer (some ⟨b, off + i * 3, none⟩), .agg ml.toArray, .tuple #[.agg ct, .bool D], _, _, _, _, _, _, _, _, _, _, _, _, _, _, _, _, _, _, _, _, _, _, _, _, _, _, _, _, _, _, _, _, _, _, _, _, _, _, _, _, _, _, _, _, _, _, _, _, _, _, _, _, _, _, _, _, _, _, _, _, _, _, _], defers := [] } _
        refine alongK_read (.tuple #[.agg ct, .bool D]) rfl rfl (fun wx hS => ex_move (by rfl) (by rfl) wx) ?_
        change AlongK _ _ _ _ _ { tmps := #[.slice (some ⟨b, off, none⟩) n cap, _, _, _, _, .pointer (some ⟨SB, 0, none⟩), .int .i64 (i : Nat), _, _, _, _, _, _, _, _, _, _, _, _, _, _, .tuple #[.agg ct, .bool D], .agg cs, .slice (some ⟨b, off, none⟩) n cap, .int .i64 (i : Nat), .pointer (some ⟨b, off + i * 3, none⟩), .agg ml.toArray, .tuple #[.agg ct, .bool D], _, _, _, _, _, _, _, _, _, _, _, _, _, _, _, _, _, _, _, _, _, _, _, _, _, _, _, _, _, _, _, _, _, _, _, _, _, _, _, _, _, _, _, _, _, _, _, _, _, _, _, _, _, _, _, _, _, _, _, _, _, _, _], defers := [] } _
        refine alongK_read (.agg ct) rfl rfl (fun wx hS => ex_extr (cs := #[.agg ct, .bool D]) rfl rfl rfl wx) ?_
        change AlongK _ _ _ _ _ { tmps := #[.slice (some ⟨b, off, none⟩) n cap, _, _, _, _, .pointer (some ⟨SB, 0, none⟩), .int .i64 (i : Nat), _, _, _, _, _, _, _, _, _, _, _, _, _, _, .tuple #[.agg ct, .bool D], .agg cs, .slice (some ⟨b, off, none⟩) n cap, .int .i64 (i : Nat), .pointer (some ⟨b, off + i * 3, none⟩), .agg ml.toArray, .tuple #[.agg ct, .bool D], .agg ct, _, _, _, _, _, _, _, _, _, _, _, _, _, _, _, _, _, _, _, _, _, _, _, _, _, _, _, _, _, _, _, _, _, _, _, _, _, _, _, _, _, _, _, _, _, _, _, _, _, _, _, _, _, _, _, _, _, _, _, _, _, _], defers := [] } _
        refine alongK_read (.bool D) rfl rfl (fun wx hS => ex_extr (cs := #[.agg ct, .bool D]) rfl rfl rfl wx) ?_
        change AlongK _ _ _ _ _ { tmps := #[.slice (some ⟨b, off, none⟩) n cap, _, _, _, _, .pointer (some ⟨SB, 0, none⟩), .int .i64 (i : Nat), _, _, _, _, _, _, _, _, _, _, _, _, _, _, .tuple #[.agg ct, .bool D], .agg cs, .slice (some ⟨b, off, none⟩) n cap, .int .i64 (i : Nat), .pointer (some ⟨b, off + i * 3, none⟩), .agg ml.toArray, .tuple #[.agg ct, .bool D], .agg ct, .bool D, _, _, _, _, _, _, _, _, _, _, _, _, _, _, _, _, _, _, _, _, _, _, _, _, _, _, _, _, _, _, _, _, _, _, _, _, _, _, _, _, _, _, _, _, _, _, _, _, _, _, _, _, _, _, _, _, _, _, _, _, _], defers := [] } _
        refine alongK_step ?_
        refine opK_run (.pointer (some ⟨w7.heap.size, 0, none⟩)) (w7.alloc (.cells #[.int .i64 0, .int .i64 0, .int .i64 0, .string ⟨#[]⟩, .int .i64 0, .int .i64 0, .string ⟨#[]⟩, .int .i64 0, .int .i64 0, .string ⟨#[]⟩, .bool false] 28)) rfl rfl (ex_alloc rfl _ _ (alloc_gs w7)) (fun x => Up wr x) (fun _ h => h) (Up.alloc HU7.out _) ?_
        change AlongK _ _ _ _ _ { tmps := #[.slice (some ⟨b, off, none⟩) n cap, _, _, _, _, .pointer (some ⟨SB, 0, none⟩), .int .i64 (i : Nat), .pointer (some ⟨w7.heap.size, 0, none⟩), _, _, _, _, _, _, _, _, _, _, _, _, _, .tuple #[.agg ct, .bool D], .agg cs, .slice (some ⟨b, off, none⟩) n cap, .int .i64 (i : Nat), .pointer (some ⟨b, off + i * 3, none⟩), .agg ml.toArray, .tuple #[.agg ct, .bool D], .agg ct, .bool D, _, _, _, _, _, _, _, _, _, _, _, _, _, _, _, _, _, _, _, _, _, _, _, _, _, _, _, _, _, _, _, _, _, _, _, _, _, _, _, _, _, _, _, _, _, _, _, _, _, _, _, _, _, _, _, _, _, _, _, _, _], defers := [] } _
        refine alongK_step ?_
        refine opK_store (w7.alloc (.cells ct 28)) rfl rfl (ex_fillG (x := .tmp 7) (y := .tmp 28) rfl rfl rfl (by rw [info_gs, hszt]) (by rw [hszt]; rfl) honet) (fun x => Up wr x) (fun _ h => h) (Up.alloc HU7.out _) ?_
        change AlongK _ _ _ _ _ { tmps := #[.slice (some ⟨b, off, none⟩) n cap, _, _, _, _, .pointer (some ⟨SB, 0, none⟩), .int .i64 (i : Nat), .pointer (some ⟨w7.heap.size, 0, none⟩), _, _, _, _, _, _, _, _, _, _, _, _, _, .tuple #[.agg ct, .bool D], .agg cs, .slice (some ⟨b, off, none⟩) n cap, .int .i64 (i : Nat), .pointer (some ⟨b, off + i * 3, none⟩), .agg ml.toArray, .tuple #[.agg ct, .bool D], .agg ct, .bool D, _, _, _, _, _, _, _, _, _, _, _, _, _, _, _, _, _, _, _, _, _, _, _, _, _, _, _, _, _, _, _, _, _, _, _, _, _, _, _, _, _, _, _, _, _, _, _, _, _, _, _, _, _, _, _, _, _, _, _, _, _], defers := [] } _
        refine alongK_read (.bool D) rfl rfl (fun wx hS => ex_assign (by rfl) (by rfl) wx) ?_
        change AlongK _ _ _ _ _ { tmps := #[.slice (some ⟨b, off, none⟩) n cap, _, _, _, _, .pointer (some ⟨SB, 0, none⟩), .int .i64 (i : Nat), .pointer (some ⟨w7.heap.size, 0, none⟩), .bool D, _, _, _, _, _, _, _, _, _, _, _, _, .tuple #[.agg ct, .bool D], .agg cs, .slice (some ⟨b, off, none⟩) n cap, .int .i64 (i : Nat), .pointer (some ⟨b, off + i * 3, none⟩), .agg ml.toArray, .tuple #[.agg ct, .bool D], .agg ct, .bool D, _, _, _, _, _, _, _, _, _, _, _, _, _, _, _, _, _, _, _, _, _, _, _, _, _, _, _, _, _, _, _, _, _, _, _, _, _, _, _, _, _, _, _, _, _, _, _, _, _, _, _, _, _, _, _, _, _, _, _, _, _], defers := [] } _
        refine alongK_done ?_
        focus
          have hup := Up.alloc HU7.out (.cells ct 28)
          have hnew := heap_alloc_new w7 (.cells ct 28)
          have HE : Hid (_ ∧ _ ∧ _) := Lib.hid ⟨hnew, (hup.block _ (lt_of_block HSS.out)).trans HSS.out, hup⟩
          clear hup hnew
          go_wp2_with fail
          go_meet
          exact ⟨_, rfl, rfl, HE⟩
        refine opK_run (.pointer (some ⟨wr.drew.heap.size, 0, none⟩)) (wr.drew.alloc (.cells #[.int .i64 0, .int .i64 0, .int .i64 0, .string ⟨#[]⟩, .int .i64 0, .int .i64 0, .string ⟨#[]⟩, .int .i64 0, .int .i64 0, .string ⟨#[]⟩, .bool false] 28)) rfl rfl (ex_alloc rfl _ _ (alloc_gs wr.drew)) (fun x => Up wr x) (fun _ h => h) (Up.alloc (Up.drew1 wr) _) ?_
        change AlongK _ _ _ _ _ { tmps := #[.slice (some ⟨b, off, none⟩) n cap, _, _, _, _, .pointer (some ⟨SB, 0, none⟩), .int .i64 (i : Nat), .pointer (some ⟨wr.drew.heap.size, 0, none⟩), _, _, _, _, _, _, _, _, _, _, _, _, _, _, .agg cs, .slice (some ⟨b, off, none⟩) n cap, .int .i64 (i : Nat), .pointer (some ⟨b, off + i * 3, none⟩), .agg ml.toArray, _, _, _, _, _, _, _, _, _, _, _, _, _, _, _, _, _, _, _, _, _, _, _, _, _, _, _, _, _, _, _, _, _, _, _, _, _, _, _, _, _, _, _, _, _, _, _, _, _, _, _, _, _, _, _, _, _, _, _, _, _, _, _, _], defers := [] } _
        have HUZ := Lib.hid (Up.alloc (Up.drew1 wr) (.cells #[.int .i64 0, .int .i64 0, .int .i64 0, .string ⟨#[]⟩, .int .i64 0, .int .i64 0, .string ⟨#[]⟩, .int .i64 0, .int .i64 0, .string ⟨#[]⟩, .bool false] 28))
        have HBZ := Lib.hid (heap_alloc_new wr.drew (.cells #[.int .i64 0, .int .i64 0, .int .i64 0, .string ⟨#[]⟩, .int .i64 0, .int .i64 0, .string ⟨#[]⟩, .int .i64 0, .int .i64 0, .string ⟨#[]⟩, .bool false] 28))
        have HTB : Hid (wr.heap.size ≤ wr.drew.heap.size) := Lib.hid (Nat.le_refl _)
        generalize wr.drew.alloc (.cells #[.int .i64 0, .int .i64 0, .int .i64 0, .string ⟨#[]⟩, .int .i64 0, .int .i64 0, .string ⟨#[]⟩, .int .i64 0, .int .i64 0, .string ⟨#[]⟩, .bool false] 28) = wz at HUZ HBZ ⊢
        generalize wr.drew.heap.size = TB at HBZ HTB ⊢
        refine alongK_step ?_
        refine opK_call (vs := [.agg cs, .agg ml.toArray]) rfl rfl rfl (enters_of Try.func7 (by kernel_rfl) rfl) rfl ?_
        with_reducible refine Calls.mono (HLk.out _) ?_
        rintro e w7 ⟨rfl, hU7⟩
        have HU7 := Lib.hid (Up.trans HUZ.out hU7)
        have HB7 := Lib.hid ((hU7.block _ (lt_of_block HBZ.out)).trans HBZ.out)
        clear hU7
        refine ⟨_, rfl, (fun x => Up wr x), (fun _ h => h), HU7.out, ?_⟩
        change AlongK _ _ _ _ _ { tmps := #[.slice (some ⟨b, off, none⟩) n cap, _, _, _, _, .pointer (some ⟨SB, 0, none⟩), .int .i64 (i : Nat), .pointer (some ⟨TB, 0, none⟩), _, _, _, _, _, _, _, _, _, _, _, _, _, _, .agg cs, .slice (some ⟨b, off, none⟩) n cap, .int .i64 (i : Nat), .pointer (some ⟨b, off + i * 3, none⟩), .agg ml.toArray, .tuple #[.agg ct, .bool D], _, _, _, _, _, _, _, _, _, _, _, _, _, _, _, _, _, _, _, _, _, _, _, _, _, _, _, _, _, _, _, _, _, _, _, _, _, _, _, _, _, _, _, _, _, _, _, _, _, _, _, _, _, _, _, _, _, _, _, _, _, _, _], defers := [] } _
        refine alongK_read (.tuple #[.agg ct, .bool D]) rfl rfl (fun wx hS => ex_move (by rfl) (by rfl) wx) ?_
        change AlongK _ _ _ _ _ { tmps := #[.slice (some ⟨b, off, none⟩) n cap, _, _, _, _, .pointer (some ⟨SB, 0, none⟩), .int .i64 (i : Nat), .pointer (some ⟨TB, 0, none⟩), _, _, _, _, _, _, _, _, _, _, _, _, _, .tuple #[.agg ct, .bool D], .agg cs, .slice (some ⟨b, off, none⟩) n cap, .int .i64 (i : Nat), .pointer (some ⟨b, off + i * 3, none⟩), .agg ml.toArray, .tuple #[.agg ct, .bool D], _, _, _, _, _, _, _, _, _, _, _, _, _, _, _, _, _, _, _, _, _, _, _, _, _, _, _, _, _, _, _, _, _, _, _, _, _, _, _, _, _, _, _, _, _, _, _, _, _, _, _, _, _, _, _, _, _, _, _, _, _, _, _], defers := [] } _
        refine alongK_read (.agg ct) rfl rfl (fun wx hS => ex_extr (cs := #[.agg ct, .bool D]) rfl rfl rfl wx) ?_
        change AlongK _ _ _ _ _ { tmps := #[.slice (some ⟨b, off, none⟩) n cap, _, _, _, _, .pointer (some ⟨SB, 0, none⟩), .int .i64 (i : Nat), .pointer (some ⟨TB, 0, none⟩), _, _, _, _, _, _, _, _, _, _, _, _, _, .tuple #[.agg ct, .bool D], .agg cs, .slice (some ⟨b, off, none⟩) n cap, .int .i64 (i : Nat), .pointer (some ⟨b, off + i * 3, none⟩), .agg ml.toArray, .tuple #[.agg ct, .bool D], .agg ct, _, _, _, _, _, _, _, _, _, _, _, _, _, _, _, _, _, _, _, _, _, _, _, _, _, _, _, _, _, _, _, _, _, _, _, _, _, _, _, _, _, _, _, _, _, _, _, _, _, _, _, _, _, _, _, _, _, _, _, _, _, _], defers := [] } _
        refine alongK_read (.bool D) rfl rfl (fun wx hS => ex_extr (cs := #[.agg ct, .bool D]) rfl rfl rfl wx) ?_
        change AlongK _ _ _ _ _ { tmps := #[.slice (some ⟨b, off, none⟩) n cap, _, _, _, _, .pointer (some ⟨SB, 0, none⟩), .int .i64 (i : Nat), .pointer (some ⟨TB, 0, none⟩), _, _, _, _, _, _, _, _, _, _, _, _, _, .tuple #[.agg ct, .bool D], .agg cs, .slice (some ⟨b, off, none⟩) n cap, .int .i64 (i : Nat), .pointer (some ⟨b, off + i * 3, none⟩), .agg ml.toArray, .tuple #[.agg ct, .bool D], .agg ct, .bool D, _, _, _, _, _, _, _, _, _, _, _, _, _, _, _, _, _, _, _, _, _, _, _, _, _, _, _, _, _, _, _, _, _, _, _, _, _, _, _, _, _, _, _, _, _, _, _, _, _, _, _, _, _, _, _, _, _, _, _, _, _], defers := [] } _
        refine alongK_step ?_
        refine opK_store (w7.setRow TB ct) rfl rfl (ex_storerow (c1 := ct) rfl rfl rfl _ 28 HB7.out (by rw [info_gs, hszt]) (by rw [hszt]; rfl) honet) (fun x => Up wr x) (fun _ h => h) (up_at HU7.out (grownBy_setRow _ _ _) HTB.out) ?_
        change AlongK _ _ _ _ _ { tmps := #[.slice (some ⟨b, off, none⟩) n cap, _, _, _, _, .pointer (some ⟨SB, 0, none⟩), .int .i64 (i : Nat), .pointer (some ⟨TB, 0, none⟩), _, _, _, _, _, _, _, _, _, _, _, _, _, .tuple #[.agg ct, .bool D], .agg cs, .slice (some ⟨b, off, none⟩) n cap, .int .i64 (i : Nat), .pointer (some ⟨b, off + i * 3, none⟩), .agg ml.toArray, .tuple #[.agg ct, .bool D], .agg ct, .bool D, _, _, _, _, _, _, _, _, _, _, _, _, _, _, _, _, _, _, _, _, _, _, _, _, _, _, _, _, _, _, _, _, _, _, _, _, _, _, _, _, _, _, _, _, _, _, _, _, _, _, _, _, _, _, _, _, _, _, _, _, _], defers := [] } _
        refine alongK_read (.bool D) rfl rfl (fun wx hS => ex_assign (by rfl) (by rfl) wx) ?_
        change AlongK _ _ _ _ _ { tmps := #[.slice (some ⟨b, off, none⟩) n cap, _, _, _, _, .pointer (some ⟨SB, 0, none⟩), .int .i64 (i : Nat), .pointer (some ⟨TB, 0, none⟩), .bool D, _, _, _, _, _, _, _, _, _, _, _, _, .tuple #[.agg ct, .bool D], .agg cs, .slice (some ⟨b, off, none⟩) n cap, .int .i64 (i : Nat), .pointer (some ⟨b, off + i * 3, none⟩), .agg ml.toArray, .tuple #[.agg ct, .bool D], .agg ct, .bool D, _, _, _, _, _, _, _, _, _, _, _, _, _, _, _, _, _, _, _, _, _, _, _, _, _, _, _, _, _, _, _, _, _, _, _, _, _, _, _, _, _, _, _, _, _, _, _, _, _, _, _, _, _, _, _, _, _, _, _, _, _], defers := [] } _
        refine alongK_done ?_
        focus
          have hup := up_at HU7.out (grownBy_setRow w7 TB ct) HTB.out
          have hnew := setRow_heap w7 TB _ ct 28 (0, 0) HB7.out
          have HE : Hid (_ ∧ _ ∧ _) := Lib.hid ⟨hnew, (hup.block _ (lt_of_block HSS.out)).trans HSS.out, hup⟩
          clear hup hnew
          go_wp2_with fail
          go_meet
          exact ⟨_, rfl, rfl, HE⟩
      case rest =>
        obtain ⟨TB, rfl, rfl, hE⟩ := hcut
        have HTQ := Lib.hid hE.out.1
        have HSQ := Lib.hid hE.out.2.1
        have HUQ := Lib.hid hE.out.2.2
        clear hE HLk
        go_upto_region 8 with fail
        refine region_alongK (fun x => Up wc x) (.read 0 (.read 1 (.read 2 (.read 3 (.step 4 (.read 5 (.read 6 (.read 7 (.read 8 (.read 9 (.read 10 (.read 11 (.read 12 (.read 13 (.read 14 (.read 15 (.read 16 (.read 17 (.read 18 (.read 19 (.read 20 (.step 21 (.read 22 (.nil)))))))))))))))))))))))) (by kernel_rfl) rfl (by kernel_rfl) (by kernel_rfl) (fun c a d v w h => by cases d <;> exact h) (Up.drew1 wc) ?_
        refine alongK_read (.pointer (some ⟨SB, 7, none⟩)) rfl rfl (fun wx hS => ex_field rfl rfl wx (by simp [go_sem])) ?_
        change AlongK _ _ _ _ _ { tmps := #[.slice (some ⟨b, off, none⟩) n cap, _, _, _, _, .pointer (some ⟨SB, 0, none⟩), .int .i64 (i : Nat), .pointer (some ⟨TB, 0, none⟩), .bool D, _, _, _, _, _, _, _, _, _, _, _, _, _, _, _, _, _, _, _, _, _, .pointer (some ⟨SB, 7, none⟩), _, _, _, _, _, _, _, _, _, _, _, _, _, _, _, _, _, _, _, _, _, _, _, _, _, _, _, _, _, _, _, _, _, _, _, _, _, _, _, _, _, _, _, _, _, _, _, _, _, _, _, _, _, _, _, _, _, _, _, _], defers := [] } _
        refine alongK_read (.agg cl.toArray) rfl rfl (fun wx hS => ex_loadpart 3 isAgg_mk sizeOf_mk rfl rfl wx ((hS.block _ (lt_of_block HSQ.out)).trans HSQ.out) hat hcl) ?_
        change AlongK _ _ _ _ _ { tmps := #[.slice (some ⟨b, off, none⟩) n cap, _, _, _, _, .pointer (some ⟨SB, 0, none⟩), .int .i64 (i : Nat), .pointer (some ⟨TB, 0, none⟩), .bool D, _, _, _, _, _, _, _, _, _, _, _, _, _, _, _, _, _, _, _, _, _, .pointer (some ⟨SB, 7, none⟩), .agg cl.toArray, _, _, _, _, _, _, _, _, _, _, _, _, _, _, _, _, _, _, _, _, _, _, _, _, _, _, _, _, _, _, _, _, _, _, _, _, _, _, _, _, _, _, _, _, _, _, _, _, _, _, _, _, _, _, _, _, _, _, _], defers := [] } _
        refine alongK_read (.pointer (some ⟨TB, 7, none⟩)) rfl rfl (fun wx hS => ex_field rfl rfl wx (by simp [go_sem])) ?_
        change AlongK _ _ _ _ _ { tmps := #[.slice (some ⟨b, off, none⟩) n cap, _, _, _, _, .pointer (some ⟨SB, 0, none⟩), .int .i64 (i : Nat), .pointer (some ⟨TB, 0, none⟩), .bool D, _, _, _, _, _, _, _, _, _, _, _, _, _, _, _, _, _, _, _, _, _, .pointer (some ⟨SB, 7, none⟩), .agg cl.toArray, .pointer (some ⟨TB, 7, none⟩), _, _, _, _, _, _, _, _, _, _, _, _, _, _, _, _, _, _, _, _, _, _, _, _, _, _, _, _, _, _, _, _, _, _, _, _, _, _, _, _, _, _, _, _, _, _, _, _, _, _, _, _, _, _, _, _, _, _], defers := [] } _
        refine alongK_read (.agg tl.toArray) rfl rfl (fun wx hS => ex_loadpart 3 isAgg_mk sizeOf_mk rfl rfl wx ((hS.block _ (lt_of_block HTQ.out)).trans HTQ.out) hatt htl) ?_
        change AlongK _ _ _ _ _ { tmps := #[.slice (some ⟨b, off, none⟩) n cap, _, _, _, _, .pointer (some ⟨SB, 0, none⟩), .int .i64 (i : Nat), .pointer (some ⟨TB, 0, none⟩), .bool D, _, _, _, _, _, _, _, _, _, _, _, _, _, _, _, _, _, _, _, _, _, .pointer (some ⟨SB, 7, none⟩), .agg cl.toArray, .pointer (some ⟨TB, 7, none⟩), .agg tl.toArray, _, _, _, _, _, _, _, _, _, _, _, _, _, _, _, _, _, _, _, _, _, _, _, _, _, _, _, _, _, _, _, _, _, _, _, _, _, _, _, _, _, _, _, _, _, _, _, _, _, _, _, _, _, _, _, _, _], defers := [] } _
        refine alongK_step ?_
        refine opK_call (vs := [.agg cl.toArray, .agg tl.toArray]) rfl rfl rfl (enters_of Try.func8 (by kernel_rfl) rfl) rfl ?_
        with_reducible refine Calls.mono (HH1.out _) ?_
        rintro e w8 ⟨rfl, hU8⟩
        have HU8 := Lib.hid (Up.trans (Up.drew1 wc) hU8)
        clear hU8
        refine ⟨_, rfl, (fun x => Up wc x), (fun _ h => h), HU8.out, ?_⟩
        change AlongK _ _ _ _ _ { tmps := #[.slice (some ⟨b, off, none⟩) n cap, _, _, _, _, .pointer (some ⟨SB, 0, none⟩), .int .i64 (i : Nat), .pointer (some ⟨TB, 0, none⟩), .bool D, _, _, _, _, _, _, _, _, _, _, _, _, _, _, _, _, _, _, _, _, _, .pointer (some ⟨SB, 7, none⟩), .agg cl.toArray, .pointer (some ⟨TB, 7, none⟩), .agg tl.toArray, .bool false, _, _, _, _, _, _, _, _, _, _, _, _, _, _, _, _, _, _, _, _, _, _, _, _, _, _, _, _, _, _, _, _, _, _, _, _, _, _, _, _, _, _, _, _, _, _, _, _, _, _, _, _, _, _, _, _], defers := [] } _
        refine alongK_read (.bool false) rfl rfl (fun wx hS => ex_move (by rfl) (by rfl) wx) ?_
        change AlongK _ _ _ _ _ { tmps := #[.slice (some ⟨b, off, none⟩) n cap, _, _, _, _, .pointer (some ⟨SB, 0, none⟩), .int .i64 (i : Nat), .pointer (some ⟨TB, 0, none⟩), .bool D, _, _, _, _, _, _, _, _, _, _, _, _, _, _, _, _, _, _, _, _, _, .pointer (some ⟨SB, 7, none⟩), .agg cl.toArray, .pointer (some ⟨TB, 7, none⟩), .agg tl.toArray, .bool false, .bool false, _, _, _, _, _, _, _, _, _, _, _, _, _, _, _, _, _, _, _, _, _, _, _, _, _, _, _, _, _, _, _, _, _, _, _, _, _, _, _, _, _, _, _, _, _, _, _, _, _, _, _, _, _, _, _], defers := [] } _
        refine alongK_read (.bool D) rfl rfl (fun wx hS => ex_move (by rfl) (by rfl) wx) ?_
        change AlongK _ _ _ _ _ { tmps := #[.slice (some ⟨b, off, none⟩) n cap, _, _, _, _, .pointer (some ⟨SB, 0, none⟩), .int .i64 (i : Nat), .pointer (some ⟨TB, 0, none⟩), .bool D, _, _, _, _, _, _, _, _, _, _, _, _, _, _, _, _, _, _, _, _, _, .pointer (some ⟨SB, 7, none⟩), .agg cl.toArray, .pointer (some ⟨TB, 7, none⟩), .agg tl.toArray, .bool false, .bool false, .bool D, _, _, _, _, _, _, _, _, _, _, _, _, _, _, _, _, _, _, _, _, _, _, _, _, _, _, _, _, _, _, _, _, _, _, _, _, _, _, _, _, _, _, _, _, _, _, _, _, _, _, _, _, _, _], defers := [] } _
        refine alongK_read (.pointer (some ⟨TB, 7, none⟩)) rfl rfl (fun wx hS => ex_field rfl rfl wx (by simp [go_sem])) ?_
        change AlongK _ _ _ _ _ { tmps := #[.slice (some ⟨b, off, none⟩) n cap, _, _, _, _, .pointer (some ⟨SB, 0, none⟩), .int .i64 (i : Nat), .pointer (some ⟨TB, 0, none⟩), .bool D, _, _, _, _, _, _, _, _, _, _, _, _, _, _, _, _, _, _, _, _, _, .pointer (some ⟨SB, 7, none⟩), .agg cl.toArray, .pointer (some ⟨TB, 7, none⟩), .agg tl.toArray, .bool false, .bool false, .bool D, .pointer (some ⟨TB, 7, none⟩), _, _, _, _, _, _, _, _, _, _, _, _, _, _, _, _, _, _, _, _, _, _, _, _, _, _, _, _, _, _, _, _, _, _, _, _, _, _, _, _, _, _, _, _, _, _, _, _, _, _, _, _, _], defers := [] } _
        refine alongK_read (.agg tl.toArray) rfl rfl (fun wx hS => ex_loadpart 3 isAgg_mk sizeOf_mk rfl rfl wx ((hS.block _ (lt_of_block HTQ.out)).trans HTQ.out) hatt htl) ?_
        change AlongK _ _ _ _ _ { tmps := #[.slice (some ⟨b, off, none⟩) n cap, _, _, _, _, .pointer (some ⟨SB, 0, none⟩), .int .i64 (i : Nat), .pointer (some ⟨TB, 0, none⟩), .bool D, _, _, _, _, _, _, _, _, _, _, _, _, _, _, _, _, _, _, _, _, _, .pointer (some ⟨SB, 7, none⟩), .agg cl.toArray, .pointer (some ⟨TB, 7, none⟩), .agg tl.toArray, .bool false, .bool false, .bool D, .pointer (some ⟨TB, 7, none⟩), .agg tl.toArray, _, _, _, _, _, _, _, _, _, _, _, _, _, _, _, _, _, _, _, _, _, _, _, _, _, _, _, _, _, _, _, _, _, _, _, _, _, _, _, _, _, _, _, _, _, _, _, _, _, _, _, _], defers := [] } _
        refine alongK_read (.pointer (some ⟨SB, 7, none⟩)) rfl rfl (fun wx hS => ex_field rfl rfl wx (by simp [go_sem])) ?_
        change AlongK _ _ _ _ _ { tmps := #[.slice (some ⟨b, off, none⟩) n cap, _, _, _, _, .pointer (some ⟨SB, 0, none⟩), .int .i64 (i : Nat), .pointer (some ⟨TB, 0, none⟩), .bool D, _, _, _, _, _, _, _, _, _, _, _, _, _, _, _, _, _, _, _, _, _, .pointer (some ⟨SB, 7, none⟩), .agg cl.toArray, .pointer (some ⟨TB, 7, none⟩), .agg tl.toArray, .bool false, .bool false, .bool D, .pointer (some ⟨TB, 7, none⟩), .agg tl.toArray, .pointer (some ⟨SB, 7, none⟩), _, _, _, _, _, _, _, _, _, _, _, _, _, _, _, _, _, _, _, _, _, _, _, _, _, _, _, _, _, _, _, _, _, _, _, _, _, _, _, _, _, _, _, _, _, _, _, _, _, _, _], defers := [] } _
        refine alongK_read (.agg cl.toArray) rfl rfl (fun wx hS => ex_loadpart 3 isAgg_mk sizeOf_mk rfl rfl wx ((hS.block _ (lt_of_block HSQ.out)).trans HSQ.out) hat hcl) ?_
        change AlongK _ _ _ _ _ { tmps := #[.slice (some ⟨b, off, none⟩) n cap, _, _, _, _, .pointer (some ⟨SB, 0, none⟩), .int .i64 (i : Nat), .pointer (some ⟨TB, 0, none⟩), .bool D, _, _, _, _, _, _, _, _, _, _, _, _, _, _, _, _, _, _, _, _, _, .pointer (some ⟨SB, 7, none⟩), .agg cl.toArray, .pointer (some ⟨TB, 7, none⟩), .agg tl.toArray, .bool false, .bool false, .bool D, .pointer (some ⟨TB, 7, none⟩), .agg tl.toArray, .pointer (some ⟨SB, 7, none⟩), .agg cl.toArray, _, _, _, _, _, _, _, _, _, _, _, _, _, _, _, _, _, _, _, _, _, _, _, _, _, _, _, _, _, _, _, _, _, _, _, _, _, _, _, _, _, _, _, _, _, _, _, _, _, _], defers := [] } _
        refine alongK_read (.bool E) rfl rfl (fun wx hS => ex_bin rfl rfl rfl wx (HEq.out _ _ wx)) ?_
        change AlongK _ _ _ _ _ { tmps := #[.slice (some ⟨b, off, none⟩) n cap, _, _, _, _, .pointer (some ⟨SB, 0, none⟩), .int .i64 (i : Nat), .pointer (some ⟨TB, 0, none⟩), .bool D, _, _, _, _, _, _, _, _, _, _, _, _, _, _, _, _, _, _, _, _, _, .pointer (some ⟨SB, 7, none⟩), .agg cl.toArray, .pointer (some ⟨TB, 7, none⟩), .agg tl.toArray, .bool false, .bool false, .bool D, .pointer (some ⟨TB, 7, none⟩), .agg tl.toArray, .pointer (some ⟨SB, 7, none⟩), .agg cl.toArray, .bool E, _, _, _, _, _, _, _, _, _, _, _, _, _, _, _, _, _, _, _, _, _, _, _, _, _, _, _, _, _, _, _, _, _, _, _, _, _, _, _, _, _, _, _, _, _, _, _, _, _], defers := [] } _
        refine alongK_read (.bool false) rfl rfl (fun wx hS => ex_bin rfl rfl rfl wx (HDE.out _ _ wx)) ?_
        change AlongK _ _ _ _ _ { tmps := #[.slice (some ⟨b, off, none⟩) n cap, _, _, _, _, .pointer (some ⟨SB, 0, none⟩), .int .i64 (i : Nat), .pointer (some ⟨TB, 0, none⟩), .bool D, _, _, _, _, _, _, _, _, _, _, _, _, _, _, _, _, _, _, _, _, _, .pointer (some ⟨SB, 7, none⟩), .agg cl.toArray, .pointer (some ⟨TB, 7, none⟩), .agg tl.toArray, .bool false, .bool false, .bool D, .pointer (some ⟨TB, 7, none⟩), .agg tl.toArray, .pointer (some ⟨SB, 7, none⟩), .agg cl.toArray, .bool E, .bool false, _, _, _, _, _, _, _, _, _, _, _, _, _, _, _, _, _, _, _, _, _, _, _, _, _, _, _, _, _, _, _, _, _, _, _, _, _, _, _, _, _, _, _, _, _, _, _, _], defers := [] } _
        refine alongK_read (.bool false) rfl rfl (fun wx hS => ex_pickf rfl (by rfl) (by rfl) wx) ?_
        change AlongK _ _ _ _ _ { tmps := #[.slice (some ⟨b, off, none⟩) n cap, _, _, _, _, .pointer (some ⟨SB, 0, none⟩), .int .i64 (i : Nat), .pointer (some ⟨TB, 0, none⟩), .bool D, _, _, _, _, _, _, _, _, _, _, _, _, _, _, _, _, _, _, _, _, _, .pointer (some ⟨SB, 7, none⟩), .agg cl.toArray, .pointer (some ⟨TB, 7, none⟩), .agg tl.toArray, .bool false, .bool false, .bool D, .pointer (some ⟨TB, 7, none⟩), .agg tl.toArray, .pointer (some ⟨SB, 7, none⟩), .agg cl.toArray, .bool E, .bool false, .bool false, _, _, _, _, _, _, _, _, _, _, _, _, _, _, _, _, _, _, _, _, _, _, _, _, _, _, _, _, _, _, _, _, _, _, _, _, _, _, _, _, _, _, _, _, _, _, _], defers := [] } _
        refine alongK_read (.bool false) rfl rfl (fun wx hS => ex_move (by rfl) (by rfl) wx) ?_
        change AlongK _ _ _ _ _ { tmps := #[.slice (some ⟨b, off, none⟩) n cap, _, _, _, _, .pointer (some ⟨SB, 0, none⟩), .int .i64 (i : Nat), .pointer (some ⟨TB, 0, none⟩), .bool D, _, _, _, _, _, _, _, _, _, _, _, _, _, _, _, _, _, _, _, _, _, .pointer (some ⟨SB, 7, none⟩), .agg cl.toArray, .pointer (some ⟨TB, 7, none⟩), .agg tl.toArray, .bool false, .bool false, .bool D, .pointer (some ⟨TB, 7, none⟩), .agg tl.toArray, .pointer (some ⟨SB, 7, none⟩), .agg cl.toArray, .bool E, .bool false, .bool false, .bool false, _, _, _, _, _, _, _, _, _, _, _, _, _, _, _, _, _, _, _, _, _, _, _, _, _, _, _, _, _, _, _, _, _, _, _, _, _, _, _, _, _, _, _, _, _, _], defers := [] } _
        refine alongK_read (.slice (some ⟨b, off, none⟩) n cap) rfl rfl (fun wx hS => ex_move (by rfl) (by rfl) wx) ?_
        change AlongK _ _ _ _ _ { tmps := #[.slice (some ⟨b, off, none⟩) n cap, _, _, _, _, .pointer (some ⟨SB, 0, none⟩), .int .i64 (i : Nat), .pointer (some ⟨TB, 0, none⟩), .bool D, _, _, _, _, _, _, _, _, _, _, _, _, _, _, _, _, _, _, _, _, _, .pointer (some ⟨SB, 7, none⟩), .agg cl.toArray, .pointer (some ⟨TB, 7, none⟩), .agg tl.toArray, .bool false, .bool false, .bool D, .pointer (some ⟨TB, 7, none⟩), .agg tl.toArray, .pointer (some ⟨SB, 7, none⟩), .agg cl.toArray, .bool E, .bool false, .bool false, .bool false, .slice (some ⟨b, off, none⟩) n cap, _, _, _, _, _, _, _, _, _, _, _, _, _, _, _, _, _, _, _, _, _, _, _, _, _, _, _, _, _, _, _, _, _, _, _, _, _, _, _, _, _, _, _, _, _], defers := [] } _
        refine alongK_read (.int .i64 (i : Nat)) rfl rfl (fun wx hS => ex_move (by rfl) (by rfl) wx) ?_
        change AlongK _ _ _ _ _ { tmps := #[.slice (some ⟨b, off, none⟩) n cap, _, _, _, _, .pointer (some ⟨SB, 0, none⟩), .int .i64 (i : Nat), .pointer (some ⟨TB, 0, none⟩), .bool D, _, _, _, _, _, _, _, _, _, _, _, _, _, _, _, _, _, _, _, _, _, .pointer (some ⟨SB, 7, none⟩), .agg cl.toArray, .pointer (some ⟨TB, 7, none⟩), .agg tl.toArray, .bool false, .bool false, .bool D, .pointer (some ⟨TB, 7, none⟩), .agg tl.toArray, .pointer (some ⟨SB, 7, none⟩), .agg cl.toArray, .bool E, .bool false, .bool false, .bool false, .slice (some ⟨b, off, none⟩) n cap, .int .i64 (i : Nat), _, _, _, _, _, _, _, _, _, _, _, _, _, _, _, _, _, _, _, _, _, _, _, _, _, _, _, _, _, _, _, _, _, _, _, _, _, _, _, _, _, _, _, _], defers := [] } _
        refine alongK_read (.pointer (some ⟨b, off + i * 3, none⟩)) rfl rfl (fun wx hS => ex_index Try.underlying22 Try.sizeOf26 rfl rfl rfl ((by omega)) wx) ?_
        change AlongK _ _ _ _ _ { tmps := #[.slice (some ⟨b, off, none⟩) n cap, _, _, _, _, .pointer (some ⟨SB, 0, none⟩), .int .i64 (i : Nat), .pointer (some ⟨TB, 0, none⟩), .bool D, _, _, _, _, _, _, _, _, _, _, _, _, _, _, _, _, _, _, _, _, _, .pointer (some ⟨SB, 7, none⟩), .agg cl.toArray, .pointer (some ⟨TB, 7, none⟩), .agg tl.toArray, .bool false, .bool false, .bool D, .pointer (some ⟨TB, 7, none⟩), .agg tl.toArray, .pointer (some ⟨SB, 7, none⟩), .agg cl.toArray, .bool E, .bool false, .bool false, .bool false, .slice (some ⟨b, off, none⟩) n cap, .int .i64 (i : Nat), .pointer (some ⟨b, off + i * 3, none⟩), _, _, _, _, _, _, _, _, _, _, _, _, _, _, _, _, _, _, _, _, _, _, _, _, _, _, _, _, _, _, _, _, _, _, _, _, _, _, _, _, _, _, _], defers := [] } _
        refine alongK_read (.agg ml.toArray) rfl rfl (fun wx hS => ex_ldG (x := .tmp 47) rfl rfl (HLd.out wx ((HU.out.trans HUQ.out).trans hS))) ?_
        change AlongK _ _ _ _ _ { tmps := #[.slice (some ⟨b, off, none⟩) n cap, _, _, _, _, .pointer (some ⟨SB, 0, none⟩), .int .i64 (i : Nat), .pointer (some ⟨TB, 0, none⟩), .bool D, _, _, _, _, _, _, _, _, _, _, _, _, _, _, _, _, _, _, _, _, _, .pointer (some ⟨SB, 7, none⟩), .agg cl.toArray, .pointer (some ⟨TB, 7, none⟩), .agg tl.toArray, .bool false, .bool false, .bool D, .pointer (some ⟨TB, 7, none⟩), .agg tl.toArray, .pointer (some ⟨SB, 7, none⟩), .agg cl.toArray, .bool E, .bool false, .bool false, .bool false, .slice (some ⟨b, off, none⟩) n cap, .int .i64 (i : Nat), .pointer (some ⟨b, off + i * 3, none⟩), .agg ml.toArray, _, _, _, _, _, _, _, _, _, _, _, _, _, _, _, _, _, _, _, _, _, _, _, _, _, _, _, _, _, _, _, _, _, _, _, _, _, _, _, _, _, _], defers := [] } _
        refine alongK_read (.pointer (some ⟨TB, 7, none⟩)) rfl rfl (fun wx hS => ex_field rfl rfl wx (by simp [go_sem])) ?_
        change AlongK _ _ _ _ _ { tmps := #[.slice (some ⟨b, off, none⟩) n cap, _, _, _, _, .pointer (some ⟨SB, 0, none⟩), .int .i64 (i : Nat), .pointer (some ⟨TB, 0, none⟩), .bool D, _, _, _, _, _, _, _, _, _, _, _, _, _, _, _, _, _, _, _, _, _, .pointer (some ⟨SB, 7, none⟩), .agg cl.toArray, .pointer (some ⟨TB, 7, none⟩), .agg tl.toArray, .bool false, .bool false, .bool D, .pointer (some ⟨TB, 7, none⟩), .agg tl.toArray, .pointer (some ⟨SB, 7, none⟩), .agg cl.toArray, .bool E, .bool false, .bool false, .bool false, .slice (some ⟨b, off, none⟩) n cap, .int .i64 (i : Nat), .pointer (some ⟨b, off + i * 3, none⟩), .agg ml.toArray, .pointer (some ⟨TB, 7, none⟩), _, _, _, _, _, _, _, _, _, _, _, _, _, _, _, _, _, _, _, _, _, _, _, _, _, _, _, _, _, _, _, _, _, _, _, _, _, _, _, _, _], defers := [] } _
        refine alongK_read (.agg tl.toArray) rfl rfl (fun wx hS => ex_loadpart 3 isAgg_mk sizeOf_mk rfl rfl wx ((hS.block _ (lt_of_block HTQ.out)).trans HTQ.out) hatt htl) ?_
        change AlongK _ _ _ _ _ { tmps := #[.slice (some ⟨b, off, none⟩) n cap, _, _, _, _, .pointer (some ⟨SB, 0, none⟩), .int .i64 (i : Nat), .pointer (some ⟨TB, 0, none⟩), .bool D, _, _, _, _, _, _, _, _, _, _, _, _, _, _, _, _, _, _, _, _, _, .pointer (some ⟨SB, 7, none⟩), .agg cl.toArray, .pointer (some ⟨TB, 7, none⟩), .agg tl.toArray, .bool false, .bool false, .bool D, .pointer (some ⟨TB, 7, none⟩), .agg tl.toArray, .pointer (some ⟨SB, 7, none⟩), .agg cl.toArray, .bool E, .bool false, .bool false, .bool false, .slice (some ⟨b, off, none⟩) n cap, .int .i64 (i : Nat), .pointer (some ⟨b, off + i * 3, none⟩), .agg ml.toArray, .pointer (some ⟨TB, 7, none⟩), .agg tl.toArray, _, _, _, _, _, _, _, _, _, _, _, _, _, _, _, _, _, _, _, _, _, _, _, _, _, _, _, _, _, _, _, _, _, _, _, _, _, _, _, _], defers := [] } _
        refine alongK_step ?_
        refine opK_call (vs := [.agg ml.toArray, .agg tl.toArray]) rfl rfl rfl (enters_of Try.func8 (by kernel_rfl) rfl) rfl ?_
        with_reducible refine Calls.mono (HH2.out _) ?_
        rintro e w9 ⟨rfl, hU9⟩
        have HU9 := Lib.hid (Up.trans HU8.out hU9)
        clear hU9
        refine ⟨_, rfl, (fun x => Up wc x), (fun _ h => h), HU9.out, ?_⟩
        change AlongK _ _ _ _ _ { tmps := #[.slice (some ⟨b, off, none⟩) n cap, _, _, _, _, .pointer (some ⟨SB, 0, none⟩), .int .i64 (i : Nat), .pointer (some ⟨TB, 0, none⟩), .bool D, _, _, _, _, _, _, _, _, _, _, _, _, _, _, _, _, _, _, _, _, _, .pointer (some ⟨SB, 7, none⟩), .agg cl.toArray, .pointer (some ⟨TB, 7, none⟩), .agg tl.toArray, .bool false, .bool false, .bool D, .pointer (some ⟨TB, 7, none⟩), .agg tl.toArray, .pointer (some ⟨SB, 7, none⟩), .agg cl.toArray, .bool E, .bool false, .bool false, .bool false, .slice (some ⟨b, off, none⟩) n cap, .int .i64 (i : Nat), .pointer (some ⟨b, off + i * 3, none⟩), .agg ml.toArray, .pointer (some ⟨TB, 7, none⟩), .agg tl.toArray, .bool false, _, _, _, _, _, _, _, _, _, _, _, _, _, _, _, _, _, _, _, _, _, _, _, _, _, _, _, _, _, _, _, _, _, _, _, _, _, _, _], defers := [] } _
        refine alongK_read (.bool false) rfl rfl (fun wx hS => ex_pickf rfl (by rfl) (by rfl) wx) ?_
        change AlongK _ _ _ _ _ { tmps := #[.slice (some ⟨b, off, none⟩) n cap, _, _, _, _, .pointer (some ⟨SB, 0, none⟩), .int .i64 (i : Nat), .pointer (some ⟨TB, 0, none⟩), .bool D, _, _, _, _, _, _, _, _, _, _, _, _, _, _, _, _, _, _, _, _, _, .pointer (some ⟨SB, 7, none⟩), .agg cl.toArray, .pointer (some ⟨TB, 7, none⟩), .agg tl.toArray, .bool false, .bool false, .bool D, .pointer (some ⟨TB, 7, none⟩), .agg tl.toArray, .pointer (some ⟨SB, 7, none⟩), .agg cl.toArray, .bool E, .bool false, .bool false, .bool false, .slice (some ⟨b, off, none⟩) n cap, .int .i64 (i : Nat), .pointer (some ⟨b, off + i * 3, none⟩), .agg ml.toArray, .pointer (some ⟨TB, 7, none⟩), .agg tl.toArray, .bool false, .bool false, _, _, _, _, _, _, _, _, _, _, _, _, _, _, _, _, _, _, _, _, _, _, _, _, _, _, _, _, _, _, _, _, _, _, _, _, _, _], defers := [] } _
        refine alongK_done ?_
        have HT9 := Lib.hid ((HU9.out.block _ (lt_of_block HTQ.out)).trans HTQ.out)
        have HS9 := Lib.hid ((HU9.out.block _ (lt_of_block HSQ.out)).trans HSQ.out)
        have HUW := Lib.hid (HU.out.trans (HUQ.out.trans HU9.out))
        clear HU8 HU9 HH1 HH2 HEq HDE
        go_wp2_with (first | (refine wpList_ex rfl (.agg ct) _ (ex_loadrow (x := .tmp 7) rfl rfl _ 28 HT9.out Try.underlying28 rfl (by rw [info_gs, hszt])) ?_) | (refine wpList_store_agg rfl 28 (.tmp 5) (.tmp 53) rfl SB _ ct rfl rfl 28 HS9.out (by rw [info_gs, hszt]) (by rw [hsz, hszt]) honet ?_; intro w12 hg12 hgr12))
        have HRN : Hid (∃ s, w12.heap[SB]? = some (.cells (gsA s) 28 (0, 0)) ∧ Up w w12) := Lib.hid (by obtain ⟨t, ht⟩ := HNX.out; exact ⟨t, by rw [← ht]; exact hg12, up_at HUW.out hgr12 HSB.out⟩)
        clear hg12 hgr12
        go_wp2
        go_roundw
        case rel => exact ⟨i + 1, by go_num, hlt, HRN⟩
        case measure => simp [intOf]; omega
    · obtain rfl : i = n := by omega
      have HR1 : Hid (∃ s, wr.heap[SB]? = some (.cells (gsA s) 28 (0, 0)) ∧ Up w wr) := Lib.hid ⟨s, hs, hU⟩
      clear hs hU HS HR0
      go_wp2
      go_loopw [9] (fun vi wr => ∃ j : Nat, vi = .int .i64 (j : Nat) ∧ j ≤ n2 ∧ Hid (∃ s, wr.heap[SB]? = some (.cells (gsA s) 28 (0, 0)) ∧ Up w wr)) (fun vi _ => n2 - (intOf vi).toNat)
      case atStart => exact ⟨0, rfl, Nat.zero_le _, HR1⟩
      case round =>
        rename_i wr0 _ _ _
        obtain ⟨j, rfl, hj, HS⟩ := hrel
        obtain ⟨s, hs, hU⟩ := HS.out
        clear HR1
        by_cases hlt : j < n2
        · have hz : (j : Int) < (n2 : Int) := by omega
          obtain ⟨b, off, rfl, hcell⟩ : ∃ b off, a2 = some ⟨b, off, none⟩ ∧ ∀ j, j < n2 → w.cell? ⟨b, off + j, none⟩ = some (.int .i64 (vs[j]?.getD 0)) := by
            obtain ⟨a', cap', e, _, _, h4⟩ := HV.out
            simp only [Value.slice.injEq] at e
            obtain ⟨rfl, _, _⟩ := e
            rcases h4 with h4 | ⟨b, off, e, h5⟩
            · exfalso; have := HN2.out; rw [h4] at this; simp at this; omega
            · exact ⟨b, off, e, fun j hj => h5 j (by rw [HN2.out]; exact hj)⟩
          have hcj := hcell j hlt
          clear hcell
          generalize vs[j]?.getD 0 = V at hcj
          have HLd : Hid (∀ wx, Up w wx → wx.cell? ⟨b, off + j * 1, none⟩ = some (.int .i64 V)) := Lib.hid fun wx hu => by rw [Nat.mul_one]; exact later_cellF hcj hu
          have HLk := Lib.hid (fun wx => enter_any s V wx)
          have hsz : (gsA s).size = 11 := rfl
          have hszt : (gsA (enterG s V)).size = 11 := rfl
          have honet := gsA_one (enterG s V)
          have hat := gs_lock s
          have hatt : At (gsA (enterG s V)) 7 s.c.l := by rw [← enter_lock s V]; exact gs_lock (enterG s V)
          have hc0 : (gsA s)[0]? = some (.int .i64 s.V) := rfl
          have hct0 : (gsA (enterG s V))[0]? = some (.int .i64 (if s.V < V then V else s.V)) := by unfold enterG; split <;> rfl
          have HNe := Lib.hid (fun p q wx => mk_neq s.c.V s.c.H s.c.B s.c.V s.c.H s.c.B p q wx)
          have hne : (!decide (s.c.V = s.c.V ∧ s.c.H = s.c.H ∧ s.c.B = s.c.B)) = false := by simp
          rw [hne] at HNe
          have HU := Lib.hid hU
          have HSS := Lib.hid hs
          have HNX : Hid (∃ t, gsA (enterG s V) = gsA t) := Lib.hid ⟨_, rfl⟩
          clear hs hU HS hcj hne
          change Hid (∀ p q wx, (do eqGuard .neq 26 p q (.agg s.c.l.toArray) (.agg s.c.l.toArray); binOp .neq 26 (.agg s.c.l.toArray) (.agg s.c.l.toArray) : Sem Value).run Try.prog wx = .ok (.bool false) wx) at HNe
          have hcl : s.c.l.length = 3 := rfl
          generalize gsA (enterG s V) = ct at HLk hszt honet hatt hct0 HNX
          generalize gsA s = cs at HLk hsz hat hc0 HSS
          generalize s.c.l = cl at HNe hat hatt hcl
          generalize s.V = SV at HLk hc0 hct0
          obtain ⟨D, hD⟩ : ∃ D, decide (SV < V) = D := ⟨_, rfl⟩
          rw [hD] at HLk
          go_upto_region 14 with fail
          go_cut [10, 11] from 54 to 90 (fun s10 s11 wx => ∃ TB, s10 = .pointer (some ⟨TB, 0, none⟩) ∧ s11 = .bool D ∧ Hid (wx.heap[TB]? = some (.cells ct 28 (0, 0)) ∧ wx.heap[SB]? = some (.cells cs 28 (0, 0)) ∧ Up wr wx))
          case first =>
            refine region_alongK (fun x => Up wr x) (.read 0 (.read 1 (.read 2 (.read 3 (.read 4 (.fork 5 (.read 6 (.read 7 (.read 8 (.step 9 (.step 10 (.read 11 (.nil))))))) 9 (.step 5 (.read 6 (.read 7 (.read 8 (.step 10 (.read 11 (.nil))))))))))))) (by kernel_rfl) rfl (by kernel_rfl) (by kernel_rfl) (fun c a d v w h => by cases d <;> exact h) (Up.drew1 wr) ?_
            refine alongK_read (.agg cs) rfl rfl (fun wx hS => ex_loadrow rfl rfl wx 28 ((hS.block _ (lt_of_block HSS.out)).trans HSS.out) Try.underlying28 rfl (by rw [info_gs, hsz])) ?_
            change AlongK _ _ _ _ _ { tmps := #[_, .slice (some ⟨b, off, none⟩) n2 cap2, _, _, _, .pointer (some ⟨SB, 0, none⟩), _, _, _, .int .i64 (j : Nat), _, _, _, _, _, _, _, _, _, _, _, _, _, _, _, _, _, _, _, _, _, _, _, _, _, _, _, _, _, _, _, _, _, _, _, _, _, _, _, _, _, _, _, _, _, _, _, _, _, _, _, .agg cs, _, _, _, _, _, _, _, _, _, _, _, _, _, _, _, _, _, _, _, _, _, _, _, _, _, _, _, _, _], defers := [] } _
            refine alongK_read (.slice (some ⟨b, off, none⟩) n2 cap2) rfl rfl (fun wx hS => ex_move (by rfl) (by rfl) wx) ?_
            change AlongK _ _ _ _ _ { tmps := #[_, .slice (some ⟨b, off, none⟩) n2 cap2, _, _, _, .pointer (some ⟨SB, 0, none⟩), _, _, _, .int .i64 (j : Nat), _, _, _, _, _, _, _, _, _, _, _, _, _, _, _, _, _, _, _, _, _, _, _, _, _, _, _, _, _, _, _, _, _, _, _, _, _, _, _, _, _, _, _, _, _, _, _, _, _, _, _, .agg cs, .slice (some ⟨b, off, none⟩) n2 cap2, _, _, _, _, _, _, _, _, _, _, _, _, _, _, _, _, _, _, _, _, _, _, _, _, _, _, _, _], defers := [] } _
            refine alongK_read (.int .i64 (j : Nat)) rfl rfl (fun wx hS => ex_move (by rfl) (by rfl) wx) ?_
            change AlongK _ _ _ _ _ { tmps := #[_, .slice (some ⟨b, off, none⟩) n2 cap2, _, _, _, .pointer (some ⟨SB, 0, none⟩), _, _, _, .int .i64 (j : Nat), _, _, _, _, _, _, _, _, _, _, _, _, _, _, _, _, _, _, _, _, _, _, _, _, _, _, _, _, _, _, _, _, _, _, _, _, _, _, _, _, _, _, _, _, _, _, _, _, _, _, _, .agg cs, .slice (some ⟨b, off, none⟩) n2 cap2, .int .i64 (j : Nat), _, _, _, _, _, _, _, _, _, _, _, _, _, _, _, _, _, _, _, _, _, _, _, _, _, _, _], defers := [] } _
            refine alongK_read (.pointer (some ⟨b, off + j * 1, none⟩)) rfl rfl (fun wx hS => ex_index Try.underlying23 Try.sizeOf3 rfl rfl rfl ((by omega)) wx) ?_
            change AlongK _ _ _ _ _ { tmps := #[_, .slice (some ⟨b, off, none⟩) n2 cap2, _, _, _, .pointer (some ⟨SB, 0, none⟩), _, _, _, .int .i64 (j : Nat), _, _, _, _, _, _, _, _, _, _, _, _, _, _, _, _, _, _, _, _, _, _, _, _, _, _, _, _, _, _, _, _, _, _, _, _, _, _, _, _, _, _, _, _, _, _, _, _, _, _, _, .agg cs, .slice (some ⟨b, off, none⟩) n2 cap2, .int .i64 (j : Nat), .pointer (some ⟨b, off + j * 1, none⟩), _, _, _, _, _, _, _, _, _, _, _, _, _, _, _, _, _, _, _, _, _, _, _, _, _, _], defers := [] } _
            refine alongK_read (.int .i64 V) rfl rfl (fun wx hS => ex_load Try.isAgg3 rfl rfl wx (HLd.out wx (HU.out.trans hS))) ?_
            change AlongK _ _ _ _ _ { tmps := #[_, .slice (some ⟨b, off, none⟩) n2 cap2, _, _, _, .pointer (some ⟨SB, 0, none⟩), _, _, _, .int .i64 (j : Nat), _, _, _, _, _, _, _, _, _, _, _, _, _, _, _, _, _, _, _, _, _, _, _, _, _, _, _, _, _, _, _, _, _, _, _, _, _, _, _, _, _, _, _, _, _, _, _, _, _, _, _, .agg cs, .slice (some ⟨b, off, none⟩) n2 cap2, .int .i64 (j : Nat), .pointer (some ⟨b, off + j * 1, none⟩), .int .i64 V, _, _, _, _, _, _, _, _, _, _, _, _, _, _, _, _, _, _, _, _, _, _, _, _, _], defers := [] } _
            refine alongK_fork ?_ ?_
            refine opK_call (vs := [.agg cs, .int .i64 V]) rfl rfl rfl (enters_of Try.func9 (by kernel_rfl) rfl) rfl ?_
            with_reducible refine Calls.mono (HLk.out _) ?_
            rintro e w7 ⟨rfl, hU7⟩
            have HU7 := Lib.hid (Up.trans (Up.drew1 wr) hU7)
            clear hU7
            refine ⟨_, rfl, (fun x => Up wr x), (fun _ h => h), HU7.out, ?_⟩
            change AlongK _ _ _ _ _ { tmps := #[_, .slice (some ⟨b, off, none⟩) n2 cap2, _, _, _, .pointer (some ⟨SB, 0, none⟩), _, _, _, .int .i64 (j : Nat), _, _, _, _, _, _, _, _, _, _, _, _, _, _, _, _, _, _, _, _, _, _, _, _, _, _, _, _, _, _, _, _, _, _, _, _, _, _, _, _, _, _, _, _, _, _, _, _, _, _, _, .agg cs, .slice (some ⟨b, off, none⟩) n2 cap2, .int .i64 (j : Nat), .pointer (some ⟨b, off + j * 1, none⟩), .int .i64 V, .tuple #[.agg ct, .bool D], _, _, _, _, _, _, _, _, _, _, _, _, _, _, _, _, _, _, _, _, _, _, _, _], defers := [] } _
            refine alongK_read (.tuple #[.agg ct, .bool D]) rfl rfl (fun wx hS => ex_move (by rfl) (by rfl) wx) ?_
            change AlongK _ _ _ _ _ { tmps := #[_, .slice (some ⟨b, off, none⟩) n2 cap2, _, _, _, .pointer (some ⟨SB, 0, none⟩), _, _, _, .int .i64 (j : Nat), _, _, _, _, _, _, _, _, _, _, _, _, _, _, _, _, _, _, _, _, _, _, _, _, _, _, _, _, _, _, _, _, _, _, _, _, _, _, _, _, _, _, _, _, _, _, _, _, _, _, .tuple #[.agg ct, .bool D], .agg cs, .slice (some ⟨b, off, none⟩) n2 cap2, .int .i64 (j : Nat), .pointer (some ⟨b, off + j * 1, none⟩), .int .i64 V, .tuple #[.agg ct, .bool D], _, _, _, _, _, _, _, _, _, _, _, _, _, _, _, _, _, _, _, _, _, _, _, _], defers := [] } _
            refine alongK_read (.agg ct) rfl rfl (fun wx hS => ex_extr (cs := #[.agg ct, .bool D]) rfl rfl rfl wx) ?_
            change AlongK _ _ _ _ _ { tmps := #[_, .slice (some ⟨b, off, none⟩) n2 cap2, _, _, _, .pointer (some ⟨SB, 0, none⟩), _, _, _, .int .i64 (j : Nat), _, _, _, _, _, _, _, _, _, _, _, _, _, _, _, _, _, _, _, _, _, _, _, _, _, _, _, _, _, _, _, _, _, _, _, _, _, _, _, _, _, _, _, _, _, _, _, _, _, _, .tuple #[.agg ct, .bool D], .agg cs, .slice (some ⟨b, off, none⟩) n2 cap2, .int .i64 (j : Nat), .pointer (some ⟨b, off + j * 1, none⟩), .int .i64 V, .tuple #[.agg ct, .bool D], .agg ct, _, _, _, _, _, _, _, _, _, _, _, _, _, _, _, _, _, _, _, _, _, _, _], defers := [] } _
            refine alongK_read (.bool D) rfl rfl (fun wx hS => ex_extr (cs := #[.agg ct, .bool D]) rfl rfl rfl wx) ?_
            change AlongK _ _ _ _ _ { tmps := #[_, .slice (some ⟨b, off, none⟩) n2 cap2, _, _, _, .pointer (some ⟨SB, 0, none⟩), _, _, _, .int .i64 (j : Nat), _, _, _, _, _, _, _, _, _, _, _, _, _, _, _, _, _, _, _, _, _, _, _, _, _, _, _, _, _, _, _, _, _, _, _, _, _, _, _, _, _, _, _, _, _, _, _, _, _, _, .tuple #[.agg ct, .bool D], .agg cs, .slice (some ⟨b, off, none⟩) n2 cap2, .int .i64 (j : Nat), .pointer (some ⟨b, off + j * 1, none⟩), .int .i64 V, .tuple #[.agg ct, .bool D], .agg ct, .bool D, _, _, _, _, _, _, _, _, _, _, _, _, _, _, _, _, _, _, _, _, _, _], defers := [] } _
            refine alongK_step ?_
            refine opK_run (.pointer (some ⟨w7.heap.size, 0, none⟩)) (w7.alloc (.cells #[.int .i64 0, .int .i64 0, .int .i64 0, .string ⟨#[]⟩, .int .i64 0, .int .i64 0, .string ⟨#[]⟩, .int .i64 0, .int .i64 0, .string ⟨#[]⟩, .bool false] 28)) rfl rfl (ex_alloc rfl _ _ (alloc_gs w7)) (fun x => Up wr x) (fun _ h => h) (Up.alloc HU7.out _) ?_
            change AlongK _ _ _ _ _ { tmps := #[_, .slice (some ⟨b, off, none⟩) n2 cap2, _, _, _, .pointer (some ⟨SB, 0, none⟩), _, _, _, .int .i64 (j : Nat), .pointer (some ⟨w7.heap.size, 0, none⟩), _, _, _, _, _, _, _, _, _, _, _, _, _, _, _, _, _, _, _, _, _, _, _, _, _, _, _, _, _, _, _, _, _, _, _, _, _, _, _, _, _, _, _, _, _, _, _, _, _, .tuple #[.agg ct, .bool D], .agg cs, .slice (some ⟨b, off, none⟩) n2 cap2, .int .i64 (j : Nat), .pointer (some ⟨b, off + j * 1, none⟩), .int .i64 V, .tuple #[.agg ct, .bool D], .agg ct, .bool D, _, _, _, _, _, _, _, _, _, _, _, _, _, _, _, _, _, _, _, _, _, _], defers := [] } _
            refine alongK_step ?_
            refine opK_store (w7.alloc (.cells ct 28)) rfl rfl (ex_fillG (x := .tmp 10) (y := .tmp 67) rfl rfl rfl (by rw [info_gs, hszt]) (by rw [hszt]; rfl) honet) (fun x => Up wr x) (fun _ h => h) (Up.alloc HU7.out _) ?_
            change AlongK _ _ _ _ _ { tmps := #[_, .slice (some ⟨b, off, none⟩) n2 cap2, _, _, _, .pointer (some ⟨SB, 0, none⟩), _, _, _, .int .i64 (j : Nat), .pointer (some ⟨w7.heap.size, 0, none⟩), _, _, _, _, _, _, _, _, _, _, _, _, _, _, _, _, _, _, _, _, _, _, _, _, _, _, _, _, _, _, _, _, _, _, _, _, _, _, _, _, _, _, _, _, _, _, _, _, _, .tuple #[.agg ct, .bool D], .agg cs, .slice (some ⟨b, off, none⟩) n2 cap2, .int .i64 (j : Nat), .pointer (some ⟨b, off + j * 1, none⟩), .int .i64 V, .tuple #[.agg ct, .bool D], .agg ct, .bool D, _, _, _, _, _, _, _, _, _, _, _, _, _, _, _, _, _, _, _, _, _, _], defers := [] } _
            refine alongK_read (.bool D) rfl rfl (fun wx hS => ex_assign (by rfl) (by rfl) wx) ?_
            change AlongK _ _ _ _ _ { tmps := #[_, .slice (some ⟨b, off, none⟩) n2 cap2, _, _, _, .pointer (some ⟨SB, 0, none⟩), _, _, _, .int .i64 (j : Nat), .pointer (some ⟨w7.heap.size, 0, none⟩), .bool D, _, _, _, _, _, _, _, _, _, _, _, _, _, _, _, _, _, _, _, _, _, _, _, _, _, _, _, _, _, _, _, _, _, _, _, _, _, _, _, _, _, _, _, _, _, _, _, _, .tuple #[.agg ct, .bool D], .agg cs, .slice (some ⟨b, off, none⟩) n2 cap2, .int .i64 (j : Nat), .pointer (some ⟨b, off + j * 1, none⟩), .int .i64 V, .tuple #[.agg ct, .bool D], .agg ct, .bool D, _, _, _, _, _, _, _, _, _, _, _, _, _, _, _, _, _, _, _, _, _, _], defers := [] } _
            refine alongK_done ?_
            focus
              have hup := Up.alloc HU7.out (.cells ct 28)
              have hnew := heap_alloc_new w7 (.cells ct 28)
              have HE : Hid (_ ∧ _ ∧ _) := Lib.hid ⟨hnew, (hup.block _ (lt_of_block HSS.out)).trans HSS.out, hup⟩
              clear hup hnew
              go_wp2_with fail
              go_meet
              exact ⟨_, rfl, rfl, HE⟩
            refine opK_run (.pointer (some ⟨wr.drew.heap.size, 0, none⟩)) (wr.drew.alloc (.cells #[.int .i64 0, .int .i64 0, .int .i64 0, .string ⟨#[]⟩, .int .i64 0, .int .i64 0, .string ⟨#[]⟩, .int .i64 0, .int .i64 0, .string ⟨#[]⟩, .bool false] 28)) rfl rfl (ex_alloc rfl _ _ (alloc_gs wr.drew)) (fun x => Up wr x) (fun _ h => h) (Up.alloc (Up.drew1 wr) _) ?_
            change AlongK _ _ _ _ _ { tmps := #[_, .slice (some ⟨b, off, none⟩) n2 cap2, _, _, _, .pointer (some ⟨SB, 0, none⟩), _, _, _, .int .i64 (j : Nat), .pointer (some ⟨wr.drew.heap.size, 0, none⟩), _, _, _, _, _, _, _, _, _, _, _, _, _, _, _, _, _, _, _, _, _, _, _, _, _, _, _, _, _, _, _, _, _, _, _, _, _, _, _, _, _, _, _, _, _, _, _, _, _, _, .agg cs, .slice (some ⟨b, off, none⟩) n2 cap2, .int .i64 (j : Nat), .pointer (some ⟨b, off + j * 1, none⟩), .int .i64 V, _, _, _, _, _, _, _, _, _, _, _, _, _, _, _, _, _, _, _, _, _, _, _, _, _], defers := [] } _
            have HUZ := Lib.hid (Up.alloc (Up.drew1 wr) (.cells #[.int .i64 0, .int .i64 0, .int .i64 0, .string ⟨#[]⟩, .int .i64 0, .int .i64 0, .string ⟨#[]⟩, .int .i64 0, .int .i64 0, .string ⟨#[]⟩, .bool false] 28))
            have HBZ := Lib.hid (heap_alloc_new wr.drew (.cells #[.int .i64 0, .int .i64 0, .int .i64 0, .string ⟨#[]⟩, .int .i64 0, .int .i64 0, .string ⟨#[]⟩, .int .i64 0, .int .i64 0, .string ⟨#[]⟩, .bool false] 28))
            have HTB : Hid (wr.heap.size ≤ wr.drew.heap.size) := Lib.hid (Nat.le_refl _)
            generalize wr.drew.alloc (.cells #[.int .i64 0, .int .i64 0, .int .i64 0, .string ⟨#[]⟩, .int .i64 0, .int .i64 0, .string ⟨#[]⟩, .int .i64 0, .int .i64 0, .string ⟨#[]⟩, .bool false] 28) = wz at HUZ HBZ ⊢
            generalize wr.drew.heap.size = TB at HBZ HTB ⊢
            refine alongK_step ?_
            refine opK_call (vs := [.agg cs, .int .i64 V]) rfl rfl rfl (enters_of Try.func9 (by kernel_rfl) rfl) rfl ?_
            with_reducible refine Calls.mono (HLk.out _) ?_
            rintro e w7 ⟨rfl, hU7⟩
            have HU7 := Lib.hid (Up.trans HUZ.out hU7)
            have HB7 := Lib.hid ((hU7.block _ (lt_of_block HBZ.out)).trans HBZ.out)
            clear hU7
            refine ⟨_, rfl, (fun x => Up wr x), (fun _ h => h), HU7.out, ?_⟩
            change AlongK _ _ _ _ _ { tmps := #[_, .slice (some ⟨b, off, none⟩) n2 cap2, _, _, _, .pointer (some ⟨SB, 0, none⟩), _, _, _, .int .i64 (j : Nat), .pointer (some ⟨TB, 0, none⟩), _, _, _, _, _, _, _, _, _, _, _, _, _, _, _, _, _, _, _, _, _, _, _, _, _, _, _, _, _, _, _, _, _, _, _, _, _, _, _, _, _, _, _, _, _, _, _, _, _, _, .agg cs, .slice (some ⟨b, off, none⟩) n2 cap2, .int .i64 (j : Nat), .pointer (some ⟨b, off + j * 1, none⟩), .int .i64 V, .tuple #[.agg ct, .bool D], _, _, _, _, _, _, _, _, _, _, _, _, _, _, _, _, _, _, _, _, _, _, _, _], defers := [] } _
            refine alongK_read (.tuple #[.agg ct, .bool D]) rfl rfl (fun wx hS => ex_move (by rfl) (by rfl) wx) ?_
            change AlongK _ _ _ _ _ { tmps := #[_, .slice (some ⟨b, off, none⟩) n2 cap2, _, _, _, .pointer (some ⟨SB, 0, none⟩), _, _, _, .int .i64 (j : Nat), .pointer (some ⟨TB, 0, none⟩), _, _, _, _, _, _, _, _, _, _, _, _, _, _, _, _, _, _, _, _, _, _, _, _, _, _, _, _, _, _, _, _, _, _, _, _, _, _, _, _, _, _, _, _, _, _, _, _, _, .tuple #[.agg ct, .bool D], .agg cs, .slice (some ⟨b, off, none⟩) n2 cap2, .int .i64 (j : Nat), .pointer (some ⟨b, off + j * 1, none⟩), .int .i64 V, .tuple #[.agg ct, .bool D], _, _, _, _, _, _, _, _, _, _, _, _, _, _, _, _, _, _, _, _, _, _, _, _], defers := [] } _
            refine alongK_read (.agg ct) rfl rfl (fun wx hS => ex_extr (cs := #[.agg ct, .bool D]) rfl rfl rfl wx) ?_
            change AlongK _ _ _ _ _ { tmps := #[_, .slice (some ⟨b, off, none⟩) n2 cap2, _, _, _, .pointer (some ⟨SB, 0, none⟩), _, _, _, .int .i64 (j : Nat), .pointer (some ⟨TB, 0, none⟩), _, _, _, _, _, _, _, _, _, _, _, _, _, _, _, _, _, _, _, _, _, _, _, _, _, _, _, _, _, _, _, _, _, _, _, _, _, _, _, _, _, _, _, _, _, _, _, _, _, .tuple #[.agg ct, .bool D], .agg cs, .slice (some ⟨b, off, none⟩) n2 cap2, .int .i64 (j : Nat), .pointer (some ⟨b, off + j * 1, none⟩), .int .i64 V, .tuple #[.agg ct, .bool D], .agg ct, _, _, _, _, _, _, _, _, _, _, _, _, _, _, _, _, _, _, _, _, _, _, _], defers := [] } _
            refine alongK_read (.bool D) rfl rfl (fun wx hS => ex_extr (cs := #[.agg ct, .bool D]) rfl rfl rfl wx) ?_
            change AlongK _ _ _ _ _ { tmps := #[_, .slice (some ⟨b, off, none⟩) n2 cap2, _, _, _, .pointer (some ⟨SB, 0, none⟩), _, _, _, .int .i64 (j : Nat), .pointer (some ⟨TB, 0, none⟩), _, _, _, _, _, _, _, _, _, _, _, _, _, _, _, _, _, _, _, _, _, _, _, _, _, _, _, _, _, _, _, _, _, _, _, _, _, _, _, _, _, _, _, _, _, _, _, _, _, .tuple #[.agg ct, .bool D], .agg cs, .slice (some ⟨b, off, none⟩) n2 cap2, .int .i64 (j : Nat), .pointer (some ⟨b, off + j * 1, none⟩), .int .i64 V, .tuple #[.agg ct, .bool D], .agg ct, .bool D, _, _, _, _, _, _, _, _, _, _, _, _, _, _, _, _, _, _, _, _, _, _], defers := [] } _
            refine alongK_step ?_
            refine opK_store (w7.setRow TB ct) rfl rfl (ex_storerow (c1 := ct) rfl rfl rfl _ 28 HB7.out (by rw [info_gs, hszt]) (by rw [hszt]; rfl) honet) (fun x => Up wr x) (fun _ h => h) (up_at HU7.out (grownBy_setRow _ _ _) HTB.out) ?_
            change AlongK _ _ _ _ _ { tmps := #[_, .slice (some ⟨b, off, none⟩) n2 cap2, _, _, _, .pointer (some ⟨SB, 0, none⟩), _, _, _, .int .i64 (j : Nat), .pointer (some ⟨TB, 0, none⟩), _, _, _, _, _, _, _, _, _, _, _, _, _, _, _, _, _, _, _, _, _, _, _, _, _, _, _, _, _, _, _, _, _, _, _, _, _, _, _, _, _, _, _, _, _, _, _, _, _, .tuple #[.agg ct, .bool D], .agg cs, .slice (some ⟨b, off, none⟩) n2 cap2, .int .i64 (j : Nat), .pointer (some ⟨b, off + j * 1, none⟩), .int .i64 V, .tuple #[.agg ct, .bool D], .agg ct, .bool D, _, _, _, _, _, _, _, _, _, _, _, _, _, _, _, _, _, _, _, _, _, _], defers := [] } _
            refine alongK_read (.bool D) rfl rfl (fun wx hS => ex_assign (by rfl) (by rfl) wx) ?_
            change AlongK _ _ _ _ _ { tmps := #[_, .slice (some ⟨b, off, none⟩) n2 cap2, _, _, _, .pointer (some ⟨SB, 0, none⟩), _, _, _, .int .i64 (j : Nat), .pointer (some ⟨TB, 0, none⟩), .bool D, _, _, _, _, _, _, _, _, _, _, _, _, _, _, _, _, _, _, _, _, _, _, _, _, _, _, _, _, _, _, _, _, _, _, _, _, _, _, _, _, _, _, _, _, _, _, _, _, .tuple #[.agg ct, .bool D], .agg cs, .slice (some ⟨b, off, none⟩) n2 cap2, .int .i64 (j : Nat), .pointer (some ⟨b, off + j * 1, none⟩), .int .i64 V, .tuple #[.agg ct, .bool D], .agg ct, .bool D, _, _, _, _, _, _, _, _, _, _, _, _, _, _, _, _, _, _, _, _, _, _], defers := [] } _
            refine alongK_done ?_
            focus
              have hup := up_at HU7.out (grownBy_setRow w7 TB ct) HTB.out
              have hnew := setRow_heap w7 TB _ ct 28 (0, 0) HB7.out
              have HE : Hid (_ ∧ _ ∧ _) := Lib.hid ⟨hnew, (hup.block _ (lt_of_block HSS.out)).trans HSS.out, hup⟩
              clear hup hnew
              go_wp2_with fail
              go_meet
              exact ⟨_, rfl, rfl, HE⟩
          case rest =>
            obtain ⟨TB, rfl, rfl, hE⟩ := hcut
            have HTQ := Lib.hid hE.out.1
            have HSQ := Lib.hid hE.out.2.1
            have HUW := Lib.hid (HU.out.trans hE.out.2.2)
            have hl0 : wc.cell? ⟨SB, 0, none⟩ = some (.int .i64 SV) := by rw [cell_of_row _ _ 0 _ _ _ HSQ.out]; exact hc0
            have hlt0 : wc.cell? ⟨TB, 0, none⟩ = some (.int .i64 (if SV < V then V else SV)) := by rw [cell_of_row _ _ 0 _ _ _ HTQ.out]; exact hct0
            clear hE HLk hc0 hct0
            cases D with
            | true =>
              have h1 : SV < V := of_decide_eq_true hD
              rw [if_pos h1] at hlt0
              have hd1 : decide (V < SV) = false := decide_eq_false (by omega)
              have hd2 : (V == SV) = false := by rw [beq_eq_false_iff_ne]; omega
              clear hD
              go_wp2_with (first | (refine wpList_exw rfl (.agg cl.toArray) _ (ex_loadpart (x := .tmp 84) 3 isAgg_mk sizeOf_mk rfl rfl _ HTQ.out hatt hcl) ?_) | (refine wpList_exw rfl (.agg cl.toArray) _ (ex_loadpart (x := .tmp 86) 3 isAgg_mk sizeOf_mk rfl rfl _ HSQ.out hat hcl) ?_) | (refine wpList_exw rfl (.bool false) _ (ex_bin (x := .tmp 85) (y := .tmp 87) rfl rfl rfl _ (HNe.out _ _ _)) ?_) | (refine wpList_ex rfl (.agg ct) _ (ex_loadrow (x := .tmp 10) rfl rfl _ 28 HTQ.out Try.underlying28 rfl (by rw [info_gs, hszt])) ?_) | (refine wpList_store_agg rfl 28 (.tmp 5) (.tmp 90) rfl SB _ ct rfl rfl 28 HSQ.out (by rw [info_gs, hszt]) (by rw [hsz, hszt]) honet ?_; intro w12 hg12 hgr12))
              have HRN : Hid (∃ s, w12.heap[SB]? = some (.cells (gsA s) 28 (0, 0)) ∧ Up w w12) := Lib.hid (by obtain ⟨t, ht⟩ := HNX.out; exact ⟨t, by rw [← ht]; exact hg12, up_at HUW.out hgr12 HSB.out⟩)
              clear hg12 hgr12 hl0 hlt0 HTQ HSQ HUW
              go_wp2
              go_roundw
              case rel => exact ⟨j + 1, by go_num, hlt, HRN⟩
              case measure => simp [intOf]; omega
            | false =>
              have h1 : ¬ SV < V := of_decide_eq_false hD
              rw [if_neg h1] at hlt0
              have hd1 : decide (SV < SV) = false := decide_eq_false (by omega)
              have hd2 : (SV == SV) = true := by rw [beq_iff_eq]
              clear hD
              go_wp2_with (first | (refine wpList_exw rfl (.agg cl.toArray) _ (ex_loadpart (x := .tmp 84) 3 isAgg_mk sizeOf_mk rfl rfl _ HTQ.out hatt hcl) ?_) | (refine wpList_exw rfl (.agg cl.toArray) _ (ex_loadpart (x := .tmp 86) 3 isAgg_mk sizeOf_mk rfl rfl _ HSQ.out hat hcl) ?_) | (refine wpList_exw rfl (.bool false) _ (ex_bin (x := .tmp 85) (y := .tmp 87) rfl rfl rfl _ (HNe.out _ _ _)) ?_) | (refine wpList_ex rfl (.agg ct) _ (ex_loadrow (x := .tmp 10) rfl rfl _ 28 HTQ.out Try.underlying28 rfl (by rw [info_gs, hszt])) ?_) | (refine wpList_store_agg rfl 28 (.tmp 5) (.tmp 90) rfl SB _ ct rfl rfl 28 HSQ.out (by rw [info_gs, hszt]) (by rw [hsz, hszt]) honet ?_; intro w12 hg12 hgr12))
              have HRN : Hid (∃ s, w12.heap[SB]? = some (.cells (gsA s) 28 (0, 0)) ∧ Up w w12) := Lib.hid (by obtain ⟨t, ht⟩ := HNX.out; exact ⟨t, by rw [← ht]; exact hg12, up_at HUW.out hgr12 HSB.out⟩)
              clear hg12 hgr12 hl0 hlt0 HTQ HSQ HUW
              go_wp2
              go_roundw
              case rel => exact ⟨j + 1, by go_num, hlt, HRN⟩
              case measure => simp [intOf]; omega
        · obtain rfl : j = n2 := by omega
          clear HS
          have HUE := Lib.hid hU
          clear hs hU
          go_wp2
          go_ret
          exact ⟨rfl, HUE.out⟩
end
end Go.Proofs.Ytnipkhgaceicbaa
