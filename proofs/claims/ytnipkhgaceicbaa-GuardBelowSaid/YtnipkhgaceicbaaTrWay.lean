import Derived.Test.YtnipkhgaceicbaaTrIn
/-
  tree.way: the function that is ranged over.
-/
namespace Go.Proofs.Ytnipkhgaceicbaa
set_option maxRecDepth 100000
section
set_option linter.unusedVariables false
open Go.RowKit Go.Sort Go.Lib Go.Shelf
attribute [local go_sem] Oper.semAt_some

/-- a block of the tree, and its name -/
abbrev TP (T : ByteArray → Option Tb) := {p : ByteArray × Tb // T p.1 = some p.2}
/-- from one block on to its ancestors, so many steps -/
def walkL (T : ByteArray → Option Tb) : Nat → ByteArray → List (TP T)
  | 0, _ => []
  | n + 1, s => match h : T s with
    | none => []
    | some b => ⟨(s, b), h⟩ :: walkL T n b.P
theorem walkL_none {T : ByteArray → Option Tb} {s : ByteArray} (h : T s = none) (n : Nat) : walkL T n s = [] := by
  cases n with
  | zero => rfl
  | succ n =>
    unfold walkL
    split
    · rfl
    · rename_i b hb; rw [h] at hb; cases hb
theorem walkL_some {T : ByteArray → Option Tb} {s : ByteArray} {b : Tb} (h : T s = some b) (n : Nat) : walkL T (n + 1) s = ⟨(s, b), h⟩ :: walkL T n b.P := by
  rw [walkL]
  split
  · rename_i hb; rw [h] at hb; cases hb
  · rename_i b' hb
    have : b' = b := by rw [h] at hb; exact (Option.some.inj hb).symm
    subst this; rfl
/-- what is handed on -/
def tpE {T : ByteArray → Option Tb} (x : TP T) : Array Value := #[.agg (mkC x.1.2.V x.1.2.H x.1.1), .agg (tbA x.1.2)]

theorem treeLenC_any {w : World} {g mb n : Nat} {T : ByteArray → Option Tb} (h : TreeC w g mb n T) :
    Calls Try.prog 60 #[.pointer (some ⟨g, 0, none⟩)] w fun e w' => e = .returned (.int .i64 (n : Int)) ∧ w' = w := by
  have H := Lib.hid (kept_any g _ w h.root)
  have hl := h.map.len Try.underlying60 3
  go_enter Try.func60, Try.ntmps60
  go_wp2_with fail
  with_reducible refine Calls.mono H.out ?_
  rintro e w1 ⟨rfl, rfl⟩
  go_wp2
  go_ret
  exact ⟨rfl, rfl⟩
set_option maxHeartbeats 4000000 in
theorem way1_in (m : Nat) (hm : 1 ≤ m) (l bt bs B0 g mb n : Nat) (S : Nat → Prop) (T : ByteArray → Option Tb) (name : ByteArray) (hname : name.size ≤ maxLen) (hn : n ≤ 4611686018427387904) (J Jx : List (TP T) → World → Prop) (W : World) (hJ : ∀ s X Y, J s X → Up X Y → J s Y)
    (hY : ∀ pre x X, J pre X → pre.length < n → YieldAt Fence.wide (m - 1) Try.prog l (tpE x) X fun e W' =>
      (e = .returned (.bool true) ∧ J (pre ++ [x]) W' ∧ KeptR B0 S X W') ∨ (e = .returned (.bool false) ∧ Jx (pre ++ [x]) W'))
    (hT : TreeC W g mb n T) (hbt : W.heap[bt]? = some (.cells #[.pointer (some ⟨g, 0, none⟩)] 42 (0, 0))) (hbs : W.heap[bs]? = some (.cells #[.string name] 9 (0, 0)))
    (sg : ¬ S g) (sm : ¬ S mb) (st : ¬ S bt) (ss : ¬ S bs) (hmB : mb < B0) (hB0 : B0 ≤ W.heap.size) (hS : ∀ k, S k → k < B0) (h0 : J [] W) :
    CallsIn Fence.wide m Try.prog 59 #[.func (.yield l) #[] #[], .pointer (some ⟨bs, 0, none⟩), .pointer (some ⟨bt, 0, none⟩)] W fun e W' => (∃ v, e = .returned v) ∧
      ((∃ ys, ys = walkL T n name ∧ J ys W') ∨ (∃ pre, (∃ t, walkL T n name = pre ++ t) ∧ Jx pre W')) := by
  have cs := tx_cell hbs 0 (v := .string name) rfl
  have ct := tx_cell hbt 0 (v := .pointer (some ⟨g, 0, none⟩)) rfl
  have HLen := Lib.hid (treeLenC_any hT)
  have HT := Lib.hid hT
  have HBT := Lib.hid hbt
  have HJ := Lib.hid hJ
  have HY := Lib.hid hY
  have HS := Lib.hid hS
  have HNS : Hid (¬ S g ∧ ¬ S mb ∧ ¬ S bt ∧ ¬ S bs ∧ mb < B0 ∧ B0 ≤ W.heap.size) := Lib.hid ⟨sg, sm, st, ss, hmB, hB0⟩
  have HJ0 := Lib.hid h0
  clear hT hbt hbs hJ hY hS sg sm st ss hmB hB0 h0
  refine callsIn_of_wp Try.func59 rfl trivial ?_ rfl
  simp only [Try.ntmps59, List.size_toArray, List.length_cons, List.length_nil, Nat.reduceAdd, Nat.reduceSub, Array.replicate_succ, Array.replicate_zero, List.push_toArray, List.append_toArray, List.nil_append, List.cons_append]
  gi_wp2_with (refine ⟨trivial, ?_⟩; gi_at_call 60; refine (callsIn_wide.2 HLen.out).mono ?_; rintro e w' ⟨rfl, hw⟩; rw [hw]; clear hw)
  gi_loopw [4, 10] (fun vs vk wr => ∃ (k : Nat) (s : ByteArray) (pre : List (TP T)), vs = .string s ∧ vk = .int .i64 (k : Nat) ∧ k ≤ n ∧ s.size ≤ maxLen ∧ Hid (pre.length = k ∧ walkL T n name = pre ++ walkL T (n - k) s) ∧ Hid (J pre wr) ∧ Hid (KeptR B0 S W wr)) (fun _ vk _ => n - (intOf vk).toNat)
  case atStart => exact ⟨0, name, [], rfl, rfl, Nat.zero_le _, hname, Lib.hid ⟨rfl, rfl⟩, HJ0, Lib.hid (KeptR.of_up (Up.refl _))⟩
  case round =>
    obtain ⟨k, s, pre, rfl, rfl, hk, hs, HP, HJp, HK⟩ := hrel
    by_cases hlt : k < n
    · have hz : (k : Int) < (n : Int) := by omega
      have hTr := HT.out.keptR HK.out HNS.out.1 HNS.out.2.1 HNS.out.2.2.2.2.1
      have hlook0 := hTr.look hs
      have ct2 := tx_cell (HK.out.row HBT.out HNS.out.2.2.1) 0 (v := .pointer (some ⟨g, 0, none⟩)) rfl
      have HKp := Lib.hid (kept_any g _ wr hTr.root)
      clear hTr
      have HUA := Lib.hid (Up.alloc (Up.refl wr) (.cells (tbA (atT T s)) 41))
      have HBA := Lib.hid (heap_alloc_new wr (.cells (tbA (atT T s)) 41))
      cases hq : T s with
      | none =>
        have HQ := Lib.hid hq
        have hlook : (Instr.lookup 60 (.map (some mb)) (.string s) true).run Try.prog wr = .ok (.tuple #[.agg (tbA (atT T s)), .bool false]) wr := by rw [hlook0, hq]; rfl
        clear hlook0 hq
        gi_wp2_with (first | (refine ⟨trivial, ?_⟩; gi_at_call 42; refine (callsIn_wide.2 HKp.out).mono ?_; rintro e w' ⟨rfl, hw⟩; rw [hw]; clear hw) | (refine wpListIn_exsW rfl (by intro c e; cases e) _ (ex_fillTb (x := .tmp 5) (y := .tmp 17) (W := wr) rfl rfl rfl rfl) ?_))
        refine region_alongF (ro := none) (fun _ => True) (.read 0 (.read 1 (.read 2 (.read 3 (.read 4 (.read 5 (.read 6 (.read 7 (.read 8 (.read 9 (.read 10 .nil))))))))))) (by kernel_rfl) rfl (by kernel_rfl) (by kernel_rfl) (by kernel_rfl) (fun c a d v w h => by cases d <;> exact h) trivial ?_
        refine alongF_read (.bool false) rfl rfl (fun wx hS => ex_move (by rfl) (by rfl) wx) ?_
        refine alongF_read (.bool true) rfl rfl (fun wx hS => ex_not (b := false) rfl rfl wx) ?_
        refine alongF_read (.bool true) rfl rfl (fun wx hS => ex_move (by rfl) (by rfl) wx) ?_
        change AlongF _ _ _ _ _ _ _ { tmps := #[.func (.yield l) #[] #[], .pointer (some ⟨bs, 0, none⟩), .pointer (some ⟨bt, 0, none⟩), _, .string s, .pointer (some ⟨wr.heap.size, 0, none⟩), .bool false, .string name, .pointer (some ⟨g, 0, none⟩), .int .i64 (n : Int), .int .i64 (k : Int), .bool true, .tuple #[.agg (tbA (atT T s)), .bool false], .pointer (some ⟨g, 0, none⟩), .map (some mb), .string s, .tuple #[.agg (tbA (atT T s)), .bool false], .agg (tbA (atT T s)), .bool false, .bool false, .bool true, .bool true, _, _, _, _, _, _, _, _, _, _, _], defers := [] } _
        refine alongF_skip rfl rfl ?_
        refine alongF_skip rfl rfl ?_
        refine alongF_skip rfl rfl ?_
        refine alongF_skip rfl rfl ?_
        refine alongF_skip rfl rfl ?_
        refine alongF_skip rfl rfl ?_
        refine alongF_skip rfl rfl ?_
        change AlongF _ _ _ _ _ _ _ { tmps := #[.func (.yield l) #[] #[], .pointer (some ⟨bs, 0, none⟩), .pointer (some ⟨bt, 0, none⟩), _, .string s, .pointer (some ⟨wr.heap.size, 0, none⟩), .bool false, .string name, .pointer (some ⟨g, 0, none⟩), .int .i64 (n : Int), .int .i64 (k : Int), .bool true, .tuple #[.agg (tbA (atT T s)), .bool false], .pointer (some ⟨g, 0, none⟩), .map (some mb), .string s, .tuple #[.agg (tbA (atT T s)), .bool false], .agg (tbA (atT T s)), .bool false, .bool false, .bool true, .bool true, undef, undef, undef, undef, undef, undef, undef, _, _, _, _], defers := [] } _
        refine alongF_read (.bool true) rfl rfl (fun wx hS => ex_pickt rfl (by rfl) (by rfl) wx) ?_
        change AlongF _ _ _ _ _ _ _ { tmps := #[.func (.yield l) #[] #[], .pointer (some ⟨bs, 0, none⟩), .pointer (some ⟨bt, 0, none⟩), _, .string s, .pointer (some ⟨wr.heap.size, 0, none⟩), .bool false, .string name, .pointer (some ⟨g, 0, none⟩), .int .i64 (n : Int), .int .i64 (k : Int), .bool true, .tuple #[.agg (tbA (atT T s)), .bool false], .pointer (some ⟨g, 0, none⟩), .map (some mb), .string s, .tuple #[.agg (tbA (atT T s)), .bool false], .agg (tbA (atT T s)), .bool false, .bool false, .bool true, .bool true, undef, undef, undef, undef, undef, undef, undef, .bool true, _, _, _], defers := [] } _
        refine alongF_done ?_
        have HJ2 := Lib.hid (HJ.out _ _ _ HJp.out (HUA.out.drew))
        gi_wp2
        refine bodyPost_ret (results_none rfl _ _ _) rfl ?_
        refine ⟨⟨_, rfl⟩, .inl ⟨pre, ?_, HJ2.out⟩⟩
        have := HP.out.2
        rw [walkL_none HQ.out, List.append_nil] at this
        exact this.symm
      | some b =>
        have HQ := Lib.hid hq
        have hb : atT T s = b := by unfold atT; rw [hq]; rfl
        have hlook : (Instr.lookup 60 (.map (some mb)) (.string s) true).run Try.prog wr = .ok (.tuple #[.agg (tbA b), .bool true]) wr := by rw [hlook0, hq, hb]; rfl
        rw [hb] at HUA HBA
        have HBP : Hid (b.P.size ≤ maxLen) := Lib.hid (HT.out.names s b hq)
        have HNB : Hid (¬ S wr.heap.size) := Lib.hid fun e => by have h1 := HS.out _ e; have h2 := HNS.out.2.2.2.2.2; have h3 := HK.out.size; omega
        have HUD : Hid (Up (wr.alloc (.cells (tbA b) 41)) (wr.alloc (.cells (tbA b) 41)).drew) := Lib.hid (Up.drew1 _)
        have HBB : Hid (∀ wx, Up (wr.alloc (.cells (tbA b) 41)) wx → wx.heap[wr.heap.size]? = some (.cells (tbA b) 41 (0, 0))) := Lib.hid fun wx hu => (hu.block _ (lt_of_block HBA.out)).trans HBA.out
        have HP2 : Hid ((pre ++ [(⟨(s, b), HQ.out⟩ : TP T)]).length = k + 1 ∧ walkL T n name = (pre ++ [⟨(s, b), HQ.out⟩]) ++ walkL T (n - (k + 1)) b.P) := Lib.hid ⟨by rw [List.length_append, HP.out.1]; rfl, by
          have h1 := HP.out.2
          rw [show n - k = (n - (k + 1)) + 1 by omega, walkL_some HQ.out] at h1
          rw [h1]; simp⟩
        clear hlook0 hq hb
        gi_wp2_with (first | (refine ⟨trivial, ?_⟩; gi_at_call 42; refine (callsIn_wide.2 HKp.out).mono ?_; rintro e w' ⟨rfl, hw⟩; rw [hw]; clear hw) | (refine wpListIn_exsW rfl (by intro c e; cases e) _ (ex_fillTb (x := .tmp 5) (y := .tmp 17) (W := wr) rfl rfl rfl rfl) ?_))
        refine region_alongF (ro := none) (fun _ => True) (.read 0 (.read 1 (.read 2 (.read 3 (.read 4 (.fork 5 (.fork 6 (.step 7 (.step 8 (.read 9 (.read 10 .nil)))) 7 (.step 6 (.step 8 (.read 9 (.read 10 .nil))))) 7 (.step 5 (.step 6 (.step 8 (.read 9 (.read 10 .nil)))))))))) ) (by kernel_rfl) rfl (by kernel_rfl) (by kernel_rfl) (by kernel_rfl) (fun c a d v w h => by cases d <;> exact h) trivial ?_
        refine alongF_read (.bool true) rfl rfl (fun wx hS => ex_move (by rfl) (by rfl) wx) ?_
        refine alongF_read (.bool false) rfl rfl (fun wx hS => ex_not (b := true) rfl rfl wx) ?_
        refine alongF_read (.bool false) rfl rfl (fun wx hS => ex_move (by rfl) (by rfl) wx) ?_
        change AlongF _ _ _ _ _ _ _ { tmps := #[.func (.yield l) #[] #[], .pointer (some ⟨bs, 0, none⟩), .pointer (some ⟨bt, 0, none⟩), _, .string s, .pointer (some ⟨wr.heap.size, 0, none⟩), .bool true, .string name, .pointer (some ⟨g, 0, none⟩), .int .i64 (n : Int), .int .i64 (k : Int), .bool true, .tuple #[.agg (tbA b), .bool true], .pointer (some ⟨g, 0, none⟩), .map (some mb), .string s, .tuple #[.agg (tbA b), .bool true], .agg (tbA b), .bool true, .bool true, .bool false, .bool false, _, _, _, _, _, _, _, _, _, _, _], defers := [] } _
        refine alongF_read (.func (.yield l) #[] #[]) rfl rfl (fun wx hS => ex_move (by rfl) (by rfl) wx) ?_
        refine alongF_read (.string s) rfl rfl (fun wx hS => ex_move (by rfl) (by rfl) wx) ?_
        change AlongF _ _ _ _ _ _ _ { tmps := #[.func (.yield l) #[] #[], .pointer (some ⟨bs, 0, none⟩), .pointer (some ⟨bt, 0, none⟩), _, .string s, .pointer (some ⟨wr.heap.size, 0, none⟩), .bool true, .string name, .pointer (some ⟨g, 0, none⟩), .int .i64 (n : Int), .int .i64 (k : Int), .bool true, .tuple #[.agg (tbA b), .bool true], .pointer (some ⟨g, 0, none⟩), .map (some mb), .string s, .tuple #[.agg (tbA b), .bool true], .agg (tbA b), .bool true, .bool true, .bool false, .bool false, .func (.yield l) #[] #[], .string s, _, _, _, _, _, _, _, _, _], defers := [] } _
        refine alongF_fork ?_ ?_
        · refine opF_run (by intro c e; cases e) (.agg (tbA b)) _ rfl rfl (ex_loadrow rfl rfl _ 41 (HBB.out _ HUD.out) Try.underlying41 rfl info_bk) trivial ?_
          change AlongF _ _ _ _ _ _ _ { tmps := #[.func (.yield l) #[] #[], .pointer (some ⟨bs, 0, none⟩), .pointer (some ⟨bt, 0, none⟩), _, .string s, .pointer (some ⟨wr.heap.size, 0, none⟩), .bool true, .string name, .pointer (some ⟨g, 0, none⟩), .int .i64 (n : Int), .int .i64 (k : Int), .bool true, .tuple #[.agg (tbA b), .bool true], .pointer (some ⟨g, 0, none⟩), .map (some mb), .string s, .tuple #[.agg (tbA b), .bool true], .agg (tbA b), .bool true, .bool true, .bool false, .bool false, .func (.yield l) #[] #[], .string s, .agg (tbA b), _, _, _, _, _, _, _, _], defers := [] } _
          refine alongF_fork ?_ ?_
          · refine opF_call (vs := [.string s, .agg (tbA b)]) rfl rfl rfl (enters_of Try.func46 (by kernel_rfl) rfl) rfl ?_
            with_reducible refine Calls.mono (named_any s b _) ?_
            rintro e w5 ⟨rfl, hU5⟩
            have HU5 := Lib.hid (Up.trans HUD.out hU5)
            clear hU5
            refine ⟨_, rfl, trivial, ?_⟩
            change AlongF _ _ _ _ _ _ _ { tmps := #[.func (.yield l) #[] #[], .pointer (some ⟨bs, 0, none⟩), .pointer (some ⟨bt, 0, none⟩), _, .string s, .pointer (some ⟨wr.heap.size, 0, none⟩), .bool true, .string name, .pointer (some ⟨g, 0, none⟩), .int .i64 (n : Int), .int .i64 (k : Int), .bool true, .tuple #[.agg (tbA b), .bool true], .pointer (some ⟨g, 0, none⟩), .map (some mb), .string s, .tuple #[.agg (tbA b), .bool true], .agg (tbA b), .bool true, .bool true, .bool false, .bool false, .func (.yield l) #[] #[], .string s, .agg (tbA b), .agg (mkC b.V b.H s), _, _, _, _, _, _, _], defers := [] } _
            refine alongF_step ?_
            refine opF_run (by intro c e; cases e) (.agg (tbA b)) _ rfl rfl (ex_loadrow rfl rfl _ 41 (HBB.out _ HU5.out) Try.underlying41 rfl info_bk) trivial ?_
            change AlongF _ _ _ _ _ _ _ { tmps := #[.func (.yield l) #[] #[], .pointer (some ⟨bs, 0, none⟩), .pointer (some ⟨bt, 0, none⟩), _, .string s, .pointer (some ⟨wr.heap.size, 0, none⟩), .bool true, .string name, .pointer (some ⟨g, 0, none⟩), .int .i64 (n : Int), .int .i64 (k : Int), .bool true, .tuple #[.agg (tbA b), .bool true], .pointer (some ⟨g, 0, none⟩), .map (some mb), .string s, .tuple #[.agg (tbA b), .bool true], .agg (tbA b), .bool true, .bool true, .bool false, .bool false, .func (.yield l) #[] #[], .string s, .agg (tbA b), .agg (mkC b.V b.H s), .agg (tbA b), _, _, _, _, _, _], defers := [] } _
            refine alongF_step ?_
            refine opF_yield (l := l) (vs := [.agg (mkC b.V b.H s), .agg (tbA b)]) rfl rfl rfl rfl rfl ?_
            obtain ⟨fn, tm, as0, bd, hy, hR⟩ := HY.out pre ⟨(s, b), HQ.out⟩ w5 (HJ.out _ _ _ HJp.out (HUA.out.trans HU5.out)) (by have := HP.out.1; omega)
            refine ⟨fn, tm, as0, bd, hy, hR.mono ?_⟩
            rintro e w6 (⟨rfl, hJ6, hK6⟩ | ⟨rfl, hJx⟩)
            · refine ⟨_, rfl, trivial, ?_⟩
              change AlongF _ _ _ _ _ _ _ { tmps := #[.func (.yield l) #[] #[], .pointer (some ⟨bs, 0, none⟩), .pointer (some ⟨bt, 0, none⟩), _, .string s, .pointer (some ⟨wr.heap.size, 0, none⟩), .bool true, .string name, .pointer (some ⟨g, 0, none⟩), .int .i64 (n : Int), .int .i64 (k : Int), .bool true, .tuple #[.agg (tbA b), .bool true], .pointer (some ⟨g, 0, none⟩), .map (some mb), .string s, .tuple #[.agg (tbA b), .bool true], .agg (tbA b), .bool true, .bool true, .bool false, .bool false, .func (.yield l) #[] #[], .string s, .agg (tbA b), .agg (mkC b.V b.H s), .agg (tbA b), .bool true, _, _, _, _, _], defers := [] } _
              refine alongF_read (.bool false) rfl rfl (fun wx hS => ex_not (b := true) rfl rfl wx) ?_
              refine alongF_read (.bool false) rfl rfl (fun wx hS => ex_pickf rfl (by rfl) (by rfl) wx) ?_
              change AlongF _ _ _ _ _ _ _ { tmps := #[.func (.yield l) #[] #[], .pointer (some ⟨bs, 0, none⟩), .pointer (some ⟨bt, 0, none⟩), _, .string s, .pointer (some ⟨wr.heap.size, 0, none⟩), .bool true, .string name, .pointer (some ⟨g, 0, none⟩), .int .i64 (n : Int), .int .i64 (k : Int), .bool true, .tuple #[.agg (tbA b), .bool true], .pointer (some ⟨g, 0, none⟩), .map (some mb), .string s, .tuple #[.agg (tbA b), .bool true], .agg (tbA b), .bool true, .bool true, .bool false, .bool false, .func (.yield l) #[] #[], .string s, .agg (tbA b), .agg (mkC b.V b.H s), .agg (tbA b), .bool true, .bool false, .bool false, _, _, _], defers := [] } _
              refine alongF_done ?_
              have c2 := tx_cell (hK6.row (HBB.out _ HU5.out) HNB.out) 2 (show (tbA b)[2]? = some (.string b.P) from rfl)
              have HJ6 := Lib.hid hJ6
              have HK6 : Hid (KeptR B0 S W w6) := Lib.hid (HK.out.trans ((KeptR.of_up (HUA.out.trans HU5.out)).trans hK6))
              clear hJ6 hK6
              gi_wp2
              go_roundw
              case rel => exact ⟨k + 1, b.P, pre ++ [⟨(s, b), HQ.out⟩], rfl, by go_num, hlt, HBP.out, HP2, HJ6, HK6⟩
              case measure => simp [intOf]; omega
            · refine ⟨_, rfl, trivial, ?_⟩
              change AlongF _ _ _ _ _ _ _ { tmps := #[.func (.yield l) #[] #[], .pointer (some ⟨bs, 0, none⟩), .pointer (some ⟨bt, 0, none⟩), _, .string s, .pointer (some ⟨wr.heap.size, 0, none⟩), .bool true, .string name, .pointer (some ⟨g, 0, none⟩), .int .i64 (n : Int), .int .i64 (k : Int), .bool true, .tuple #[.agg (tbA b), .bool true], .pointer (some ⟨g, 0, none⟩), .map (some mb), .string s, .tuple #[.agg (tbA b), .bool true], .agg (tbA b), .bool true, .bool true, .bool false, .bool false, .func (.yield l) #[] #[], .string s, .agg (tbA b), .agg (mkC b.V b.H s), .agg (tbA b), .bool false, _, _, _, _, _], defers := [] } _
              refine alongF_read (.bool true) rfl rfl (fun wx hS => ex_not (b := false) rfl rfl wx) ?_
              refine alongF_read (.bool true) rfl rfl (fun wx hS => ex_pickf rfl (by rfl) (by rfl) wx) ?_
              change AlongF _ _ _ _ _ _ _ { tmps := #[.func (.yield l) #[] #[], .pointer (some ⟨bs, 0, none⟩), .pointer (some ⟨bt, 0, none⟩), _, .string s, .pointer (some ⟨wr.heap.size, 0, none⟩), .bool true, .string name, .pointer (some ⟨g, 0, none⟩), .int .i64 (n : Int), .int .i64 (k : Int), .bool true, .tuple #[.agg (tbA b), .bool true], .pointer (some ⟨g, 0, none⟩), .map (some mb), .string s, .tuple #[.agg (tbA b), .bool true], .agg (tbA b), .bool true, .bool true, .bool false, .bool false, .func (.yield l) #[] #[], .string s, .agg (tbA b), .agg (mkC b.V b.H s), .agg (tbA b), .bool false, .bool true, .bool true, _, _, _], defers := [] } _
              refine alongF_done ?_
              have HJx := Lib.hid hJx
              clear hJx
              gi_wp2
              refine bodyPost_ret (results_none rfl _ _ _) rfl ?_
              exact ⟨⟨_, rfl⟩, .inr ⟨_, ⟨_, by rw [HP2.out.2]⟩, HJx.out⟩⟩
          · refine opF_run (by intro c e; cases e) (.agg (tbA b)) _ rfl rfl (ex_loadrow rfl rfl _ 41 (HBB.out _ HUD.out) Try.underlying41 rfl info_bk) trivial ?_
            change AlongF _ _ _ _ _ _ _ { tmps := #[.func (.yield l) #[] #[], .pointer (some ⟨bs, 0, none⟩), .pointer (some ⟨bt, 0, none⟩), _, .string s, .pointer (some ⟨wr.heap.size, 0, none⟩), .bool true, .string name, .pointer (some ⟨g, 0, none⟩), .int .i64 (n : Int), .int .i64 (k : Int), .bool true, .tuple #[.agg (tbA b), .bool true], .pointer (some ⟨g, 0, none⟩), .map (some mb), .string s, .tuple #[.agg (tbA b), .bool true], .agg (tbA b), .bool true, .bool true, .bool false, .bool false, .func (.yield l) #[] #[], .string s, .agg (tbA b), _, .agg (tbA b), _, _, _, _, _, _], defers := [] } _
            refine alongF_step ?_
            refine opF_call (vs := [.string s, .agg (tbA b)]) rfl rfl rfl (enters_of Try.func46 (by kernel_rfl) rfl) rfl ?_
            with_reducible refine Calls.mono (named_any s b _) ?_
            rintro e w5 ⟨rfl, hU5⟩
            have HU5 := Lib.hid (Up.trans HUD.out hU5)
            clear hU5
            refine ⟨_, rfl, trivial, ?_⟩
            change AlongF _ _ _ _ _ _ _ { tmps := #[.func (.yield l) #[] #[], .pointer (some ⟨bs, 0, none⟩), .pointer (some ⟨bt, 0, none⟩), _, .string s, .pointer (some ⟨wr.heap.size, 0, none⟩), .bool true, .string name, .pointer (some ⟨g, 0, none⟩), .int .i64 (n : Int), .int .i64 (k : Int), .bool true, .tuple #[.agg (tbA b), .bool true], .pointer (some ⟨g, 0, none⟩), .map (some mb), .string s, .tuple #[.agg (tbA b), .bool true], .agg (tbA b), .bool true, .bool true, .bool false, .bool false, .func (.yield l) #[] #[], .string s, .agg (tbA b), .agg (mkC b.V b.H s), .agg (tbA b), _, _, _, _, _, _], defers := [] } _
            refine alongF_step ?_
            refine opF_yield (l := l) (vs := [.agg (mkC b.V b.H s), .agg (tbA b)]) rfl rfl rfl rfl rfl ?_
            obtain ⟨fn, tm, as0, bd, hy, hR⟩ := HY.out pre ⟨(s, b), HQ.out⟩ w5 (HJ.out _ _ _ HJp.out (HUA.out.trans HU5.out)) (by have := HP.out.1; omega)
            refine ⟨fn, tm, as0, bd, hy, hR.mono ?_⟩
            rintro e w6 (⟨rfl, hJ6, hK6⟩ | ⟨rfl, hJx⟩)
            · refine ⟨_, rfl, trivial, ?_⟩
              change AlongF _ _ _ _ _ _ _ { tmps := #[.func (.yield l) #[] #[], .pointer (some ⟨bs, 0, none⟩), .pointer (some ⟨bt, 0, none⟩), _, .string s, .pointer (some ⟨wr.heap.size, 0, none⟩), .bool true, .string name, .pointer (some ⟨g, 0, none⟩), .int .i64 (n : Int), .int .i64 (k : Int), .bool true, .tuple #[.agg (tbA b), .bool true], .pointer (some ⟨g, 0, none⟩), .map (some mb), .string s, .tuple #[.agg (tbA b), .bool true], .agg (tbA b), .bool true, .bool true, .bool false, .bool false, .func (.yield l) #[] #[], .string s, .agg (tbA b), .agg (mkC b.V b.H s), .agg (tbA b), .bool true, _, _, _, _, _], defers := [] } _
              refine alongF_read (.bool false) rfl rfl (fun wx hS => ex_not (b := true) rfl rfl wx) ?_
              refine alongF_read (.bool false) rfl rfl (fun wx hS => ex_pickf rfl (by rfl) (by rfl) wx) ?_
              change AlongF _ _ _ _ _ _ _ { tmps := #[.func (.yield l) #[] #[], .pointer (some ⟨bs, 0, none⟩), .pointer (some ⟨bt, 0, none⟩), _, .string s, .pointer (some ⟨wr.heap.size, 0, none⟩), .bool true, .string name, .pointer (some ⟨g, 0, none⟩), .int .i64 (n : Int), .int .i64 (k : Int), .bool true, .tuple #[.agg (tbA b), .bool true], .pointer (some ⟨g, 0, none⟩), .map (some mb), .string s, .tuple #[.agg (tbA b), .bool true], .agg (tbA b), .bool true, .bool true, .bool false, .bool false, .func (.yield l) #[] #[], .string s, .agg (tbA b), .agg (mkC b.V b.H s), .agg (tbA b), .bool true, .bool false, .bool false, _, _, _], defers := [] } _
              refine alongF_done ?_
              have c2 := tx_cell (hK6.row (HBB.out _ HU5.out) HNB.out) 2 (show (tbA b)[2]? = some (.string b.P) from rfl)
              have HJ6 := Lib.hid hJ6
              have HK6 : Hid (KeptR B0 S W w6) := Lib.hid (HK.out.trans ((KeptR.of_up (HUA.out.trans HU5.out)).trans hK6))
              clear hJ6 hK6
              gi_wp2
              go_roundw
              case rel => exact ⟨k + 1, b.P, pre ++ [⟨(s, b), HQ.out⟩], rfl, by go_num, hlt, HBP.out, HP2, HJ6, HK6⟩
              case measure => simp [intOf]; omega
            · refine ⟨_, rfl, trivial, ?_⟩
              change AlongF _ _ _ _ _ _ _ { tmps := #[.func (.yield l) #[] #[], .pointer (some ⟨bs, 0, none⟩), .pointer (some ⟨bt, 0, none⟩), _, .string s, .pointer (some ⟨wr.heap.size, 0, none⟩), .bool true, .string name, .pointer (some ⟨g, 0, none⟩), .int .i64 (n : Int), .int .i64 (k : Int), .bool true, .tuple #[.agg (tbA b), .bool true], .pointer (some ⟨g, 0, none⟩), .map (some mb), .string s, .tuple #[.agg (tbA b), .bool true], .agg (tbA b), .bool true, .bool true, .bool false, .bool false, .func (.yield l) #[] #[], .string s, .agg (tbA b), .agg (mkC b.V b.H s), .agg (tbA b), .bool false, _, _, _, _, _], defers := [] } _
              refine alongF_read (.bool true) rfl rfl (fun wx hS => ex_not (b := false) rfl rfl wx) ?_
              refine alongF_read (.bool true) rfl rfl (fun wx hS => ex_pickf rfl (by rfl) (by rfl) wx) ?_
              change AlongF _ _ _ _ _ _ _ { tmps := #[.func (.yield l) #[] #[], .pointer (some ⟨bs, 0, none⟩), .pointer (some ⟨bt, 0, none⟩), _, .string s, .pointer (some ⟨wr.heap.size, 0, none⟩), .bool true, .string name, .pointer (some ⟨g, 0, none⟩), .int .i64 (n : Int), .int .i64 (k : Int), .bool true, .tuple #[.agg (tbA b), .bool true], .pointer (some ⟨g, 0, none⟩), .map (some mb), .string s, .tuple #[.agg (tbA b), .bool true], .agg (tbA b), .bool true, .bool true, .bool false, .bool false, .func (.yield l) #[] #[], .string s, .agg (tbA b), .agg (mkC b.V b.H s), .agg (tbA b), .bool false, .bool true, .bool true, _, _, _], defers := [] } _
              refine alongF_done ?_
              have HJx := Lib.hid hJx
              clear hJx
              gi_wp2
              refine bodyPost_ret (results_none rfl _ _ _) rfl ?_
              exact ⟨⟨_, rfl⟩, .inr ⟨_, ⟨_, by rw [HP2.out.2]⟩, HJx.out⟩⟩
        · refine opF_run (by intro c e; cases e) (.agg (tbA b)) _ rfl rfl (ex_loadrow rfl rfl _ 41 (HBB.out _ HUD.out) Try.underlying41 rfl info_bk) trivial ?_
          change AlongF _ _ _ _ _ _ _ { tmps := #[.func (.yield l) #[] #[], .pointer (some ⟨bs, 0, none⟩), .pointer (some ⟨bt, 0, none⟩), _, .string s, .pointer (some ⟨wr.heap.size, 0, none⟩), .bool true, .string name, .pointer (some ⟨g, 0, none⟩), .int .i64 (n : Int), .int .i64 (k : Int), .bool true, .tuple #[.agg (tbA b), .bool true], .pointer (some ⟨g, 0, none⟩), .map (some mb), .string s, .tuple #[.agg (tbA b), .bool true], .agg (tbA b), .bool true, .bool true, .bool false, .bool false, .func (.yield l) #[] #[], .string s, _, _, .agg (tbA b), _, _, _, _, _, _], defers := [] } _
          refine alongF_step ?_
          refine opF_run (by intro c e; cases e) (.agg (tbA b)) _ rfl rfl (ex_loadrow rfl rfl _ 41 (HBB.out _ HUD.out) Try.underlying41 rfl info_bk) trivial ?_
          change AlongF _ _ _ _ _ _ _ { tmps := #[.func (.yield l) #[] #[], .pointer (some ⟨bs, 0, none⟩), .pointer (some ⟨bt, 0, none⟩), _, .string s, .pointer (some ⟨wr.heap.size, 0, none⟩), .bool true, .string name, .pointer (some ⟨g, 0, none⟩), .int .i64 (n : Int), .int .i64 (k : Int), .bool true, .tuple #[.agg (tbA b), .bool true], .pointer (some ⟨g, 0, none⟩), .map (some mb), .string s, .tuple #[.agg (tbA b), .bool true], .agg (tbA b), .bool true, .bool true, .bool false, .bool false, .func (.yield l) #[] #[], .string s, .agg (tbA b), _, .agg (tbA b), _, _, _, _, _, _], defers := [] } _
          refine alongF_step ?_
          refine opF_call (vs := [.string s, .agg (tbA b)]) rfl rfl rfl (enters_of Try.func46 (by kernel_rfl) rfl) rfl ?_
          with_reducible refine Calls.mono (named_any s b _) ?_
          rintro e w5 ⟨rfl, hU5⟩
          have HU5 := Lib.hid (Up.trans HUD.out hU5)
          clear hU5
          refine ⟨_, rfl, trivial, ?_⟩
          change AlongF _ _ _ _ _ _ _ { tmps := #[.func (.yield l) #[] #[], .pointer (some ⟨bs, 0, none⟩), .pointer (some ⟨bt, 0, none⟩), _, .string s, .pointer (some ⟨wr.heap.size, 0, none⟩), .bool true, .string name, .pointer (some ⟨g, 0, none⟩), .int .i64 (n : Int), .int .i64 (k : Int), .bool true, .tuple #[.agg (tbA b), .bool true], .pointer (some ⟨g, 0, none⟩), .map (some mb), .string s, .tuple #[.agg (tbA b), .bool true], .agg (tbA b), .bool true, .bool true, .bool false, .bool false, .func (.yield l) #[] #[], .string s, .agg (tbA b), .agg (mkC b.V b.H s), .agg (tbA b), _, _, _, _, _, _], defers := [] } _
          refine alongF_step ?_
          refine opF_yield (l := l) (vs := [.agg (mkC b.V b.H s), .agg (tbA b)]) rfl rfl rfl rfl rfl ?_
          obtain ⟨fn, tm, as0, bd, hy, hR⟩ := HY.out pre ⟨(s, b), HQ.out⟩ w5 (HJ.out _ _ _ HJp.out (HUA.out.trans HU5.out)) (by have := HP.out.1; omega)
          refine ⟨fn, tm, as0, bd, hy, hR.mono ?_⟩
          rintro e w6 (⟨rfl, hJ6, hK6⟩ | ⟨rfl, hJx⟩)
          · refine ⟨_, rfl, trivial, ?_⟩
            change AlongF _ _ _ _ _ _ _ { tmps := #[.func (.yield l) #[] #[], .pointer (some ⟨bs, 0, none⟩), .pointer (some ⟨bt, 0, none⟩), _, .string s, .pointer (some ⟨wr.heap.size, 0, none⟩), .bool true, .string name, .pointer (some ⟨g, 0, none⟩), .int .i64 (n : Int), .int .i64 (k : Int), .bool true, .tuple #[.agg (tbA b), .bool true], .pointer (some ⟨g, 0, none⟩), .map (some mb), .string s, .tuple #[.agg (tbA b), .bool true], .agg (tbA b), .bool true, .bool true, .bool false, .bool false, .func (.yield l) #[] #[], .string s, .agg (tbA b), .agg (mkC b.V b.H s), .agg (tbA b), .bool true, _, _, _, _, _], defers := [] } _
            refine alongF_read (.bool false) rfl rfl (fun wx hS => ex_not (b := true) rfl rfl wx) ?_
            refine alongF_read (.bool false) rfl rfl (fun wx hS => ex_pickf rfl (by rfl) (by rfl) wx) ?_
            change AlongF _ _ _ _ _ _ _ { tmps := #[.func (.yield l) #[] #[], .pointer (some ⟨bs, 0, none⟩), .pointer (some ⟨bt, 0, none⟩), _, .string s, .pointer (some ⟨wr.heap.size, 0, none⟩), .bool true, .string name, .pointer (some ⟨g, 0, none⟩), .int .i64 (n : Int), .int .i64 (k : Int), .bool true, .tuple #[.agg (tbA b), .bool true], .pointer (some ⟨g, 0, none⟩), .map (some mb), .string s, .tuple #[.agg (tbA b), .bool true], .agg (tbA b), .bool true, .bool true, .bool false, .bool false, .func (.yield l) #[] #[], .string s, .agg (tbA b), .agg (mkC b.V b.H s), .agg (tbA b), .bool true, .bool false, .bool false, _, _, _], defers := [] } _
            refine alongF_done ?_
            have c2 := tx_cell (hK6.row (HBB.out _ HU5.out) HNB.out) 2 (show (tbA b)[2]? = some (.string b.P) from rfl)
            have HJ6 := Lib.hid hJ6
            have HK6 : Hid (KeptR B0 S W w6) := Lib.hid (HK.out.trans ((KeptR.of_up (HUA.out.trans HU5.out)).trans hK6))
            clear hJ6 hK6
            gi_wp2
            go_roundw
            case rel => exact ⟨k + 1, b.P, pre ++ [⟨(s, b), HQ.out⟩], rfl, by go_num, hlt, HBP.out, HP2, HJ6, HK6⟩
            case measure => simp [intOf]; omega
          · refine ⟨_, rfl, trivial, ?_⟩
            change AlongF _ _ _ _ _ _ _ { tmps := #[.func (.yield l) #[] #[], .pointer (some ⟨bs, 0, none⟩), .pointer (some ⟨bt, 0, none⟩), _, .string s, .pointer (some ⟨wr.heap.size, 0, none⟩), .bool true, .string name, .pointer (some ⟨g, 0, none⟩), .int .i64 (n : Int), .int .i64 (k : Int), .bool true, .tuple #[.agg (tbA b), .bool true], .pointer (some ⟨g, 0, none⟩), .map (some mb), .string s, .tuple #[.agg (tbA b), .bool true], .agg (tbA b), .bool true, .bool true, .bool false, .bool false, .func (.yield l) #[] #[], .string s, .agg (tbA b), .agg (mkC b.V b.H s), .agg (tbA b), .bool false, _, _, _, _, _], defers := [] } _
            refine alongF_read (.bool true) rfl rfl (fun wx hS => ex_not (b := false) rfl rfl wx) ?_
            refine alongF_read (.bool true) rfl rfl (fun wx hS => ex_pickf rfl (by rfl) (by rfl) wx) ?_
            change AlongF _ _ _ _ _ _ _ { tmps := #[.func (.yield l) #[] #[], .pointer (some ⟨bs, 0, none⟩), .pointer (some ⟨bt, 0, none⟩), _, .string s, .pointer (some ⟨wr.heap.size, 0, none⟩), .bool true, .string name, .pointer (some ⟨g, 0, none⟩), .int .i64 (n : Int), .int .i64 (k : Int), .bool true, .tuple #[.agg (tbA b), .bool true], .pointer (some ⟨g, 0, none⟩), .map (some mb), .string s, .tuple #[.agg (tbA b), .bool true], .agg (tbA b), .bool true, .bool true, .bool false, .bool false, .func (.yield l) #[] #[], .string s, .agg (tbA b), .agg (mkC b.V b.H s), .agg (tbA b), .bool false, .bool true, .bool true, _, _, _], defers := [] } _
            refine alongF_done ?_
            have HJx := Lib.hid hJx
            clear hJx
            gi_wp2
            refine bodyPost_ret (results_none rfl _ _ _) rfl ?_
            exact ⟨⟨_, rfl⟩, .inr ⟨_, ⟨_, by rw [HP2.out.2]⟩, HJx.out⟩⟩
    · obtain rfl : k = n := by omega
      gi_wp2
      go_end0
      refine ⟨⟨_, rfl⟩, .inl ⟨pre, ?_, HJp.out⟩⟩
      have := HP.out.2
      rw [Nat.sub_self] at this
      rw [this]
      simp [walkL]
end
end Go.Proofs.Ytnipkhgaceicbaa
