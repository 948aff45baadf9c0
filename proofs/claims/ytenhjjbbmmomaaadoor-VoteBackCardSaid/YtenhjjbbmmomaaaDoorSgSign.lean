import Derived.Test.YtenhjjbbmmomaaaDoorSgCheck
import Derived.Test.YtenhjjbbmmomaaaDoorAlong
import Derived.Test.YtenhjjbbmmomaaaDoorSlConcat
import Derived.Test.YtenhjjbbmmomaaaDoorWotsSigs
import Derived.Test.YtenhjjbbmmomaaaDoorSgVerify
import Derived.Test.YtenhjjbbmmomaaaDoorMerkle
namespace Go.Proofs.YtenhjjbbmmomaaaDoor
/-
  signer: Sign of a key that has a leaf left.
-/
section
set_option maxRecDepth 100000
section
set_option linter.unusedVariables false
open Go.RowKit

/-- the signature's pieces, and all of it -/
def sigL (seed : List Int) (ls : List (List Int)) (m K : Nat) (text : List Int) : List (List Int) := [octAll (IntKind.u64.wrap m) 2] ++ (signB seed m text ++ pathB ls m K)
def sigB (seed : List Int) (ls : List (List Int)) (m K : Nat) (text : List Int) : List Int := (sigL seed ls m K text).flatten
theorem sigL_length (seed : List Int) (ls : List (List Int)) (m K : Nat) (text : List Int) : (sigL seed ls m K text).length = 12 + K := by
  unfold sigL
  rw [List.length_append, List.length_append, show signB seed m text = endsB seed m (partsB text) from rfl, endsB_length, pathB_length]
  simp
  omega
theorem sigL_flat (seed : List Int) (ls : List (List Int)) (m K : Nat) (text : List Int) : [[octAll (IntKind.u64.wrap m) 2], signB seed m text, pathB ls m K].flatten = sigL seed ls m K text := by
  simp [sigL]
theorem rowsS_three (W : World) (t : TypeId) (u0 u1 u2 : Value) (l0 l1 l2 : List (List Int)) (h0 : Strs W u0 l0) (h1 : Strs W u1 l1) (h2 : Strs W u2 l2) : RowsS (W.alloc (.cells #[u0, u1, u2] t)) W.heap.size [u0, u1, u2] [l0, l1, l2] := by
  have hb := heap_alloc_new W (.cells #[u0, u1, u2] t)
  intro j hj
  match j, hj with
  | 0, _ => exact ⟨cell_of_row _ _ 0 _ _ _ hb, h0.up (Up.alloc (Up.refl W) _)⟩
  | 1, _ => exact ⟨cell_of_row _ _ 1 _ _ _ hb, h1.up (Up.alloc (Up.refl W) _)⟩
  | 2, _ => exact ⟨cell_of_row _ _ 2 _ _ _ hb, h2.up (Up.alloc (Up.refl W) _)⟩
/-- what is known behind the new key -/
def AfterKey (w wA w9 : World) (nC : Nat) (c : Array Value) (r : Value) (ls : List (List Int)) : Prop :=
  Up wA w9 ∧ w9.heap[nC]? = some (.cells c 27 (0, 0)) ∧ w9.ownsRow wA.heap.size 9 1 r ls.length (strVs ls) ∧ wA.heap.size ≤ nC ∧ c.all (·.oneCell') = true
theorem after_clone {w wA wd w7 w8 : World} {g : Nat} {c c0 : Array Value} {r : Value} {ls : List (List Int)} (h1 : Up w wA) (h2 : w.heap.size ≤ wA.heap.size) (hr : w7.ownsRow wd.heap.size 9 1 r ls.length (strVs ls)) (hd : Up wA wd) (h8 : Up w7 w8) (hC : w8.heap[g]? = some (.cells c0 27 (0, 0))) (ho : c.all (·.oneCell') = true) (hg : w7.heap.size ≤ g) (h7 : Up wd w7) : AfterKey w wA (w8.setRow g c) g c r ls := by
  have hA7 := Up.trans hd h7
  have hA8 := Up.trans hA7 h8
  refine ⟨up_at hA8 (grownBy_setRow _ _ _) (Nat.le_trans hA7.size hg), setRow_heap w8 g _ _ _ (0, 0) hC, ?_, Nat.le_trans hA7.size hg, ho⟩
  exact ownsRow_base ((ownsRow_up hr h8).kept (grownBy_setRow w8 g c) (by
    cases hv : r.ownBlock with
    | none => exact .inl rfl
    | some b => exact .inr fun e => by have := (hr.lt b hv).2; simp at e; omega)) hd.size
theorem after_clone2 {w wA wd w7 : World} {g : Nat} {c c0 : Array Value} {r : Value} {ls : List (List Int)} (h1 : Up w wA) (h2 : w.heap.size ≤ wA.heap.size) (hr : w7.ownsRow wd.heap.size 9 1 r ls.length (strVs ls)) (hd : g < wd.heap.size) (h7 : Up wA w7) (hC : w7.heap[g]? = some (.cells c0 27 (0, 0))) (ho : c.all (·.oneCell') = true) (hg : wA.heap.size ≤ g) : AfterKey w wA (w7.setRow g c) g c r ls := by
  refine ⟨up_at h7 (grownBy_setRow _ _ _) hg, setRow_heap w7 g _ _ _ (0, 0) hC, ?_, hg, ho⟩
  exact ownsRow_base (hr.kept (grownBy_setRow w7 g c) (row_off hr (fun q e => by cases e; exact hd))) (by omega)
theorem results_sign {fn : Func} {p q s : Tmp} (h : fn.results = #[.tmp s, .cell p 27, .tmp q]) (tmps : Array Value) (w : World) (B : Nat) (cs : Array Value) (u t : Value) (hp : tmps.getD p undef = .pointer (some ⟨B, 0, none⟩)) (hq : tmps.getD q undef = u) (ht : tmps.getD s undef = t)
    (hg : w.heap[B]? = some (.cells cs 27 (0, 0))) (hs : cs.size = 3) :
    (results fn tmps).run Tryd.prog w = .ok (.tuple #[t, .agg cs, u]) w := by
  have hp' : tmps[p]?.getD undef = .pointer (some ⟨B, 0, none⟩) := by simpa using hp
  have hq' : tmps[q]?.getD undef = u := by simpa using hq
  have ht' : tmps[s]?.getD undef = t := by simpa using ht
  have hl := run_loadVar_row (P := Tryd.prog) w B 27 27 cs (0, 0) _ hg Tryd.underlying27 rfl (by rw [info_key, hs])
  simp [results, h, hp', hq', ht', asAddr, hl]

def Le8 (ls : List (List Int)) : Prop := ∀ k : Nat, (ls[k]?.getD []).length ≤ 8
theorem le8_of {ls : List (List Int)} (h : All8 ls) : Le8 ls := fun k => by
  by_cases hk : k < ls.length
  · rw [h k hk]; omega
  · rw [List.getElem?_eq_none (by omega)]; simp
theorem le8_up {ls : List (List Int)} (h : Le8 ls) : Le8 (upB ls) := fun k => by
  by_cases hk : k < (ls.length + 1) / 2
  · rw [upB_at ls k hk]
    unfold cellB
    split
    · rw [bothB_length]; omega
    · exact h _
  · rw [List.getElem?_eq_none (by rw [upB_length]; omega)]; simp
theorem le8_upN {ls : List (List Int)} (h : Le8 ls) : ∀ k, Le8 (upN ls k)
  | 0 => h
  | k + 1 => le8_up (le8_upN h k)
theorem pathB_8 (ls : List (List Int)) (h : Le8 ls) (at_ K : Nat) : Le8 (pathB ls at_ K) := fun k => by
  by_cases hk : k < K
  · rw [pathB, upTo_at _ _ _ hk]; exact le8_upN h k _
  · rw [List.getElem?_eq_none (by rw [pathB_length]; omega)]; simp
theorem flat_le8 : ∀ (L : List (List Int)), (∀ l ∈ L, l.length ≤ 8) → L.flatten.length ≤ 8 * L.length
  | [], _ => by simp
  | x :: r, h => by
    have h1 := flat_le8 r fun l hl => h l (List.mem_cons_of_mem _ hl)
    have h2 := h x List.mem_cons_self
    rw [List.flatten_cons, List.length_append, List.length_cons]
    omega

set_option maxHeartbeats 8000000 in
theorem sgSign_ok (seed : List Int) (lv : Value) (ls : List (List Int)) (m K : Nat) (v : Value) (text : List Int) (w : World) (hs : Strs w lv ls) (hk : KeyOk seed ls m) (hf : Fits ls) (hu : U8s seed) (hK : ls.length = 2 ^ K) (hK4 : K ≤ 4) (hm : m < ls.length) (hv : Ints .u8 w v text) (hut : U8s text) (hlt : text.length ≤ 140737488355328) (hT : Tab64 w) :
    Calls Tryd.prog 18 #[keyV seed lv m, v] w fun e w' => ∃ r, e = .returned (.tuple #[.string (strOfNums (sigB seed ls m K text)), keyV seed r ((m + 1 : Nat) : Int), .int .i64 0]) ∧ w'.ownsRow w.heap.size 9 1 r ls.length (strVs ls) ∧ Up w w' := by
  have hl16 : ls.length ≤ 16 := by have := hk.pow; omega
  have hseed := hk.seed
  have Hck : Hid (∀ wx, Up w wx → Calls Tryd.prog 20 #[keyV seed lv m] wx fun e w' => e = .returned (.int .i64 0) ∧ Up wx w') := fun wx hx => check_ok seed lv ls m wx (hs.up hx) hk
  have Hpa : Hid (∀ wx, Up w wx → Calls Tryd.prog 37 #[lv, .int .i64 m] wx fun e w' => ∃ r, e = .returned (.tuple #[r, .int .i64 0]) ∧ Strs w' r (pathB ls m K) ∧ Up wx w') := fun wx hx => (path_pow lv ls m K wx (hs.up hx) hf (by omega) hK hm (hT.up hx)).mono fun e w' ⟨r, h1, h2, h3⟩ => ⟨r, h1, Strs.of_row h2, h3⟩
  have Hput : Hid (∀ wx, Calls Tryd.prog 39 #[.int .i64 m, .int .i64 2] wx fun e w' => ∃ a c, e = .returned (.slice a 2 c) ∧ Ints .u8 w' (.slice a 2 c) (octAll (IntKind.u64.wrap m) 2) ∧ Up wx w') := fun wx => put_own m (by omega) 2 (by omega) wx
  have Hsg : Hid (∀ wx, Up w wx → Calls Tryd.prog 40 #[.string (strOfNums seed), .int .i64 m, v] wx fun e w' => ∃ r, e = .returned r ∧ w'.ownsRow wx.heap.size 9 1 r 11 (strVs (signB seed m text)) ∧ Up wx w') := fun wx hx => sign_any seed m v text wx hu (by omega) (by omega) (hv.up hx) hut hlt
  have hLl := sigL_length seed ls m K text
  have Hcat : Hid (∀ (b : Nat) (us : List Value) (wx : World), RowsS wx b us [[octAll (IntKind.u64.wrap m) 2], signB seed m text, pathB ls m K] → Calls Tryd.prog 38 #[.slice (some ⟨b, 0, none⟩) 3 3] wx fun e w' => ∃ r, e = .returned r ∧ w'.ownsRow wx.heap.size 9 1 r (sigL seed ls m K text).length (strVs (sigL seed ls m K text)) ∧ Up wx w') := fun b us wx hr => by
    have h := concat_any b 3 us _ wx hr (by simp) (by rw [sigL_flat, hLl]; omega) (by rw [sigL_flat, hLl]; omega)
    rw [sigL_flat] at h
    exact h
  have hsig8 : (sigL seed ls m K text).flatten.length ≤ 140737488355328 := by
    have h1 : ∀ l ∈ sigL seed ls m K text, l.length ≤ 8 := by
      intro l hl
      unfold sigL at hl
      rcases List.mem_append.1 hl with h | h
      · rw [List.mem_singleton.1 h, octAll_length]; omega
      · rcases List.mem_append.1 h with h | h
        · obtain ⟨i, hi, rfl⟩ := List.mem_iff_getElem.1 h
          have hi' : i < 11 := by rwa [show signB seed m text = endsB seed m (partsB text) from rfl, endsB_length] at hi
          have h8 := endsB_8 seed m (partsB text) i hi'
          have e : (endsB seed m (partsB text))[i]?.getD [] = (signB seed m text)[i] := by rw [show endsB seed m (partsB text) = signB seed m text from rfl, List.getElem?_eq_getElem hi]; rfl
          rw [e] at h8
          omega
        · obtain ⟨i, hi, rfl⟩ := List.mem_iff_getElem.1 h
          have h8 := pathB_8 ls (le8_of hk.eight) m K i
          simp only [List.getElem?_eq_getElem hi, Option.getD_some] at h8
          exact h8
    have h2 := flat_le8 _ h1
    rw [hLl] at h2
    omega
  have Hjn : Hid (∀ (g c : Nat) (wx : World), Strs wx (.slice (some ⟨g, 0, none⟩) (sigL seed ls m K text).length c) (sigL seed ls m K text) → Calls Tryd.prog 42 #[.slice (some ⟨g, 0, none⟩) (sigL seed ls m K text).length c, .string ⟨#[]⟩] wx fun e w' => e = .returned (.string (strOfNums (sigB seed ls m K text))) ∧ Up wx w') := fun g c wx hr => by
    obtain ⟨_, _, he, hc, _, hcs⟩ := hr
    simp only [Value.slice.injEq] at he
    obtain ⟨rfl, _, rfl⟩ := he
    rcases hcs with h0 | ⟨b, off, hb, hcs⟩
    · rw [h0] at hLl; simp at hLl; omega
    · simp only [Option.some.injEq, Addr.mk.injEq, and_true] at hb
      obtain ⟨rfl, rfl⟩ := hb
      exact strJoin_any _ g 0 c wx hcs (by omega) (by omega) hc hsig8
  have Hls : Hid (0 < ls.length) := by show _ < _; omega
  have Hpos : Hid (0 < (sigL seed ls m K text).length) := by show _ < _; omega
  have Hm1000 : Hid (m ≤ 1000) := by show _ ≤ _; omega
  obtain ⟨al, cap, rfl, _, _, hcl⟩ := id hs
  rcases hcl with h0 | ⟨bl, ol, rfl, _⟩
  · rw [h0] at hm; simp at hm
  have Hcl : Hid (∀ wx, Up w wx → Calls Tryd.prog 41 #[.slice (some ⟨bl, ol, none⟩) ls.length cap] wx fun e w' => ∃ r, e = .returned r ∧ w'.ownsRow wx.heap.size 9 1 r ls.length (strVs ls) ∧ Up wx w') := fun wx hx => clone_any bl ol _ cap ls wx (hs.up hx) (by omega)
  obtain ⟨ta, tc, rfl, _, _, _⟩ := hv
  have hne : ((m : Int) == (ls.length : Int)) = false := by rw [beq_eq_false_iff_ne]; omega
  have hne2 : ¬ m = ls.length := by omega
  generalize strOfNums (sigB seed ls m K text) = SIG at Hjn ⊢
  generalize sigL seed ls m K text = L at Hcat Hjn Hpos
  unfold keyV at Hck ⊢
  clear hs hk hf hu hK hm hut hlt hT hl16 hseed hLl hsig8 hK4
  go_enter Tryd.func18, Tryd.ntmps18
  go_wp2_with fail
  with_reducible refine Calls.mono (Hck.out _ (Up.alloc (Up.alloc (Up.refl w) _) _)) ?_
  rintro e w1 ⟨rfl, hU1⟩
  have hk1 := (hU1.block w.heap.size (lt_alloc2 w _ _)).trans (heap_alloc2_old w _ _)
  have hr1 := (hU1.block (w.heap.size + 1) (lt_alloc2' w _ _)).trans (heap_alloc2_new w _ _)
  have HU1 := Lib.hid (Up.trans (Up.alloc (Up.alloc (Up.refl w) _) _) hU1)
  have HK1 := Lib.hid hk1
  have HR1 := Lib.hid hr1
  have hc0 := cell_of_row _ _ 0 _ _ _ hk1
  have hc1 := cell_of_row _ _ 1 _ _ _ hk1
  have hc2 := cell_of_row _ _ 2 _ _ _ hk1
  simp only [List.getElem?_toArray, List.getElem?_cons_zero, List.getElem?_cons_succ] at hc0 hc1 hc2
  clear hk1 hr1 hU1 Hck
  go_wp2_with fail
  with_reducible refine Calls.mono (Hpa.out _ HU1.out) ?_
  rintro e w2 ⟨r2, rfl, hP2, hU2⟩
  obtain ⟨pa, pc, rfl, _, _, _⟩ := id hP2
  have HSP := Lib.hid hP2
  have HU2 := Lib.hid (Up.trans HU1.out hU2)
  have HK2 := Lib.hid ((hU2.block _ (lt_of_block HK1.out)).trans HK1.out)
  have HR2 := Lib.hid ((hU2.block _ (lt_of_block HR1.out)).trans HR1.out)
  have HB : Hid (∀ wx, Up w2 wx → wx.cell? ⟨w.heap.size, 0, none⟩ = some (.string (strOfNums seed)) ∧ wx.cell? ⟨w.heap.size, 1, none⟩ = some (.slice (some ⟨bl, ol, none⟩) ls.length cap) ∧ wx.cell? ⟨w.heap.size, 2, none⟩ = some (.int .i64 (m : Int))) := fun wx hx =>
    ⟨later_cellA (cell_of_row _ _ 0 _ _ _ HK2.out) hx, later_cellA (cell_of_row _ _ 1 _ _ _ HK2.out) hx, later_cellA (cell_of_row _ _ 2 _ _ _ HK2.out) hx⟩
  clear hc0 hc1 hc2 hP2 hU2 Hpa HK1 HR1 HU1
  go_wp2
  refine region_alongK ((fun x => Up w2 x)) (.read 0 (.read 1 (.read 5 (.read 6 (.read 7 (.read 8 (.read 9 (.read 11 (.step 2 (.read 3 (.fork 4 (.step 10 (.step 12 (.step 13 (.read 14 (.nil))))) 10 (.step 4 (.step 12 (.step 13 (.read 14 (.nil)))))))))))))))) (by kernel_rfl) rfl (by kernel_rfl) (by kernel_rfl) (fun c a d v w h => by cases d <;> exact h) (Up.drew1 w2) ?_
  refine alongK_read (.pointer (some ⟨w.heap.size, 2, none⟩)) rfl rfl (fun wx hS => ex_field rfl rfl wx (fld_next _ wx)) ?_
  change AlongK _ _ _ _ _ { tmps := #[_, .slice ta text.length tc, .pointer (some ⟨w.heap.size, 0, none⟩), _, _, .pointer (some ⟨w.heap.size + 1, 0, none⟩), _, _, .slice pa (pathB ls m K).length pc, _, _, _, _, _, _, _, _, _, _, _, _, _, _, _, _, _, _, _, _, _, _, _, _, _, _, _, _, .pointer (some ⟨w.heap.size, 2, none⟩), _, _, _, _, _, _, _, _, _, _, _, _, _, _, _, _, _, _, _, _, _, _, _, _, _], defers := _ } _
  refine alongK_read (.int .i64 (m : Int)) rfl rfl (fun wx hS => ex_load Tryd.isAgg3 rfl rfl wx (HB.out wx hS).2.2) ?_
  change AlongK _ _ _ _ _ { tmps := #[_, .slice ta text.length tc, .pointer (some ⟨w.heap.size, 0, none⟩), _, _, .pointer (some ⟨w.heap.size + 1, 0, none⟩), _, _, .slice pa (pathB ls m K).length pc, _, _, _, _, _, _, _, _, _, _, _, _, _, _, _, _, _, _, _, _, _, _, _, _, _, _, _, _, .pointer (some ⟨w.heap.size, 2, none⟩), .int .i64 (m : Int), _, _, _, _, _, _, _, _, _, _, _, _, _, _, _, _, _, _, _, _, _, _, _, _], defers := _ } _
  refine alongK_read (.pointer (some ⟨w.heap.size, 0, none⟩)) rfl rfl (fun wx hS => ex_field rfl rfl wx (fld_seed _ wx)) ?_
  change AlongK _ _ _ _ _ { tmps := #[_, .slice ta text.length tc, .pointer (some ⟨w.heap.size, 0, none⟩), _, _, .pointer (some ⟨w.heap.size + 1, 0, none⟩), _, _, .slice pa (pathB ls m K).length pc, _, _, _, _, _, _, _, _, _, _, _, _, _, _, _, _, _, _, _, _, _, _, _, _, _, _, _, _, .pointer (some ⟨w.heap.size, 2, none⟩), .int .i64 (m : Int), _, _, _, .pointer (some ⟨w.heap.size, 0, none⟩), _, _, _, _, _, _, _, _, _, _, _, _, _, _, _, _, _, _, _, _], defers := _ } _
  refine alongK_read (.string (strOfNums seed)) rfl rfl (fun wx hS => ex_load Tryd.isAgg9 rfl rfl wx (HB.out wx hS).1) ?_
  change AlongK _ _ _ _ _ { tmps := #[_, .slice ta text.length tc, .pointer (some ⟨w.heap.size, 0, none⟩), _, _, .pointer (some ⟨w.heap.size + 1, 0, none⟩), _, _, .slice pa (pathB ls m K).length pc, _, _, _, _, _, _, _, _, _, _, _, _, _, _, _, _, _, _, _, _, _, _, _, _, _, _, _, _, .pointer (some ⟨w.heap.size, 2, none⟩), .int .i64 (m : Int), _, _, _, .pointer (some ⟨w.heap.size, 0, none⟩), .string (strOfNums seed), _, _, _, _, _, _, _, _, _, _, _, _, _, _, _, _, _, _, _], defers := _ } _
  refine alongK_read (.pointer (some ⟨w.heap.size, 2, none⟩)) rfl rfl (fun wx hS => ex_field rfl rfl wx (fld_next _ wx)) ?_
  change AlongK _ _ _ _ _ { tmps := #[_, .slice ta text.length tc, .pointer (some ⟨w.heap.size, 0, none⟩), _, _, .pointer (some ⟨w.heap.size + 1, 0, none⟩), _, _, .slice pa (pathB ls m K).length pc, _, _, _, _, _, _, _, _, _, _, _, _, _, _, _, _, _, _, _, _, _, _, _, _, _, _, _, _, .pointer (some ⟨w.heap.size, 2, none⟩), .int .i64 (m : Int), _, _, _, .pointer (some ⟨w.heap.size, 0, none⟩), .string (strOfNums seed), .pointer (some ⟨w.heap.size, 2, none⟩), _, _, _, _, _, _, _, _, _, _, _, _, _, _, _, _, _, _], defers := _ } _
  refine alongK_read (.int .i64 (m : Int)) rfl rfl (fun wx hS => ex_load Tryd.isAgg3 rfl rfl wx (HB.out wx hS).2.2) ?_
  change AlongK _ _ _ _ _ { tmps := #[_, .slice ta text.length tc, .pointer (some ⟨w.heap.size, 0, none⟩), _, _, .pointer (some ⟨w.heap.size + 1, 0, none⟩), _, _, .slice pa (pathB ls m K).length pc, _, _, _, _, _, _, _, _, _, _, _, _, _, _, _, _, _, _, _, _, _, _, _, _, _, _, _, _, .pointer (some ⟨w.heap.size, 2, none⟩), .int .i64 (m : Int), _, _, _, .pointer (some ⟨w.heap.size, 0, none⟩), .string (strOfNums seed), .pointer (some ⟨w.heap.size, 2, none⟩), .int .i64 (m : Int), _, _, _, _, _, _, _, _, _, _, _, _, _, _, _, _, _], defers := _ } _
  refine alongK_read (.slice ta text.length tc) rfl rfl (fun wx hS => ex_move (by rfl) (by rfl) wx) ?_
  change AlongK _ _ _ _ _ { tmps := #[_, .slice ta text.length tc, .pointer (some ⟨w.heap.size, 0, none⟩), _, _, .pointer (some ⟨w.heap.size + 1, 0, none⟩), _, _, .slice pa (pathB ls m K).length pc, _, _, _, _, _, _, _, _, _, _, _, _, _, _, _, _, _, _, _, _, _, _, _, _, _, _, _, _, .pointer (some ⟨w.heap.size, 2, none⟩), .int .i64 (m : Int), _, _, _, .pointer (some ⟨w.heap.size, 0, none⟩), .string (strOfNums seed), .pointer (some ⟨w.heap.size, 2, none⟩), .int .i64 (m : Int), .slice ta text.length tc, _, _, _, _, _, _, _, _, _, _, _, _, _, _, _, _], defers := _ } _
  refine alongK_read (.slice pa (pathB ls m K).length pc) rfl rfl (fun wx hS => ex_move (by rfl) (by rfl) wx) ?_
  change AlongK _ _ _ _ _ { tmps := #[_, .slice ta text.length tc, .pointer (some ⟨w.heap.size, 0, none⟩), _, _, .pointer (some ⟨w.heap.size + 1, 0, none⟩), _, _, .slice pa (pathB ls m K).length pc, _, _, _, _, _, _, _, _, _, _, _, _, _, _, _, _, _, _, _, _, _, _, _, _, _, _, _, _, .pointer (some ⟨w.heap.size, 2, none⟩), .int .i64 (m : Int), _, _, _, .pointer (some ⟨w.heap.size, 0, none⟩), .string (strOfNums seed), .pointer (some ⟨w.heap.size, 2, none⟩), .int .i64 (m : Int), .slice ta text.length tc, _, .slice pa (pathB ls m K).length pc, _, _, _, _, _, _, _, _, _, _, _, _, _, _], defers := _ } _
  refine alongK_step ?_
  refine opK_call (vs := [.int .i64 (m : Int), .int .i64 2]) rfl rfl rfl (enters_of Tryd.func39 (by kernel_rfl) rfl) rfl ?_
  with_reducible refine Calls.mono (Hput.out _) ?_
  rintro e w3 ⟨pua, puc, rfl, hI3, hu3⟩
  have hU3 : Up w2 w3 := Up.trans (Up.drew1 w2) hu3
  have hStr := StrAt.of hI3
  have hP3 := HSP.out.up hU3
  refine ⟨_, rfl, (fun x => Up w3 x), (fun x hx => Up.trans hU3 hx), Up.refl w3, ?_⟩
  change AlongK _ _ _ _ _ { tmps := #[_, .slice ta text.length tc, .pointer (some ⟨w.heap.size, 0, none⟩), _, _, .pointer (some ⟨w.heap.size + 1, 0, none⟩), _, _, .slice pa (pathB ls m K).length pc, _, _, _, _, _, _, _, _, _, _, _, _, _, _, _, _, _, _, _, _, _, _, _, _, _, _, _, _, .pointer (some ⟨w.heap.size, 2, none⟩), .int .i64 (m : Int), .slice pua 2 puc, _, _, .pointer (some ⟨w.heap.size, 0, none⟩), .string (strOfNums seed), .pointer (some ⟨w.heap.size, 2, none⟩), .int .i64 (m : Int), .slice ta text.length tc, _, .slice pa (pathB ls m K).length pc, _, _, _, _, _, _, _, _, _, _, _, _, _, _], defers := _ } _
  refine alongK_read (.string (strOfNums (octAll (IntKind.u64.wrap m) 2))) rfl rfl (fun wx hS => ex_conv rfl rfl wx wx (hStr wx hS)) ?_
  change AlongK _ _ _ _ _ { tmps := #[_, .slice ta text.length tc, .pointer (some ⟨w.heap.size, 0, none⟩), _, _, .pointer (some ⟨w.heap.size + 1, 0, none⟩), _, _, .slice pa (pathB ls m K).length pc, _, _, _, _, _, _, _, _, _, _, _, _, _, _, _, _, _, _, _, _, _, _, _, _, _, _, _, _, .pointer (some ⟨w.heap.size, 2, none⟩), .int .i64 (m : Int), .slice pua 2 puc, .string (strOfNums (octAll (IntKind.u64.wrap m) 2)), _, .pointer (some ⟨w.heap.size, 0, none⟩), .string (strOfNums seed), .pointer (some ⟨w.heap.size, 2, none⟩), .int .i64 (m : Int), .slice ta text.length tc, _, .slice pa (pathB ls m K).length pc, _, _, _, _, _, _, _, _, _, _, _, _, _, _], defers := _ } _
  refine alongK_fork ?_ ?_
  refine opK_run (.slice (some ⟨w3.heap.size, 0, none⟩) 1 1) _ rfl rfl (ex_slice1 _ _ (bld_one (strOfNums (octAll (IntKind.u64.wrap m) 2)) w3) rfl rfl) (fun x => Up w3 x) (fun x hx => hx) (Up.alloc (Up.refl w3) _) ?_
  change AlongK _ _ _ _ _ { tmps := #[_, .slice ta text.length tc, .pointer (some ⟨w.heap.size, 0, none⟩), _, _, .pointer (some ⟨w.heap.size + 1, 0, none⟩), _, _, .slice pa (pathB ls m K).length pc, _, _, _, _, _, _, _, _, _, _, _, _, _, _, _, _, _, _, _, _, _, _, _, _, _, _, _, _, .pointer (some ⟨w.heap.size, 2, none⟩), .int .i64 (m : Int), .slice pua 2 puc, .string (strOfNums (octAll (IntKind.u64.wrap m) 2)), .slice (some ⟨w3.heap.size, 0, none⟩) 1 1, .pointer (some ⟨w.heap.size, 0, none⟩), .string (strOfNums seed), .pointer (some ⟨w.heap.size, 2, none⟩), .int .i64 (m : Int), .slice ta text.length tc, _, .slice pa (pathB ls m K).length pc, _, _, _, _, _, _, _, _, _, _, _, _, _, _], defers := _ } _
  have hone := strs_new w3 9 #[.string (strOfNums (octAll (IntKind.u64.wrap m) 2))] [octAll (IntKind.u64.wrap m) 2] w3.heap.size 1 rfl rfl rfl
  refine alongK_step ?_
  refine opK_call (vs := [.string (strOfNums seed), .int .i64 (m : Int), .slice ta text.length tc]) rfl rfl rfl (enters_of Tryd.func40 (by kernel_rfl) rfl) rfl ?_
  with_reducible refine Calls.mono (Hsg.out _ (Up.trans HU2.out (Up.trans hU3 (Up.alloc (Up.refl w3) _)))) ?_
  rintro e w5 ⟨rs, rfl, hrs, hUs⟩
  have hSs := Strs.of_row hrs
  obtain ⟨sg, sc, rfl, _⟩ := row_slice hrs (by omega)
  have hU5 : Up w3 w5 := Up.trans (Up.alloc (Up.refl w3) _) hUs
  refine ⟨_, rfl, (fun x => Up w3 x), (fun x hx => hx), hU5, ?_⟩
  change AlongK _ _ _ _ _ { tmps := #[_, .slice ta text.length tc, .pointer (some ⟨w.heap.size, 0, none⟩), _, _, .pointer (some ⟨w.heap.size + 1, 0, none⟩), _, _, .slice pa (pathB ls m K).length pc, _, _, _, _, _, _, _, _, _, _, _, _, _, _, _, _, _, _, _, _, _, _, _, _, _, _, _, _, .pointer (some ⟨w.heap.size, 2, none⟩), .int .i64 (m : Int), .slice pua 2 puc, .string (strOfNums (octAll (IntKind.u64.wrap m) 2)), .slice (some ⟨w3.heap.size, 0, none⟩) 1 1, .pointer (some ⟨w.heap.size, 0, none⟩), .string (strOfNums seed), .pointer (some ⟨w.heap.size, 2, none⟩), .int .i64 (m : Int), .slice ta text.length tc, .slice (some ⟨sg, 0, none⟩) 11 sc, .slice pa (pathB ls m K).length pc, _, _, _, _, _, _, _, _, _, _, _, _, _, _], defers := _ } _
  refine alongK_step ?_
  refine opK_run (.slice (some ⟨w5.heap.size, 0, none⟩) 3 3) _ rfl rfl (ex_slice3 _ _ (bld_three (some ⟨w3.heap.size, 0, none⟩) (some ⟨sg, 0, none⟩) pa 1 1 11 sc (pathB ls m K).length pc w5) rfl rfl rfl rfl) (fun x => Up w3 x) (fun x hx => hx) (Up.alloc (hU5) _) ?_
  change AlongK _ _ _ _ _ { tmps := #[_, .slice ta text.length tc, .pointer (some ⟨w.heap.size, 0, none⟩), _, _, .pointer (some ⟨w.heap.size + 1, 0, none⟩), _, _, .slice pa (pathB ls m K).length pc, _, _, _, _, _, _, _, _, _, _, _, _, _, _, _, _, _, _, _, _, _, _, _, _, _, _, _, _, .pointer (some ⟨w.heap.size, 2, none⟩), .int .i64 (m : Int), .slice pua 2 puc, .string (strOfNums (octAll (IntKind.u64.wrap m) 2)), .slice (some ⟨w3.heap.size, 0, none⟩) 1 1, .pointer (some ⟨w.heap.size, 0, none⟩), .string (strOfNums seed), .pointer (some ⟨w.heap.size, 2, none⟩), .int .i64 (m : Int), .slice ta text.length tc, .slice (some ⟨sg, 0, none⟩) 11 sc, .slice pa (pathB ls m K).length pc, .slice (some ⟨w5.heap.size, 0, none⟩) 3 3, _, _, _, _, _, _, _, _, _, _, _, _, _], defers := _ } _
  have hrows := rowsS_three w5 25 _ _ _ _ _ _ (hone.up hUs) (hSs) ((hP3.up (Up.alloc (Up.refl w3) _)).up hUs)
  have hup3 : Up w3 (w5.alloc (.cells #[.slice (some ⟨w3.heap.size, 0, none⟩) 1 1, .slice (some ⟨sg, 0, none⟩) 11 sc, .slice pa (pathB ls m K).length pc] 25)) := Up.alloc (hU5) _
  refine alongK_step ?_
  refine opK_call (vs := [.slice (some ⟨w5.heap.size, 0, none⟩) 3 3]) rfl rfl rfl (enters_of Tryd.func38 (by kernel_rfl) rfl) rfl ?_
  with_reducible refine Calls.mono (Hcat.out _ _ _ hrows) ?_
  rintro e w6 ⟨r6, rfl, hr6, hU6⟩
  obtain ⟨g6, c6, rfl, _⟩ := row_slice hr6 Hpos.out
  have HU6 := Lib.hid (Up.trans hU3 (Up.trans hup3 hU6))
  have HJ6 := Lib.hid (Strs.of_row hr6)
  refine ⟨_, rfl, (fun x => Up w3 x), (fun x hx => hx), Up.trans hup3 hU6, ?_⟩
  change AlongK _ _ _ _ _ { tmps := #[_, .slice ta text.length tc, .pointer (some ⟨w.heap.size, 0, none⟩), _, _, .pointer (some ⟨w.heap.size + 1, 0, none⟩), _, _, .slice pa (pathB ls m K).length pc, _, _, _, _, _, _, _, _, _, _, _, _, _, _, _, _, _, _, _, _, _, _, _, _, _, _, _, _, .pointer (some ⟨w.heap.size, 2, none⟩), .int .i64 (m : Int), .slice pua 2 puc, .string (strOfNums (octAll (IntKind.u64.wrap m) 2)), .slice (some ⟨w3.heap.size, 0, none⟩) 1 1, .pointer (some ⟨w.heap.size, 0, none⟩), .string (strOfNums seed), .pointer (some ⟨w.heap.size, 2, none⟩), .int .i64 (m : Int), .slice ta text.length tc, .slice (some ⟨sg, 0, none⟩) 11 sc, .slice pa (pathB ls m K).length pc, .slice (some ⟨w5.heap.size, 0, none⟩) 3 3, .slice (some ⟨g6, 0, none⟩) L.length c6, _, _, _, _, _, _, _, _, _, _, _, _], defers := _ } _
  refine alongK_read (.slice (some ⟨g6, 0, none⟩) L.length c6) rfl rfl (fun wx _ => ex_assign (by rfl) (by rfl) wx) ?_
  change AlongK _ _ _ _ _ { tmps := #[_, .slice ta text.length tc, .pointer (some ⟨w.heap.size, 0, none⟩), _, _, .pointer (some ⟨w.heap.size + 1, 0, none⟩), _, _, .slice pa (pathB ls m K).length pc, _, .slice (some ⟨g6, 0, none⟩) L.length c6, _, _, _, _, _, _, _, _, _, _, _, _, _, _, _, _, _, _, _, _, _, _, _, _, _, _, .pointer (some ⟨w.heap.size, 2, none⟩), .int .i64 (m : Int), .slice pua 2 puc, .string (strOfNums (octAll (IntKind.u64.wrap m) 2)), .slice (some ⟨w3.heap.size, 0, none⟩) 1 1, .pointer (some ⟨w.heap.size, 0, none⟩), .string (strOfNums seed), .pointer (some ⟨w.heap.size, 2, none⟩), .int .i64 (m : Int), .slice ta text.length tc, .slice (some ⟨sg, 0, none⟩) 11 sc, .slice pa (pathB ls m K).length pc, .slice (some ⟨w5.heap.size, 0, none⟩) 3 3, .slice (some ⟨g6, 0, none⟩) L.length c6, _, _, _, _, _, _, _, _, _, _, _, _], defers := _ } _
  refine alongK_done ?_
  rotate_left
  refine opK_call (vs := [.string (strOfNums seed), .int .i64 (m : Int), .slice ta text.length tc]) rfl rfl rfl (enters_of Tryd.func40 (by kernel_rfl) rfl) rfl ?_
  with_reducible refine Calls.mono (Hsg.out _ (Up.trans HU2.out hU3)) ?_
  rintro e w5 ⟨rs, rfl, hrs, hUs⟩
  have hSs := Strs.of_row hrs
  obtain ⟨sg, sc, rfl, _⟩ := row_slice hrs (by omega)
  have hU5 : Up w3 w5 := hUs
  refine ⟨_, rfl, (fun x => Up w3 x), (fun x hx => hx), hU5, ?_⟩
  change AlongK _ _ _ _ _ { tmps := #[_, .slice ta text.length tc, .pointer (some ⟨w.heap.size, 0, none⟩), _, _, .pointer (some ⟨w.heap.size + 1, 0, none⟩), _, _, .slice pa (pathB ls m K).length pc, _, _, _, _, _, _, _, _, _, _, _, _, _, _, _, _, _, _, _, _, _, _, _, _, _, _, _, _, .pointer (some ⟨w.heap.size, 2, none⟩), .int .i64 (m : Int), .slice pua 2 puc, .string (strOfNums (octAll (IntKind.u64.wrap m) 2)), _, .pointer (some ⟨w.heap.size, 0, none⟩), .string (strOfNums seed), .pointer (some ⟨w.heap.size, 2, none⟩), .int .i64 (m : Int), .slice ta text.length tc, .slice (some ⟨sg, 0, none⟩) 11 sc, .slice pa (pathB ls m K).length pc, _, _, _, _, _, _, _, _, _, _, _, _, _, _], defers := _ } _
  refine alongK_step ?_
  refine opK_run (.slice (some ⟨w5.heap.size, 0, none⟩) 1 1) _ rfl rfl (ex_slice1 _ _ (bld_one (strOfNums (octAll (IntKind.u64.wrap m) 2)) w5) rfl rfl) (fun x => Up w3 x) (fun x hx => hx) (Up.alloc hU5 _) ?_
  change AlongK _ _ _ _ _ { tmps := #[_, .slice ta text.length tc, .pointer (some ⟨w.heap.size, 0, none⟩), _, _, .pointer (some ⟨w.heap.size + 1, 0, none⟩), _, _, .slice pa (pathB ls m K).length pc, _, _, _, _, _, _, _, _, _, _, _, _, _, _, _, _, _, _, _, _, _, _, _, _, _, _, _, _, .pointer (some ⟨w.heap.size, 2, none⟩), .int .i64 (m : Int), .slice pua 2 puc, .string (strOfNums (octAll (IntKind.u64.wrap m) 2)), .slice (some ⟨w5.heap.size, 0, none⟩) 1 1, .pointer (some ⟨w.heap.size, 0, none⟩), .string (strOfNums seed), .pointer (some ⟨w.heap.size, 2, none⟩), .int .i64 (m : Int), .slice ta text.length tc, .slice (some ⟨sg, 0, none⟩) 11 sc, .slice pa (pathB ls m K).length pc, _, _, _, _, _, _, _, _, _, _, _, _, _, _], defers := _ } _
  have hone := strs_new w5 9 #[.string (strOfNums (octAll (IntKind.u64.wrap m) 2))] [octAll (IntKind.u64.wrap m) 2] w5.heap.size 1 rfl rfl rfl
  have hU7 : Up w3 (w5.alloc (.cells #[.string (strOfNums (octAll (IntKind.u64.wrap m) 2))] 9)) := Up.alloc hU5 _
  have hSs7 := hSs.up (Up.alloc (Up.refl w5) (.cells #[.string (strOfNums (octAll (IntKind.u64.wrap m) 2))] 9))
  have hP7 := (hP3.up hUs).up (Up.alloc (Up.refl w5) (.cells #[.string (strOfNums (octAll (IntKind.u64.wrap m) 2))] 9))
  refine alongK_step ?_
  refine opK_run (.slice (some ⟨(w5.alloc (.cells #[.string (strOfNums (octAll (IntKind.u64.wrap m) 2))] 9)).heap.size, 0, none⟩) 3 3) _ rfl rfl (ex_slice3 _ _ (bld_three (some ⟨w5.heap.size, 0, none⟩) (some ⟨sg, 0, none⟩) pa 1 1 11 sc (pathB ls m K).length pc (w5.alloc (.cells #[.string (strOfNums (octAll (IntKind.u64.wrap m) 2))] 9))) rfl rfl rfl rfl) (fun x => Up w3 x) (fun x hx => hx) (Up.alloc (hU7) _) ?_
  change AlongK _ _ _ _ _ { tmps := #[_, .slice ta text.length tc, .pointer (some ⟨w.heap.size, 0, none⟩), _, _, .pointer (some ⟨w.heap.size + 1, 0, none⟩), _, _, .slice pa (pathB ls m K).length pc, _, _, _, _, _, _, _, _, _, _, _, _, _, _, _, _, _, _, _, _, _, _, _, _, _, _, _, _, .pointer (some ⟨w.heap.size, 2, none⟩), .int .i64 (m : Int), .slice pua 2 puc, .string (strOfNums (octAll (IntKind.u64.wrap m) 2)), .slice (some ⟨w5.heap.size, 0, none⟩) 1 1, .pointer (some ⟨w.heap.size, 0, none⟩), .string (strOfNums seed), .pointer (some ⟨w.heap.size, 2, none⟩), .int .i64 (m : Int), .slice ta text.length tc, .slice (some ⟨sg, 0, none⟩) 11 sc, .slice pa (pathB ls m K).length pc, .slice (some ⟨(w5.alloc (.cells #[.string (strOfNums (octAll (IntKind.u64.wrap m) 2))] 9)).heap.size, 0, none⟩) 3 3, _, _, _, _, _, _, _, _, _, _, _, _, _], defers := _ } _
  have hrows := rowsS_three (w5.alloc (.cells #[.string (strOfNums (octAll (IntKind.u64.wrap m) 2))] 9)) 25 _ _ _ _ _ _ (hone) (hSs7) (hP7)
  have hup3 : Up w3 ((w5.alloc (.cells #[.string (strOfNums (octAll (IntKind.u64.wrap m) 2))] 9)).alloc (.cells #[.slice (some ⟨w5.heap.size, 0, none⟩) 1 1, .slice (some ⟨sg, 0, none⟩) 11 sc, .slice pa (pathB ls m K).length pc] 25)) := Up.alloc (hU7) _
  refine alongK_step ?_
  refine opK_call (vs := [.slice (some ⟨(w5.alloc (.cells #[.string (strOfNums (octAll (IntKind.u64.wrap m) 2))] 9)).heap.size, 0, none⟩) 3 3]) rfl rfl rfl (enters_of Tryd.func38 (by kernel_rfl) rfl) rfl ?_
  with_reducible refine Calls.mono (Hcat.out _ _ _ hrows) ?_
  rintro e w6 ⟨r6, rfl, hr6, hU6⟩
  obtain ⟨g6, c6, rfl, _⟩ := row_slice hr6 Hpos.out
  have HU6 := Lib.hid (Up.trans hU3 (Up.trans hup3 hU6))
  have HJ6 := Lib.hid (Strs.of_row hr6)
  refine ⟨_, rfl, (fun x => Up w3 x), (fun x hx => hx), Up.trans hup3 hU6, ?_⟩
  change AlongK _ _ _ _ _ { tmps := #[_, .slice ta text.length tc, .pointer (some ⟨w.heap.size, 0, none⟩), _, _, .pointer (some ⟨w.heap.size + 1, 0, none⟩), _, _, .slice pa (pathB ls m K).length pc, _, _, _, _, _, _, _, _, _, _, _, _, _, _, _, _, _, _, _, _, _, _, _, _, _, _, _, _, .pointer (some ⟨w.heap.size, 2, none⟩), .int .i64 (m : Int), .slice pua 2 puc, .string (strOfNums (octAll (IntKind.u64.wrap m) 2)), .slice (some ⟨w5.heap.size, 0, none⟩) 1 1, .pointer (some ⟨w.heap.size, 0, none⟩), .string (strOfNums seed), .pointer (some ⟨w.heap.size, 2, none⟩), .int .i64 (m : Int), .slice ta text.length tc, .slice (some ⟨sg, 0, none⟩) 11 sc, .slice pa (pathB ls m K).length pc, .slice (some ⟨(w5.alloc (.cells #[.string (strOfNums (octAll (IntKind.u64.wrap m) 2))] 9)).heap.size, 0, none⟩) 3 3, .slice (some ⟨g6, 0, none⟩) L.length c6, _, _, _, _, _, _, _, _, _, _, _, _], defers := _ } _
  refine alongK_read (.slice (some ⟨g6, 0, none⟩) L.length c6) rfl rfl (fun wx _ => ex_assign (by rfl) (by rfl) wx) ?_
  change AlongK _ _ _ _ _ { tmps := #[_, .slice ta text.length tc, .pointer (some ⟨w.heap.size, 0, none⟩), _, _, .pointer (some ⟨w.heap.size + 1, 0, none⟩), _, _, .slice pa (pathB ls m K).length pc, _, .slice (some ⟨g6, 0, none⟩) L.length c6, _, _, _, _, _, _, _, _, _, _, _, _, _, _, _, _, _, _, _, _, _, _, _, _, _, _, .pointer (some ⟨w.heap.size, 2, none⟩), .int .i64 (m : Int), .slice pua 2 puc, .string (strOfNums (octAll (IntKind.u64.wrap m) 2)), .slice (some ⟨w5.heap.size, 0, none⟩) 1 1, .pointer (some ⟨w.heap.size, 0, none⟩), .string (strOfNums seed), .pointer (some ⟨w.heap.size, 2, none⟩), .int .i64 (m : Int), .slice ta text.length tc, .slice (some ⟨sg, 0, none⟩) 11 sc, .slice pa (pathB ls m K).length pc, .slice (some ⟨(w5.alloc (.cells #[.string (strOfNums (octAll (IntKind.u64.wrap m) 2))] 9)).heap.size, 0, none⟩) 3 3, .slice (some ⟨g6, 0, none⟩) L.length c6, _, _, _, _, _, _, _, _, _, _, _, _], defers := _ } _
  refine alongK_done ?_
  all_goals
    have HUA := Lib.hid (Up.trans HU2.out HU6.out)
    have HRA := Lib.hid ((HU6.out.block _ (lt_of_block HR2.out)).trans HR2.out)
    have HBA : Hid (∀ wx, Up w6 wx → wx.cell? ⟨w.heap.size, 0, none⟩ = some (.string (strOfNums seed)) ∧ wx.cell? ⟨w.heap.size, 1, none⟩ = some (.slice (some ⟨bl, ol, none⟩) ls.length cap) ∧ wx.cell? ⟨w.heap.size, 2, none⟩ = some (.int .i64 (m : Int))) := fun wx hx => HB.out wx (Up.trans HU6.out hx)
    generalize hwA : w6 = wA at HUA HRA HBA HJ6 ⊢
    clear hwA hone hSs hP3 hStr hI3 hU3 hu3 hUs hU5 hrows hup3 hU6 hrs hr6
    go_wp2
    refine region_alongK ((fun x => Up wA x)) (.read 0 (.read 1 (.read 2 (.read 3 (.read 5 (.read 6 (.read 7 (.fork 4 (.read 8 (.step 9 (.step 10 (.nil)))) 9 (.step 4 (.read 8 (.step 10 (.nil)))))))))))) (by kernel_rfl) rfl (by kernel_rfl) (by kernel_rfl) (fun c a d v w h => by cases d <;> exact h) (Up.drew1 wA) ?_
    refine alongK_read (.pointer (some ⟨w.heap.size, 0, none⟩)) rfl rfl (fun wx hS => ex_field rfl rfl wx (fld_seed _ wx)) ?_
    change AlongK _ _ _ _ _ { tmps := #[_, .slice ta text.length tc, .pointer (some ⟨w.heap.size, 0, none⟩), _, _, .pointer (some ⟨w.heap.size + 1, 0, none⟩), _, _, _, _, .slice (some ⟨g6, 0, none⟩) L.length c6, _, _, _, _, _, _, _, _, _, _, _, _, _, _, _, _, _, _, _, _, _, _, _, _, _, _, _, _, _, _, _, _, _, _, _, _, _, _, _, _, .pointer (some ⟨w.heap.size, 0, none⟩), _, _, _, _, _, _, _, _, _, _, _], defers := _ } _
    refine alongK_read (.string (strOfNums seed)) rfl rfl (fun wx hS => ex_load Tryd.isAgg9 rfl rfl wx (HBA.out wx hS).1) ?_
    change AlongK _ _ _ _ _ { tmps := #[_, .slice ta text.length tc, .pointer (some ⟨w.heap.size, 0, none⟩), _, _, .pointer (some ⟨w.heap.size + 1, 0, none⟩), _, _, _, _, .slice (some ⟨g6, 0, none⟩) L.length c6, _, _, _, _, _, _, _, _, _, _, _, _, _, _, _, _, _, _, _, _, _, _, _, _, _, _, _, _, _, _, _, _, _, _, _, _, _, _, _, _, .pointer (some ⟨w.heap.size, 0, none⟩), .string (strOfNums seed), _, _, _, _, _, _, _, _, _, _], defers := _ } _
    refine alongK_read (.pointer (some ⟨w.heap.size, 1, none⟩)) rfl rfl (fun wx hS => ex_field rfl rfl wx (fld_leaves _ wx)) ?_
    change AlongK _ _ _ _ _ { tmps := #[_, .slice ta text.length tc, .pointer (some ⟨w.heap.size, 0, none⟩), _, _, .pointer (some ⟨w.heap.size + 1, 0, none⟩), _, _, _, _, .slice (some ⟨g6, 0, none⟩) L.length c6, _, _, _, _, _, _, _, _, _, _, _, _, _, _, _, _, _, _, _, _, _, _, _, _, _, _, _, _, _, _, _, _, _, _, _, _, _, _, _, _, .pointer (some ⟨w.heap.size, 0, none⟩), .string (strOfNums seed), .pointer (some ⟨w.heap.size, 1, none⟩), _, _, _, _, _, _, _, _, _], defers := _ } _
    refine alongK_read (.slice (some ⟨bl, ol, none⟩) ls.length cap) rfl rfl (fun wx hS => ex_load Tryd.isAgg25 rfl rfl wx (HBA.out wx hS).2.1) ?_
    change AlongK _ _ _ _ _ { tmps := #[_, .slice ta text.length tc, .pointer (some ⟨w.heap.size, 0, none⟩), _, _, .pointer (some ⟨w.heap.size + 1, 0, none⟩), _, _, _, _, .slice (some ⟨g6, 0, none⟩) L.length c6, _, _, _, _, _, _, _, _, _, _, _, _, _, _, _, _, _, _, _, _, _, _, _, _, _, _, _, _, _, _, _, _, _, _, _, _, _, _, _, _, .pointer (some ⟨w.heap.size, 0, none⟩), .string (strOfNums seed), .pointer (some ⟨w.heap.size, 1, none⟩), .slice (some ⟨bl, ol, none⟩) ls.length cap, _, _, _, _, _, _, _, _], defers := _ } _
    refine alongK_read (.pointer (some ⟨w.heap.size, 2, none⟩)) rfl rfl (fun wx hS => ex_field rfl rfl wx (fld_next _ wx)) ?_
    change AlongK _ _ _ _ _ { tmps := #[_, .slice ta text.length tc, .pointer (some ⟨w.heap.size, 0, none⟩), _, _, .pointer (some ⟨w.heap.size + 1, 0, none⟩), _, _, _, _, .slice (some ⟨g6, 0, none⟩) L.length c6, _, _, _, _, _, _, _, _, _, _, _, _, _, _, _, _, _, _, _, _, _, _, _, _, _, _, _, _, _, _, _, _, _, _, _, _, _, _, _, _, .pointer (some ⟨w.heap.size, 0, none⟩), .string (strOfNums seed), .pointer (some ⟨w.heap.size, 1, none⟩), .slice (some ⟨bl, ol, none⟩) ls.length cap, _, .pointer (some ⟨w.heap.size, 2, none⟩), _, _, _, _, _, _], defers := _ } _
    refine alongK_read (.int .i64 (m : Int)) rfl rfl (fun wx hS => ex_load Tryd.isAgg3 rfl rfl wx (HBA.out wx hS).2.2) ?_
    change AlongK _ _ _ _ _ { tmps := #[_, .slice ta text.length tc, .pointer (some ⟨w.heap.size, 0, none⟩), _, _, .pointer (some ⟨w.heap.size + 1, 0, none⟩), _, _, _, _, .slice (some ⟨g6, 0, none⟩) L.length c6, _, _, _, _, _, _, _, _, _, _, _, _, _, _, _, _, _, _, _, _, _, _, _, _, _, _, _, _, _, _, _, _, _, _, _, _, _, _, _, _, .pointer (some ⟨w.heap.size, 0, none⟩), .string (strOfNums seed), .pointer (some ⟨w.heap.size, 1, none⟩), .slice (some ⟨bl, ol, none⟩) ls.length cap, _, .pointer (some ⟨w.heap.size, 2, none⟩), .int .i64 (m : Int), _, _, _, _, _], defers := _ } _
    refine alongK_read (.int .i64 ((m + 1 : Nat) : Int)) rfl rfl (fun wx hS => ex_bin rfl rfl rfl wx (add_one _ _ m Hm1000.out wx)) ?_
    change AlongK _ _ _ _ _ { tmps := #[_, .slice ta text.length tc, .pointer (some ⟨w.heap.size, 0, none⟩), _, _, .pointer (some ⟨w.heap.size + 1, 0, none⟩), _, _, _, _, .slice (some ⟨g6, 0, none⟩) L.length c6, _, _, _, _, _, _, _, _, _, _, _, _, _, _, _, _, _, _, _, _, _, _, _, _, _, _, _, _, _, _, _, _, _, _, _, _, _, _, _, _, .pointer (some ⟨w.heap.size, 0, none⟩), .string (strOfNums seed), .pointer (some ⟨w.heap.size, 1, none⟩), .slice (some ⟨bl, ol, none⟩) ls.length cap, _, .pointer (some ⟨w.heap.size, 2, none⟩), .int .i64 (m : Int), .int .i64 ((m + 1 : Nat) : Int), _, _, _, _], defers := _ } _
    refine alongK_fork ?_ ?_
    refine opK_call (vs := [.slice (some ⟨bl, ol, none⟩) ls.length cap]) rfl rfl rfl (enters_of Tryd.func41 (by kernel_rfl) rfl) rfl ?_
    with_reducible refine Calls.mono (Hcl.out _ (Up.trans HUA.out (Up.drew1 wA))) ?_
    rintro e w7 ⟨r7, rfl, hr7, hU7⟩
    obtain ⟨g7, c7, rfl, _⟩ := row_slice hr7 Hls.out
    have hUA7 : Up wA w7 := Up.trans (Up.drew1 wA) hU7
    refine ⟨_, rfl, (fun x => Up wA x), (fun x hx => hx), hUA7, ?_⟩
    change AlongK _ _ _ _ _ { tmps := #[_, .slice ta text.length tc, .pointer (some ⟨w.heap.size, 0, none⟩), _, _, .pointer (some ⟨w.heap.size + 1, 0, none⟩), _, _, _, _, .slice (some ⟨g6, 0, none⟩) L.length c6, _, _, _, _, _, _, _, _, _, _, _, _, _, _, _, _, _, _, _, _, _, _, _, _, _, _, _, _, _, _, _, _, _, _, _, _, _, _, _, _, .pointer (some ⟨w.heap.size, 0, none⟩), .string (strOfNums seed), .pointer (some ⟨w.heap.size, 1, none⟩), .slice (some ⟨bl, ol, none⟩) ls.length cap, .slice (some ⟨g7, 0, none⟩) ls.length c7, .pointer (some ⟨w.heap.size, 2, none⟩), .int .i64 (m : Int), .int .i64 ((m + 1 : Nat) : Int), _, _, _, _], defers := _ } _
    refine alongK_read (.agg #[.string (strOfNums seed), .slice (some ⟨g7, 0, none⟩) ls.length c7, .int .i64 ((m + 1 : Nat) : Int)]) rfl rfl (fun wx hS => ex_build3 wx wx (bld_key (strOfNums seed) (some ⟨g7, 0, none⟩) ls.length c7 ((m + 1 : Nat) : Int) wx) rfl rfl rfl rfl) ?_
    change AlongK _ _ _ _ _ { tmps := #[_, .slice ta text.length tc, .pointer (some ⟨w.heap.size, 0, none⟩), _, _, .pointer (some ⟨w.heap.size + 1, 0, none⟩), _, _, _, _, .slice (some ⟨g6, 0, none⟩) L.length c6, _, _, _, _, _, _, _, _, _, _, _, _, _, _, _, _, _, _, _, _, _, _, _, _, _, _, _, _, _, _, _, _, _, _, _, _, _, _, _, _, .pointer (some ⟨w.heap.size, 0, none⟩), .string (strOfNums seed), .pointer (some ⟨w.heap.size, 1, none⟩), .slice (some ⟨bl, ol, none⟩) ls.length cap, .slice (some ⟨g7, 0, none⟩) ls.length c7, .pointer (some ⟨w.heap.size, 2, none⟩), .int .i64 (m : Int), .int .i64 ((m + 1 : Nat) : Int), .agg #[.string (strOfNums seed), .slice (some ⟨g7, 0, none⟩) ls.length c7, .int .i64 ((m + 1 : Nat) : Int)], _, _, _], defers := _ } _
    refine alongK_step ?_
    refine opK_run (.pointer (some ⟨w7.heap.size, 0, none⟩)) _ rfl rfl (ex_alloc rfl _ _ (alloc_key w7)) (fun x => Up wA x) (fun x hx => hx) (Up.alloc hUA7 _) ?_
    change AlongK _ _ _ _ _ { tmps := #[_, .slice ta text.length tc, .pointer (some ⟨w.heap.size, 0, none⟩), _, _, .pointer (some ⟨w.heap.size + 1, 0, none⟩), _, _, _, _, .slice (some ⟨g6, 0, none⟩) L.length c6, .pointer (some ⟨w7.heap.size, 0, none⟩), _, _, _, _, _, _, _, _, _, _, _, _, _, _, _, _, _, _, _, _, _, _, _, _, _, _, _, _, _, _, _, _, _, _, _, _, _, _, _, .pointer (some ⟨w.heap.size, 0, none⟩), .string (strOfNums seed), .pointer (some ⟨w.heap.size, 1, none⟩), .slice (some ⟨bl, ol, none⟩) ls.length cap, .slice (some ⟨g7, 0, none⟩) ls.length c7, .pointer (some ⟨w.heap.size, 2, none⟩), .int .i64 (m : Int), .int .i64 ((m + 1 : Nat) : Int), .agg #[.string (strOfNums seed), .slice (some ⟨g7, 0, none⟩) ls.length c7, .int .i64 ((m + 1 : Nat) : Int)], _, _, _], defers := _ } _
    have hone7 := one_key seed _ ((m + 1 : Nat) : Int) (row_one hr7)
    refine alongK_step ?_
    refine opK_store _ rfl rfl (ex_storerow (c1 := #[.string (strOfNums seed), .slice (some ⟨g7, 0, none⟩) ls.length c7, .int .i64 ((m + 1 : Nat) : Int)]) rfl rfl rfl _ 27 (heap_alloc_new w7 _) info_key rfl hone7) (fun x => Up wA x) (fun x hx => hx) (up_at (Up.alloc hUA7 _) (grownBy_setRow _ _ _) hUA7.size) ?_
    change AlongK _ _ _ _ _ { tmps := #[_, .slice ta text.length tc, .pointer (some ⟨w.heap.size, 0, none⟩), _, _, .pointer (some ⟨w.heap.size + 1, 0, none⟩), _, _, _, _, .slice (some ⟨g6, 0, none⟩) L.length c6, .pointer (some ⟨w7.heap.size, 0, none⟩), _, _, _, _, _, _, _, _, _, _, _, _, _, _, _, _, _, _, _, _, _, _, _, _, _, _, _, _, _, _, _, _, _, _, _, _, _, _, _, .pointer (some ⟨w.heap.size, 0, none⟩), .string (strOfNums seed), .pointer (some ⟨w.heap.size, 1, none⟩), .slice (some ⟨bl, ol, none⟩) ls.length cap, .slice (some ⟨g7, 0, none⟩) ls.length c7, .pointer (some ⟨w.heap.size, 2, none⟩), .int .i64 (m : Int), .int .i64 ((m + 1 : Nat) : Int), .agg #[.string (strOfNums seed), .slice (some ⟨g7, 0, none⟩) ls.length c7, .int .i64 ((m + 1 : Nat) : Int)], _, _, _], defers := _ } _
    have HF := Lib.hid (after_clone (g := w7.heap.size) HUA.out HUA.out.size hr7 (Up.drew1 wA) (Up.alloc (Up.refl w7) (.cells noKey 27)) (heap_alloc_new w7 _) hone7 (Nat.le_refl _) hU7)
    generalize (w7.alloc (.cells noKey 27)).setRow w7.heap.size #[.string (strOfNums seed), .slice (some ⟨g7, 0, none⟩) ls.length c7, .int .i64 ((m + 1 : Nat) : Int)] = w9 at HF ⊢
    generalize w7.heap.size = nC at HF ⊢
    refine alongK_done ?_
    rotate_left
    refine opK_run (.pointer (some ⟨wA.heap.size, 0, none⟩)) _ rfl rfl (ex_alloc rfl _ _ (alloc_key wA.drew)) (fun x => Up wA x) (fun x hx => hx) (Up.alloc (Up.drew1 wA) _) ?_
    change AlongK _ _ _ _ _ { tmps := #[_, .slice ta text.length tc, .pointer (some ⟨w.heap.size, 0, none⟩), _, _, .pointer (some ⟨w.heap.size + 1, 0, none⟩), _, _, _, _, .slice (some ⟨g6, 0, none⟩) L.length c6, .pointer (some ⟨wA.heap.size, 0, none⟩), _, _, _, _, _, _, _, _, _, _, _, _, _, _, _, _, _, _, _, _, _, _, _, _, _, _, _, _, _, _, _, _, _, _, _, _, _, _, _, .pointer (some ⟨w.heap.size, 0, none⟩), .string (strOfNums seed), .pointer (some ⟨w.heap.size, 1, none⟩), .slice (some ⟨bl, ol, none⟩) ls.length cap, _, .pointer (some ⟨w.heap.size, 2, none⟩), .int .i64 (m : Int), .int .i64 ((m + 1 : Nat) : Int), _, _, _, _], defers := _ } _
    refine alongK_step ?_
    refine opK_call (vs := [.slice (some ⟨bl, ol, none⟩) ls.length cap]) rfl rfl rfl (enters_of Tryd.func41 (by kernel_rfl) rfl) rfl ?_
    with_reducible refine Calls.mono (Hcl.out _ (Up.trans HUA.out (Up.alloc (Up.drew1 wA) _))) ?_
    rintro e w7 ⟨r7, rfl, hr7, hU7⟩
    obtain ⟨g7, c7, rfl, _⟩ := row_slice hr7 Hls.out
    have hUA7 : Up wA w7 := Up.trans (Up.alloc (Up.drew1 wA) _) hU7
    refine ⟨_, rfl, (fun x => Up wA x), (fun x hx => hx), hUA7, ?_⟩
    change AlongK _ _ _ _ _ { tmps := #[_, .slice ta text.length tc, .pointer (some ⟨w.heap.size, 0, none⟩), _, _, .pointer (some ⟨w.heap.size + 1, 0, none⟩), _, _, _, _, .slice (some ⟨g6, 0, none⟩) L.length c6, .pointer (some ⟨wA.heap.size, 0, none⟩), _, _, _, _, _, _, _, _, _, _, _, _, _, _, _, _, _, _, _, _, _, _, _, _, _, _, _, _, _, _, _, _, _, _, _, _, _, _, _, .pointer (some ⟨w.heap.size, 0, none⟩), .string (strOfNums seed), .pointer (some ⟨w.heap.size, 1, none⟩), .slice (some ⟨bl, ol, none⟩) ls.length cap, .slice (some ⟨g7, 0, none⟩) ls.length c7, .pointer (some ⟨w.heap.size, 2, none⟩), .int .i64 (m : Int), .int .i64 ((m + 1 : Nat) : Int), _, _, _, _], defers := _ } _
    refine alongK_read (.agg #[.string (strOfNums seed), .slice (some ⟨g7, 0, none⟩) ls.length c7, .int .i64 ((m + 1 : Nat) : Int)]) rfl rfl (fun wx hS => ex_build3 wx wx (bld_key (strOfNums seed) (some ⟨g7, 0, none⟩) ls.length c7 ((m + 1 : Nat) : Int) wx) rfl rfl rfl rfl) ?_
    change AlongK _ _ _ _ _ { tmps := #[_, .slice ta text.length tc, .pointer (some ⟨w.heap.size, 0, none⟩), _, _, .pointer (some ⟨w.heap.size + 1, 0, none⟩), _, _, _, _, .slice (some ⟨g6, 0, none⟩) L.length c6, .pointer (some ⟨wA.heap.size, 0, none⟩), _, _, _, _, _, _, _, _, _, _, _, _, _, _, _, _, _, _, _, _, _, _, _, _, _, _, _, _, _, _, _, _, _, _, _, _, _, _, _, .pointer (some ⟨w.heap.size, 0, none⟩), .string (strOfNums seed), .pointer (some ⟨w.heap.size, 1, none⟩), .slice (some ⟨bl, ol, none⟩) ls.length cap, .slice (some ⟨g7, 0, none⟩) ls.length c7, .pointer (some ⟨w.heap.size, 2, none⟩), .int .i64 (m : Int), .int .i64 ((m + 1 : Nat) : Int), .agg #[.string (strOfNums seed), .slice (some ⟨g7, 0, none⟩) ls.length c7, .int .i64 ((m + 1 : Nat) : Int)], _, _, _], defers := _ } _
    refine alongK_step ?_
    have hone7 := one_key seed _ ((m + 1 : Nat) : Int) (row_one hr7)
    have hC7 := (hU7.block wA.heap.size (lt_alloc1 wA _)).trans (heap_alloc_new wA.drew (.cells noKey 27))
    refine opK_store _ rfl rfl (ex_storerow (c1 := #[.string (strOfNums seed), .slice (some ⟨g7, 0, none⟩) ls.length c7, .int .i64 ((m + 1 : Nat) : Int)]) rfl rfl rfl _ 27 hC7 info_key rfl hone7) (fun x => Up wA x) (fun x hx => hx) (up_at hUA7 (grownBy_setRow _ _ _) (Nat.le_refl _)) ?_
    change AlongK _ _ _ _ _ { tmps := #[_, .slice ta text.length tc, .pointer (some ⟨w.heap.size, 0, none⟩), _, _, .pointer (some ⟨w.heap.size + 1, 0, none⟩), _, _, _, _, .slice (some ⟨g6, 0, none⟩) L.length c6, .pointer (some ⟨wA.heap.size, 0, none⟩), _, _, _, _, _, _, _, _, _, _, _, _, _, _, _, _, _, _, _, _, _, _, _, _, _, _, _, _, _, _, _, _, _, _, _, _, _, _, _, .pointer (some ⟨w.heap.size, 0, none⟩), .string (strOfNums seed), .pointer (some ⟨w.heap.size, 1, none⟩), .slice (some ⟨bl, ol, none⟩) ls.length cap, .slice (some ⟨g7, 0, none⟩) ls.length c7, .pointer (some ⟨w.heap.size, 2, none⟩), .int .i64 (m : Int), .int .i64 ((m + 1 : Nat) : Int), .agg #[.string (strOfNums seed), .slice (some ⟨g7, 0, none⟩) ls.length c7, .int .i64 ((m + 1 : Nat) : Int)], _, _, _], defers := _ } _
    have HF := Lib.hid (after_clone2 (g := wA.heap.size) HUA.out HUA.out.size hr7 (lt_alloc1 wA _) hUA7 hC7 hone7 (Nat.le_refl _))
    generalize w7.setRow wA.heap.size #[.string (strOfNums seed), .slice (some ⟨g7, 0, none⟩) ls.length c7, .int .i64 ((m + 1 : Nat) : Int)] = w9 at HF ⊢
    generalize wA.heap.size = nC at HF ⊢
    refine alongK_done ?_
    all_goals
      have HU9 := Lib.hid (Up.trans HUA.out HF.out.1)
      have HN9 := Lib.hid HF.out.2.1
      have Hrow9 := Lib.hid HF.out.2.2.1
      have HO9 := Lib.hid HF.out.2.2.2.2
      have HR9 := Lib.hid ((HF.out.1.block _ (lt_of_block HRA.out)).trans HRA.out)
      have hlt9 : w.heap.size + 1 < wA.heap.size := lt_of_block HRA.out
      have HNe : Hid (nC ≠ w.heap.size + 1) := by show _ ≠ _; have := HF.out.2.2.2.1; omega
      have HJ9 := Lib.hid (HJ6.out.up (Up.trans HF.out.1 (Up.drew1 w9)))
      have HBl : Hid (w.heap.size + 1 < wA.heap.size) := hlt9
      clear hr7 hU7 hUA7 hone7 hlt9
      go_wp2
      refine region_alongK ((fun x => Up w x ∧ x.heap[nC]? = some (.cells #[.string (strOfNums seed), .slice (some ⟨g7, 0, none⟩) ls.length c7, .int .i64 ((m + 1 : Nat) : Int)] 27 (0, 0)))) (.read 0 (.read 2 (.step 1 (.read 3 (.step 4 (.read 5 (.nil))))))) (by kernel_rfl) rfl (by kernel_rfl) (by kernel_rfl) (fun c a d v w h => by cases d <;> exact h) (⟨Up.trans HU9.out (Up.drew1 w9), HN9.out⟩) ?_
      refine alongK_read (.slice (some ⟨g6, 0, none⟩) L.length c6) rfl rfl (fun wx hS => ex_move (by rfl) (by rfl) wx) ?_
      change AlongK _ _ _ _ _ { tmps := #[_, _, .pointer (some ⟨w.heap.size, 0, none⟩), _, _, .pointer (some ⟨w.heap.size + 1, 0, none⟩), _, _, _, _, .slice (some ⟨g6, 0, none⟩) L.length c6, .pointer (some ⟨nC, 0, none⟩), _, _, _, _, _, _, _, _, _, _, _, _, _, _, _, _, _, _, _, _, _, _, _, _, _, _, _, _, _, _, _, _, _, _, _, _, _, _, _, _, _, _, _, _, _, _, _, _, .slice (some ⟨g6, 0, none⟩) L.length c6, _, _], defers := _ } _
      refine alongK_read (.agg #[.string (strOfNums seed), .slice (some ⟨g7, 0, none⟩) ls.length c7, .int .i64 ((m + 1 : Nat) : Int)]) rfl rfl (fun wx hS => ex_loadrow rfl rfl wx 27 hS.2 Tryd.underlying27 rfl info_key) ?_
      change AlongK _ _ _ _ _ { tmps := #[_, _, .pointer (some ⟨w.heap.size, 0, none⟩), _, _, .pointer (some ⟨w.heap.size + 1, 0, none⟩), _, _, _, _, .slice (some ⟨g6, 0, none⟩) L.length c6, .pointer (some ⟨nC, 0, none⟩), _, _, _, _, _, _, _, _, _, _, _, _, _, _, _, _, _, _, _, _, _, _, _, _, _, _, _, _, _, _, _, _, _, _, _, _, _, _, _, _, _, _, _, _, _, _, _, _, .slice (some ⟨g6, 0, none⟩) L.length c6, _, .agg #[.string (strOfNums seed), .slice (some ⟨g7, 0, none⟩) ls.length c7, .int .i64 ((m + 1 : Nat) : Int)]], defers := _ } _
      refine alongK_step ?_
      refine opK_call (vs := [.slice (some ⟨g6, 0, none⟩) L.length c6, .string ⟨#[]⟩]) rfl rfl rfl (enters_of Tryd.func42 (by kernel_rfl) rfl) rfl ?_
      with_reducible refine Calls.mono (Hjn.out _ _ _ HJ9.out) ?_
      rintro e w10 ⟨rfl, hU10⟩
      have hN10 : w10.heap[nC]? = _ := (hU10.block nC (lt_of_block HN9.out)).trans HN9.out
      have hR10 : w10.heap[w.heap.size + 1]? = _ := (hU10.block _ (lt_of_block HR9.out)).trans HR9.out
      have hUw10 : Up w w10 := Up.trans HU9.out (Up.trans (Up.drew1 w9) hU10)
      refine ⟨_, rfl, (fun x => Up w x ∧ x.heap[nC]? = some (.cells #[.string (strOfNums seed), .slice (some ⟨g7, 0, none⟩) ls.length c7, .int .i64 ((m + 1 : Nat) : Int)] 27 (0, 0))), (fun x hx => hx), ⟨hUw10, hN10⟩, ?_⟩
      change AlongK _ _ _ _ _ { tmps := #[_, _, .pointer (some ⟨w.heap.size, 0, none⟩), _, _, .pointer (some ⟨w.heap.size + 1, 0, none⟩), _, _, _, _, .slice (some ⟨g6, 0, none⟩) L.length c6, .pointer (some ⟨nC, 0, none⟩), _, _, _, _, _, _, _, _, _, _, _, _, _, _, _, _, _, _, _, _, _, _, _, _, _, _, _, _, _, _, _, _, _, _, _, _, _, _, _, _, _, _, _, _, _, _, _, _, .slice (some ⟨g6, 0, none⟩) L.length c6, .string SIG, .agg #[.string (strOfNums seed), .slice (some ⟨g7, 0, none⟩) ls.length c7, .int .i64 ((m + 1 : Nat) : Int)]], defers := _ } _
      refine alongK_read (.string SIG) rfl rfl (fun wx _ => ex_assign (by rfl) (by rfl) wx) ?_
      change AlongK _ _ _ _ _ { tmps := #[_, _, .pointer (some ⟨w.heap.size, 0, none⟩), _, .string SIG, .pointer (some ⟨w.heap.size + 1, 0, none⟩), _, _, _, _, .slice (some ⟨g6, 0, none⟩) L.length c6, .pointer (some ⟨nC, 0, none⟩), _, _, _, _, _, _, _, _, _, _, _, _, _, _, _, _, _, _, _, _, _, _, _, _, _, _, _, _, _, _, _, _, _, _, _, _, _, _, _, _, _, _, _, _, _, _, _, _, .slice (some ⟨g6, 0, none⟩) L.length c6, .string SIG, .agg #[.string (strOfNums seed), .slice (some ⟨g7, 0, none⟩) ls.length c7, .int .i64 ((m + 1 : Nat) : Int)]], defers := _ } _
      refine alongK_step ?_
      refine opK_store _ rfl rfl (ex_storerow (c1 := #[.string (strOfNums seed), .slice (some ⟨g7, 0, none⟩) ls.length c7, .int .i64 ((m + 1 : Nat) : Int)]) rfl rfl rfl _ 27 hR10 info_key rfl HO9.out) (fun x => Up w x ∧ x.heap[nC]? = some (.cells #[.string (strOfNums seed), .slice (some ⟨g7, 0, none⟩) ls.length c7, .int .i64 ((m + 1 : Nat) : Int)] 27 (0, 0))) (fun x hx => hx) ⟨up_at hUw10 (grownBy_setRow _ _ _) (Nat.le_succ _), (Go.setRow_other w10 _ nC _ HNe.out).trans hN10⟩ ?_
      change AlongK _ _ _ _ _ { tmps := #[_, _, .pointer (some ⟨w.heap.size, 0, none⟩), _, .string SIG, .pointer (some ⟨w.heap.size + 1, 0, none⟩), _, _, _, _, .slice (some ⟨g6, 0, none⟩) L.length c6, .pointer (some ⟨nC, 0, none⟩), _, _, _, _, _, _, _, _, _, _, _, _, _, _, _, _, _, _, _, _, _, _, _, _, _, _, _, _, _, _, _, _, _, _, _, _, _, _, _, _, _, _, _, _, _, _, _, _, .slice (some ⟨g6, 0, none⟩) L.length c6, .string SIG, .agg #[.string (strOfNums seed), .slice (some ⟨g7, 0, none⟩) ls.length c7, .int .i64 ((m + 1 : Nat) : Int)]], defers := _ } _
      refine alongK_read (.int .i64 0) rfl rfl (fun wx _ => ex_assign (by rfl) (by rfl) wx) ?_
      change AlongK _ _ _ _ _ { tmps := #[_, _, .pointer (some ⟨w.heap.size, 0, none⟩), _, .string SIG, .pointer (some ⟨w.heap.size + 1, 0, none⟩), .int .i64 0, _, _, _, .slice (some ⟨g6, 0, none⟩) L.length c6, .pointer (some ⟨nC, 0, none⟩), _, _, _, _, _, _, _, _, _, _, _, _, _, _, _, _, _, _, _, _, _, _, _, _, _, _, _, _, _, _, _, _, _, _, _, _, _, _, _, _, _, _, _, _, _, _, _, _, .slice (some ⟨g6, 0, none⟩) L.length c6, .string SIG, .agg #[.string (strOfNums seed), .slice (some ⟨g7, 0, none⟩) ls.length c7, .int .i64 ((m + 1 : Nat) : Int)]], defers := _ } _
      refine alongK_done ?_
      have HRow := Lib.hid ((ownsRow_up Hrow9.out (Up.trans (Up.drew1 w9) hU10)).kept (grownBy_setRow w10 (w.heap.size + 1) #[.string (strOfNums seed), .slice (some ⟨g7, 0, none⟩) ls.length c7, .int .i64 ((m + 1 : Nat) : Int)]) (row_off (ownsRow_up Hrow9.out (Up.trans (Up.drew1 w9) hU10)) (fun q e => by cases e; exact HBl.out)))
      have hfin : (w10.setRow (w.heap.size + 1) #[.string (strOfNums seed), .slice (some ⟨g7, 0, none⟩) ls.length c7, .int .i64 ((m + 1 : Nat) : Int)]).heap[w.heap.size + 1]? = some (.cells #[.string (strOfNums seed), .slice (some ⟨g7, 0, none⟩) ls.length c7, .int .i64 ((m + 1 : Nat) : Int)] 27 (0, 0)) := setRow_heap w10 (w.heap.size + 1) _ _ _ (0, 0) hR10
      have HUf := Lib.hid (up_at hUw10 (grownBy_setRow w10 (w.heap.size + 1) #[.string (strOfNums seed), .slice (some ⟨g7, 0, none⟩) ls.length c7, .int .i64 ((m + 1 : Nat) : Int)]) (Nat.le_succ _))
      go_wp2
      exact bodyPost_ret (results_sign rfl _ _ _ _ _ _ rfl rfl rfl hfin rfl) rfl ⟨_, rfl, ownsRow_base HRow.out HUA.out.size, HUf.out⟩
end
end

/-
  signer: Root; Sign of a key with no leaf left, and of one that may not be.
-/
section
set_option maxRecDepth 100000
section
set_option linter.unusedVariables false
open Go.RowKit

set_option maxHeartbeats 2000000 in
theorem sgRoot_ok (seed : List Int) (lv : Value) (ls : List (List Int)) (next : Int) (w : World) (hs : Strs w lv ls) (hk : KeyOk seed ls next) (hf : Fits ls) :
    Calls Tryd.prog 8 #[keyV seed lv next] w fun e w' => e = .returned (.tuple #[.string (strOfNums (rootB ls)), .int .i64 0]) ∧ Up w w' := by
  have hl16 : ls.length ≤ 16 := by have := hk.pow; omega
  have Hck : Hid (∀ wx, Up w wx → Calls Tryd.prog 20 #[keyV seed lv next] wx fun e w' => e = .returned (.int .i64 0) ∧ Up wx w') := fun wx hx => check_ok seed lv ls next wx (hs.up hx) hk
  have Hrt : Hid (∀ wx, Up w wx → Calls Tryd.prog 21 #[lv] wx fun e w' => e = .returned (.string (strOfNums (rootB ls))) ∧ Up wx w') := fun wx hx => root_any lv ls wx (hs.up hx) hf (by omega)
  obtain ⟨a, cap, rfl, _, _, _⟩ := hs
  clear hk hf hl16
  generalize strOfNums (rootB ls) = R at Hrt ⊢
  unfold keyV at Hck ⊢
  go_enter Tryd.func8, Tryd.ntmps8
  go_wp2_with fail
  with_reducible refine Calls.mono (Hck.out _ (Up.alloc (Up.refl w) _)) ?_
  rintro e w1 ⟨rfl, hU1⟩
  have hk1 := (hU1.block w.heap.size (by simp)).trans (heap_alloc_new w _)
  have hc1 := cell_of_row _ _ 1 _ _ _ hk1
  simp only [List.getElem?_toArray, List.getElem?_cons_zero, List.getElem?_cons_succ] at hc1
  have HU1 := Lib.hid (Up.trans (Up.alloc (Up.refl w) _) hU1)
  clear hk1 hU1 Hck
  go_wp2_with fail
  with_reducible refine Calls.mono (Hrt.out _ HU1.out) ?_
  rintro e w2 ⟨rfl, hU2⟩
  have HU2 := Lib.hid (Up.trans HU1.out hU2)
  clear hU2
  go_wp2
  go_ret2
  exact ⟨rfl, HU2.out⟩

set_option maxHeartbeats 2000000 in
theorem sgRoot_bad (seed : List Int) (lv : Value) (ls : List (List Int)) (next : Int) (w : World) (hs : Strs w lv ls) (hl : ls.length ≤ 8796093022208) (h8x : ∀ k : Nat, (ls[k]?.getD []).length ≤ 9223372036854775807) (hsl : seed.length ≤ 9223372036854775807) (hn : -9223372036854775808 ≤ next ∧ next ≤ 9223372036854775807) (hk : ¬ KeyOk seed ls next) :
    Calls Tryd.prog 8 #[keyV seed lv next] w fun e w' => e = .returned (.tuple #[.string ⟨#[]⟩, .int .i64 9]) ∧ Up w w' := by
  have Hck : Hid (∀ wx, Up w wx → Calls Tryd.prog 20 #[keyV seed lv next] wx fun e w' => e = .returned (.int .i64 9) ∧ Up wx w') := fun wx hx => check_bad seed lv ls next wx (hs.up hx) hl h8x hsl hn hk
  obtain ⟨a, cap, rfl, _, _, _⟩ := hs
  clear hk hl h8x hsl hn
  unfold keyV at Hck ⊢
  go_enter Tryd.func8, Tryd.ntmps8
  go_wp2_with fail
  with_reducible refine Calls.mono (Hck.out _ (Up.alloc (Up.refl w) _)) ?_
  rintro e w1 ⟨rfl, hU1⟩
  have HU1 := Lib.hid (Up.trans (Up.alloc (Up.refl w) _) hU1)
  clear hU1
  go_wp2
  go_ret2
  exact ⟨rfl, HU1.out⟩

set_option maxHeartbeats 2000000 in
theorem sgSign_full (seed : List Int) (lv : Value) (ls : List (List Int)) (v : Value) (text : List Int) (w : World) (hs : Strs w lv ls) (hk : KeyOk seed ls ls.length) (hv : Ints .u8 w v text) :
    Calls Tryd.prog 18 #[keyV seed lv ls.length, v] w fun e w' => e = .returned (.tuple #[.string ⟨#[]⟩, .agg noKey, .int .i64 17]) ∧ Up w w' := by
  have hl16 : ls.length ≤ 16 := by have := hk.pow; omega
  have Hck : Hid (∀ wx, Up w wx → Calls Tryd.prog 20 #[keyV seed lv ls.length] wx fun e w' => e = .returned (.int .i64 0) ∧ Up wx w') := fun wx hx => check_ok seed lv ls ls.length wx (hs.up hx) hk
  obtain ⟨a, cap, rfl, _, _, _⟩ := hs
  obtain ⟨ta, tc, rfl, _, _, _⟩ := hv
  clear hk
  unfold keyV at Hck ⊢
  go_enter Tryd.func18, Tryd.ntmps18
  go_wp2_with fail
  with_reducible refine Calls.mono (Hck.out _ (Up.alloc (Up.alloc (Up.refl w) _) _)) ?_
  rintro e w1 ⟨rfl, hU1⟩
  have hk1 := (hU1.block w.heap.size (lt_alloc2 w _ _)).trans (heap_alloc2_old w _ _)
  have hr1 := (hU1.block (w.heap.size + 1) (lt_alloc2' w _ _)).trans (heap_alloc2_new w _ _)
  have HU1 := Lib.hid (Up.trans (Up.alloc (Up.alloc (Up.refl w) _) _) hU1)
  have hc1 := cell_of_row _ _ 1 _ _ _ hk1
  have hc2 := cell_of_row _ _ 2 _ _ _ hk1
  simp only [List.getElem?_toArray, List.getElem?_cons_zero, List.getElem?_cons_succ] at hc1 hc2
  clear hk1 hU1 Hck
  go_wp2_with (refine wpList_store_agg rfl 27 (.tmp 5) (.tmp 24) rfl (w.heap.size + 1) _ noKey rfl rfl 27 hr1 info_key rfl (one_key [] _ 0 (by simp [Value.oneCell'])) ?_; intro w2 hg2 hgr2)
  exact bodyPost_ret (results_sign rfl _ _ _ _ _ _ rfl rfl rfl hg2 rfl) rfl ⟨rfl, up_at HU1.out hgr2 (Nat.le_succ _)⟩

set_option maxHeartbeats 2000000 in
theorem sgSign_bad (seed : List Int) (lv : Value) (ls : List (List Int)) (next : Int) (v : Value) (text : List Int) (w : World) (hs : Strs w lv ls) (hl : ls.length ≤ 8796093022208) (h8x : ∀ k : Nat, (ls[k]?.getD []).length ≤ 9223372036854775807) (hsl : seed.length ≤ 9223372036854775807) (hn : -9223372036854775808 ≤ next ∧ next ≤ 9223372036854775807) (hk : ¬ KeyOk seed ls next) (hv : Ints .u8 w v text) :
    Calls Tryd.prog 18 #[keyV seed lv next, v] w fun e w' => e = .returned (.tuple #[.string ⟨#[]⟩, .agg noKey, .int .i64 9]) ∧ Up w w' := by
  have Hck : Hid (∀ wx, Up w wx → Calls Tryd.prog 20 #[keyV seed lv next] wx fun e w' => e = .returned (.int .i64 9) ∧ Up wx w') := fun wx hx => check_bad seed lv ls next wx (hs.up hx) hl h8x hsl hn hk
  obtain ⟨a, cap, rfl, _, _, _⟩ := hs
  obtain ⟨ta, tc, rfl, _, _, _⟩ := hv
  clear hk hl h8x hsl hn
  unfold keyV at Hck ⊢
  go_enter Tryd.func18, Tryd.ntmps18
  go_wp2_with fail
  with_reducible refine Calls.mono (Hck.out _ (Up.alloc (Up.alloc (Up.refl w) _) _)) ?_
  rintro e w1 ⟨rfl, hU1⟩
  have hr1 := (hU1.block (w.heap.size + 1) (lt_alloc2' w _ _)).trans (heap_alloc2_new w _ _)
  have HU1 := Lib.hid (Up.trans (Up.alloc (Up.alloc (Up.refl w) _) _) hU1)
  clear hU1 Hck
  go_wp2_with (refine wpList_store_agg rfl 27 (.tmp 5) (.tmp 16) rfl (w.heap.size + 1) _ noKey rfl rfl 27 hr1 info_key rfl (one_key [] _ 0 (by simp [Value.oneCell'])) ?_; intro w2 hg2 hgr2)
  exact bodyPost_ret (results_sign rfl _ _ _ _ _ _ rfl rfl rfl hg2 rfl) rfl ⟨rfl, up_at HU1.out hgr2 (Nat.le_succ _)⟩
end
end

/-
  signer, in plain mathematics: what is signed is a signature.
-/
section
set_option maxRecDepth 100000
section
set_option linter.unusedVariables false

theorem all8_up {ls : List (List Int)} (h : All8 ls) : All8 (upB ls) := fun k hk => by
  rw [upB_length] at hk
  rw [upB_at ls k hk]
  unfold cellB
  split
  · exact bothB_length _ _
  · exact h _ (by omega)
theorem all8_upN {ls : List (List Int)} (h : All8 ls) : ∀ k, All8 (upN ls k)
  | 0 => h
  | k + 1 => all8_up (all8_upN h k)
theorem path_all8 (ls : List (List Int)) (h : All8 ls) (m K : Nat) (hK : ls.length = 2 ^ K) (hm : m < 2 ^ K) : All8 (pathB ls m K) := fun k hk => by
  rw [pathB_length] at hk
  rw [pathB, upTo_at _ _ _ hk]
  refine all8_upN h k _ ?_
  rw [upN_pow ls K hK k (by omega)]
  have h1 := part_lt hm (show k ≤ K by omega)
  rw [show K - k = (K - (k + 1)) + 1 from by omega] at h1 ⊢
  exact nb_lt h1
theorem sign_all8 (seed : List Int) (m : Int) (text : List Int) : All8 (signB seed m text) := fun k hk => by
  have h1 : (signB seed m text).length = 11 := endsB_length _ _ _
  exact endsB_8 seed m (partsB text) k (by omega)
theorem flat_all8 : ∀ (L : List (List Int)), All8 L → L.flatten.length = 8 * L.length
  | [], _ => rfl
  | x :: r, h => by
    have h1 := flat_all8 r fun k hk => by have := h (k + 1) (by simpa using hk); simpa using this
    have h2 := h 0 (by simp)
    simp only [List.getElem?_cons_zero, Option.getD_some] at h2
    rw [List.flatten_cons, List.length_append, List.length_cons, h1, h2]
    omega
/-- the pieces of texts of eight octets are these texts -/
theorem piece_flat : ∀ (L : List (List Int)) (P : List Int) (i : Nat), All8 L → i < L.length → pieceB (P ++ L.flatten) (P.length + 8 * i) = L[i]?.getD []
  | x :: r, P, 0, h, _ => by
    have h2 := h 0 (by simp)
    simp only [List.getElem?_cons_zero, Option.getD_some] at h2
    unfold pieceB
    rw [Nat.mul_zero, Nat.add_zero, List.drop_left, List.flatten_cons]
    simp only [List.getElem?_cons_zero, Option.getD_some]
    rw [← h2, List.take_left]
  | x :: r, P, i + 1, h, hi => by
    have h2 := h 0 (by simp)
    simp only [List.getElem?_cons_zero, Option.getD_some] at h2
    have h1 := piece_flat r (P ++ x) i (fun k hk => by have := h (k + 1) (by simpa using hk); simpa using this) (by simpa using hi)
    rw [List.length_append, h2, List.append_assoc] at h1
    rw [List.flatten_cons, show P.length + 8 * (i + 1) = P.length + 8 + 8 * i from by omega, h1]
    simp
theorem upTo_pieces (sig : List Int) (p : Nat) (L : List (List Int)) (n : Nat) (hn : L.length = n) (h : ∀ i, i < n → pieceB sig (p + 8 * i) = L[i]?.getD []) : upTo (fun i => pieceB sig (p + 8 * i)) n = L := by
  apply List.ext_getElem (by rw [upTo_length, hn])
  intro j h1 h2
  rw [upTo_length] at h1
  have := h j h1
  simp only [List.getElem?_eq_getElem h2, Option.getD_some] at this
  simp only [upTo, List.getElem_map, List.getElem_range]
  exact this
theorem sigB_split (seed : List Int) (ls : List (List Int)) (m K : Nat) (text : List Int) : sigB seed ls m K text = octAll (IntKind.u64.wrap m) 2 ++ ((signB seed m text).flatten ++ (pathB ls m K).flatten) := by
  unfold sigB sigL
  rw [List.flatten_append, List.flatten_append]
  simp

theorem flat_u8s : ∀ (L : List (List Int)), (∀ k : Nat, U8s (L[k]?.getD [])) → U8s L.flatten
  | [], _ => fun j hj => by simp at hj
  | x :: r, h => by
    rw [List.flatten_cons]
    exact U8s.append (by simpa using h 0) (flat_u8s r fun k => by have := h (k + 1); simpa using this)
theorem sig_length (seed : List Int) (ls : List (List Int)) (m K : Nat) (text : List Int) (h : All8 ls) (hK : ls.length = 2 ^ K) (hm : m < 2 ^ K) : (sigB seed ls m K text).length = 90 + 8 * K := by
  have h1 : (signB seed m text).length = 11 := endsB_length _ _ _
  rw [sigB_split, List.length_append, List.length_append, octAll_length, flat_all8 _ (sign_all8 seed m text), flat_all8 _ (path_all8 ls h m K hK hm), h1, pathB_length]
  omega
theorem sig_u8s (seed : List Int) (ls : List (List Int)) (m K : Nat) (text : List Int) (hf : Fits ls) : U8s (sigB seed ls m K text) := by
  rw [sigB_split]
  refine (octAll_u8s _ _).append (U8s.append (flat_u8s _ fun k => ?_) (flat_u8s _ fun k => (pathB_fits ls hf m K k).1))
  by_cases hk : k < 11
  · rw [show signB seed m text = endsB seed m (partsB text) from rfl, endsB_at _ _ _ _ hk]; exact chainB_u8s _ (secretB_u8s _ _ _) _
  · rw [List.getElem?_eq_none (by rw [show signB seed m text = endsB seed m (partsB text) from rfl, endsB_length]; omega)]; exact fun j hj => by simp at hj
theorem sig_leaf (seed : List Int) (ls : List (List Int)) (m K : Nat) (text : List Int) (hm : m ≤ 1000) : sigLeaf (sigB seed ls m K text) = m := by
  unfold sigLeaf
  rw [sigB_split, List.take_append_of_le_length (by rw [octAll_length]; omega), List.take_of_length_le (by rw [octAll_length]; omega), getB_back _ 2 (by omega), IntKind.wrap_u64]
  omega
theorem sig_parts (seed : List Int) (ls : List (List Int)) (m K : Nat) (text : List Int) (h : All8 ls) (hK : ls.length = 2 ^ K) (hm : m < 2 ^ K) : sigParts (sigB seed ls m K text) = signB seed m text := by
  have h1 : (signB seed m text).length = 11 := endsB_length _ _ _
  refine upTo_pieces _ 2 _ 11 h1 fun i hi => ?_
  have hall : All8 (signB seed m text ++ pathB ls m K) := fun k hk => by
    by_cases hk1 : k < (signB seed m text).length
    · rw [List.getElem?_append_left hk1]; exact sign_all8 seed m text k hk1
    · rw [List.getElem?_append_right (by omega)]; rw [List.length_append] at hk; exact path_all8 ls h m K hK hm _ (by omega)
  have h2 := piece_flat (signB seed m text ++ pathB ls m K) (octAll (IntKind.u64.wrap m) 2) i hall (by rw [List.length_append]; omega)
  rw [List.flatten_append, octAll_length, List.getElem?_append_left (by omega)] at h2
  rw [sigB_split]
  exact h2
theorem sig_path (seed : List Int) (ls : List (List Int)) (m K : Nat) (text : List Int) (h : All8 ls) (hK : ls.length = 2 ^ K) (hm : m < 2 ^ K) : sigPath (sigB seed ls m K text) K = pathB ls m K := by
  have h1 : (signB seed m text).length = 11 := endsB_length _ _ _
  refine upTo_pieces _ 90 _ K (pathB_length _ _ _) fun i hi => ?_
  have h2 := piece_flat (pathB ls m K) (octAll (IntKind.u64.wrap m) 2 ++ (signB seed m text).flatten) i (path_all8 ls h m K hK hm) (by rw [pathB_length]; exact hi)
  rw [List.length_append, octAll_length, flat_all8 _ (sign_all8 seed m text), h1, List.append_assoc] at h2
  rw [sigB_split]
  exact h2
/-- WHAT IS SIGNED WITH A SEED's LEAVES IS A SIGNATURE. -/
theorem good_sign (seed : List Int) (m K : Nat) (text : List Int) (hK : K ≤ 4) (hm : m < 2 ^ K) :
    GoodSig (strOfNums (rootB (leavesB seed (2 ^ K)))) K text (sigB seed (leavesB seed (2 ^ K)) m K text) := by
  have hl : (leavesB seed (2 ^ K)).length = 2 ^ K := upTo_length _ _
  have h8 : All8 (leavesB seed (2 ^ K)) := fun k hk => by
    rw [hl] at hk
    rw [leavesB, upTo_at _ _ _ hk]
    exact shortB_length _
  have hat : (leavesB seed (2 ^ K))[m]?.getD [] = leafB seed m := by rw [leavesB, upTo_at _ _ _ hm]
  have hm16 : m ≤ 1000 := by
    have : K = 0 ∨ K = 1 ∨ K = 2 ∨ K = 3 ∨ K = 4 := by omega
    rcases this with rfl | rfl | rfl | rfl | rfl <;> omega
  refine ⟨by omega, by omega, by rw [sig_length _ _ _ _ _ h8 hl hm]; omega, ?_, ?_⟩
  · rw [sig_leaf _ _ _ _ _ hm16, Int.toNat_natCast]; omega
  · rw [sig_leaf _ _ _ _ _ hm16, sig_parts _ _ _ _ _ h8 hl hm, Int.toNat_natCast, Int.toNat_natCast, sig_path _ _ _ _ _ h8 hl hm, open_sign, ← hat, climb_path _ _ _ hl hm]
theorem leaves_ok (seed : List Int) (K : Nat) (hs : seed.length ≤ 64) (hK : K ≤ 4) (m : Nat) (hm : m ≤ 2 ^ K) : KeyOk seed (leavesB seed (2 ^ K)) m := by
  have hl : (leavesB seed (2 ^ K)).length = 2 ^ K := upTo_length _ _
  refine ⟨hs, ?_, fun k hk => ?_, by omega, by rw [hl]; omega⟩
  · rw [hl]
    have : K = 0 ∨ K = 1 ∨ K = 2 ∨ K = 3 ∨ K = 4 := by omega
    rcases this with rfl | rfl | rfl | rfl | rfl <;> simp
  · rw [hl] at hk
    rw [leavesB, upTo_at _ _ _ hk]
    exact shortB_length _
theorem leaves_fits (seed : List Int) (n : Nat) : Fits (leavesB seed n) := upTo_all _ _ (fun l => U8s l ∧ l.length ≤ 140737488351232) ⟨fun j hj => by simp at hj, by simp⟩ fun i _ => ⟨shortB_u8s _, by rw [show leafB seed i = shortB _ from rfl, shortB_length]; omega⟩
end
end
end Go.Proofs.YtenhjjbbmmomaaaDoor
