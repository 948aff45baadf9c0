import Derived.Test.YtaepdmmlejdifaaAlong
import Derived.Test.YtaepdmmlejdifaaJnRef
import Derived.Test.YtaepdmmlejdifaaJnWrite
/-
  JournalParts: the walk.
-/
namespace Go.Proofs.Ytaepdmmlejdifaa
set_option maxRecDepth 100000
section
set_option linter.unusedVariables false
open Go.RowKit

theorem Clip.keptBut {S : Nat → Prop} {W W' : World} {base : Nat} {v : Value} {bs : List Int} (h : Clip W base v bs) (hk : KeptBut S W W') (hS : ∀ b, v.ownBlock = some b → ¬ S b) : Clip W' base v bs := by
  rcases h with ⟨hl, hx | ⟨g, cap, cur, rfl, hb, hg, h1⟩⟩ | ⟨g, cur, rfl, hb, hg, ht⟩
  · exact .inl ⟨hl, .inl hx⟩
  · exact .inl ⟨hl, .inr ⟨g, cap, cur, rfl, hb, (hk.block g (lt_of_block hg) (hS g rfl)).trans hg, h1⟩⟩
  · exact .inr ⟨g, cur, rfl, hb, (hk.block g (lt_of_block hg) (hS g rfl)).trans hg, ht⟩
/-- two disks have nothing to do with each other -/
structure Apart2 (g1 g2 : Nat) (o1 o2 : Value) : Prop where
  gg : g1 ≠ g2
  og : o1.ownBlock ≠ some g2
  go : o2.ownBlock ≠ some g1
  oo : ∀ k, o1.ownBlock = some k → o2.ownBlock ≠ some k
theorem Dk.apart {W W' : World} {b0 g1 g2 : Nat} {o1 o2 o2' : Value} {room fl : Nat} {bs : List Int} (h : Dk W b0 g1 o1 room fl bs) (hs : WrStep g2 o2 o2' W W') (ha : Apart2 g1 g2 o1 o2) : Dk W' b0 g1 o1 room fl bs :=
  ⟨(hs.1.block g1 h.lt (fun e => e.elim ha.gg ha.go)).trans h.box, h.base, h.row.keptBut hs.1 (fun b hb e => by
    rcases e with e | e
    · exact ha.og (by rw [hb, e])
    · exact ha.oo b hb e), h.fl, h.len, h.room⟩
theorem Apart2.next {W W' : World} {b0 g1 g2 : Nat} {o1 o2 o2' : Value} {room fl : Nat} {bs : List Int} (ha : Apart2 g1 g2 o1 o2) (h : Dk W b0 g1 o1 room fl bs) (hs : WrStep g2 o2 o2' W W') : Apart2 g1 g2 o1 o2' :=
  ⟨ha.gg, ha.og, fun e => by
    rcases hs.2 g1 e with e2 | e2
    · exact ha.go e2
    · have := h.lt; omega, fun k hk e => by
    rcases hs.2 k e with e2 | e2
    · exact ha.oo k hk e2
    · have := (h.row.lt k hk).2; omega⟩
theorem Apart2.up {W W' : World} {b0 g1 : Nat} {o1 : Value} {room fl : Nat} {bs : List Int} (h : Dk W b0 g1 o1 room fl bs) (hu : Up W W') : Dk W' b0 g1 o1 room fl bs := h.up hu

set_option maxHeartbeats 4000000 in
theorem lawJnParts_any (v : Value) (ls : List (List Int)) (w : World) (hv : Rows8 w v ls) (hu : ∀ j, j < ls.length → U8s (ls[j]?.getD [])) (hn : ls.length ≤ 1048576) (hl : ls.flatten.length ≤ 1048576) :
    Calls Try.prog 6 #[v] w fun e w' => e = .returned (.bool true) ∧ Up w w' := by
  have Hal := Lib.hid (jnAlive_any w)
  obtain ⟨a, cap, rfl, hcap, _, hcell⟩ := id hv
  have Hc : Hid (∀ k, k < ls.length → ∃ b off, a = some ⟨b, off, none⟩ ∧ ∃ u, w.cell? ⟨b, off + k, none⟩ = some u ∧ Ints .u8 w u (ls[k]?.getD [])) := by
    intro k hk
    rcases hcell with rfl | ⟨b, off, rfl, hc⟩
    · simp at hk
    · exact ⟨b, off, rfl, hc k hk⟩
  have Hv := Lib.hid hv
  have hx : ∀ k : Nat, (ls[k]?.getD []).length ≤ 1048576 := fun k => by
    by_cases hk : k < ls.length
    · have h1 := flat_le ls (k + 1)
      rw [flat_snoc ls k hk, List.length_append] at h1
      omega
    · rw [List.getElem?_eq_none (by omega)]; simp
  have Hx := Lib.hid hx
  have Hl := Lib.hid hl
  have Hu := Lib.hid hu
  clear hv hcell hx hu hl
  go_enter Try.func6, Try.ntmps6
  go_wp2_with fail
  with_reducible refine Calls.mono Hal.out ?_
  rintro e w1 ⟨rfl, u1⟩
  have U1 := Lib.hid u1
  have Hn := Lib.hid (dkNew_any 262144 w1)
  clear u1
  go_wp2_with fail
  with_reducible refine Calls.mono Hn.out ?_
  rintro e w2 ⟨rfl, hw2⟩
  have H2 := Lib.hid (show Dk w2 w.heap.size w1.heap.size (.slice none 0 0) 262144 0 [] by rw [← hw2]; exact dk_new0 262144 w1 w.heap.size U1.out.size)
  have U2 := Lib.hid (show Up w w2 by rw [← hw2]; exact Up.alloc U1.out _)
  have Hn2 := Lib.hid (dkNew_any 262144 w2)
  have Hne := Lib.hid H2.out.lt
  clear hw2 Hn
  go_wp2_with fail
  with_reducible refine Calls.mono Hn2.out ?_
  rintro e w3 ⟨rfl, hw3⟩
  have H3 := Lib.hid (show Dk w3 w.heap.size w2.heap.size (.slice none 0 0) 262144 0 [] by rw [← hw3]; exact dk_new0 262144 w2 w.heap.size U2.out.size)
  have U23 : Up w2 w3 := by rw [← hw3]; exact Up.alloc (Up.refl w2) _
  have U3 := Lib.hid (Up.trans U2.out U23)
  have K3 := Lib.hid (H2.out.up U23)
  have HvF : Hid (RowsF (fun b => ¬ WrS w1.heap.size (.slice none 0 0) b) w3 (.slice a ls.length cap) ls) := Lib.hid (((RowsF.of Hv.out (fun b hb => hb)).up U3.out).old K3.out)
  have Hap0 : Hid (Apart2 w2.heap.size w1.heap.size (.slice none 0 0) (.slice none 0 0)) := Lib.hid ⟨by have := Hne.out; omega, by simp [Value.ownBlock], by simp [Value.ownBlock], fun k hk => by simp [Value.ownBlock] at hk⟩
  clear hw3 Hn2 U23
  by_cases hs : Shorts ls
  · have Hw := Lib.hid (jnWrite_any _ ls w3 K3.out U3.out.size HvF.out (by omega) (by have := Hl.out; omega) hs)
    by_cases hle : (frames ls).length ≤ 262144
    · have hE : dkAppE 262144 [] (frames ls) = 0 := if_pos (by simpa using hle)
      have hB : dkApp 262144 [] (frames ls) = frames ls := if_pos (by simpa using hle)
      rw [hE, hB] at Hw
      have Hs := Lib.hid hs
      have Hle := Lib.hid hle
      clear hs hE hB hle
      go_wp2_with fail
      with_reducible refine Calls.mono Hw.out ?_
      rintro e w4 ⟨rfl, o1, h4, s4⟩
      have H4 := Lib.hid h4
      have D4 : Hid (Dk w4 w.heap.size w2.heap.size (.slice none 0 0) 262144 0 []) := Lib.hid (H3.out.apart s4 Hap0.out)
      have U4 := Lib.hid (K3.out.next s4 U3.out)
      have Hap4 : Hid (Apart2 w1.heap.size w2.heap.size o1 (.slice none 0 0)) := Lib.hid (by
        have h := Hap0.out.next H3.out s4
        exact ⟨Ne.symm h.gg, h.go, h.og, fun k hk => by simp [Value.ownBlock]⟩)
      clear h4 s4 Hw
      go_wp2
      obtain ⟨g1, hg1⟩ : ∃ g1, w1.heap.size = g1 := ⟨_, rfl⟩
      obtain ⟨g2, hg2⟩ : ∃ g2, w2.heap.size = g2 := ⟨_, rfl⟩
      rw [hg1] at H4 Hap4 ⊢
      rw [hg2] at D4 Hap4 ⊢
      clear hg1 hg2
      go_loopw [6] (fun i wr => ∃ (k : Nat) (o2 : Value), k ≤ ls.length ∧ i = .int .i64 k ∧ Dk wr w.heap.size g1 o1 262144 0 (frames ls) ∧ Dk wr w.heap.size g2 o2 262144 0 (frames (ls.take k)) ∧ Apart2 g1 g2 o1 o2 ∧ Up w wr) (fun i _ => ls.length - (intOf i).toNat)
      case atStart => exact ⟨0, _, Nat.zero_le _, rfl, H4.out, D4.out, Hap4.out, U4.out⟩
      case round =>
        obtain ⟨k, o2, hk, rfl, h1, h2, hap, hU⟩ := hrel
        have HU := Lib.hid hU
        by_cases hlt : k < ls.length
        · obtain ⟨b, off, rfl, u, hcw, hi8⟩ := Hc.out k hlt
          have hcr := later_cell hcw hU
          have hxs : (ls[k]?.getD []).length ≤ 16384 := shortAt_iff.2 Hs.out k hlt
          have hfs : frames (ls.take k) ++ frames [ls[k]?.getD []] = frames (ls.take (k + 1)) := by rw [take_snocL ls k hlt, frames_append]
          have hle2 : (frames (ls.take k)).length + (frames [ls[k]?.getD []]).length ≤ 262144 := by
            rw [← List.length_append, hfs]
            have h3 := frames_mono ls (show k + 1 ≤ ls.length by omega)
            rw [List.take_length] at h3
            have := Hle.out
            omega
          have Hw : Hid (Calls Try.prog 14 #[.pointer (some ⟨g2, 0, none⟩), .slice (some ⟨wr.heap.size, 0, none⟩) 1 1] (wr.alloc (.cells #[u] 22)) fun e w' => e = .returned (.int .i64 0) ∧ ∃ o', Dk w' w.heap.size g2 o' 262144 0 (frames (ls.take (k + 1))) ∧ WrStep g2 o2 o' (wr.alloc (.cells #[u] 22)) w') := by
            have hua : Up wr (wr.alloc (.cells #[u] 22)) := Up.alloc (Up.refl wr) _
            have hd := h2.up hua
            have hrow : RowsF (fun b => ¬ WrS g2 o2 b) (wr.alloc (.cells #[u] 22)) (.slice (some ⟨wr.heap.size, 0, none⟩) 1 1) [ls[k]?.getD []] := by
              have hdu := dk_up h2
              refine ⟨_, 1, rfl, Nat.le_refl _, by simp, .inr ⟨wr.heap.size, 0, rfl, fun e => by have := hdu _ e; omega, fun j hj => ?_⟩⟩
              obtain rfl : j = 0 := by simpa using hj
              refine ⟨u, by rw [World.cell?_alloc_new]; rfl, ?_⟩
              have h9 : IntsF (fun b => b < w.heap.size) w u (ls[k]?.getD []) := IntsF.of hi8 (fun b hb => hb)
              exact ((h9.up hU).up hua).weak fun b hb _ e => by
                rcases e with e | e
                · have := h2.base; omega
                · have := (h2.row.lt b e).1; omega
            have hw := jnWrite_any _ [ls[k]?.getD []] _ hd (by have := hU.size; simp; omega) hrow (by simp) (by simp; omega) (fun r hr => by simp at hr; rw [hr]; exact hxs)
            rw [show dkAppE 262144 (frames (ls.take k)) (frames [ls[k]?.getD []]) = 0 from if_pos hle2, show dkApp 262144 (frames (ls.take k)) (frames [ls[k]?.getD []]) = frames (ls.take (k + 1)) from by rw [dkApp, if_pos hle2, hfs]] at hw
            exact Lib.hid hw
          obtain ⟨a1, c1, rfl, _, _, _⟩ := hi8
          have HH1 := Lib.hid h1
          have HH2 := Lib.hid h2
          have Hap := Lib.hid hap
          clear h1 h2 hap hU hfs hle2 hcw hxs
          generalize (ls[k]?.getD []).length = X at hcr Hw
          go_wp2_with fail
          with_reducible refine Calls.mono Hw.out ?_
          rintro e w5 ⟨rfl, o5, h5, s5⟩
          have hua : Up wr (wr.alloc (.cells #[.slice a1 X c1] 22)) := Up.alloc (Up.refl wr) _
          have HA5 := Lib.hid ((HH1.out.up hua).apart s5 Hap.out)
          have Hap5 := Lib.hid (Hap.out.next (HH1.out.up hua) s5)
          have U5 := Lib.hid ((HH2.out.up hua).next s5 (Up.trans HU.out hua))
          have H5 := Lib.hid h5
          clear h5 s5 hcr hua
          go_wp2
          go_roundw
          case rel => exact ⟨k + 1, o5, by omega, by go_num, HA5.out, H5.out, Hap5.out, U5.out⟩
          case measure => simp [intOf]; omega
        · obtain rfl : k = ls.length := by omega
          rw [List.take_length] at h2
          have hus : U8s (frames ls) := frames_u8s fun r hr => by
            obtain ⟨j, hj, rfl⟩ := List.getElem_of_mem hr
            have := Hu.out j hj
            simpa [hj] using this
          have hsc := scan_whole ls Hs.out
          have Hrd := Lib.hid (dkRead_any wr h2)
          have Hsn : Hid (∀ r1 w7, w7.ownsRow wr.heap.size 5 1 r1 (frames ls).length ((frames ls).map (Value.int .u8)) → Calls Try.prog 8 #[r1] w7 fun e w' => ∃ a8 c8, e = .returned (.tuple #[.slice a8 ls.length c8, .int .i64 (((frames ls).length : Nat) : Int)]) ∧ Rows8 w' (.slice a8 ls.length c8) ls ∧ Up w7 w') := Lib.hid fun r1 w7 h7 => by
            have h := scan_any r1 (frames ls) w7 (Ints.of_row h7) hus (by have := Hle.out; omega)
            rw [hsc] at h
            refine h.mono ?_
            rintro e w' ⟨r, h8, h9, h10⟩
            obtain ⟨a8, c8, rfl, _, _, _⟩ := id h9
            exact ⟨a8, c8, h8, h9.rows, h10⟩
          have HA : Hid (∀ wx, Up wr wx → Calls Try.prog 20 #[.pointer (some ⟨g1, 0, none⟩)] wx fun e w' => ∃ a9 c9, e = .returned (.slice a9 (frames ls).length c9) ∧ (∀ wy, Up w' wy → (convert 22 9 (.slice a9 (frames ls).length c9)).run Try.prog wy = .ok (.string (strOfNums (frames ls))) wy) ∧ Up wx w') := Lib.hid fun wx hx => (dkRead_any wx (h1.up hx)).mono fun e w' ⟨r, q1, q2, q3⟩ => by
            obtain ⟨a9, c9, rfl⟩ := row_shape q2
            exact ⟨a9, c9, q1, fun wy hy => ((Ints.of_row q2).up hy).str, q3⟩
          have HB : Hid (∀ wx, Up wr wx → Calls Try.prog 20 #[.pointer (some ⟨g2, 0, none⟩)] wx fun e w' => ∃ a9 c9, e = .returned (.slice a9 (frames ls).length c9) ∧ (∀ wy, Up w' wy → (convert 22 9 (.slice a9 (frames ls).length c9)).run Try.prog wy = .ok (.string (strOfNums (frames ls))) wy) ∧ Up wx w') := Lib.hid fun wx hx => (dkRead_any wx (h2.up hx)).mono fun e w' ⟨r, q1, q2, q3⟩ => by
            obtain ⟨a9, c9, rfl⟩ := row_shape q2
            exact ⟨a9, c9, q1, fun wy hy => ((Ints.of_row q2).up hy).str, q3⟩
          have HS : Hid (∀ wx, Up wr wx → Calls Try.prog 18 #[.pointer (some ⟨g1, 0, none⟩)] wx fun e w' => e = .returned (.int .i64 (((frames ls).length : Nat) : Int)) ∧ wx = w') := Lib.hid fun wx hx => dkSize_any wx (h1.up hx)
          clear h1 h2 hap hU hus hsc
          have hxl : True := trivial
          generalize strOfNums (frames ls) = SF at HA HB
          generalize hFF : ((frames ls).length : Nat) = F at HA HB HS Hsn Hrd
          clear hFF
          go_wp2_with fail
          with_reducible refine Calls.mono Hrd.out ?_
          rintro e w7 ⟨r7, rfl, h7, u7⟩
          have Hsn7 := Lib.hid (Hsn.out r7 w7 h7)
          obtain ⟨a7, c7, rfl⟩ := row_shape h7
          have U7 := Lib.hid u7
          clear h7 u7
          go_wp2_with fail
          with_reducible refine Calls.mono Hsn7.out ?_
          rintro e w8 ⟨a8, c8, rfl, h8, u8⟩
          have HA8 : Hid (∀ wx, Up w8 wx → _) := Lib.hid fun wx hx => HA.out wx (Up.trans (Up.trans U7.out u8) hx)
          have HB8 : Hid (∀ wx, Up w8 wx → _) := Lib.hid fun wx hx => HB.out wx (Up.trans (Up.trans U7.out u8) hx)
          have HS8 : Hid (∀ wx, Up w8 wx → _) := Lib.hid fun wx hx => HS.out wx (Up.trans (Up.trans U7.out u8) hx)
          have U8 : Hid (Up w w8) := Lib.hid (Up.trans HU.out (Up.trans U7.out u8))
          have HL : Hid (∀ wx, Up w8 wx → Calls Try.prog 10 #[.slice a8 ls.length c8, .slice a ls.length cap] wx fun e w' => e = .returned (.bool true) ∧ Up wx w') := Lib.hid fun wx hx => lists_any _ _ ls wx (h8.up hx) ((Hv.out.up U8.out).up hx) (by omega)
          have HD : Hid (Up w8 w8.drew) := Lib.hid (Up.drew1 w8)
          clear h8 u8 HA HB HS
          go_wp2
          refine region_alongK (fun x => Up w8 x) (.read 0 (.read 3 (.step 1 (.read 2 (.step 4 (.read 5 (.read 6 (.read 7 (.read 8 (.read 9 (.step 10 (.read 11 (.read 12 (.read 13 (.read 14 (.step 15 (.read 16 (.read 17 (.read 18 (.nil)))))))))))))))))))) (by kernel_rfl) rfl (by kernel_rfl) (by kernel_rfl) (fun c a d v w h => by cases d <;> exact h) (HD.out) ?_
          refine alongK_read (.pointer (some ⟨g1, 0, none⟩)) rfl rfl (fun wx hS => ex_move (by rfl) (by rfl) wx) ?_
          change AlongK _ _ _ _ _ { tmps := #[.slice a ls.length cap, _, _, .pointer (some ⟨g1, 0, none⟩), .pointer (some ⟨g2, 0, none⟩), _, _, .slice a8 ls.length c8, .int .i64 F, _, _, _, _, _, _, _, _, _, _, _, _, _, _, _, _, _, _, _, _, _, _, _, _, _, _, _, _, _, _, _, _, .pointer (some ⟨g1, 0, none⟩), _, _, _, _, _, _, _, _, _, _, _, _, _, _, _, _, _], defers := _ } _
          refine alongK_read (.pointer (some ⟨g2, 0, none⟩)) rfl rfl (fun wx hS => ex_move (by rfl) (by rfl) wx) ?_
          change AlongK _ _ _ _ _ { tmps := #[.slice a ls.length cap, _, _, .pointer (some ⟨g1, 0, none⟩), .pointer (some ⟨g2, 0, none⟩), _, _, .slice a8 ls.length c8, .int .i64 F, _, _, _, _, _, _, _, _, _, _, _, _, _, _, _, _, _, _, _, _, _, _, _, _, _, _, _, _, _, _, _, _, .pointer (some ⟨g1, 0, none⟩), _, _, .pointer (some ⟨g2, 0, none⟩), _, _, _, _, _, _, _, _, _, _, _, _, _, _], defers := _ } _
          refine alongK_step ?_
          refine opK_call (vs := [.pointer (some ⟨g1, 0, none⟩)]) rfl rfl rfl (enters_of Try.func20 (by kernel_rfl) rfl) rfl ?_
          with_reducible refine Calls.mono (HA8.out _ HD.out) ?_
          rintro e w9 ⟨a9, c9, rfl, p1, p2⟩
          have CA : Hid (∀ wx, Up w9 wx → (convert 22 9 (.slice a9 F c9)).run Try.prog wx = .ok (.string SF) wx) := Lib.hid p1
          have P9 := Lib.hid (Up.trans HD.out p2)
          clear p1 p2
          refine ⟨_, rfl, (fun x => Up w9 x), (fun x hx => Up.trans P9.out hx), Up.refl w9, ?_⟩
          change AlongK _ _ _ _ _ { tmps := #[.slice a ls.length cap, _, _, .pointer (some ⟨g1, 0, none⟩), .pointer (some ⟨g2, 0, none⟩), _, _, .slice a8 ls.length c8, .int .i64 F, _, _, _, _, _, _, _, _, _, _, _, _, _, _, _, _, _, _, _, _, _, _, _, _, _, _, _, _, _, _, _, _, .pointer (some ⟨g1, 0, none⟩), .slice a9 F c9, _, .pointer (some ⟨g2, 0, none⟩), _, _, _, _, _, _, _, _, _, _, _, _, _, _], defers := _ } _
          refine alongK_read (.string SF) rfl rfl (fun wx hS => ex_conv rfl rfl wx wx (CA.out wx hS)) ?_
          change AlongK _ _ _ _ _ { tmps := #[.slice a ls.length cap, _, _, .pointer (some ⟨g1, 0, none⟩), .pointer (some ⟨g2, 0, none⟩), _, _, .slice a8 ls.length c8, .int .i64 F, _, _, _, _, _, _, _, _, _, _, _, _, _, _, _, _, _, _, _, _, _, _, _, _, _, _, _, _, _, _, _, _, .pointer (some ⟨g1, 0, none⟩), .slice a9 F c9, .string SF, .pointer (some ⟨g2, 0, none⟩), _, _, _, _, _, _, _, _, _, _, _, _, _, _], defers := _ } _
          refine alongK_step ?_
          refine opK_call (vs := [.pointer (some ⟨g2, 0, none⟩)]) rfl rfl rfl (enters_of Try.func20 (by kernel_rfl) rfl) rfl ?_
          with_reducible refine Calls.mono (HB8.out _ P9.out) ?_
          rintro e w10 ⟨a10, c10, rfl, p1, p2⟩
          have CB : Hid (∀ wx, Up w10 wx → (convert 22 9 (.slice a10 F c10)).run Try.prog wx = .ok (.string SF) wx) := Lib.hid p1
          have P10 := Lib.hid p2
          clear p1 p2
          refine ⟨_, rfl, (fun x => Up w10 x), (fun x hx => Up.trans P10.out hx), Up.refl w10, ?_⟩
          change AlongK _ _ _ _ _ { tmps := #[.slice a ls.length cap, _, _, .pointer (some ⟨g1, 0, none⟩), .pointer (some ⟨g2, 0, none⟩), _, _, .slice a8 ls.length c8, .int .i64 F, _, _, _, _, _, _, _, _, _, _, _, _, _, _, _, _, _, _, _, _, _, _, _, _, _, _, _, _, _, _, _, _, .pointer (some ⟨g1, 0, none⟩), .slice a9 F c9, .string SF, .pointer (some ⟨g2, 0, none⟩), .slice a10 F c10, _, _, _, _, _, _, _, _, _, _, _, _, _], defers := _ } _
          refine alongK_read (.string SF) rfl rfl (fun wx hS => ex_conv rfl rfl wx wx (CB.out wx hS)) ?_
          change AlongK _ _ _ _ _ { tmps := #[.slice a ls.length cap, _, _, .pointer (some ⟨g1, 0, none⟩), .pointer (some ⟨g2, 0, none⟩), _, _, .slice a8 ls.length c8, .int .i64 F, _, _, _, _, _, _, _, _, _, _, _, _, _, _, _, _, _, _, _, _, _, _, _, _, _, _, _, _, _, _, _, _, .pointer (some ⟨g1, 0, none⟩), .slice a9 F c9, .string SF, .pointer (some ⟨g2, 0, none⟩), .slice a10 F c10, .string SF, _, _, _, _, _, _, _, _, _, _, _, _], defers := _ } _
          refine alongK_read (.bool true) rfl rfl (fun wx hS => ex_eqs rfl (by rfl) (by rfl) wx) ?_
          change AlongK _ _ _ _ _ { tmps := #[.slice a ls.length cap, _, _, .pointer (some ⟨g1, 0, none⟩), .pointer (some ⟨g2, 0, none⟩), _, _, .slice a8 ls.length c8, .int .i64 F, _, _, _, _, _, _, _, _, _, _, _, _, _, _, _, _, _, _, _, _, _, _, _, _, _, _, _, _, _, _, _, _, .pointer (some ⟨g1, 0, none⟩), .slice a9 F c9, .string SF, .pointer (some ⟨g2, 0, none⟩), .slice a10 F c10, .string SF, .bool true, _, _, _, _, _, _, _, _, _, _, _], defers := _ } _
          refine alongK_read (.bool true) rfl rfl (fun wx hS => ex_move (by rfl) (by rfl) wx) ?_
          change AlongK _ _ _ _ _ { tmps := #[.slice a ls.length cap, _, _, .pointer (some ⟨g1, 0, none⟩), .pointer (some ⟨g2, 0, none⟩), _, _, .slice a8 ls.length c8, .int .i64 F, _, _, _, _, _, _, _, _, _, _, _, _, _, _, _, _, _, _, _, _, _, _, _, _, _, _, _, _, _, _, _, _, .pointer (some ⟨g1, 0, none⟩), .slice a9 F c9, .string SF, .pointer (some ⟨g2, 0, none⟩), .slice a10 F c10, .string SF, .bool true, .bool true, _, _, _, _, _, _, _, _, _, _], defers := _ } _
          refine alongK_read (.slice a8 ls.length c8) rfl rfl (fun wx hS => ex_move (by rfl) (by rfl) wx) ?_
          change AlongK _ _ _ _ _ { tmps := #[.slice a ls.length cap, _, _, .pointer (some ⟨g1, 0, none⟩), .pointer (some ⟨g2, 0, none⟩), _, _, .slice a8 ls.length c8, .int .i64 F, _, _, _, _, _, _, _, _, _, _, _, _, _, _, _, _, _, _, _, _, _, _, _, _, _, _, _, _, _, _, _, _, .pointer (some ⟨g1, 0, none⟩), .slice a9 F c9, .string SF, .pointer (some ⟨g2, 0, none⟩), .slice a10 F c10, .string SF, .bool true, .bool true, .slice a8 ls.length c8, _, _, _, _, _, _, _, _, _], defers := _ } _
          refine alongK_read (.slice a ls.length cap) rfl rfl (fun wx hS => ex_move (by rfl) (by rfl) wx) ?_
          change AlongK _ _ _ _ _ { tmps := #[.slice a ls.length cap, _, _, .pointer (some ⟨g1, 0, none⟩), .pointer (some ⟨g2, 0, none⟩), _, _, .slice a8 ls.length c8, .int .i64 F, _, _, _, _, _, _, _, _, _, _, _, _, _, _, _, _, _, _, _, _, _, _, _, _, _, _, _, _, _, _, _, _, .pointer (some ⟨g1, 0, none⟩), .slice a9 F c9, .string SF, .pointer (some ⟨g2, 0, none⟩), .slice a10 F c10, .string SF, .bool true, .bool true, .slice a8 ls.length c8, .slice a ls.length cap, _, _, _, _, _, _, _, _], defers := _ } _
          refine alongK_step ?_
          refine opK_call (vs := [.slice a8 ls.length c8, .slice a ls.length cap]) rfl rfl rfl (enters_of Try.func10 (by kernel_rfl) rfl) rfl ?_
          with_reducible refine Calls.mono (HL.out _ (Up.trans P9.out P10.out)) ?_
          rintro e w11 ⟨rfl, l2⟩
          have P11 := Lib.hid l2
          clear l2
          refine ⟨_, rfl, (fun x => Up w11 x), (fun x hx => Up.trans P11.out hx), Up.refl w11, ?_⟩
          change AlongK _ _ _ _ _ { tmps := #[.slice a ls.length cap, _, _, .pointer (some ⟨g1, 0, none⟩), .pointer (some ⟨g2, 0, none⟩), _, _, .slice a8 ls.length c8, .int .i64 F, _, _, _, _, _, _, _, _, _, _, _, _, _, _, _, _, _, _, _, _, _, _, _, _, _, _, _, _, _, _, _, _, .pointer (some ⟨g1, 0, none⟩), .slice a9 F c9, .string SF, .pointer (some ⟨g2, 0, none⟩), .slice a10 F c10, .string SF, .bool true, .bool true, .slice a8 ls.length c8, .slice a ls.length cap, .bool true, _, _, _, _, _, _, _], defers := _ } _
          refine alongK_read (.bool true) rfl rfl (fun wx hS => ex_pickt rfl (by rfl) (by rfl) wx) ?_
          change AlongK _ _ _ _ _ { tmps := #[.slice a ls.length cap, _, _, .pointer (some ⟨g1, 0, none⟩), .pointer (some ⟨g2, 0, none⟩), _, _, .slice a8 ls.length c8, .int .i64 F, _, _, _, _, _, _, _, _, _, _, _, _, _, _, _, _, _, _, _, _, _, _, _, _, _, _, _, _, _, _, _, _, .pointer (some ⟨g1, 0, none⟩), .slice a9 F c9, .string SF, .pointer (some ⟨g2, 0, none⟩), .slice a10 F c10, .string SF, .bool true, .bool true, .slice a8 ls.length c8, .slice a ls.length cap, .bool true, .bool true, _, _, _, _, _, _], defers := _ } _
          refine alongK_read (.bool true) rfl rfl (fun wx hS => ex_move (by rfl) (by rfl) wx) ?_
          change AlongK _ _ _ _ _ { tmps := #[.slice a ls.length cap, _, _, .pointer (some ⟨g1, 0, none⟩), .pointer (some ⟨g2, 0, none⟩), _, _, .slice a8 ls.length c8, .int .i64 F, _, _, _, _, _, _, _, _, _, _, _, _, _, _, _, _, _, _, _, _, _, _, _, _, _, _, _, _, _, _, _, _, .pointer (some ⟨g1, 0, none⟩), .slice a9 F c9, .string SF, .pointer (some ⟨g2, 0, none⟩), .slice a10 F c10, .string SF, .bool true, .bool true, .slice a8 ls.length c8, .slice a ls.length cap, .bool true, .bool true, .bool true, _, _, _, _, _], defers := _ } _
          refine alongK_read (.int .i64 F) rfl rfl (fun wx hS => ex_move (by rfl) (by rfl) wx) ?_
          change AlongK _ _ _ _ _ { tmps := #[.slice a ls.length cap, _, _, .pointer (some ⟨g1, 0, none⟩), .pointer (some ⟨g2, 0, none⟩), _, _, .slice a8 ls.length c8, .int .i64 F, _, _, _, _, _, _, _, _, _, _, _, _, _, _, _, _, _, _, _, _, _, _, _, _, _, _, _, _, _, _, _, _, .pointer (some ⟨g1, 0, none⟩), .slice a9 F c9, .string SF, .pointer (some ⟨g2, 0, none⟩), .slice a10 F c10, .string SF, .bool true, .bool true, .slice a8 ls.length c8, .slice a ls.length cap, .bool true, .bool true, .bool true, .int .i64 F, _, _, _, _], defers := _ } _
          refine alongK_read (.pointer (some ⟨g1, 0, none⟩)) rfl rfl (fun wx hS => ex_move (by rfl) (by rfl) wx) ?_
          change AlongK _ _ _ _ _ { tmps := #[.slice a ls.length cap, _, _, .pointer (some ⟨g1, 0, none⟩), .pointer (some ⟨g2, 0, none⟩), _, _, .slice a8 ls.length c8, .int .i64 F, _, _, _, _, _, _, _, _, _, _, _, _, _, _, _, _, _, _, _, _, _, _, _, _, _, _, _, _, _, _, _, _, .pointer (some ⟨g1, 0, none⟩), .slice a9 F c9, .string SF, .pointer (some ⟨g2, 0, none⟩), .slice a10 F c10, .string SF, .bool true, .bool true, .slice a8 ls.length c8, .slice a ls.length cap, .bool true, .bool true, .bool true, .int .i64 F, .pointer (some ⟨g1, 0, none⟩), _, _, _], defers := _ } _
          refine alongK_step ?_
          refine opK_call (vs := [.pointer (some ⟨g1, 0, none⟩)]) rfl rfl rfl (enters_of Try.func18 (by kernel_rfl) rfl) rfl ?_
          with_reducible refine Calls.mono (HS8.out _ (Up.trans (Up.trans P9.out P10.out) P11.out)) ?_
          rintro e w12 ⟨rfl, rfl⟩
          refine ⟨_, rfl, (fun x => Up w11 x), (fun x hx => hx), Up.refl w11, ?_⟩
          change AlongK _ _ _ _ _ { tmps := #[.slice a ls.length cap, _, _, .pointer (some ⟨g1, 0, none⟩), .pointer (some ⟨g2, 0, none⟩), _, _, .slice a8 ls.length c8, .int .i64 F, _, _, _, _, _, _, _, _, _, _, _, _, _, _, _, _, _, _, _, _, _, _, _, _, _, _, _, _, _, _, _, _, .pointer (some ⟨g1, 0, none⟩), .slice a9 F c9, .string SF, .pointer (some ⟨g2, 0, none⟩), .slice a10 F c10, .string SF, .bool true, .bool true, .slice a8 ls.length c8, .slice a ls.length cap, .bool true, .bool true, .bool true, .int .i64 F, .pointer (some ⟨g1, 0, none⟩), .int .i64 F, _, _], defers := _ } _
          refine alongK_read (.bool true) rfl rfl (fun wx hS => ex_eqi rfl (by rfl) (by rfl) (by simp) wx) ?_
          change AlongK _ _ _ _ _ { tmps := #[.slice a ls.length cap, _, _, .pointer (some ⟨g1, 0, none⟩), .pointer (some ⟨g2, 0, none⟩), _, _, .slice a8 ls.length c8, .int .i64 F, _, _, _, _, _, _, _, _, _, _, _, _, _, _, _, _, _, _, _, _, _, _, _, _, _, _, _, _, _, _, _, _, .pointer (some ⟨g1, 0, none⟩), .slice a9 F c9, .string SF, .pointer (some ⟨g2, 0, none⟩), .slice a10 F c10, .string SF, .bool true, .bool true, .slice a8 ls.length c8, .slice a ls.length cap, .bool true, .bool true, .bool true, .int .i64 F, .pointer (some ⟨g1, 0, none⟩), .int .i64 F, .bool true, _], defers := _ } _
          refine alongK_read (.bool true) rfl rfl (fun wx hS => ex_pickt rfl (by rfl) (by rfl) wx) ?_
          change AlongK _ _ _ _ _ { tmps := #[.slice a ls.length cap, _, _, .pointer (some ⟨g1, 0, none⟩), .pointer (some ⟨g2, 0, none⟩), _, _, .slice a8 ls.length c8, .int .i64 F, _, _, _, _, _, _, _, _, _, _, _, _, _, _, _, _, _, _, _, _, _, _, _, _, _, _, _, _, _, _, _, _, .pointer (some ⟨g1, 0, none⟩), .slice a9 F c9, .string SF, .pointer (some ⟨g2, 0, none⟩), .slice a10 F c10, .string SF, .bool true, .bool true, .slice a8 ls.length c8, .slice a ls.length cap, .bool true, .bool true, .bool true, .int .i64 F, .pointer (some ⟨g1, 0, none⟩), .int .i64 F, .bool true, .bool true], defers := _ } _
          refine alongK_read (.bool true) rfl rfl (fun wx hS => ex_assign (by rfl) (by rfl) wx) ?_
          change AlongK _ _ _ _ _ { tmps := #[.slice a ls.length cap, _, .bool true, .pointer (some ⟨g1, 0, none⟩), .pointer (some ⟨g2, 0, none⟩), _, _, .slice a8 ls.length c8, .int .i64 F, _, _, _, _, _, _, _, _, _, _, _, _, _, _, _, _, _, _, _, _, _, _, _, _, _, _, _, _, _, _, _, _, .pointer (some ⟨g1, 0, none⟩), .slice a9 F c9, .string SF, .pointer (some ⟨g2, 0, none⟩), .slice a10 F c10, .string SF, .bool true, .bool true, .slice a8 ls.length c8, .slice a ls.length cap, .bool true, .bool true, .bool true, .int .i64 F, .pointer (some ⟨g1, 0, none⟩), .int .i64 F, .bool true, .bool true], defers := _ } _
          refine alongK_done ?_
          go_wp2
          go_ret
          exact ⟨rfl, Up.trans U8.out (Up.trans (Up.trans P9.out P10.out) P11.out)⟩
    · have hE : dkAppE 262144 [] (frames ls) = 17 := if_neg (by simpa using hle)
      have hB : dkApp 262144 [] (frames ls) = [] := if_neg (by simpa using hle)
      rw [hE, hB] at Hw
      clear hs hE hB hle
      go_wp2_with fail
      with_reducible refine Calls.mono Hw.out ?_
      rintro e w4 ⟨rfl, o4, h4, s4⟩
      have Hsz := Lib.hid (dkSize_any w4 h4)
      have U4 := Lib.hid (K3.out.next s4 U3.out)
      clear h4 s4
      go_wp2_with fail
      with_reducible refine Calls.mono Hsz.out ?_
      rintro e w5 ⟨rfl, rfl⟩
      go_wp2
      go_ret
      exact ⟨rfl, U4.out⟩
  · have Hw := Lib.hid (jnWrite_long _ ls w3 K3.out U3.out.size HvF.out (by omega) (fun k => by have := Hx.out k; omega) hs)
    clear hs
    go_wp2_with fail
    with_reducible refine Calls.mono Hw.out ?_
    rintro e w4 ⟨rfl, o4, h4, s4⟩
    have Hsz := Lib.hid (dkSize_any w4 h4)
    have U4 := Lib.hid (K3.out.next s4 U3.out)
    clear h4 s4
    go_wp2_with fail
    with_reducible refine Calls.mono Hsz.out ?_
    rintro e w5 ⟨rfl, rfl⟩
    go_wp2
    go_ret
    exact ⟨rfl, U4.out⟩
end
end Go.Proofs.Ytaepdmmlejdifaa
