import Derived.Laws.EntriesVeiled
import Derived.Test.YtfenmhddlojahaaGreatSgNew
import Derived.Test.YtfenmhddlojahaaGreatOct
import Derived.Test.YtfenmhddlojahaaGreatMkPlain
namespace Go.Proofs.YtfenmhddlojahaaGreat
/-
  signer: what Verify takes off a signature, piece by piece.
-/
section
set_option maxRecDepth 100000
section
set_option linter.unusedVariables false
open Go.RowKit

theorem strOfNums_drop (zs : List Int) (k : Nat) : (strOfNums zs).extract k (strOfNums zs).size = strOfNums (zs.drop k) := by
  apply ByteArray.ext
  rw [strOfNums_size]
  simp [strOfNums, ByteArray.data_extract, List.map_drop]
  rw [List.take_of_length_le (by simp)]

/-- the text that is left, in its box -/
def Left (B : Nat) (zs : List Int) (W : World) : Prop := W.heap[B]? = some (.cells #[.string (strOfNums zs)] 9 (0, 0))
/-- the box of the function that takes -/
def Taker (C B : Nat) (W : World) : Prop := W.heap[C]? = some (.cells #[.func (.func 104) #[] #[.pointer (some ⟨B, 0, none⟩)]] 138 (0, 0))

set_option maxHeartbeats 1000000 in
theorem cutOff_any (B : Nat) (zs : List Int) (n : Nat) (W : World) (hn : n ≤ zs.length) (hl : zs.length ≤ 9223372036854775807) (hB : Left B zs W) :
    Calls Tryz.prog 104 #[.int .i64 n, .pointer (some ⟨B, 0, none⟩)] W fun e W' => e = .returned (.string (strOfNums (zs.take n))) ∧ Left B (zs.drop n) W' ∧ W.grownBy W' (some B) := by
  have E1 := Lib.hid (strOfNums_take zs n)
  have E2 := Lib.hid (strOfNums_drop zs n)
  have hs : (n : Int) ≤ ((strOfNums zs).size : Int) := by rw [strOfNums_size]; omega
  have hs2 : n ≤ (strOfNums zs).size := by rw [strOfNums_size]; omega
  have hcell := cell_of_one hB
  have hfree := free_of_one hB
  have HB := Lib.hid hB
  have hset : Hid (∀ u, (W.setCell ⟨B, 0, none⟩ u).heap[B]? = some (.cells #[u] 9 (0, 0))) := fun u => one_setCell hB
  unfold Left
  rw [← E1.out, ← E2.out]
  clear hn hl hB
  generalize strOfNums zs = S at *
  go_enter Tryz.func104, Tryz.ntmps104
  go_wp2
  go_ret
  exact ⟨rfl, hset.out _, grownBy_setCell W ⟨B, 0, none⟩ _⟩

set_option maxHeartbeats 1000000 in
theorem takeSum_any (B C : Nat) (zs : List Int) (k : Int) (W : World) (hn : 8 ≤ zs.length) (hl : zs.length ≤ 9223372036854775807) (hB : Left B zs W) (hC : Taker C B W) :
    Calls Tryz.prog 105 #[.int .i64 k, .pointer (some ⟨C, 0, none⟩)] W fun e W' => e = .returned (.string (strOfNums (zs.take 8))) ∧ Left B (zs.drop 8) W' ∧ W.grownBy W' (some B) := by
  have Ht := Lib.hid (cutOff_any B zs 8 W hn hl hB)
  have hcell := cell_of_one hC
  clear hn hl hB hC
  go_enter Tryz.func105, Tryz.ntmps105
  go_wp2_with fail
  with_reducible refine Calls.mono Ht.out ?_
  rintro e w1 ⟨rfl, h1, h2⟩
  have H1 := Lib.hid h1
  have H2 := Lib.hid h2
  clear h1 h2
  go_wp2
  go_ret
  exact ⟨rfl, H1.out, H2.out⟩

theorem enterTakeSum (args : Array Value) (wx : World) : (callFunc 105 args).run Tryz.prog wx = .ok (.enter 105 args) wx :=
  run_enter Tryz.func105 (by kernel_rfl) (by kernel_rfl) args wx

/-- a piece of eight octets -/
def pieceB (sig : List Int) (p : Nat) : List Int := (sig.drop p).take 8

/-- so many pieces, one behind the other -/
theorem pieces_any (sig : List Int) (p n B C : Nat) (w : World) (hn : n ≤ 100) (hp : p + 8 * n ≤ sig.length) (hl : sig.length ≤ 9223372036854775807) (hB : Left B (sig.drop p) w) (hC : Taker C B w) (hne : B ≠ C) :
    Calls Tryz.prog 107 #[.int .i64 n, .func (.func 105) #[] #[.pointer (some ⟨C, 0, none⟩)]] w fun e w' => ∃ v, e = .returned v ∧ w'.ownsRow w.heap.size 9 1 v n (strVs (upTo (fun i => pieceB sig (p + 8 * i)) n)) ∧ Left B (sig.drop (p + 8 * n)) w' ∧ Taker C B w' ∧ w.grownBy w' (some B) := by
  have hBlt := lt_of_block hB
  have hClt := lt_of_block hC
  refine (texts_told 105 #[.pointer (some ⟨C, 0, none⟩)] n (fun i => pieceB sig (p + 8 * i)) (fun k W => Left B (sig.drop (p + 8 * k)) W ∧ Taker C B W) (some B) w hn enterTakeSum (fun q e => by cases e; exact hBlt) ⟨by simpa using hB, hC⟩ ?_ ?_).mono ?_
  · intro k W W' row ⟨h1, h2⟩ hg hq
    exact ⟨(hg.block B (lt_of_block h1) (fun e => by have := hq _ e.symm; omega)).trans h1, (hg.block C (lt_of_block h2) (fun e => by have := hq _ e.symm; omega)).trans h2⟩
  · intro k W hk ⟨h1, h2⟩ hs
    refine (takeSum_any B C (sig.drop (p + 8 * k)) k W (by rw [List.length_drop]; omega) (by rw [List.length_drop]; omega) h1 h2).mono fun e W' ⟨h3, h4, h5⟩ => ⟨h3, ⟨?_, (h5.block C (lt_of_block h2) (fun e => hne (by simpa using e.symm))).trans h2⟩, h5⟩
    rw [List.drop_drop] at h4
    rw [show p + 8 * (k + 1) = p + 8 * k + 8 from by omega]
    exact h4
  · intro e w' ⟨v, h1, h2, ⟨h3, h4⟩, h5⟩
    exact ⟨v, h1, h2, h3, h4, h5⟩
end
end

/-
  signer: Verify.
-/
section
set_option maxRecDepth 100000
section
set_option linter.unusedVariables false
open Go.RowKit

def sigLeaf (sig : List Int) : Int := getB (sig.take 2)
def sigParts (sig : List Int) : List (List Int) := upTo (fun i => pieceB sig (2 + 8 * i)) 11
def sigPath (sig : List Int) (h : Nat) : List (List Int) := upTo (fun i => pieceB sig (90 + 8 * i)) h
/-- IT IS A SIGNATURE of that text, by that root and height. -/
def GoodSig (root : ByteArray) (h : Int) (text sig : List Int) : Prop :=
  0 ≤ h ∧ h ≤ 4 ∧ (sig.length : Int) = 90 + 8 * h ∧ sigLeaf sig < ((2 ^ h.toNat : Nat) : Int) ∧ strOfNums (climbB (openB text (sigParts sig)) (sigLeaf sig).toNat (sigPath sig h.toNat)) = root
/-- what Verify answers -/
def SigTold (root : ByteArray) (h : Int) (text sig : List Int) (w : World) (e : Ending) (w' : World) : Prop :=
  (∃ (a : Int) (ok : Bool), e = .returned (.tuple #[.int .i64 a, .bool ok]) ∧ (GoodSig root h text sig → a = sigLeaf sig ∧ ok = true) ∧ (¬ GoodSig root h text sig → a = 0 ∧ ok = false)) ∧ Up w w'
theorem SigTold.no {root : ByteArray} {h : Int} {text sig : List Int} {w : World} {w' : World} (hn : ¬ GoodSig root h text sig) (hu : Up w w') : SigTold root h text sig w (.returned (.tuple #[.int .i64 0, .bool false])) w' :=
  ⟨⟨0, false, rfl, fun h => absurd h hn, fun _ => ⟨rfl, rfl⟩⟩, hu⟩
theorem SigTold.yes {root : ByteArray} {h : Int} {text sig : List Int} {w : World} {w' : World} (hn : GoodSig root h text sig) (hu : Up w w') : SigTold root h text sig w (.returned (.tuple #[.int .i64 (sigLeaf sig), .bool true])) w' :=
  ⟨⟨_, true, rfl, fun _ => ⟨rfl, rfl⟩, fun h => absurd hn h⟩, hu⟩

theorem upTo_all (f : Nat → List Int) (n : Nat) (P : List Int → Prop) (h0 : P []) (h : ∀ i, i < n → P (f i)) : ∀ k : Nat, P ((upTo f n)[k]?.getD []) := by
  intro k
  by_cases hk : k < n
  · rw [show (upTo f n)[k]?.getD [] = f k from by simp [upTo, hk]]; exact h k hk
  · rw [List.getElem?_eq_none (by rw [upTo_length]; omega)]; exact h0
theorem pieceB_u8s (sig : List Int) (h : U8s sig) (p : Nat) : U8s (pieceB sig p) := (h.drop p).take 8
theorem pieceB_le (sig : List Int) (p : Nat) : (pieceB sig p).length ≤ 8 := by unfold pieceB; rw [List.length_take]; omega
theorem parts_u8s (sig : List Int) (h : U8s sig) : ∀ k : Nat, U8s ((sigParts sig)[k]?.getD []) := upTo_all _ _ U8s (fun j hj => by simp at hj) fun i _ => pieceB_u8s sig h _
theorem path_fits (sig : List Int) (h : U8s sig) (n : Nat) : Fits (sigPath sig n) := upTo_all _ _ (fun l => U8s l ∧ l.length ≤ 140737488351232) ⟨fun j hj => by simp at hj, by simp⟩ fun i _ => ⟨pieceB_u8s sig h _, by have := pieceB_le sig (90 + 8 * i); omega⟩
theorem openB_small (text : List Int) (ls : List (List Int)) : U8s (openB text ls) ∧ (openB text ls).length ≤ 8 := by
  unfold openB
  split
  · exact ⟨shortB_u8s _, by rw [shortB_length]; omega⟩
  · exact ⟨fun j hj => by simp at hj, by simp⟩

set_option maxHeartbeats 1000000 in
theorem verify_range (root : ByteArray) (h : Int) (v : Value) (text : List Int) (sig : List Int) (w : World) (hv : Ints .u8 w v text) (hh : h < 0 ∨ 4 < h) :
    Calls Tryz.prog 78 #[.string root, .int .i64 h, v, .string (strOfNums sig)] w (SigTold root h text sig w) := by
  have hno : ¬ GoodSig root h text sig := fun ⟨h1, h2, _⟩ => by omega
  have Hno := Lib.hid hno
  have Hm := Lib.hid (mayBe_no h w hh)
  obtain ⟨a, cap, rfl, _, _, _⟩ := hv
  clear hh hno
  go_enter Tryz.func78, Tryz.ntmps78
  go_wp2_with fail
  with_reducible refine Calls.mono Hm.out ?_
  rintro e w1 ⟨rfl, rfl⟩
  go_wp2
  go_ret2
  exact SigTold.no Hno.out (Up.refl _)

set_option maxHeartbeats 1000000 in
theorem verify_size (root : ByteArray) (h : Nat) (v : Value) (text : List Int) (sig : List Int) (w : World) (hv : Ints .u8 w v text) (h4 : h ≤ 4) (hl : sig.length ≠ 90 + 8 * h) (hl2 : sig.length ≤ 9223372036854775807) :
    Calls Tryz.prog 78 #[.string root, .int .i64 h, v, .string (strOfNums sig)] w (SigTold root h text sig w) := by
  have hno : ¬ GoodSig root h text sig := fun ⟨h1, h2, h3, _⟩ => by omega
  have Hno := Lib.hid hno
  have Hm := Lib.hid (mayBe_yes h w (by omega) (by omega))
  have Hs := Lib.hid (size_yes h w h4)
  obtain ⟨n, hn⟩ : ∃ n, 90 + 8 * h = n := ⟨_, rfl⟩
  rw [hn] at Hs hl
  have hs1 : (((strOfNums sig).size : Int) == (n : Int)) = false := by rw [strOfNums_size, beq_eq_false_iff_ne]; omega
  have hs2 : (((strOfNums sig).size : Int) != (n : Int)) = true := by rw [bne, hs1]; rfl
  have hs3 : ¬ (strOfNums sig).size = n := by rw [strOfNums_size]; exact hl
  obtain ⟨a, cap, rfl, _, _, _⟩ := hv
  clear hno hl hn
  go_enter Tryz.func78, Tryz.ntmps78
  go_wp2_with fail
  with_reducible refine Calls.mono Hm.out ?_
  rintro e w1 ⟨rfl, rfl⟩
  go_wp2_with fail
  with_reducible refine Calls.mono Hs.out ?_
  rintro e w1 ⟨rfl, rfl⟩
  go_wp2
  go_ret2
  exact SigTold.no Hno.out (Up.refl _)

theorem left_new (w : World) (sig : List Int) (o : Obj) : Left w.heap.size sig ((w.alloc (.cells #[.string (strOfNums sig)] 9)).alloc o) := heap_alloc2_old w _ _
theorem taker_new (w : World) (o : Obj) (B : Nat) : Taker (w.heap.size + 1) B ((w.alloc o).alloc (.cells #[.func (.func 104) #[] #[.pointer (some ⟨B, 0, none⟩)]] 138)) := heap_alloc2_new w _ _
theorem Left.up {B : Nat} {zs : List Int} {W W' : World} (h : Left B zs W) (hu : Up W W') : Left B zs W' := (hu.block B (lt_of_block h)).trans h
theorem Taker.up {C B : Nat} {W W' : World} (h : Taker C B W) (hu : Up W W') : Taker C B W' := (hu.block C (lt_of_block h)).trans h
theorem Taker.grown {C B D : Nat} {W W' : World} (h : Taker C B W) (hg : W.grownBy W' (some D)) (hne : C ≠ D) : Taker C B W' := (hg.block C (lt_of_block h) (fun e => hne (by simpa using e))).trans h

set_option maxHeartbeats 4000000 in
theorem verify_long (root : ByteArray) (h : Nat) (v : Value) (text : List Int) (sig : List Int) (w : World) (hv : Ints .u8 w v text) (hut : U8s text) (hlt : text.length ≤ 140737488355328) (hu : U8s sig) (h4 : h ≤ 4) (hl : sig.length = 90 + 8 * h) :
    Calls Tryz.prog 78 #[.string root, .int .i64 h, v, .string (strOfNums sig)] w (SigTold root h text sig w) := by
  have Hm := Lib.hid (mayBe_yes h w (by omega) (by omega))
  have Hs := Lib.hid (size_yes h w h4)
  have Hlv : Hid (∀ wx, Calls Tryz.prog 108 #[.int .i64 h] wx fun e w' => e = .returned (.int .i64 ((2 ^ h : Nat) : Int)) ∧ wx = w') := fun wx => leavesOf_any h wx h4
  have hlb : sig.length ≤ 9223372036854775807 := by omega
  have Hcut : Hid (∀ wx : World, Left w.heap.size sig wx → Calls Tryz.prog 104 #[.int .i64 2, .pointer (some ⟨w.heap.size, 0, none⟩)] wx fun e W' => e = .returned (.string (strOfNums (sig.take 2))) ∧ Left w.heap.size (sig.drop 2) W' ∧ wx.grownBy W' (some w.heap.size)) := fun wx hB => cutOff_any _ sig 2 wx (by omega) hlb hB
  have Hp11 : Hid (∀ wx : World, Left w.heap.size (sig.drop 2) wx → Taker (w.heap.size + 1) w.heap.size wx → Calls Tryz.prog 107 #[.int .i64 11, .func (.func 105) #[] #[.pointer (some ⟨w.heap.size + 1, 0, none⟩)]] wx fun e w' => ∃ v, e = .returned v ∧ w'.ownsRow wx.heap.size 9 1 v 11 (strVs (sigParts sig)) ∧ Left w.heap.size (sig.drop 90) w' ∧ Taker (w.heap.size + 1) w.heap.size w' ∧ wx.grownBy w' (some w.heap.size)) := fun wx hB hC => pieces_any sig 2 11 _ _ wx (by omega) (by omega) hlb hB hC (by omega)
  have Hph : Hid (∀ wx : World, Left w.heap.size (sig.drop 90) wx → Taker (w.heap.size + 1) w.heap.size wx → Calls Tryz.prog 107 #[.int .i64 h, .func (.func 105) #[] #[.pointer (some ⟨w.heap.size + 1, 0, none⟩)]] wx fun e w' => ∃ v, e = .returned v ∧ w'.ownsRow wx.heap.size 9 1 v h (strVs (sigPath sig h)) ∧ Left w.heap.size (sig.drop (90 + 8 * h)) w' ∧ Taker (w.heap.size + 1) w.heap.size w' ∧ wx.grownBy w' (some w.heap.size)) := fun wx hB hC => pieces_any sig 90 h _ _ wx (by omega) (by omega) hlb hB hC (by omega)
  have Hconv : Hid (∀ wx : World, ∃ a c w', (convert 9 31 (.string (strOfNums (sig.take 2)))).run Tryz.prog wx = .ok (.slice a 2 c) w' ∧ Ints .u8 w' (.slice a 2 c) (sig.take 2) ∧ Up wx w') := fun wx => by
    have := conv_str (sig.take 2) (hu.take 2) wx
    rwa [show (sig.take 2).length = 2 from by rw [List.length_take]; omega] at this
  have Hget : Hid (∀ (u : Value) (wx : World), Ints .u8 wx u (sig.take 2) → Calls Tryz.prog 106 #[u] wx fun e w' => e = .returned (.int .i64 (sigLeaf sig)) ∧ wx = w') := fun u wx hi => get_any u (sig.take 2) wx hi (hu.take 2) (by rw [List.length_take]; omega)
  have hL0 := getB_range (sig.take 2)
  have hL1 : 0 ≤ sigLeaf sig := hL0.1
  have hL2 : sigLeaf sig ≤ 9223372036854775807 := by have := hL0.2; unfold sigLeaf; omega
  have Hopen : Hid (∀ (pv : Value) (wx : World), Up w wx → Strs wx pv (sigParts sig) → Calls Tryz.prog 110 #[v, pv] wx fun e w' => e = .returned (.string (strOfNums (openB text (sigParts sig)))) ∧ Up wx w') := fun pv wx hx hp => open_any v text pv _ wx (hv.up hx) hut hlt hp (parts_u8s sig hu) (by unfold sigParts; rw [upTo_length]; omega)
  have Hclimb : Hid (∀ (pv : Value) (wx : World), Strs wx pv (sigPath sig h) → Calls Tryz.prog 109 #[.string (strOfNums (openB text (sigParts sig))), .int .i64 (sigLeaf sig), pv] wx fun e w' => e = .returned (.string (strOfNums (climbB (openB text (sigParts sig)) (sigLeaf sig).toNat (sigPath sig h)))) ∧ Up wx w') := fun pv wx hp => climb_any _ (sigLeaf sig) pv _ wx ⟨(openB_small _ _).1, by have := (openB_small text (sigParts sig)).2; omega⟩ hp (path_fits sig hu h) (by unfold sigPath; rw [upTo_length]; omega) (by omega)
  have Hgood : Hid (GoodSig root h text sig ↔ (sigLeaf sig < ((2 ^ h : Nat) : Int) ∧ strOfNums (climbB (openB text (sigParts sig)) (sigLeaf sig).toNat (sigPath sig h)) = root)) := by
    show _ ↔ _
    unfold GoodSig
    rw [Int.toNat_natCast]
    constructor
    · exact fun ⟨_, _, _, h4, h5⟩ => ⟨h4, h5⟩
    · exact fun ⟨h4', h5⟩ => ⟨by omega, by omega, by omega, h4', h5⟩
  have Hyes : Hid (∀ w', GoodSig root h text sig → Up w w' → SigTold root h text sig w (.returned (.tuple #[.int .i64 (sigLeaf sig), .bool true])) w') := fun w' => SigTold.yes
  have Hno : Hid (∀ w', ¬ GoodSig root h text sig → Up w w' → SigTold root h text sig w (.returned (.tuple #[.int .i64 0, .bool false])) w') := fun w' => SigTold.no
  have Hp0 : Hid ((sigParts sig).length = 11) := upTo_length _ _
  have Hp1 : Hid ((sigPath sig h).length = h) := upTo_length _ _
  obtain ⟨n, hn⟩ : ∃ n, 2 ^ h = n := ⟨_, rfl⟩
  obtain ⟨sz, hsz⟩ : ∃ n, 90 + 8 * h = n := ⟨_, rfl⟩
  rw [hn] at Hlv Hgood
  rw [hsz] at Hs
  have hs1 : (((strOfNums sig).size : Int) == (sz : Int)) = true := by rw [strOfNums_size, beq_iff_eq]; omega
  have hs2 : (((strOfNums sig).size : Int) != (sz : Int)) = false := by rw [bne, hs1]; rfl
  have hs3 : (strOfNums sig).size = sz := by rw [strOfNums_size]; omega
  obtain ⟨a, cap, rfl, _, _, _⟩ := hv
  generalize SigTold root h text sig w = POST at Hyes Hno ⊢
  generalize GoodSig root h text sig = GOOD at Hyes Hno Hgood
  generalize sigLeaf sig = LF at *
  generalize strOfNums (climbB (openB text (sigParts sig)) LF.toNat (sigPath sig h)) = CL at Hgood Hclimb
  have Hs3 := Lib.hid hs3
  clear hut hlt hu hl hlb hL0 hn hsz hs3
  go_enter Tryz.func78, Tryz.ntmps78
  go_wp2_with fail
  with_reducible refine Calls.mono Hm.out ?_
  rintro e w1 ⟨rfl, rfl⟩
  go_wp2_with fail
  with_reducible refine Calls.mono Hs.out ?_
  rintro e w1 ⟨rfl, rfl⟩
  go_wp2_with fail
  with_reducible refine Calls.mono (Hcut.out _ (left_new w sig _)) ?_
  rintro e w2 ⟨rfl, hl2, hg2⟩
  have hT2 := (taker_new w (.cells #[.string (strOfNums sig)] 9) w.heap.size).grown hg2 (by omega)
  have hU2 := up_at (Up.alloc (Up.alloc (Up.refl w) _) _) hg2 (Nat.le_refl _)
  obtain ⟨a2, c2, w3, hcv, hi3, hu3⟩ := Hconv.out w2
  have HL3 := Lib.hid (hl2.up hu3)
  have HT3 := Lib.hid (hT2.up hu3)
  have HU3 := Lib.hid (Up.trans hU2 hu3)
  have HI3 := Lib.hid hi3
  clear hl2 hg2 hT2 hU2 hi3 hu3
  go_wp2_with fail
  with_reducible refine Calls.mono (Hget.out _ _ HI3.out) ?_
  rintro e w4 ⟨rfl, rfl⟩
  clear hcv
  go_wp2_with fail
  with_reducible refine Calls.mono (Hp11.out _ HL3.out HT3.out) ?_
  rintro e w5 ⟨v5, rfl, hr5, hl5, hT5, hg5⟩
  obtain ⟨g5, c5, rfl, _⟩ := row_slice hr5 (by omega)
  have HR5 := Lib.hid hr5
  have HL5 := Lib.hid hl5
  have HT5 := Lib.hid hT5
  have HU5 := Lib.hid (up_at HU3.out hg5 (Nat.le_refl _))
  have HW3 : Hid (w.heap.size < w3.heap.size) := by
    have := lt_of_block HL3.out
    exact this
  clear hr5 hl5 hT5 hg5 HI3
  go_wp2_with fail
  with_reducible refine Calls.mono (Hph.out _ HL5.out HT5.out) ?_
  rintro e w6 ⟨v6, rfl, hr6, hl6, hT6, hg6⟩
  have HS5 := Lib.hid (Strs.of_row (HR5.out.kept hg6 (row_off HR5.out (fun q e => by cases e; exact HW3.out))))
  have HS6 := Lib.hid (Strs.of_row hr6)
  have HU6 := Lib.hid (up_at HU5.out hg6 (Nat.le_refl _))
  obtain ⟨a6, c6, rfl, _, _, _⟩ := Strs.of_row hr6
  clear hr6 hl6 hT6 hg6 HR5 HL5 HT5
  go_wp2_with fail
  with_reducible refine Calls.mono (Hlv.out _) ?_
  rintro e w7 ⟨rfl, rfl⟩
  by_cases hlt : LF < (n : Int)
  · have hlt2 : ¬ (n : Int) ≤ LF := by omega
    have Hlt := Lib.hid hlt
    clear hlt
    go_wp2_with fail
    with_reducible refine Calls.mono (Hopen.out _ _ HU6.out HS5.out) ?_
    rintro e w8 ⟨rfl, hU8⟩
    have HS8 := Lib.hid (HS6.out.up hU8)
    have HU8 := Lib.hid (Up.trans HU6.out hU8)
    clear hU8
    go_wp2_with fail
    with_reducible refine Calls.mono (Hclimb.out _ _ HS8.out) ?_
    rintro e w9 ⟨rfl, hU9⟩
    have HU9 := Lib.hid (Up.trans HU8.out hU9)
    clear hU9
    by_cases heq : CL = root
    · have Hg := Lib.hid (Hgood.out.2 ⟨Hlt.out, heq⟩)
      subst heq
      go_wp2
      exact Hyes.out _ Hg.out HU9.out
    · have hng : ¬ GOOD := fun h => heq (Hgood.out.1 h).2
      have Hng := Lib.hid hng
      clear hng
      have heq2 : (CL.toList == root.toList) = false := by
        rw [beq_eq_false_iff_ne]
        exact fun h => heq (toList_inj h)
      go_wp2
      exact Hno.out _ Hng.out HU9.out
  · have hlt2 : (n : Int) ≤ LF := by omega
    have hng : ¬ GOOD := fun h => hlt (Hgood.out.1 h).1
    have Hng := Lib.hid hng
    clear hlt hng
    go_wp2
    exact Hno.out _ Hng.out HU6.out

/-- Verify, of whatever comes in -/
theorem verify_any (root : ByteArray) (h : Int) (v : Value) (text : List Int) (sig : List Int) (w : World) (hv : Ints .u8 w v text) (hut : U8s text) (hlt : text.length ≤ 140737488355328) (hu : U8s sig) (hl : sig.length ≤ 9223372036854775807) :
    Calls Tryz.prog 78 #[.string root, .int .i64 h, v, .string (strOfNums sig)] w (SigTold root h text sig w) := by
  by_cases hh : h < 0 ∨ 4 < h
  · exact verify_range root h v text sig w hv hh
  · obtain ⟨n, rfl⟩ : ∃ n : Nat, h = n := ⟨h.toNat, by omega⟩
    by_cases hs : sig.length = 90 + 8 * n
    · exact verify_long root n v text sig w hv hut hlt hu (by omega) hs
    · exact verify_size root n v text sig w hv (by omega) hs hl
end
end
end Go.Proofs.YtfenmhddlojahaaGreat
