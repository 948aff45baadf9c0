import Derived.Laws.EntriesVeiled
import Derived.Test.YtgmicppfiapilaaDoorSgNewK
/-
  signer: what Verify takes off a signature, piece by piece.
-/
namespace Go.Proofs.YtgmicppfiapilaaDoor
set_option maxRecDepth 100000
section
set_option linter.unusedVariables false
open Go.RowKit

theorem strOfNums_drop (zs : List Int) (k : Nat) : (strOfNums zs).extract k (strOfNums zs).size = strOfNums (zs.drop k) := by
  apply ByteArray.ext
  rw [strOfNums_size]
  simp [strOfNums, ByteArray.data_extract, List.map_drop]
  rw [List.take_of_length_le (by simp)]

/-- the text that is left, in its box -/
def Left (B : Nat) (zs : List Int) (W : World) : Prop := W.heap[B]? = some (.cells #[.string (strOfNums zs)] 9 (0, 0))
/-- the box of the function that takes -/
def Taker (C B : Nat) (W : World) : Prop := W.heap[C]? = some (.cells #[.func (.func 53) #[] #[.pointer (some ⟨B, 0, none⟩)]] 59 (0, 0))

set_option maxHeartbeats 1000000 in
theorem cutOff_any (B : Nat) (zs : List Int) (n : Nat) (W : World) (hn : n ≤ zs.length) (hl : zs.length ≤ 9223372036854775807) (hB : Left B zs W) :
    Calls Tryd.prog 53 #[.int .i64 n, .pointer (some ⟨B, 0, none⟩)] W fun e W' => e = .returned (.string (strOfNums (zs.take n))) ∧ Left B (zs.drop n) W' ∧ W.grownBy W' (some B) := by
  have E1 := Lib.hid (strOfNums_take zs n)
  have E2 := Lib.hid (strOfNums_drop zs n)
  have hs : (n : Int) ≤ ((strOfNums zs).size : Int) := by rw [strOfNums_size]; omega
  have hs2 : n ≤ (strOfNums zs).size := by rw [strOfNums_size]; omega
  have hcell := cell_of_one hB
  have hfree := free_of_one hB
  have HB := Lib.hid hB
  have hset : Hid (∀ u, (W.setCell ⟨B, 0, none⟩ u).heap[B]? = some (.cells #[u] 9 (0, 0))) := fun u => one_setCell hB
  unfold Left
  rw [← E1.out, ← E2.out]
  clear hn hl hB
  generalize strOfNums zs = S at *
  go_enter Tryd.func53, Tryd.ntmps53
  go_wp2
  go_ret
  exact ⟨rfl, hset.out _, grownBy_setCell W ⟨B, 0, none⟩ _⟩

set_option maxHeartbeats 1000000 in
theorem takeSum_any (B C : Nat) (zs : List Int) (k : Int) (W : World) (hn : 8 ≤ zs.length) (hl : zs.length ≤ 9223372036854775807) (hB : Left B zs W) (hC : Taker C B W) :
    Calls Tryd.prog 54 #[.int .i64 k, .pointer (some ⟨C, 0, none⟩)] W fun e W' => e = .returned (.string (strOfNums (zs.take 8))) ∧ Left B (zs.drop 8) W' ∧ W.grownBy W' (some B) := by
  have Ht := Lib.hid (cutOff_any B zs 8 W hn hl hB)
  have hcell := cell_of_one hC
  clear hn hl hB hC
  go_enter Tryd.func54, Tryd.ntmps54
  go_wp2_with fail
  with_reducible refine Calls.mono Ht.out ?_
  rintro e w1 ⟨rfl, h1, h2⟩
  have H1 := Lib.hid h1
  have H2 := Lib.hid h2
  clear h1 h2
  go_wp2
  go_ret
  exact ⟨rfl, H1.out, H2.out⟩

theorem enterTakeSum (args : Array Value) (wx : World) : (callFunc 54 args).run Tryd.prog wx = .ok (.enter 54 args) wx :=
  run_enter Tryd.func54 (by kernel_rfl) (by kernel_rfl) args wx

/-- a piece of eight octets -/
def pieceB (sig : List Int) (p : Nat) : List Int := (sig.drop p).take 8

/-- so many pieces, one behind the other -/
theorem pieces_any (sig : List Int) (p n B C : Nat) (w : World) (hn : n ≤ 100) (hp : p + 8 * n ≤ sig.length) (hl : sig.length ≤ 9223372036854775807) (hB : Left B (sig.drop p) w) (hC : Taker C B w) (hne : B ≠ C) :
    Calls Tryd.prog 31 #[.int .i64 n, .func (.func 54) #[] #[.pointer (some ⟨C, 0, none⟩)]] w fun e w' => ∃ v, e = .returned v ∧ w'.ownsRow w.heap.size 9 1 v n (strVs (upTo (fun i => pieceB sig (p + 8 * i)) n)) ∧ Left B (sig.drop (p + 8 * n)) w' ∧ Taker C B w' ∧ w.grownBy w' (some B) := by
  have hBlt := lt_of_block hB
  have hClt := lt_of_block hC
  refine (texts_told 54 #[.pointer (some ⟨C, 0, none⟩)] n (fun i => pieceB sig (p + 8 * i)) (fun k W => Left B (sig.drop (p + 8 * k)) W ∧ Taker C B W) (some B) w hn enterTakeSum (fun q e => by cases e; exact hBlt) ⟨by simpa using hB, hC⟩ ?_ ?_).mono ?_
  · intro k W W' row ⟨h1, h2⟩ hg hq
    exact ⟨(hg.block B (lt_of_block h1) (fun e => by have := hq _ e.symm; omega)).trans h1, (hg.block C (lt_of_block h2) (fun e => by have := hq _ e.symm; omega)).trans h2⟩
  · intro k W hk ⟨h1, h2⟩ hs
    refine (takeSum_any B C (sig.drop (p + 8 * k)) k W (by rw [List.length_drop]; omega) (by rw [List.length_drop]; omega) h1 h2).mono fun e W' ⟨h3, h4, h5⟩ => ⟨h3, ⟨?_, (h5.block C (lt_of_block h2) (fun e => hne (by simpa using e.symm))).trans h2⟩, h5⟩
    rw [List.drop_drop] at h4
    rw [show p + 8 * (k + 1) = p + 8 * k + 8 from by omega]
    exact h4
  · intro e w' ⟨v, h1, h2, ⟨h3, h4⟩, h5⟩
    exact ⟨v, h1, h2, h3, h4, h5⟩
end
end Go.Proofs.YtgmicppfiapilaaDoor
