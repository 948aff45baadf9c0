import Derived.Test.YtnnjoeppcbbblaaStSym3
/-
  The sort of statements that keeps the order of what has one signer, whole.
-/
namespace Go.Proofs.Ytnnjoeppcbbblaa
set_option maxRecDepth 100000
section
set_option linter.unusedVariables false
open Go.RowKit Go.Sort Go.Lib

def layIns_ren : Go.Shelf.Ren := ⟨fun | 20 => 42 | n => n, fun | 0 => 0 | 3 => 3 | 4 => 4 | 22 => 22 | 25 => 47 | 24 => 38 | n => n, fun | n => n⟩
theorem layIns : Go.Proofs.SlLaysF0.n20 Try.prog layIns_ren := {
  mixed := by kernel_rfl
  f20 := ⟨Try.f42.name, by kernel_rfl, Try.func42.trans (congrArg some (by kernel_rfl))⟩
  t0 := Try.underlying0
  a0 := Try.isAgg0
  z0 := Try.sizeOf0
  v0 := Try.zeroValue0
  t3 := Try.underlying3
  a3 := Try.isAgg3
  z3 := Try.sizeOf3
  v3 := Try.zeroValue3
  t4 := Try.underlying4
  a4 := Try.isAgg4
  z4 := Try.sizeOf4
  v4 := Try.zeroValue4
  t22 := Try.underlying22
  a22 := Try.isAgg22
  z22 := Try.sizeOf22
  v22 := Try.zeroValue22
  t25 := Try.underlying47
  a25 := Try.isAgg47
  z25 := Try.sizeOf47
  v25 := Try.zeroValue47 }

theorem insertion_any {w0 : World} {blk off : Nat} {d0 : Array Vs} (R : RowK vsC 7 w0 blk off d0) (n cap a b : Nat) (hn : n = d0.size) (hsz : n < 4611686018427387904) (hab : a ≤ b) (hb : b ≤ n) (d : Array Vs) (hdn : d.size = n) (w : World) (S : SW w0 blk off d w) :
    Calls Try.prog 42 #[.slice (some ⟨blk, off, none⟩) n cap, .int .i64 (a : Nat), .int .i64 (b : Nat), .func (.func 21) #[] #[]] w fun e w' => e = .returned (.tuple #[]) ∧ ∃ d' : Array Vs, SW w0 blk off d' w' ∧ MgIn vsK a b d d' := by
  subst hdn
  have hO := keyLt_swo (α := Vs) vsK
  have hp := insertionSort_holds hO d a b hab hb
  have hC : CmpLays Try.prog 21 #[] vsC 7 vsCmp blk off d.size w := fun m os dk hdk x y => cmp_grow x y _
  have h := AnyQ.insertionSortCmpFunc layIns 7 Try.isAgg38 Try.sizeOf38 vsC R.hk R.h1 vsCmp 21 #[] blk off cap a b d w
    (enters_of Try.func21 (by kernel_rfl) rfl) hC (S.holds R.hblk R.hH hn) (S.lt R.hblk) hab hb hsz
  rw [ltOf_vs] at h
  refine Calls.mono h ?_
  rintro e w' ⟨rfl, q, os, rfl⟩
  exact ⟨rfl, _, S.on R.hblk q _ os hp.1.1, ⟨hp.1.2.1, hp.2, insertionSort_alike vsK a b d hb⟩⟩

theorem symMerge_any {w0 : World} {blk off : Nat} {d0 : Array Vs} (R : RowK vsC 7 w0 blk off d0) (n cap : Nat) (hn : n = d0.size) (hsz : n < 4611686018427387904) :
    ∀ (N : Nat) (P U V T : List Vs) (a m b : Nat) (d : Array Vs) (w : World), U.length + V.length ≤ N → 0 < U.length → 0 < V.length → a = P.length → m = a + U.length → b = m + V.length → Srt vsK U → Srt vsK V → d.toList = P ++ (U ++ (V ++ T)) → d.size = n → SW w0 blk off d w → SymAt w0 blk off n cap P U V T a m b d w
  | 0, P, U, V, T, a, m, b, d, w, h, hU, hV, _, _, _, _, _, _, _, _ => by omega
  | N + 1, P, U, V, T, a, m, b, d, w, h, hU, hV, ha, hm, hb, sU, sV, hd, hdn, S => by
    by_cases h1 : U.length = 1
    · obtain ⟨x, rfl⟩ := List.length_eq_one_iff.1 h1
      have e : (m : Int) = (a : Int) + 1 := by simp at hm; omega
      unfold SymAt
      rw [e]
      exact sym_left R n cap a b hn hsz P V T x ha (by simp at hm; omega) sV hV d hd hdn w S
    · by_cases h2 : V.length = 1
      · obtain ⟨y, rfl⟩ := List.length_eq_one_iff.1 h2
        have e : (b : Int) = (m : Int) + 1 := by simp at hb; omega
        unfold SymAt
        rw [e]
        exact sym_right R n cap a m hn hsz P U T y ha hm sU (by omega) d hd hdn w S
      · by_cases hw : (a + b) / 2 < m
        · exact sym_many R n cap a m b ((a + b) / 2) ((a + b) / 2 + m) ((a + b) / 2 + m - b) ((a + b) / 2) ((a + b) / 2 + m - 1) hn hsz P U V T ha hm hb sU sV d hd hdn w S
            ⟨by omega, by omega, by omega, rfl, by omega, .inl ⟨hw, rfl, rfl⟩⟩
            (fun P' U' V' T' a' m' b' d' w' hl hU' hV' ha' hm' hb' sU' sV' hd' hdn' S' => symMerge_any R n cap hn hsz N P' U' V' T' a' m' b' d' w' (by omega) hU' hV' ha' hm' hb' sU' sV' hd' hdn' S')
        · exact sym_many R n cap a m b ((a + b) / 2) ((a + b) / 2 + m) a m ((a + b) / 2 + m - 1) hn hsz P U V T ha hm hb sU sV d hd hdn w S
            ⟨by omega, by omega, by omega, rfl, by omega, .inr ⟨by omega, rfl, rfl⟩⟩
            (fun P' U' V' T' a' m' b' d' w' hl hU' hV' ha' hm' hb' sU' sV' hd' hdn' S' => symMerge_any R n cap hn hsz N P' U' V' T' a' m' b' d' w' (by omega) hU' hV' ha' hm' hb' sU' sV' hd' hdn' S')

theorem symMerge_in {w0 : World} {blk off : Nat} {d0 : Array Vs} (R : RowK vsC 7 w0 blk off d0) (n cap a m b : Nat) (hn : n = d0.size) (hsz : n < 4611686018427387904) (ham : a < m) (hmb : m < b) (hb : b ≤ n) (d : Array Vs) (hdn : d.size = n)
    (s1 : SortedIn (keyLt vsK) a m d) (s2 : SortedIn (keyLt vsK) m b d) (w : World) (S : SW w0 blk off d w) :
    Calls Try.prog 43 #[.slice (some ⟨blk, off, none⟩) n cap, .int .i64 (a : Nat), .int .i64 (m : Nat), .int .i64 (b : Nat), .func (.func 21) #[] #[]] w fun e w' => e = .returned (.tuple #[]) ∧ ∃ d' : Array Vs, SW w0 blk off d' w' ∧ MgIn vsK a b d d' := by
  obtain ⟨P, U, V, T, hd, lP, lU, lV⟩ := cut_three (d := d) (a := a) (m := m) (b := b) (by omega) (by omega) (by omega)
  have sU : Srt vsK U := srt_of_in vsK hd (by rw [lP, lU, show a + (m - a) = m by omega]; exact s1)
  have sV : Srt vsK V := srt_of_in vsK (P := P ++ U) (M := V) (S := T) (by rw [hd]; simp) (by rw [List.length_append, lP, lU, lV, show a + (m - a) = m by omega, show m + (b - m) = b by omega]; exact s2)
  have h := symMerge_any R n cap hn hsz (U.length + V.length) P U V T a m b d w (Nat.le_refl _) (by omega) (by omega) lP.symm (by omega) (by omega) sU sV hd hdn S
  unfold SymAt at h
  refine Calls.mono h ?_
  rintro e w' ⟨rfl, d', hS, M, hl, hm⟩
  refine ⟨rfl, d', hS, ?_⟩
  have := mgIn_of vsK hd hl hm
  rwa [lP, lU, lV, show a + (m - a + (b - m)) = b by omega] at this
end
end Go.Proofs.Ytnnjoeppcbbblaa
