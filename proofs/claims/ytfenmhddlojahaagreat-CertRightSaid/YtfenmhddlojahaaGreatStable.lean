import Derived.Test.YtfenmhddlojahaaGreatStSym3
namespace Go.Proofs.YtfenmhddlojahaaGreat
/-
  The sort of statements that keeps the order of what has one signer, whole.
-/
section
set_option maxRecDepth 100000
section
set_option linter.unusedVariables false
open Go.RowKit Go.Sort Go.Lib

def layIns_ren : Go.Shelf.Ren := ⟨fun | 20 => 129 | n => n, fun | 0 => 0 | 3 => 3 | 4 => 4 | 22 => 22 | 25 => 104 | 24 => 49 | n => n, fun | n => n⟩
theorem layIns : Go.Proofs.SlLaysF0.n20 Tryz.prog layIns_ren := {
  mixed := by kernel_rfl
  f20 := ⟨Tryz.f129.name, by kernel_rfl, Tryz.func129.trans (congrArg some (by kernel_rfl))⟩
  t0 := Tryz.underlying0
  a0 := Tryz.isAgg0
  z0 := Tryz.sizeOf0
  v0 := Tryz.zeroValue0
  t3 := Tryz.underlying3
  a3 := Tryz.isAgg3
  z3 := Tryz.sizeOf3
  v3 := Tryz.zeroValue3
  t4 := Tryz.underlying4
  a4 := Tryz.isAgg4
  z4 := Tryz.sizeOf4
  v4 := Tryz.zeroValue4
  t22 := Tryz.underlying22
  a22 := Tryz.isAgg22
  z22 := Tryz.sizeOf22
  v22 := Tryz.zeroValue22
  t25 := Tryz.underlying104
  a25 := Tryz.isAgg104
  z25 := Tryz.sizeOf104
  v25 := Tryz.zeroValue104 }

theorem insertion_any {w0 : World} {blk off : Nat} {d0 : Array Vs} (R : RowK vsC 7 w0 blk off d0) (n cap a b : Nat) (hn : n = d0.size) (hsz : n < 4611686018427387904) (hab : a ≤ b) (hb : b ≤ n) (d : Array Vs) (hdn : d.size = n) (w : World) (S : SW w0 blk off d w) :
    Calls Tryz.prog 129 #[.slice (some ⟨blk, off, none⟩) n cap, .int .i64 (a : Nat), .int .i64 (b : Nat), .func (.func 70) #[] #[]] w fun e w' => e = .returned (.tuple #[]) ∧ ∃ d' : Array Vs, SW w0 blk off d' w' ∧ MgIn vsK a b d d' := by
  subst hdn
  have hO := keyLt_swo (α := Vs) vsK
  have hp := insertionSort_holds hO d a b hab hb
  have hC : CmpLays Tryz.prog 70 #[] vsC 7 vsCmp blk off d.size w := fun m os dk hdk x y => cmp_grow x y _
  have h := AnyQ.insertionSortCmpFunc layIns 7 Tryz.isAgg49 Tryz.sizeOf49 vsC R.hk R.h1 vsCmp 70 #[] blk off cap a b d w
    (enters_of Tryz.func70 (by kernel_rfl) rfl) hC (S.holds R.hblk R.hH hn) (S.lt R.hblk) hab hb hsz
  rw [ltOf_vs] at h
  refine Calls.mono h ?_
  rintro e w' ⟨rfl, q, os, rfl⟩
  exact ⟨rfl, _, S.on R.hblk q _ os hp.1.1, ⟨hp.1.2.1, hp.2, insertionSort_alike vsK a b d hb⟩⟩

theorem symMerge_any {w0 : World} {blk off : Nat} {d0 : Array Vs} (R : RowK vsC 7 w0 blk off d0) (n cap : Nat) (hn : n = d0.size) (hsz : n < 4611686018427387904) :
    ∀ (N : Nat) (P U V T : List Vs) (a m b : Nat) (d : Array Vs) (w : World), U.length + V.length ≤ N → 0 < U.length → 0 < V.length → a = P.length → m = a + U.length → b = m + V.length → Srt vsK U → Srt vsK V → d.toList = P ++ (U ++ (V ++ T)) → d.size = n → SW w0 blk off d w → SymAt w0 blk off n cap P U V T a m b d w
  | 0, P, U, V, T, a, m, b, d, w, h, hU, hV, _, _, _, _, _, _, _, _ => by omega
  | N + 1, P, U, V, T, a, m, b, d, w, h, hU, hV, ha, hm, hb, sU, sV, hd, hdn, S => by
    by_cases h1 : U.length = 1
    · obtain ⟨x, rfl⟩ := List.length_eq_one_iff.1 h1
      have e : (m : Int) = (a : Int) + 1 := by simp at hm; omega
      unfold SymAt
      rw [e]
      exact sym_left R n cap a b hn hsz P V T x ha (by simp at hm; omega) sV hV d hd hdn w S
    · by_cases h2 : V.length = 1
      · obtain ⟨y, rfl⟩ := List.length_eq_one_iff.1 h2
        have e : (b : Int) = (m : Int) + 1 := by simp at hb; omega
        unfold SymAt
        rw [e]
        exact sym_right R n cap a m hn hsz P U T y ha hm sU (by omega) d hd hdn w S
      · by_cases hw : (a + b) / 2 < m
        · exact sym_many R n cap a m b ((a + b) / 2) ((a + b) / 2 + m) ((a + b) / 2 + m - b) ((a + b) / 2) ((a + b) / 2 + m - 1) hn hsz P U V T ha hm hb sU sV d hd hdn w S
            ⟨by omega, by omega, by omega, rfl, by omega, .inl ⟨hw, rfl, rfl⟩⟩
            (fun P' U' V' T' a' m' b' d' w' hl hU' hV' ha' hm' hb' sU' sV' hd' hdn' S' => symMerge_any R n cap hn hsz N P' U' V' T' a' m' b' d' w' (by omega) hU' hV' ha' hm' hb' sU' sV' hd' hdn' S')
        · exact sym_many R n cap a m b ((a + b) / 2) ((a + b) / 2 + m) a m ((a + b) / 2 + m - 1) hn hsz P U V T ha hm hb sU sV d hd hdn w S
            ⟨by omega, by omega, by omega, rfl, by omega, .inr ⟨by omega, rfl, rfl⟩⟩
            (fun P' U' V' T' a' m' b' d' w' hl hU' hV' ha' hm' hb' sU' sV' hd' hdn' S' => symMerge_any R n cap hn hsz N P' U' V' T' a' m' b' d' w' (by omega) hU' hV' ha' hm' hb' sU' sV' hd' hdn' S')

theorem symMerge_in {w0 : World} {blk off : Nat} {d0 : Array Vs} (R : RowK vsC 7 w0 blk off d0) (n cap a m b : Nat) (hn : n = d0.size) (hsz : n < 4611686018427387904) (ham : a < m) (hmb : m < b) (hb : b ≤ n) (d : Array Vs) (hdn : d.size = n)
    (s1 : SortedIn (keyLt vsK) a m d) (s2 : SortedIn (keyLt vsK) m b d) (w : World) (S : SW w0 blk off d w) :
    Calls Tryz.prog 130 #[.slice (some ⟨blk, off, none⟩) n cap, .int .i64 (a : Nat), .int .i64 (m : Nat), .int .i64 (b : Nat), .func (.func 70) #[] #[]] w fun e w' => e = .returned (.tuple #[]) ∧ ∃ d' : Array Vs, SW w0 blk off d' w' ∧ MgIn vsK a b d d' := by
  obtain ⟨P, U, V, T, hd, lP, lU, lV⟩ := cut_three (d := d) (a := a) (m := m) (b := b) (by omega) (by omega) (by omega)
  have sU : Srt vsK U := srt_of_in vsK hd (by rw [lP, lU, show a + (m - a) = m by omega]; exact s1)
  have sV : Srt vsK V := srt_of_in vsK (P := P ++ U) (M := V) (S := T) (by rw [hd]; simp) (by rw [List.length_append, lP, lU, lV, show a + (m - a) = m by omega, show m + (b - m) = b by omega]; exact s2)
  have h := symMerge_any R n cap hn hsz (U.length + V.length) P U V T a m b d w (Nat.le_refl _) (by omega) (by omega) lP.symm (by omega) (by omega) sU sV hd hdn S
  unfold SymAt at h
  refine Calls.mono h ?_
  rintro e w' ⟨rfl, d', hS, M, hl, hm⟩
  refine ⟨rfl, d', hS, ?_⟩
  have := mgIn_of vsK hd hl hm
  rwa [lP, lU, lV, show a + (m - a + (b - m)) = b by omega] at this
end
end

/-
  slices.SortStableFunc of statements by their signers: sorted, and of each signer the same ones in the same order.
-/
section
set_option maxRecDepth 100000
section
set_option linter.unusedVariables false
open Go.RowKit Go.Sort Go.Lib

theorem dvd_step {k x a : Nat} (h1 : k ∣ x) (h2 : k ∣ a) (h : x < a) : x + k ≤ a := by
  have := Nat.le_of_dvd (by omega) (Nat.dvd_sub h2 h1)
  omega
/-- stretches of so many, each sorted -/
structure Chunks (n bs : Nat) (d dk : Array Vs) : Prop where
  pos : 1 ≤ bs
  le : bs ≤ 2 * n + 20
  size : dk.size = n
  alk : Alike vsK dk.toList d.toList
  srt : ∀ x, bs ∣ x → SortedIn (keyLt vsK) x (min n (x + bs)) dk
/-- .. on the way: up to a of the double length -/
structure Pass (n bs a : Nat) (d dk : Array Vs) : Prop where
  dvd : 2 * bs ∣ a
  le : a ≤ n
  size : dk.size = n
  alk : Alike vsK dk.toList d.toList
  old : ∀ x, 2 * bs ∣ x → x < a → SortedIn (keyLt vsK) x (x + 2 * bs) dk
  new : ∀ x, bs ∣ x → a ≤ x → SortedIn (keyLt vsK) x (min n (x + bs)) dk
theorem Chunks.start {n bs : Nat} {d dk : Array Vs} (h : Chunks n bs d dk) : Pass n bs 0 d dk :=
  ⟨Nat.dvd_zero _, Nat.zero_le _, h.size, h.alk, fun x _ hx => absurd hx (Nat.not_lt_zero _), fun x hx _ => h.srt x hx⟩
theorem Pass.next {n bs a : Nat} {d dk dk' : Array Vs} (h : Pass n bs a d dk) (hb : 1 ≤ bs) (hn : a + 2 * bs ≤ n) (m : MgIn vsK a (a + 2 * bs) dk dk') : Pass n bs (a + 2 * bs) d dk' := by
  refine ⟨Nat.dvd_add h.dvd (Nat.dvd_refl _), hn, by rw [m.size, h.size], m.alk.trans vsK h.alk, fun x hx hl => ?_, fun x hx hl => in_kept vsK m.out (h.new x hx (by omega)) (.inr hl)⟩
  by_cases hxa : x < a
  · exact in_kept vsK m.out (h.old x hx hxa) (.inl (dvd_step hx h.dvd hxa))
  · by_cases hxe : x = a
    · subst hxe; exact m.srt
    · have := dvd_step h.dvd hx (by omega); omega
theorem Pass.done {n bs a : Nat} {d dk dk' : Array Vs} (h : Pass n bs a d dk) (hb : 1 ≤ bs) (hbn : bs < n) (hn : n < a + 2 * bs) (m : MgIn vsK a n dk dk') : Chunks n (bs * 2) d dk' := by
  refine ⟨by omega, by omega, by rw [m.size, h.size], m.alk.trans vsK h.alk, fun x hx => ?_⟩
  rw [Nat.mul_comm] at hx
  by_cases hxa : x < a
  · have := dvd_step hx h.dvd hxa
    rw [show min n (x + bs * 2) = x + 2 * bs by have := h.le; omega]
    exact in_kept vsK m.out (h.old x hx hxa) (.inl this)
  · by_cases hxe : x = a
    · subst hxe; rw [show min n (x + bs * 2) = n by omega]; exact m.srt
    · have := dvd_step h.dvd hx (by omega)
      intro i j h1 h2 h3; omega
theorem Pass.rest {n bs a : Nat} {d dk : Array Vs} (h : Pass n bs a d dk) (hb : 1 ≤ bs) (hbn : bs < n) (hn : n ≤ a + bs) : Chunks n (bs * 2) d dk := by
  refine ⟨by omega, by omega, h.size, h.alk, fun x hx => ?_⟩
  rw [Nat.mul_comm] at hx
  by_cases hxa : x < a
  · rw [show min n (x + bs * 2) = x + 2 * bs by have := h.le; have := dvd_step hx h.dvd hxa; omega]
    exact h.old x hx hxa
  · by_cases hxe : x = a
    · subst hxe
      have := h.new x (Nat.dvd_trans (Nat.dvd_mul_left bs 2) h.dvd) (Nat.le_refl _)
      rw [show min n (x + bs) = n by omega] at this
      rw [show min n (x + bs * 2) = n by omega]; exact this
    · have := dvd_step h.dvd hx (by omega)
      intro i j h1 h2 h3; omega
/-- the first pass, by insertion -/
structure Laid20 (n a : Nat) (d dk : Array Vs) : Prop where
  dvd : 20 ∣ a
  le : a ≤ n
  size : dk.size = n
  alk : Alike vsK dk.toList d.toList
  old : ∀ x, 20 ∣ x → x < a → SortedIn (keyLt vsK) x (x + 20) dk
theorem Laid20.next {n a : Nat} {d dk dk' : Array Vs} (h : Laid20 n a d dk) (hn : a + 20 ≤ n) (m : MgIn vsK a (a + 20) dk dk') : Laid20 n (a + 20) d dk' := by
  have hd := h.dvd
  refine ⟨by omega, hn, by rw [m.size, h.size], m.alk.trans vsK h.alk, fun x hx hl => ?_⟩
  by_cases hxa : x < a
  · exact in_kept vsK m.out (h.old x hx hxa) (.inl (by omega))
  · obtain rfl : x = a := by omega
    exact m.srt
theorem Laid20.done {n a : Nat} {d dk dk' : Array Vs} (h : Laid20 n a d dk) (hn : n < a + 20) (m : MgIn vsK a n dk dk') : Chunks n 20 d dk' := by
  have hd := h.dvd
  have hl := h.le
  refine ⟨by omega, by omega, by rw [m.size, h.size], m.alk.trans vsK h.alk, fun x hx => ?_⟩
  by_cases hxa : x < a
  · rw [show min n (x + 20) = x + 20 by omega]
    exact in_kept vsK m.out (h.old x hx hxa) (.inl (by omega))
  · by_cases hxe : x = a
    · subst hxe; rw [show min n (x + 20) = n by omega]; exact m.srt
    · intro i j h1 h2 h3; omega

set_option maxHeartbeats 4000000 in
theorem stableCmp_any {w0 : World} {blk off : Nat} {d0 : Array Vs} (R : RowK vsC 7 w0 blk off d0) (n cap : Nat) (hn : n = d0.size) (hsz : n < 4611686018427387904 / 2) (d : Array Vs) (hdn : d.size = n) (w : World) (S : SW w0 blk off d w) :
    Calls Tryz.prog 100 #[.slice (some ⟨blk, off, none⟩) n cap, .int .i64 (n : Nat), .func (.func 70) #[] #[]] w fun e w' => e = .returned (.tuple #[]) ∧ ∃ d' : Array Vs, SW w0 blk off d' w' ∧ MgIn vsK 0 n d d' := by
  have HS0 := Lib.hid S
  have HI : Hid (∀ (a b : Nat) (dk : Array Vs) (w : World), a ≤ b → b ≤ n → dk.size = n → SW w0 blk off dk w → Calls Tryz.prog 129 #[.slice (some ⟨blk, off, none⟩) n cap, .int .i64 (a : Nat), .int .i64 (b : Nat), .func (.func 70) #[] #[]] w fun e w' => e = .returned (.tuple #[]) ∧ ∃ d' : Array Vs, SW w0 blk off d' w' ∧ MgIn vsK a b dk d') :=
    fun a b dk w h1 h2 h3 hS => insertion_any R n cap a b hn (by omega) h1 h2 dk h3 w hS
  have HM : Hid (∀ (a m b : Nat) (dk : Array Vs) (w : World), a < m → m < b → b ≤ n → dk.size = n → SortedIn (keyLt vsK) a m dk → SortedIn (keyLt vsK) m b dk → SW w0 blk off dk w → Calls Tryz.prog 130 #[.slice (some ⟨blk, off, none⟩) n cap, .int .i64 (a : Nat), .int .i64 (m : Nat), .int .i64 (b : Nat), .func (.func 70) #[] #[]] w fun e w' => e = .returned (.tuple #[]) ∧ ∃ d' : Array Vs, SW w0 blk off d' w' ∧ MgIn vsK a b dk d') :=
    fun a m b dk w h1 h2 h3 h4 s1 s2 hS => symMerge_in R n cap a m b hn (by omega) h1 h2 h3 dk h4 s1 s2 w hS
  have H0 : Hid (Laid20 n 0 d d) := ⟨by omega, by omega, hdn, Alike.refl vsK _, fun x _ hx => absurd hx (Nat.not_lt_zero _)⟩
  have HD := Lib.hid hdn
  clear S hdn hn
  go_enter Tryz.func100, Tryz.ntmps100
  go_wp2
  go_loopw [7, 8] (fun va vb wr => ∃ a b : Nat, ∃ dk : Array Vs, va = .int .i64 (a : Nat) ∧ vb = .int .i64 (b : Nat) ∧ b = a + 20 ∧ a ≤ n ∧ Hid (SW w0 blk off dk wr) ∧ Hid (Laid20 n a d dk))
    (fun va _ _ => n - (intOf va).toNat)
  case atStart => exact ⟨0, 20, d, rfl, rfl, rfl, Nat.zero_le _, HS0, H0⟩
  case round =>
    obtain ⟨a, b, dk, rfl, rfl, hb, han, HS, HL⟩ := hrel
    by_cases hle : b ≤ n
    · have hz : (b : Int) ≤ (n : Int) := by omega
      have w1 : IntKind.i64.wrap ((b : Int) + 20) = (b : Int) + 20 := by rw [IntKind.wrap_i64]; omega
      have Hc := Lib.hid (HI.out a b dk wr (by omega) hle HL.out.size HS.out)
      have HB := Lib.hid hb
      clear hb
      go_wp2_with fail
      with_reducible refine Calls.mono Hc.out ?_
      rintro e w2 ⟨rfl, d', hS, hm⟩
      have HS2 := Lib.hid hS
      have HM2 := Lib.hid hm
      clear hS hm
      go_wp2
      go_roundw
      case rel => exact ⟨b, b + 20, d', rfl, by go_num, rfl, hle, HS2, Lib.hid (by have h1 := HB.out; have h2 := HM2.out; rw [h1] at h2 ⊢; exact HL.out.next (by omega) h2)⟩
      case measure => have := HB.out; simp [intOf]; omega
    · have hz : ¬ (b : Int) ≤ (n : Int) := by omega
      have Hc := Lib.hid (HI.out a n dk wr han (Nat.le_refl _) HL.out.size HS.out)
      have HB := Lib.hid hb
      clear hb
      go_wp2_with fail
      with_reducible refine Calls.mono Hc.out ?_
      rintro e w2 ⟨rfl, d', hS, hm⟩
      have HS2 := Lib.hid hS
      have HC2 : Hid (Chunks n 20 d d') := HL.out.done (by have := HB.out; omega) hm
      clear hS hm Hc HL HS
      go_wp2
      go_loopw [6] (fun vs wr => ∃ bs : Nat, ∃ dk : Array Vs, vs = .int .i64 (bs : Nat) ∧ 1 ≤ bs ∧ bs ≤ 2 * n + 20 ∧ Hid (SW w0 blk off dk wr) ∧ Hid (Chunks n bs d dk))
        (fun vs _ => 2 * n + 20 - (intOf vs).toNat)
      case atStart => exact ⟨20, d', rfl, by omega, by omega, HS2, HC2⟩
      case round =>
        obtain ⟨bs, dk, rfl, hb1, hb2, HS, HC⟩ := hrel
        by_cases hbn : bs < n
        · have hz2 : (bs : Int) < (n : Int) := by omega
          have w2 : IntKind.i64.wrap (2 * (bs : Int)) = 2 * (bs : Int) := by rw [IntKind.wrap_i64]; omega
          have w3 : IntKind.i64.wrap ((bs : Int) * 2) = (bs : Int) * 2 := by rw [IntKind.wrap_i64]; omega
          go_wp2
          go_loopw [7, 8] (fun va vb wr => ∃ a b : Nat, ∃ dk : Array Vs, va = .int .i64 (a : Nat) ∧ vb = .int .i64 (b : Nat) ∧ b = a + 2 * bs ∧ a ≤ n ∧ Hid (SW w0 blk off dk wr) ∧ Hid (Pass n bs a d dk))
            (fun va _ _ => n - (intOf va).toNat)
          case atStart => exact ⟨0, 2 * bs, dk, rfl, by congr 1, by omega, Nat.zero_le _, HS, HC.out.start⟩
          case round =>
            obtain ⟨a, b, dk, rfl, rfl, hb, han, HS, HP⟩ := hrel
            obtain ⟨mm, hmm⟩ : ∃ mm, mm = a + bs := ⟨_, rfl⟩
            have w4 : IntKind.i64.wrap ((a : Int) + bs) = (mm : Int) := by rw [IntKind.wrap_i64]; omega
            have HB := Lib.hid hb
            by_cases hle : b ≤ n
            · have hz : (b : Int) ≤ (n : Int) := by omega
              have w1 : IntKind.i64.wrap ((b : Int) + 2 * bs) = (b : Int) + 2 * bs := by rw [IntKind.wrap_i64]; omega
              have hdv := Nat.dvd_trans (Nat.dvd_mul_left bs 2) HP.out.dvd
              have Hc := Lib.hid (HM.out a mm b dk wr (by omega) (by omega) hle HP.out.size (by have := HP.out.new a hdv (Nat.le_refl _); rwa [show min n (a + bs) = mm by omega] at this) (by rw [hmm]; have := HP.out.new (a + bs) (Nat.dvd_add hdv (Nat.dvd_refl _)) (by omega); rwa [show min n (a + bs + bs) = b by omega] at this) HS.out)
              have HMM := Lib.hid hmm
              clear hb hdv hmm
              go_wp2_with fail
              with_reducible refine Calls.mono Hc.out ?_
              rintro e w2 ⟨rfl, d', hS, hm⟩
              have HS2 := Lib.hid hS
              have HM2 := Lib.hid hm
              clear hS hm
              go_wp2
              go_roundw
              case rel => exact ⟨b, b + 2 * bs, d', rfl, by go_num, rfl, hle, HS2, Lib.hid (by have h1 := HB.out; have h2 := HM2.out; rw [h1] at h2 ⊢; exact HP.out.next hb1 (by omega) h2)⟩
              case measure => have := HB.out; simp [intOf]; omega
            · have hz : ¬ (b : Int) ≤ (n : Int) := by omega
              by_cases hmn : mm < n
              · have hz3 : (mm : Int) < (n : Int) := by omega
                have hdv := Nat.dvd_trans (Nat.dvd_mul_left bs 2) HP.out.dvd
                have Hc := Lib.hid (HM.out a mm n dk wr (by omega) hmn (Nat.le_refl _) HP.out.size (by have := HP.out.new a hdv (Nat.le_refl _); rwa [show min n (a + bs) = mm by omega] at this) (by rw [hmm]; have := HP.out.new (a + bs) (Nat.dvd_add hdv (Nat.dvd_refl _)) (by omega); rwa [show min n (a + bs + bs) = n by omega] at this) HS.out)
                have HMM := Lib.hid hmm
                clear hb hdv hmm
                go_wp2_with fail
                with_reducible refine Calls.mono Hc.out ?_
                rintro e w2 ⟨rfl, d', hS, hm⟩
                have HS2 := Lib.hid hS
                have HC3 := Lib.hid (HP.out.done hb1 hbn (by have := HB.out; omega) hm)
                clear hS hm
                go_wp2
                go_roundw
                case rel => exact ⟨bs * 2, d', by go_num, by omega, by omega, HS2, HC3⟩
                case measure => simp [intOf]; omega
              · have hz3 : ¬ (mm : Int) < (n : Int) := by omega
                have HC3 := Lib.hid (HP.out.rest hb1 hbn (by omega))
                clear hb hmm
                go_wp2
                go_roundw
                case rel => exact ⟨bs * 2, dk, by go_num, by omega, by omega, HS, HC3⟩
                case measure => simp [intOf]; omega
        · have hz2 : ¬ (bs : Int) < (n : Int) := by omega
          go_wp2
          go_end0
          refine ⟨rfl, dk, HS.out, fun i hi => ?_, ?_, HC.out.alk⟩
          · have h1 := HC.out.size
            have h2 := HD.out
            have e1 : dk[i]? = none := Array.getElem?_eq_none (by omega)
            have e2 : d[i]? = none := Array.getElem?_eq_none (by omega)
            simp [Array.getElem!_eq_getD, Array.getD_eq_getD_getElem?, e1, e2]
          · have := HC.out.srt 0 (Nat.dvd_zero _)
            rwa [show min n (0 + bs) = n by omega] at this

theorem sortStable_any {w0 : World} {blk off : Nat} {d : Array Vs} (R : RowK vsC 7 w0 blk off d) (cap : Nat) (hsz : d.size < 4611686018427387904 / 2) :
    Calls Tryz.prog 69 #[.slice (some ⟨blk, off, none⟩) d.size cap, .func (.func 70) #[] #[]] w0 fun e w' => e = .returned (.tuple #[]) ∧ ∃ d' : Array Vs, SW w0 blk off d' w' ∧ Srt vsK d'.toList ∧ Alike vsK d'.toList d.toList := by
  have Hc := Lib.hid (stableCmp_any R d.size cap rfl hsz d rfl w0 (SWK.start R.hH))
  generalize hn : d.size = n at Hc ⊢
  have HN := Lib.hid hn
  clear hn
  go_enter Tryz.func69, Tryz.ntmps69
  go_wp2_with fail
  with_reducible refine Calls.mono Hc.out ?_
  rintro e w2 ⟨rfl, d', hS, hm⟩
  have HS2 := Lib.hid hS
  have HM2 := Lib.hid hm
  clear hS hm
  go_wp2
  go_end0
  refine ⟨rfl, d', HS2.out, srt_of_in vsK (d := d') (P := []) (M := d'.toList) (S := []) (by simp) ?_, HM2.out.alk⟩
  have h1 := HM2.out.srt
  have h2 := HM2.out.size
  have h3 := HN.out
  rw [show ([] : List Vs).length = 0 from rfl, show 0 + d'.toList.length = n by simp; omega]
  exact h1
end
end
end Go.Proofs.YtfenmhddlojahaaGreat
