import Derived.Test.YtfenmhddlojahaaGreatStSym1
import Derived.Test.YtfenmhddlojahaaGreatStSym2
/-
  The sort of statements: symMerge, whole.
-/
namespace Go.Proofs.YtfenmhddlojahaaGreat
set_option maxRecDepth 100000
section
set_option linter.unusedVariables false
open Go.RowKit Go.Sort Go.Lib

/-- the two ways in which a search's ends are laid -/
structure SymE (a m b mid nn lo hi p : Nat) : Prop where
  ham : a + 1 < m
  hmb : m + 1 < b
  hmid : 2 * mid ≤ a + b ∧ a + b ≤ 2 * mid + 1
  hnn : nn = mid + m
  hp : p + 1 = nn
  way : (mid < m ∧ lo = nn - b ∧ hi = mid) ∨ (m ≤ mid ∧ lo = a ∧ hi = m)
theorem SymE.at {a m b mid nn lo hi p s : Nat} (E : SymE a m b mid nn lo hi p) (h1 : lo ≤ s) (h2 : s ≤ hi) : a ≤ s ∧ s ≤ m ∧ s ≤ mid ∧ m + s ≤ nn ∧ nn ≤ b + s ∧ (s < hi → s < m ∧ m ≤ p - s ∧ p - s < b ∧ s ≤ p) := by
  have h3 := E.hmid; have h4 := E.hnn; have h5 := E.hp; have h6 := E.ham; have h7 := E.hmb
  rcases E.way with ⟨x, y, z⟩ | ⟨x, y, z⟩ <;> omega

theorem sym_cut {d : Array Vs} {P U V T : List Vs} (hd : d.toList = P ++ (U ++ (V ++ T))) {a m b mid nn lo hi p s e : Nat} (ha : a = P.length) (hm : m = a + U.length) (hb : b = m + V.length) (hU : Srt vsK U) (hV : Srt vsK V)
    (E : SymE a m b mid nn lo hi p) (C : Cut (fun c => !keyLt vsK d[p - c]! d[c]!) lo hi s s) (he : e + s = nn) {M1 M2 : List Vs} (h1 : Mgd vsK (U.take (s - a)) (V.take (e - m)) M1) (h2 : Mgd vsK (U.drop (s - a)) (V.drop (e - m)) M2) : Mgd vsK U V (M1 ++ M2) := by
  have hs := E.at C.l C.h
  have h5 := E.hp
  have h4 := E.hnn
  have aU : ∀ i x, U[i]? = some x → i < U.length ∧ x = d[a + i]! := fun i x h => by
    have hi := (List.getElem?_eq_some_iff.1 h).1
    have := bang_mid hd hi
    rw [h] at this
    exact ⟨hi, by rw [Option.some.inj this, ha]⟩
  have aV : ∀ i x, V[i]? = some x → i < V.length ∧ x = d[m + i]! := fun i x h => by
    have hi := (List.getElem?_eq_some_iff.1 h).1
    have := bang_mid (P := P ++ U) (S := T) (d := d) (by rw [hd]; simp) hi
    rw [h] at this
    exact ⟨hi, by rw [Option.some.inj this, List.length_append, ← ha, ← hm]⟩
  have q1 := List.take_append_drop (s - a) U
  have q2 := List.take_append_drop (e - m) V
  have hU' := hU
  have hV' := hV
  rw [← q1] at hU'
  rw [← q2] at hV'
  have := mgd_cut vsK hU' hV' h1 h2 (fun x y hx hy => by
    obtain ⟨g1, g2⟩ := aU _ _ (head_drop hx)
    obtain ⟨k0, hy⟩ := last_take (by omega) hy
    obtain ⟨g3, g4⟩ := aV _ _ hy
    rcases C.no with h | h
    · rcases E.way with w | w <;> omega
    · have h' : keyLt vsK d[p - s]! d[s]! = true := by simpa using h
      rw [g2, g4, show a + (s - a) = s by omega, show m + (e - m - 1) = p - s by omega]
      exact key_lt h') (fun x y hx hy => by
    obtain ⟨k0, hx⟩ := last_take (by omega) hx
    obtain ⟨g1, g2⟩ := aU _ _ hx
    obtain ⟨g3, g4⟩ := aV _ _ (head_drop hy)
    rcases C.yes with h | h
    · rcases E.way with w | w <;> omega
    · have h' : keyLt vsK d[p - (s - 1)]! d[s - 1]! = false := by simpa using h
      rw [g2, g4, show a + (s - a - 1) = s - 1 by omega, show m + (e - m) = p - (s - 1) by omega]
      exact key_ge h')
  rwa [q1, q2] at this

/-- what symMerge does -/
def SymAt (w0 : World) (blk off n cap : Nat) (P U V T : List Vs) (a m b : Int) (d : Array Vs) (w : World) : Prop :=
  Calls Tryz.prog 130 #[.slice (some ⟨blk, off, none⟩) n cap, .int .i64 a, .int .i64 m, .int .i64 b, .func (.func 70) #[] #[]] w fun e w' => e = .returned (.tuple #[]) ∧ ∃ d' : Array Vs, SW w0 blk off d' w' ∧ ∃ M : List Vs, d'.toList = P ++ (M ++ T) ∧ Mgd vsK U V M

set_option maxHeartbeats 8000000 in
theorem sym_many {w0 : World} {blk off : Nat} {d0 : Array Vs} (R : RowK vsC 7 w0 blk off d0) (n cap a m b mid nn lo hi p : Nat) (hn : n = d0.size) (hsz : n < 4611686018427387904)
    (P U V T : List Vs) (ha : a = P.length) (hm : m = a + U.length) (hb : b = m + V.length) (hU : Srt vsK U) (hV : Srt vsK V) (d : Array Vs) (hd : d.toList = P ++ (U ++ (V ++ T))) (hdn : d.size = n) (w : World) (S : SW w0 blk off d w)
    (E : SymE a m b mid nn lo hi p)
    (IH : ∀ (P' U' V' T' : List Vs) (a' m' b' : Nat) (d' : Array Vs) (w' : World), U'.length + V'.length < U.length + V.length → 0 < U'.length → 0 < V'.length → a' = P'.length → m' = a' + U'.length → b' = m' + V'.length → Srt vsK U' → Srt vsK V' → d'.toList = P' ++ (U' ++ (V' ++ T')) → d'.size = n → SW w0 blk off d' w' → SymAt w0 blk off n cap P' U' V' T' a' m' b' d' w') :
    SymAt w0 blk off n cap P U V T a m b d w := by
  unfold SymAt
  have hlen : b + T.length = n := by
    have := congrArg List.length hd
    simp at this
    omega
  have hbn : b ≤ n := by omega
  have e1 := E.ham; have e2 := E.hmb; have e3 := E.hmid; have e4 := E.hnn; have e5 := E.hp
  have w0a : IntKind.i64.wrap ((m : Int) - a) = (m : Int) - a := by rw [IntKind.wrap_i64]; omega
  have w0b : ((m : Int) - a == 1) = false := by rw [beq_eq_false_iff_ne]; omega
  have w0c : IntKind.i64.wrap ((b : Int) - m) = (b : Int) - m := by rw [IntKind.wrap_i64]; omega
  have w0d : ((b : Int) - m == 1) = false := by rw [beq_eq_false_iff_ne]; omega
  have w1 : IntKind.i64.wrap ((a : Int) + b) = (a : Int) + b := by rw [IntKind.wrap_i64]; omega
  have w2 : ((a : Int) + b) / 2 = (mid : Int) := by omega
  have w3 : IntKind.i64.wrap ((mid : Int) + m) = (nn : Int) := by rw [IntKind.wrap_i64]; omega
  have w4 : IntKind.i64.wrap ((nn : Int) - 1) = (p : Int) := by rw [IntKind.wrap_i64]; omega
  have w5 : IntKind.i64.wrap ((nn : Int) - b) = (nn : Int) - b := by rw [IntKind.wrap_i64]; omega
  have HS0 := Lib.hid S
  have HDS := Lib.hid hdn
  have Hn : Hid (d.size = d0.size) := Lib.hid (hdn.trans hn)
  have HN := Lib.hid hn
  have HL := Lib.hid hd
  have HA := Lib.hid (And.intro ha (And.intro hm hb))
  have HE := Lib.hid E
  have HIH := Lib.hid IH
  have hE5 : p + 1 ≤ n + n := by omega
  have hpn : p < 9223372036854775807 := by omega
  have hs0 : Cut (fun c => !keyLt vsK d[p - c]! d[c]!) lo hi lo hi := ⟨Nat.le_refl _, by rcases E.way with h | h <;> omega, Nat.le_refl _, .inl rfl, .inl rfl⟩
  have HC0 := Lib.hid hs0
  have hE := E.way
  have hk1 : a ≤ n := by omega
  have hk2 : m ≤ n := by omega
  have hk3 : mid ≤ n := by omega
  have hk4 : nn ≤ n + n := by omega
  have hk5 : 1 ≤ nn := by omega
  clear S hdn hn hd ha hm hb IH hs0 E e3 e4 e5 e1 e2 hlen hE5
  rcases hE with ⟨hm1, hlo, hhi⟩ | ⟨hm1, hlo, hhi⟩
  all_goals
    first
    | have hmz : (mid : Int) < (m : Int) := (by omega)
      have hloz : (nn : Int) - b = (lo : Int) := (by have h1 := HE.out.at HC0.out.l HC0.out.m; have h2 := HE.out.hmid; have h3 := HE.out.hnn; have h4 := HE.out.hmb; omega)
      have hsl : Value.int .i64 ((nn : Int) - b) = .int .i64 (lo : Int) := (by rw [hloz])
      have HSL := Lib.hid (And.intro hsl (show Value.int .i64 (mid : Int) = .int .i64 (hi : Int) by rw [hhi]))
      clear hloz hsl
    | have hmz : ¬ (mid : Int) < (m : Int) := (by omega)
      have HSL := Lib.hid (And.intro (show Value.int .i64 (a : Int) = .int .i64 (lo : Int) by rw [hlo]) (show Value.int .i64 (m : Int) = .int .i64 (hi : Int) by rw [hhi]))
    clear hm1 hlo hhi
    go_enter Tryz.func130, Tryz.ntmps130
    go_wp2
    go_loopw [20, 21] (fun vi vj wr => ∃ i j : Nat, vi = .int .i64 (i : Nat) ∧ vj = .int .i64 (j : Nat) ∧ Hid (Cut (fun c => !keyLt vsK d[p - c]! d[c]!) lo hi i j) ∧ Hid (SW w0 blk off d wr))
      (fun vi vj _ => (intOf vj).toNat - (intOf vi).toNat)
    case atStart => exact ⟨lo, hi, HSL.out.1, HSL.out.2, HC0, HS0⟩
    case round =>
      obtain ⟨i, j, rfl, rfl, Hc, HS⟩ := hrel
      have c1 := HE.out.at Hc.out.l (Nat.le_trans Hc.out.m Hc.out.h)
      by_cases hlt : i < j
      · have hz : (i : Int) < (j : Int) := by omega
        have hjh := Hc.out.h
        have hjl := HE.out.at (Nat.le_trans Hc.out.l Hc.out.m) Hc.out.h
        have w6 : IntKind.i64.wrap ((i : Int) + j) = ((i + j : Nat) : Int) := by rw [IntKind.wrap_i64]; omega
        obtain ⟨c, hh, hh1, hh2⟩ := half_of i j hlt
        have hcc := (HE.out.at (Nat.le_trans Hc.out.l hh1) (by omega)).2.2.2.2.2 (by omega)
        have hjn : j ≤ n := by omega
        clear c1 hjh hjl
        go_wp2_with fail
        try rw [hh]
        have hds := HDS.out
        clear hh
        obtain ⟨cm, cp1, cp2, cp3⟩ := hcc
        obtain ⟨xv, hxv⟩ : ∃ u, d[p - c]! = u := ⟨_, rfl⟩
        obtain ⟨yv, hyv⟩ : ∃ u, d[c]! = u := ⟨_, rfl⟩
        have Hx := Lib.hid hxv
        have Hy := Lib.hid hyv
        have HI := Lib.hid (And.intro (show p - c < d.size by omega) (show c < d.size by omega))
        have HC : Hid (∀ (x y : Vs) (W : World), SW w0 blk off d W → Calls Tryz.prog 70 (#[.agg (vsA x), .agg (vsA y)] ++ #[]) W fun e w' => e = .returned (.int .i64 (vsCmp x y)) ∧ SW w0 blk off d w') := fun x y W h => cmp_call x y W h
        clear hxv hyv hds
        generalize wr = wz at HS ⊢
        by_cases hB : keyLt vsK xv yv = true
        · have HB := Lib.hid (vs_yes hB)
          have HK := Lib.hid hB
          clear hB
          refine region_alongK (fun x => SW w0 blk off d x) (.read 0 (.read 1 (.read 2 (.read 3 (.read 4 (.read 5 (.read 6 (.read 7 (.read 8 (.read 9 (.read 10 (.step 11 (.read 12 (.read 13 (.nil))))))))))))))) (by kernel_rfl) rfl (by kernel_rfl) (by kernel_rfl) (fun c a d v w h => by cases d <;> exact h) (HS.out.drew) ?_
          refine alongK_read (.func (.func 70) #[] #[]) rfl rfl (fun wx hS => ex_move (by rfl) (by rfl) wx) ?_
          change AlongK _ _ _ _ _ { tmps := #[.slice (some ⟨blk, off, none⟩) n cap, _, _, _, .func (.func 70) #[] #[], _, _, _, _, _, _, _, _, _, _, _, _, _, _, _, .int .i64 ((i : Nat) : Int), .int .i64 ((j : Nat) : Int), .int .i64 ((p : Nat) : Int), .int .i64 ((c : Nat) : Int), _, _, _, _, _, _, _, _, _, _, _, _, _, _, _, _, _, _, _, _, _, _, _, _, _, _, _, _, _, _, _, _, _, _, _, _, _, _, _, _, _, _, _, _, _, _, _, _, _, _, _, _, _, _, _, _, _, _, _, _, _, _, _, _, _, _, _, _, _, _, _, _, _, _, _, _, _, _, _, _, _, _, _, _, _, _, _, _, _, _, _, _, _, _, _, _, _, _, _, _, _, _, _, _, _, _, _, _, _, _, _, _, _, _, _, _, _, _, _, _, _, _, _, _, _, _, _, _, _, _, _, _, _, _, .func (.func 70) #[] #[], _, _, _, _, _, _, _, _, _, _, _, _, _, _, _, _, _, _, _, _, _, _, _, _, _, _, _, _, _, _, _, _, _, _, _, _, _, _, _, _, _, _, _, _, _, _, _, _, _, _, _, _, _, _, _, _, _, _, _, _, _], defers := _ } _
          refine alongK_read (.slice (some ⟨blk, off, none⟩) n cap) rfl rfl (fun wx hS => ex_move (by rfl) (by rfl) wx) ?_
          change AlongK _ _ _ _ _ { tmps := #[.slice (some ⟨blk, off, none⟩) n cap, _, _, _, .func (.func 70) #[] #[], _, _, _, _, _, _, _, _, _, _, _, _, _, _, _, .int .i64 ((i : Nat) : Int), .int .i64 ((j : Nat) : Int), .int .i64 ((p : Nat) : Int), .int .i64 ((c : Nat) : Int), _, _, _, _, _, _, _, _, _, _, _, _, _, _, _, _, _, _, _, _, _, _, _, _, _, _, _, _, _, _, _, _, _, _, _, _, _, _, _, _, _, _, _, _, _, _, _, _, _, _, _, _, _, _, _, _, _, _, _, _, _, _, _, _, _, _, _, _, _, _, _, _, _, _, _, _, _, _, _, _, _, _, _, _, _, _, _, _, _, _, _, _, _, _, _, _, _, _, _, _, _, _, _, _, _, _, _, _, _, _, _, _, _, _, _, _, _, _, _, _, _, _, _, _, _, _, _, _, _, _, _, _, _, _, .func (.func 70) #[] #[], .slice (some ⟨blk, off, none⟩) n cap, _, _, _, _, _, _, _, _, _, _, _, _, _, _, _, _, _, _, _, _, _, _, _, _, _, _, _, _, _, _, _, _, _, _, _, _, _, _, _, _, _, _, _, _, _, _, _, _, _, _, _, _, _, _, _, _, _, _, _, _], defers := _ } _
          refine alongK_read (.int .i64 ((p : Nat) : Int)) rfl rfl (fun wx hS => ex_move (by rfl) (by rfl) wx) ?_
          change AlongK _ _ _ _ _ { tmps := #[.slice (some ⟨blk, off, none⟩) n cap, _, _, _, .func (.func 70) #[] #[], _, _, _, _, _, _, _, _, _, _, _, _, _, _, _, .int .i64 ((i : Nat) : Int), .int .i64 ((j : Nat) : Int), .int .i64 ((p : Nat) : Int), .int .i64 ((c : Nat) : Int), _, _, _, _, _, _, _, _, _, _, _, _, _, _, _, _, _, _, _, _, _, _, _, _, _, _, _, _, _, _, _, _, _, _, _, _, _, _, _, _, _, _, _, _, _, _, _, _, _, _, _, _, _, _, _, _, _, _, _, _, _, _, _, _, _, _, _, _, _, _, _, _, _, _, _, _, _, _, _, _, _, _, _, _, _, _, _, _, _, _, _, _, _, _, _, _, _, _, _, _, _, _, _, _, _, _, _, _, _, _, _, _, _, _, _, _, _, _, _, _, _, _, _, _, _, _, _, _, _, _, _, _, _, _, .func (.func 70) #[] #[], .slice (some ⟨blk, off, none⟩) n cap, .int .i64 ((p : Nat) : Int), _, _, _, _, _, _, _, _, _, _, _, _, _, _, _, _, _, _, _, _, _, _, _, _, _, _, _, _, _, _, _, _, _, _, _, _, _, _, _, _, _, _, _, _, _, _, _, _, _, _, _, _, _, _, _, _, _, _, _], defers := _ } _
          refine alongK_read (.int .i64 ((c : Nat) : Int)) rfl rfl (fun wx hS => ex_move (by rfl) (by rfl) wx) ?_
          change AlongK _ _ _ _ _ { tmps := #[.slice (some ⟨blk, off, none⟩) n cap, _, _, _, .func (.func 70) #[] #[], _, _, _, _, _, _, _, _, _, _, _, _, _, _, _, .int .i64 ((i : Nat) : Int), .int .i64 ((j : Nat) : Int), .int .i64 ((p : Nat) : Int), .int .i64 ((c : Nat) : Int), _, _, _, _, _, _, _, _, _, _, _, _, _, _, _, _, _, _, _, _, _, _, _, _, _, _, _, _, _, _, _, _, _, _, _, _, _, _, _, _, _, _, _, _, _, _, _, _, _, _, _, _, _, _, _, _, _, _, _, _, _, _, _, _, _, _, _, _, _, _, _, _, _, _, _, _, _, _, _, _, _, _, _, _, _, _, _, _, _, _, _, _, _, _, _, _, _, _, _, _, _, _, _, _, _, _, _, _, _, _, _, _, _, _, _, _, _, _, _, _, _, _, _, _, _, _, _, _, _, _, _, _, _, _, .func (.func 70) #[] #[], .slice (some ⟨blk, off, none⟩) n cap, .int .i64 ((p : Nat) : Int), .int .i64 ((c : Nat) : Int), _, _, _, _, _, _, _, _, _, _, _, _, _, _, _, _, _, _, _, _, _, _, _, _, _, _, _, _, _, _, _, _, _, _, _, _, _, _, _, _, _, _, _, _, _, _, _, _, _, _, _, _, _, _, _, _, _, _], defers := _ } _
          refine alongK_read (.int .i64 ((p - c : Nat) : Int)) rfl rfl (fun wx hS => ex_bin rfl rfl rfl wx (bin_sub _ _ (p) (c) (by omega) (by omega) wx)) ?_
          change AlongK _ _ _ _ _ { tmps := #[.slice (some ⟨blk, off, none⟩) n cap, _, _, _, .func (.func 70) #[] #[], _, _, _, _, _, _, _, _, _, _, _, _, _, _, _, .int .i64 ((i : Nat) : Int), .int .i64 ((j : Nat) : Int), .int .i64 ((p : Nat) : Int), .int .i64 ((c : Nat) : Int), _, _, _, _, _, _, _, _, _, _, _, _, _, _, _, _, _, _, _, _, _, _, _, _, _, _, _, _, _, _, _, _, _, _, _, _, _, _, _, _, _, _, _, _, _, _, _, _, _, _, _, _, _, _, _, _, _, _, _, _, _, _, _, _, _, _, _, _, _, _, _, _, _, _, _, _, _, _, _, _, _, _, _, _, _, _, _, _, _, _, _, _, _, _, _, _, _, _, _, _, _, _, _, _, _, _, _, _, _, _, _, _, _, _, _, _, _, _, _, _, _, _, _, _, _, _, _, _, _, _, _, _, _, _, .func (.func 70) #[] #[], .slice (some ⟨blk, off, none⟩) n cap, .int .i64 ((p : Nat) : Int), .int .i64 ((c : Nat) : Int), .int .i64 ((p - c : Nat) : Int), _, _, _, _, _, _, _, _, _, _, _, _, _, _, _, _, _, _, _, _, _, _, _, _, _, _, _, _, _, _, _, _, _, _, _, _, _, _, _, _, _, _, _, _, _, _, _, _, _, _, _, _, _, _, _, _, _], defers := _ } _
          refine alongK_read (.pointer (some ⟨blk, off + (p - c) * 7, none⟩)) rfl rfl (fun wx hS => ex_index Tryz.underlying22 Tryz.sizeOf49 rfl rfl rfl (by omega) wx) ?_
          change AlongK _ _ _ _ _ { tmps := #[.slice (some ⟨blk, off, none⟩) n cap, _, _, _, .func (.func 70) #[] #[], _, _, _, _, _, _, _, _, _, _, _, _, _, _, _, .int .i64 ((i : Nat) : Int), .int .i64 ((j : Nat) : Int), .int .i64 ((p : Nat) : Int), .int .i64 ((c : Nat) : Int), _, _, _, _, _, _, _, _, _, _, _, _, _, _, _, _, _, _, _, _, _, _, _, _, _, _, _, _, _, _, _, _, _, _, _, _, _, _, _, _, _, _, _, _, _, _, _, _, _, _, _, _, _, _, _, _, _, _, _, _, _, _, _, _, _, _, _, _, _, _, _, _, _, _, _, _, _, _, _, _, _, _, _, _, _, _, _, _, _, _, _, _, _, _, _, _, _, _, _, _, _, _, _, _, _, _, _, _, _, _, _, _, _, _, _, _, _, _, _, _, _, _, _, _, _, _, _, _, _, _, _, _, _, _, .func (.func 70) #[] #[], .slice (some ⟨blk, off, none⟩) n cap, .int .i64 ((p : Nat) : Int), .int .i64 ((c : Nat) : Int), .int .i64 ((p - c : Nat) : Int), .pointer (some ⟨blk, off + (p - c) * 7, none⟩), _, _, _, _, _, _, _, _, _, _, _, _, _, _, _, _, _, _, _, _, _, _, _, _, _, _, _, _, _, _, _, _, _, _, _, _, _, _, _, _, _, _, _, _, _, _, _, _, _, _, _, _, _, _, _, _], defers := _ } _
          refine alongK_read (.agg (vsA xv)) rfl rfl (fun wx hS => ex_elem rfl rfl hS R Hn.out HI.out.1 Hx.out) ?_
          change AlongK _ _ _ _ _ { tmps := #[.slice (some ⟨blk, off, none⟩) n cap, _, _, _, .func (.func 70) #[] #[], _, _, _, _, _, _, _, _, _, _, _, _, _, _, _, .int .i64 ((i : Nat) : Int), .int .i64 ((j : Nat) : Int), .int .i64 ((p : Nat) : Int), .int .i64 ((c : Nat) : Int), _, _, _, _, _, _, _, _, _, _, _, _, _, _, _, _, _, _, _, _, _, _, _, _, _, _, _, _, _, _, _, _, _, _, _, _, _, _, _, _, _, _, _, _, _, _, _, _, _, _, _, _, _, _, _, _, _, _, _, _, _, _, _, _, _, _, _, _, _, _, _, _, _, _, _, _, _, _, _, _, _, _, _, _, _, _, _, _, _, _, _, _, _, _, _, _, _, _, _, _, _, _, _, _, _, _, _, _, _, _, _, _, _, _, _, _, _, _, _, _, _, _, _, _, _, _, _, _, _, _, _, _, _, _, .func (.func 70) #[] #[], .slice (some ⟨blk, off, none⟩) n cap, .int .i64 ((p : Nat) : Int), .int .i64 ((c : Nat) : Int), .int .i64 ((p - c : Nat) : Int), .pointer (some ⟨blk, off + (p - c) * 7, none⟩), .agg (vsA xv), _, _, _, _, _, _, _, _, _, _, _, _, _, _, _, _, _, _, _, _, _, _, _, _, _, _, _, _, _, _, _, _, _, _, _, _, _, _, _, _, _, _, _, _, _, _, _, _, _, _, _, _, _, _, _], defers := _ } _
          refine alongK_read (.slice (some ⟨blk, off, none⟩) n cap) rfl rfl (fun wx hS => ex_move (by rfl) (by rfl) wx) ?_
          change AlongK _ _ _ _ _ { tmps := #[.slice (some ⟨blk, off, none⟩) n cap, _, _, _, .func (.func 70) #[] #[], _, _, _, _, _, _, _, _, _, _, _, _, _, _, _, .int .i64 ((i : Nat) : Int), .int .i64 ((j : Nat) : Int), .int .i64 ((p : Nat) : Int), .int .i64 ((c : Nat) : Int), _, _, _, _, _, _, _, _, _, _, _, _, _, _, _, _, _, _, _, _, _, _, _, _, _, _, _, _, _, _, _, _, _, _, _, _, _, _, _, _, _, _, _, _, _, _, _, _, _, _, _, _, _, _, _, _, _, _, _, _, _, _, _, _, _, _, _, _, _, _, _, _, _, _, _, _, _, _, _, _, _, _, _, _, _, _, _, _, _, _, _, _, _, _, _, _, _, _, _, _, _, _, _, _, _, _, _, _, _, _, _, _, _, _, _, _, _, _, _, _, _, _, _, _, _, _, _, _, _, _, _, _, _, _, .func (.func 70) #[] #[], .slice (some ⟨blk, off, none⟩) n cap, .int .i64 ((p : Nat) : Int), .int .i64 ((c : Nat) : Int), .int .i64 ((p - c : Nat) : Int), .pointer (some ⟨blk, off + (p - c) * 7, none⟩), .agg (vsA xv), .slice (some ⟨blk, off, none⟩) n cap, _, _, _, _, _, _, _, _, _, _, _, _, _, _, _, _, _, _, _, _, _, _, _, _, _, _, _, _, _, _, _, _, _, _, _, _, _, _, _, _, _, _, _, _, _, _, _, _, _, _, _, _, _, _], defers := _ } _
          refine alongK_read (.int .i64 ((c : Nat) : Int)) rfl rfl (fun wx hS => ex_move (by rfl) (by rfl) wx) ?_
          change AlongK _ _ _ _ _ { tmps := #[.slice (some ⟨blk, off, none⟩) n cap, _, _, _, .func (.func 70) #[] #[], _, _, _, _, _, _, _, _, _, _, _, _, _, _, _, .int .i64 ((i : Nat) : Int), .int .i64 ((j : Nat) : Int), .int .i64 ((p : Nat) : Int), .int .i64 ((c : Nat) : Int), _, _, _, _, _, _, _, _, _, _, _, _, _, _, _, _, _, _, _, _, _, _, _, _, _, _, _, _, _, _, _, _, _, _, _, _, _, _, _, _, _, _, _, _, _, _, _, _, _, _, _, _, _, _, _, _, _, _, _, _, _, _, _, _, _, _, _, _, _, _, _, _, _, _, _, _, _, _, _, _, _, _, _, _, _, _, _, _, _, _, _, _, _, _, _, _, _, _, _, _, _, _, _, _, _, _, _, _, _, _, _, _, _, _, _, _, _, _, _, _, _, _, _, _, _, _, _, _, _, _, _, _, _, _, .func (.func 70) #[] #[], .slice (some ⟨blk, off, none⟩) n cap, .int .i64 ((p : Nat) : Int), .int .i64 ((c : Nat) : Int), .int .i64 ((p - c : Nat) : Int), .pointer (some ⟨blk, off + (p - c) * 7, none⟩), .agg (vsA xv), .slice (some ⟨blk, off, none⟩) n cap, .int .i64 ((c : Nat) : Int), _, _, _, _, _, _, _, _, _, _, _, _, _, _, _, _, _, _, _, _, _, _, _, _, _, _, _, _, _, _, _, _, _, _, _, _, _, _, _, _, _, _, _, _, _, _, _, _, _, _, _, _, _], defers := _ } _
          refine alongK_read (.pointer (some ⟨blk, off + (c) * 7, none⟩)) rfl rfl (fun wx hS => ex_index Tryz.underlying22 Tryz.sizeOf49 rfl rfl rfl (by omega) wx) ?_
          change AlongK _ _ _ _ _ { tmps := #[.slice (some ⟨blk, off, none⟩) n cap, _, _, _, .func (.func 70) #[] #[], _, _, _, _, _, _, _, _, _, _, _, _, _, _, _, .int .i64 ((i : Nat) : Int), .int .i64 ((j : Nat) : Int), .int .i64 ((p : Nat) : Int), .int .i64 ((c : Nat) : Int), _, _, _, _, _, _, _, _, _, _, _, _, _, _, _, _, _, _, _, _, _, _, _, _, _, _, _, _, _, _, _, _, _, _, _, _, _, _, _, _, _, _, _, _, _, _, _, _, _, _, _, _, _, _, _, _, _, _, _, _, _, _, _, _, _, _, _, _, _, _, _, _, _, _, _, _, _, _, _, _, _, _, _, _, _, _, _, _, _, _, _, _, _, _, _, _, _, _, _, _, _, _, _, _, _, _, _, _, _, _, _, _, _, _, _, _, _, _, _, _, _, _, _, _, _, _, _, _, _, _, _, _, _, _, .func (.func 70) #[] #[], .slice (some ⟨blk, off, none⟩) n cap, .int .i64 ((p : Nat) : Int), .int .i64 ((c : Nat) : Int), .int .i64 ((p - c : Nat) : Int), .pointer (some ⟨blk, off + (p - c) * 7, none⟩), .agg (vsA xv), .slice (some ⟨blk, off, none⟩) n cap, .int .i64 ((c : Nat) : Int), .pointer (some ⟨blk, off + (c) * 7, none⟩), _, _, _, _, _, _, _, _, _, _, _, _, _, _, _, _, _, _, _, _, _, _, _, _, _, _, _, _, _, _, _, _, _, _, _, _, _, _, _, _, _, _, _, _, _, _, _, _, _, _, _, _], defers := _ } _
          refine alongK_read (.agg (vsA yv)) rfl rfl (fun wx hS => ex_elem rfl rfl hS R Hn.out HI.out.2 Hy.out) ?_
          change AlongK _ _ _ _ _ { tmps := #[.slice (some ⟨blk, off, none⟩) n cap, _, _, _, .func (.func 70) #[] #[], _, _, _, _, _, _, _, _, _, _, _, _, _, _, _, .int .i64 ((i : Nat) : Int), .int .i64 ((j : Nat) : Int), .int .i64 ((p : Nat) : Int), .int .i64 ((c : Nat) : Int), _, _, _, _, _, _, _, _, _, _, _, _, _, _, _, _, _, _, _, _, _, _, _, _, _, _, _, _, _, _, _, _, _, _, _, _, _, _, _, _, _, _, _, _, _, _, _, _, _, _, _, _, _, _, _, _, _, _, _, _, _, _, _, _, _, _, _, _, _, _, _, _, _, _, _, _, _, _, _, _, _, _, _, _, _, _, _, _, _, _, _, _, _, _, _, _, _, _, _, _, _, _, _, _, _, _, _, _, _, _, _, _, _, _, _, _, _, _, _, _, _, _, _, _, _, _, _, _, _, _, _, _, _, _, .func (.func 70) #[] #[], .slice (some ⟨blk, off, none⟩) n cap, .int .i64 ((p : Nat) : Int), .int .i64 ((c : Nat) : Int), .int .i64 ((p - c : Nat) : Int), .pointer (some ⟨blk, off + (p - c) * 7, none⟩), .agg (vsA xv), .slice (some ⟨blk, off, none⟩) n cap, .int .i64 ((c : Nat) : Int), .pointer (some ⟨blk, off + (c) * 7, none⟩), .agg (vsA yv), _, _, _, _, _, _, _, _, _, _, _, _, _, _, _, _, _, _, _, _, _, _, _, _, _, _, _, _, _, _, _, _, _, _, _, _, _, _, _, _, _, _, _, _, _, _, _, _, _, _, _], defers := _ } _
          refine alongK_step ?_
          refine opK_callv (vs := [.agg (vsA xv), .agg (vsA yv)]) (cb := #[]) rfl rfl rfl rfl (enters_of Tryz.func70 (by kernel_rfl) rfl) rfl ?_
          with_reducible refine Calls.mono (HC.out xv yv _ HS.out.drew) ?_
          rintro e w5 ⟨rfl, hS5⟩
          refine ⟨_, rfl, (fun x => SW w0 blk off d x), (fun _ h => h), hS5, ?_⟩
          change AlongK _ _ _ _ _ { tmps := #[.slice (some ⟨blk, off, none⟩) n cap, _, _, _, .func (.func 70) #[] #[], _, _, _, _, _, _, _, _, _, _, _, _, _, _, _, .int .i64 ((i : Nat) : Int), .int .i64 ((j : Nat) : Int), .int .i64 ((p : Nat) : Int), .int .i64 ((c : Nat) : Int), _, _, _, _, _, _, _, _, _, _, _, _, _, _, _, _, _, _, _, _, _, _, _, _, _, _, _, _, _, _, _, _, _, _, _, _, _, _, _, _, _, _, _, _, _, _, _, _, _, _, _, _, _, _, _, _, _, _, _, _, _, _, _, _, _, _, _, _, _, _, _, _, _, _, _, _, _, _, _, _, _, _, _, _, _, _, _, _, _, _, _, _, _, _, _, _, _, _, _, _, _, _, _, _, _, _, _, _, _, _, _, _, _, _, _, _, _, _, _, _, _, _, _, _, _, _, _, _, _, _, _, _, _, _, .func (.func 70) #[] #[], .slice (some ⟨blk, off, none⟩) n cap, .int .i64 ((p : Nat) : Int), .int .i64 ((c : Nat) : Int), .int .i64 ((p - c : Nat) : Int), .pointer (some ⟨blk, off + (p - c) * 7, none⟩), .agg (vsA xv), .slice (some ⟨blk, off, none⟩) n cap, .int .i64 ((c : Nat) : Int), .pointer (some ⟨blk, off + (c) * 7, none⟩), .agg (vsA yv), .int .i64 (vsCmp xv yv), _, _, _, _, _, _, _, _, _, _, _, _, _, _, _, _, _, _, _, _, _, _, _, _, _, _, _, _, _, _, _, _, _, _, _, _, _, _, _, _, _, _, _, _, _, _, _, _, _, _], defers := _ } _
          refine alongK_read (.bool true) rfl rfl (fun wx hS => ex_bin rfl rfl rfl wx (bin_neg _ _ (vsCmp xv yv) true HB.out wx)) ?_
          change AlongK _ _ _ _ _ { tmps := #[.slice (some ⟨blk, off, none⟩) n cap, _, _, _, .func (.func 70) #[] #[], _, _, _, _, _, _, _, _, _, _, _, _, _, _, _, .int .i64 ((i : Nat) : Int), .int .i64 ((j : Nat) : Int), .int .i64 ((p : Nat) : Int), .int .i64 ((c : Nat) : Int), _, _, _, _, _, _, _, _, _, _, _, _, _, _, _, _, _, _, _, _, _, _, _, _, _, _, _, _, _, _, _, _, _, _, _, _, _, _, _, _, _, _, _, _, _, _, _, _, _, _, _, _, _, _, _, _, _, _, _, _, _, _, _, _, _, _, _, _, _, _, _, _, _, _, _, _, _, _, _, _, _, _, _, _, _, _, _, _, _, _, _, _, _, _, _, _, _, _, _, _, _, _, _, _, _, _, _, _, _, _, _, _, _, _, _, _, _, _, _, _, _, _, _, _, _, _, _, _, _, _, _, _, _, _, .func (.func 70) #[] #[], .slice (some ⟨blk, off, none⟩) n cap, .int .i64 ((p : Nat) : Int), .int .i64 ((c : Nat) : Int), .int .i64 ((p - c : Nat) : Int), .pointer (some ⟨blk, off + (p - c) * 7, none⟩), .agg (vsA xv), .slice (some ⟨blk, off, none⟩) n cap, .int .i64 ((c : Nat) : Int), .pointer (some ⟨blk, off + (c) * 7, none⟩), .agg (vsA yv), .int .i64 (vsCmp xv yv), .bool true, _, _, _, _, _, _, _, _, _, _, _, _, _, _, _, _, _, _, _, _, _, _, _, _, _, _, _, _, _, _, _, _, _, _, _, _, _, _, _, _, _, _, _, _, _, _, _, _, _], defers := _ } _
          refine alongK_read (.bool (!true)) rfl rfl (fun wx hS => ex_not rfl rfl wx) ?_
          change AlongK _ _ _ _ _ { tmps := #[.slice (some ⟨blk, off, none⟩) n cap, _, _, _, .func (.func 70) #[] #[], _, _, _, _, _, _, _, _, _, _, _, _, _, _, _, .int .i64 ((i : Nat) : Int), .int .i64 ((j : Nat) : Int), .int .i64 ((p : Nat) : Int), .int .i64 ((c : Nat) : Int), _, _, _, _, _, _, _, _, _, _, _, _, _, _, _, _, _, _, _, _, _, _, _, _, _, _, _, _, _, _, _, _, _, _, _, _, _, _, _, _, _, _, _, _, _, _, _, _, _, _, _, _, _, _, _, _, _, _, _, _, _, _, _, _, _, _, _, _, _, _, _, _, _, _, _, _, _, _, _, _, _, _, _, _, _, _, _, _, _, _, _, _, _, _, _, _, _, _, _, _, _, _, _, _, _, _, _, _, _, _, _, _, _, _, _, _, _, _, _, _, _, _, _, _, _, _, _, _, _, _, _, _, _, _, .func (.func 70) #[] #[], .slice (some ⟨blk, off, none⟩) n cap, .int .i64 ((p : Nat) : Int), .int .i64 ((c : Nat) : Int), .int .i64 ((p - c : Nat) : Int), .pointer (some ⟨blk, off + (p - c) * 7, none⟩), .agg (vsA xv), .slice (some ⟨blk, off, none⟩) n cap, .int .i64 ((c : Nat) : Int), .pointer (some ⟨blk, off + (c) * 7, none⟩), .agg (vsA yv), .int .i64 (vsCmp xv yv), .bool true, .bool (!true), _, _, _, _, _, _, _, _, _, _, _, _, _, _, _, _, _, _, _, _, _, _, _, _, _, _, _, _, _, _, _, _, _, _, _, _, _, _, _, _, _, _, _, _, _, _, _, _], defers := _ } _
          refine alongK_done ?_
          focus
            have HS5 := Lib.hid hS5
            clear hS5
            go_wp2
            go_roundw
            case rel => exact ⟨i, c, rfl, rfl, Lib.hid (Hc.out.down hh1 hh2 (by rw [Hx.out, Hy.out, HK.out]; rfl)), HS5⟩
            case measure => simp [intOf]; omega
        · have hB : keyLt vsK xv yv = false := by simpa using hB
          have HB := Lib.hid (vs_no hB)
          have HK := Lib.hid hB
          clear hB
          refine region_alongK (fun x => SW w0 blk off d x) (.read 0 (.read 1 (.read 2 (.read 3 (.read 4 (.read 5 (.read 6 (.read 7 (.read 8 (.read 9 (.read 10 (.step 11 (.read 12 (.read 13 (.nil))))))))))))))) (by kernel_rfl) rfl (by kernel_rfl) (by kernel_rfl) (fun c a d v w h => by cases d <;> exact h) (HS.out.drew) ?_
          refine alongK_read (.func (.func 70) #[] #[]) rfl rfl (fun wx hS => ex_move (by rfl) (by rfl) wx) ?_
          change AlongK _ _ _ _ _ { tmps := #[.slice (some ⟨blk, off, none⟩) n cap, _, _, _, .func (.func 70) #[] #[], _, _, _, _, _, _, _, _, _, _, _, _, _, _, _, .int .i64 ((i : Nat) : Int), .int .i64 ((j : Nat) : Int), .int .i64 ((p : Nat) : Int), .int .i64 ((c : Nat) : Int), _, _, _, _, _, _, _, _, _, _, _, _, _, _, _, _, _, _, _, _, _, _, _, _, _, _, _, _, _, _, _, _, _, _, _, _, _, _, _, _, _, _, _, _, _, _, _, _, _, _, _, _, _, _, _, _, _, _, _, _, _, _, _, _, _, _, _, _, _, _, _, _, _, _, _, _, _, _, _, _, _, _, _, _, _, _, _, _, _, _, _, _, _, _, _, _, _, _, _, _, _, _, _, _, _, _, _, _, _, _, _, _, _, _, _, _, _, _, _, _, _, _, _, _, _, _, _, _, _, _, _, _, _, _, .func (.func 70) #[] #[], _, _, _, _, _, _, _, _, _, _, _, _, _, _, _, _, _, _, _, _, _, _, _, _, _, _, _, _, _, _, _, _, _, _, _, _, _, _, _, _, _, _, _, _, _, _, _, _, _, _, _, _, _, _, _, _, _, _, _, _, _], defers := _ } _
          refine alongK_read (.slice (some ⟨blk, off, none⟩) n cap) rfl rfl (fun wx hS => ex_move (by rfl) (by rfl) wx) ?_
          change AlongK _ _ _ _ _ { tmps := #[.slice (some ⟨blk, off, none⟩) n cap, _, _, _, .func (.func 70) #[] #[], _, _, _, _, _, _, _, _, _, _, _, _, _, _, _, .int .i64 ((i : Nat) : Int), .int .i64 ((j : Nat) : Int), .int .i64 ((p : Nat) : Int), .int .i64 ((c : Nat) : Int), _, _, _, _, _, _, _, _, _, _, _, _, _, _, _, _, _, _, _, _, _, _, _, _, _, _, _, _, _, _, _, _, _, _, _, _, _, _, _, _, _, _, _, _, _, _, _, _, _, _, _, _, _, _, _, _, _, _, _, _, _, _, _, _, _, _, _, _, _, _, _, _, _, _, _, _, _, _, _, _, _, _, _, _, _, _, _, _, _, _, _, _, _, _, _, _, _, _, _, _, _, _, _, _, _, _, _, _, _, _, _, _, _, _, _, _, _, _, _, _, _, _, _, _, _, _, _, _, _, _, _, _, _, _, .func (.func 70) #[] #[], .slice (some ⟨blk, off, none⟩) n cap, _, _, _, _, _, _, _, _, _, _, _, _, _, _, _, _, _, _, _, _, _, _, _, _, _, _, _, _, _, _, _, _, _, _, _, _, _, _, _, _, _, _, _, _, _, _, _, _, _, _, _, _, _, _, _, _, _, _, _, _], defers := _ } _
          refine alongK_read (.int .i64 ((p : Nat) : Int)) rfl rfl (fun wx hS => ex_move (by rfl) (by rfl) wx) ?_
          change AlongK _ _ _ _ _ { tmps := #[.slice (some ⟨blk, off, none⟩) n cap, _, _, _, .func (.func 70) #[] #[], _, _, _, _, _, _, _, _, _, _, _, _, _, _, _, .int .i64 ((i : Nat) : Int), .int .i64 ((j : Nat) : Int), .int .i64 ((p : Nat) : Int), .int .i64 ((c : Nat) : Int), _, _, _, _, _, _, _, _, _, _, _, _, _, _, _, _, _, _, _, _, _, _, _, _, _, _, _, _, _, _, _, _, _, _, _, _, _, _, _, _, _, _, _, _, _, _, _, _, _, _, _, _, _, _, _, _, _, _, _, _, _, _, _, _, _, _, _, _, _, _, _, _, _, _, _, _, _, _, _, _, _, _, _, _, _, _, _, _, _, _, _, _, _, _, _, _, _, _, _, _, _, _, _, _, _, _, _, _, _, _, _, _, _, _, _, _, _, _, _, _, _, _, _, _, _, _, _, _, _, _, _, _, _, _, .func (.func 70) #[] #[], .slice (some ⟨blk, off, none⟩) n cap, .int .i64 ((p : Nat) : Int), _, _, _, _, _, _, _, _, _, _, _, _, _, _, _, _, _, _, _, _, _, _, _, _, _, _, _, _, _, _, _, _, _, _, _, _, _, _, _, _, _, _, _, _, _, _, _, _, _, _, _, _, _, _, _, _, _, _, _], defers := _ } _
          refine alongK_read (.int .i64 ((c : Nat) : Int)) rfl rfl (fun wx hS => ex_move (by rfl) (by rfl) wx) ?_
          change AlongK _ _ _ _ _ { tmps := #[.slice (some ⟨blk, off, none⟩) n cap, _, _, _, .func (.func 70) #[] #[], _, _, _, _, _, _, _, _, _, _, _, _, _, _, _, .int .i64 ((i : Nat) : Int), .int .i64 ((j : Nat) : Int), .int .i64 ((p : Nat) : Int), .int .i64 ((c : Nat) : Int), _, _, _, _, _, _, _, _, _, _, _, _, _, _, _, _, _, _, _, _, _, _, _, _, _, _, _, _, _, _, _, _, _, _, _, _, _, _, _, _, _, _, _, _, _, _, _, _, _, _, _, _, _, _, _, _, _, _, _, _, _, _, _, _, _, _, _, _, _, _, _, _, _, _, _, _, _, _, _, _, _, _, _, _, _, _, _, _, _, _, _, _, _, _, _, _, _, _, _, _, _, _, _, _, _, _, _, _, _, _, _, _, _, _, _, _, _, _, _, _, _, _, _, _, _, _, _, _, _, _, _, _, _, _, .func (.func 70) #[] #[], .slice (some ⟨blk, off, none⟩) n cap, .int .i64 ((p : Nat) : Int), .int .i64 ((c : Nat) : Int), _, _, _, _, _, _, _, _, _, _, _, _, _, _, _, _, _, _, _, _, _, _, _, _, _, _, _, _, _, _, _, _, _, _, _, _, _, _, _, _, _, _, _, _, _, _, _, _, _, _, _, _, _, _, _, _, _, _], defers := _ } _
          refine alongK_read (.int .i64 ((p - c : Nat) : Int)) rfl rfl (fun wx hS => ex_bin rfl rfl rfl wx (bin_sub _ _ (p) (c) (by omega) (by omega) wx)) ?_
          change AlongK _ _ _ _ _ { tmps := #[.slice (some ⟨blk, off, none⟩) n cap, _, _, _, .func (.func 70) #[] #[], _, _, _, _, _, _, _, _, _, _, _, _, _, _, _, .int .i64 ((i : Nat) : Int), .int .i64 ((j : Nat) : Int), .int .i64 ((p : Nat) : Int), .int .i64 ((c : Nat) : Int), _, _, _, _, _, _, _, _, _, _, _, _, _, _, _, _, _, _, _, _, _, _, _, _, _, _, _, _, _, _, _, _, _, _, _, _, _, _, _, _, _, _, _, _, _, _, _, _, _, _, _, _, _, _, _, _, _, _, _, _, _, _, _, _, _, _, _, _, _, _, _, _, _, _, _, _, _, _, _, _, _, _, _, _, _, _, _, _, _, _, _, _, _, _, _, _, _, _, _, _, _, _, _, _, _, _, _, _, _, _, _, _, _, _, _, _, _, _, _, _, _, _, _, _, _, _, _, _, _, _, _, _, _, _, .func (.func 70) #[] #[], .slice (some ⟨blk, off, none⟩) n cap, .int .i64 ((p : Nat) : Int), .int .i64 ((c : Nat) : Int), .int .i64 ((p - c : Nat) : Int), _, _, _, _, _, _, _, _, _, _, _, _, _, _, _, _, _, _, _, _, _, _, _, _, _, _, _, _, _, _, _, _, _, _, _, _, _, _, _, _, _, _, _, _, _, _, _, _, _, _, _, _, _, _, _, _, _], defers := _ } _
          refine alongK_read (.pointer (some ⟨blk, off + (p - c) * 7, none⟩)) rfl rfl (fun wx hS => ex_index Tryz.underlying22 Tryz.sizeOf49 rfl rfl rfl (by omega) wx) ?_
          change AlongK _ _ _ _ _ { tmps := #[.slice (some ⟨blk, off, none⟩) n cap, _, _, _, .func (.func 70) #[] #[], _, _, _, _, _, _, _, _, _, _, _, _, _, _, _, .int .i64 ((i : Nat) : Int), .int .i64 ((j : Nat) : Int), .int .i64 ((p : Nat) : Int), .int .i64 ((c : Nat) : Int), _, _, _, _, _, _, _, _, _, _, _, _, _, _, _, _, _, _, _, _, _, _, _, _, _, _, _, _, _, _, _, _, _, _, _, _, _, _, _, _, _, _, _, _, _, _, _, _, _, _, _, _, _, _, _, _, _, _, _, _, _, _, _, _, _, _, _, _, _, _, _, _, _, _, _, _, _, _, _, _, _, _, _, _, _, _, _, _, _, _, _, _, _, _, _, _, _, _, _, _, _, _, _, _, _, _, _, _, _, _, _, _, _, _, _, _, _, _, _, _, _, _, _, _, _, _, _, _, _, _, _, _, _, _, .func (.func 70) #[] #[], .slice (some ⟨blk, off, none⟩) n cap, .int .i64 ((p : Nat) : Int), .int .i64 ((c : Nat) : Int), .int .i64 ((p - c : Nat) : Int), .pointer (some ⟨blk, off + (p - c) * 7, none⟩), _, _, _, _, _, _, _, _, _, _, _, _, _, _, _, _, _, _, _, _, _, _, _, _, _, _, _, _, _, _, _, _, _, _, _, _, _, _, _, _, _, _, _, _, _, _, _, _, _, _, _, _, _, _, _, _], defers := _ } _
          refine alongK_read (.agg (vsA xv)) rfl rfl (fun wx hS => ex_elem rfl rfl hS R Hn.out HI.out.1 Hx.out) ?_
          change AlongK _ _ _ _ _ { tmps := #[.slice (some ⟨blk, off, none⟩) n cap, _, _, _, .func (.func 70) #[] #[], _, _, _, _, _, _, _, _, _, _, _, _, _, _, _, .int .i64 ((i : Nat) : Int), .int .i64 ((j : Nat) : Int), .int .i64 ((p : Nat) : Int), .int .i64 ((c : Nat) : Int), _, _, _, _, _, _, _, _, _, _, _, _, _, _, _, _, _, _, _, _, _, _, _, _, _, _, _, _, _, _, _, _, _, _, _, _, _, _, _, _, _, _, _, _, _, _, _, _, _, _, _, _, _, _, _, _, _, _, _, _, _, _, _, _, _, _, _, _, _, _, _, _, _, _, _, _, _, _, _, _, _, _, _, _, _, _, _, _, _, _, _, _, _, _, _, _, _, _, _, _, _, _, _, _, _, _, _, _, _, _, _, _, _, _, _, _, _, _, _, _, _, _, _, _, _, _, _, _, _, _, _, _, _, _, .func (.func 70) #[] #[], .slice (some ⟨blk, off, none⟩) n cap, .int .i64 ((p : Nat) : Int), .int .i64 ((c : Nat) : Int), .int .i64 ((p - c : Nat) : Int), .pointer (some ⟨blk, off + (p - c) * 7, none⟩), .agg (vsA xv), _, _, _, _, _, _, _, _, _, _, _, _, _, _, _, _, _, _, _, _, _, _, _, _, _, _, _, _, _, _, _, _, _, _, _, _, _, _, _, _, _, _, _, _, _, _, _, _, _, _, _, _, _, _, _], defers := _ } _
          refine alongK_read (.slice (some ⟨blk, off, none⟩) n cap) rfl rfl (fun wx hS => ex_move (by rfl) (by rfl) wx) ?_
          change AlongK _ _ _ _ _ { tmps := #[.slice (some ⟨blk, off, none⟩) n cap, _, _, _, .func (.func 70) #[] #[], _, _, _, _, _, _, _, _, _, _, _, _, _, _, _, .int .i64 ((i : Nat) : Int), .int .i64 ((j : Nat) : Int), .int .i64 ((p : Nat) : Int), .int .i64 ((c : Nat) : Int), _, _, _, _, _, _, _, _, _, _, _, _, _, _, _, _, _, _, _, _, _, _, _, _, _, _, _, _, _, _, _, _, _, _, _, _, _, _, _, _, _, _, _, _, _, _, _, _, _, _, _, _, _, _, _, _, _, _, _, _, _, _, _, _, _, _, _, _, _, _, _, _, _, _, _, _, _, _, _, _, _, _, _, _, _, _, _, _, _, _, _, _, _, _, _, _, _, _, _, _, _, _, _, _, _, _, _, _, _, _, _, _, _, _, _, _, _, _, _, _, _, _, _, _, _, _, _, _, _, _, _, _, _, _, .func (.func 70) #[] #[], .slice (some ⟨blk, off, none⟩) n cap, .int .i64 ((p : Nat) : Int), .int .i64 ((c : Nat) : Int), .int .i64 ((p - c : Nat) : Int), .pointer (some ⟨blk, off + (p - c) * 7, none⟩), .agg (vsA xv), .slice (some ⟨blk, off, none⟩) n cap, _, _, _, _, _, _, _, _, _, _, _, _, _, _, _, _, _, _, _, _, _, _, _, _, _, _, _, _, _, _, _, _, _, _, _, _, _, _, _, _, _, _, _, _, _, _, _, _, _, _, _, _, _, _], defers := _ } _
          refine alongK_read (.int .i64 ((c : Nat) : Int)) rfl rfl (fun wx hS => ex_move (by rfl) (by rfl) wx) ?_
          change AlongK _ _ _ _ _ { tmps := #[.slice (some ⟨blk, off, none⟩) n cap, _, _, _, .func (.func 70) #[] #[], _, _, _, _, _, _, _, _, _, _, _, _, _, _, _, .int .i64 ((i : Nat) : Int), .int .i64 ((j : Nat) : Int), .int .i64 ((p : Nat) : Int), .int .i64 ((c : Nat) : Int), _, _, _, _, _, _, _, _, _, _, _, _, _, _, _, _, _, _, _, _, _, _, _, _, _, _, _, _, _, _, _, _, _, _, _, _, _, _, _, _, _, _, _, _, _, _, _, _, _, _, _, _, _, _, _, _, _, _, _, _, _, _, _, _, _, _, _, _, _, _, _, _, _, _, _, _, _, _, _, _, _, _, _, _, _, _, _, _, _, _, _, _, _, _, _, _, _, _, _, _, _, _, _, _, _, _, _, _, _, _, _, _, _, _, _, _, _, _, _, _, _, _, _, _, _, _, _, _, _, _, _, _, _, _, .func (.func 70) #[] #[], .slice (some ⟨blk, off, none⟩) n cap, .int .i64 ((p : Nat) : Int), .int .i64 ((c : Nat) : Int), .int .i64 ((p - c : Nat) : Int), .pointer (some ⟨blk, off + (p - c) * 7, none⟩), .agg (vsA xv), .slice (some ⟨blk, off, none⟩) n cap, .int .i64 ((c : Nat) : Int), _, _, _, _, _, _, _, _, _, _, _, _, _, _, _, _, _, _, _, _, _, _, _, _, _, _, _, _, _, _, _, _, _, _, _, _, _, _, _, _, _, _, _, _, _, _, _, _, _, _, _, _, _], defers := _ } _
          refine alongK_read (.pointer (some ⟨blk, off + (c) * 7, none⟩)) rfl rfl (fun wx hS => ex_index Tryz.underlying22 Tryz.sizeOf49 rfl rfl rfl (by omega) wx) ?_
          change AlongK _ _ _ _ _ { tmps := #[.slice (some ⟨blk, off, none⟩) n cap, _, _, _, .func (.func 70) #[] #[], _, _, _, _, _, _, _, _, _, _, _, _, _, _, _, .int .i64 ((i : Nat) : Int), .int .i64 ((j : Nat) : Int), .int .i64 ((p : Nat) : Int), .int .i64 ((c : Nat) : Int), _, _, _, _, _, _, _, _, _, _, _, _, _, _, _, _, _, _, _, _, _, _, _, _, _, _, _, _, _, _, _, _, _, _, _, _, _, _, _, _, _, _, _, _, _, _, _, _, _, _, _, _, _, _, _, _, _, _, _, _, _, _, _, _, _, _, _, _, _, _, _, _, _, _, _, _, _, _, _, _, _, _, _, _, _, _, _, _, _, _, _, _, _, _, _, _, _, _, _, _, _, _, _, _, _, _, _, _, _, _, _, _, _, _, _, _, _, _, _, _, _, _, _, _, _, _, _, _, _, _, _, _, _, _, .func (.func 70) #[] #[], .slice (some ⟨blk, off, none⟩) n cap, .int .i64 ((p : Nat) : Int), .int .i64 ((c : Nat) : Int), .int .i64 ((p - c : Nat) : Int), .pointer (some ⟨blk, off + (p - c) * 7, none⟩), .agg (vsA xv), .slice (some ⟨blk, off, none⟩) n cap, .int .i64 ((c : Nat) : Int), .pointer (some ⟨blk, off + (c) * 7, none⟩), _, _, _, _, _, _, _, _, _, _, _, _, _, _, _, _, _, _, _, _, _, _, _, _, _, _, _, _, _, _, _, _, _, _, _, _, _, _, _, _, _, _, _, _, _, _, _, _, _, _, _, _], defers := _ } _
          refine alongK_read (.agg (vsA yv)) rfl rfl (fun wx hS => ex_elem rfl rfl hS R Hn.out HI.out.2 Hy.out) ?_
          change AlongK _ _ _ _ _ { tmps := #[.slice (some ⟨blk, off, none⟩) n cap, _, _, _, .func (.func 70) #[] #[], _, _, _, _, _, _, _, _, _, _, _, _, _, _, _, .int .i64 ((i : Nat) : Int), .int .i64 ((j : Nat) : Int), .int .i64 ((p : Nat) : Int), .int .i64 ((c : Nat) : Int), _, _, _, _, _, _, _, _, _, _, _, _, _, _, _, _, _, _, _, _, _, _, _, _, _, _, _, _, _, _, _, _, _, _, _, _, _, _, _, _, _, _, _, _, _, _, _, _, _, _, _, _, _, _, _, _, _, _, _, _, _, _, _, _, _, _, _, _, _, _, _, _, _, _, _, _, _, _, _, _, _, _, _, _, _, _, _, _, _, _, _, _, _, _, _, _, _, _, _, _, _, _, _, _, _, _, _, _, _, _, _, _, _, _, _, _, _, _, _, _, _, _, _, _, _, _, _, _, _, _, _, _, _, _, .func (.func 70) #[] #[], .slice (some ⟨blk, off, none⟩) n cap, .int .i64 ((p : Nat) : Int), .int .i64 ((c : Nat) : Int), .int .i64 ((p - c : Nat) : Int), .pointer (some ⟨blk, off + (p - c) * 7, none⟩), .agg (vsA xv), .slice (some ⟨blk, off, none⟩) n cap, .int .i64 ((c : Nat) : Int), .pointer (some ⟨blk, off + (c) * 7, none⟩), .agg (vsA yv), _, _, _, _, _, _, _, _, _, _, _, _, _, _, _, _, _, _, _, _, _, _, _, _, _, _, _, _, _, _, _, _, _, _, _, _, _, _, _, _, _, _, _, _, _, _, _, _, _, _, _], defers := _ } _
          refine alongK_step ?_
          refine opK_callv (vs := [.agg (vsA xv), .agg (vsA yv)]) (cb := #[]) rfl rfl rfl rfl (enters_of Tryz.func70 (by kernel_rfl) rfl) rfl ?_
          with_reducible refine Calls.mono (HC.out xv yv _ HS.out.drew) ?_
          rintro e w5 ⟨rfl, hS5⟩
          refine ⟨_, rfl, (fun x => SW w0 blk off d x), (fun _ h => h), hS5, ?_⟩
          change AlongK _ _ _ _ _ { tmps := #[.slice (some ⟨blk, off, none⟩) n cap, _, _, _, .func (.func 70) #[] #[], _, _, _, _, _, _, _, _, _, _, _, _, _, _, _, .int .i64 ((i : Nat) : Int), .int .i64 ((j : Nat) : Int), .int .i64 ((p : Nat) : Int), .int .i64 ((c : Nat) : Int), _, _, _, _, _, _, _, _, _, _, _, _, _, _, _, _, _, _, _, _, _, _, _, _, _, _, _, _, _, _, _, _, _, _, _, _, _, _, _, _, _, _, _, _, _, _, _, _, _, _, _, _, _, _, _, _, _, _, _, _, _, _, _, _, _, _, _, _, _, _, _, _, _, _, _, _, _, _, _, _, _, _, _, _, _, _, _, _, _, _, _, _, _, _, _, _, _, _, _, _, _, _, _, _, _, _, _, _, _, _, _, _, _, _, _, _, _, _, _, _, _, _, _, _, _, _, _, _, _, _, _, _, _, _, .func (.func 70) #[] #[], .slice (some ⟨blk, off, none⟩) n cap, .int .i64 ((p : Nat) : Int), .int .i64 ((c : Nat) : Int), .int .i64 ((p - c : Nat) : Int), .pointer (some ⟨blk, off + (p - c) * 7, none⟩), .agg (vsA xv), .slice (some ⟨blk, off, none⟩) n cap, .int .i64 ((c : Nat) : Int), .pointer (some ⟨blk, off + (c) * 7, none⟩), .agg (vsA yv), .int .i64 (vsCmp xv yv), _, _, _, _, _, _, _, _, _, _, _, _, _, _, _, _, _, _, _, _, _, _, _, _, _, _, _, _, _, _, _, _, _, _, _, _, _, _, _, _, _, _, _, _, _, _, _, _, _, _], defers := _ } _
          refine alongK_read (.bool false) rfl rfl (fun wx hS => ex_bin rfl rfl rfl wx (bin_neg _ _ (vsCmp xv yv) false HB.out wx)) ?_
          change AlongK _ _ _ _ _ { tmps := #[.slice (some ⟨blk, off, none⟩) n cap, _, _, _, .func (.func 70) #[] #[], _, _, _, _, _, _, _, _, _, _, _, _, _, _, _, .int .i64 ((i : Nat) : Int), .int .i64 ((j : Nat) : Int), .int .i64 ((p : Nat) : Int), .int .i64 ((c : Nat) : Int), _, _, _, _, _, _, _, _, _, _, _, _, _, _, _, _, _, _, _, _, _, _, _, _, _, _, _, _, _, _, _, _, _, _, _, _, _, _, _, _, _, _, _, _, _, _, _, _, _, _, _, _, _, _, _, _, _, _, _, _, _, _, _, _, _, _, _, _, _, _, _, _, _, _, _, _, _, _, _, _, _, _, _, _, _, _, _, _, _, _, _, _, _, _, _, _, _, _, _, _, _, _, _, _, _, _, _, _, _, _, _, _, _, _, _, _, _, _, _, _, _, _, _, _, _, _, _, _, _, _, _, _, _, _, .func (.func 70) #[] #[], .slice (some ⟨blk, off, none⟩) n cap, .int .i64 ((p : Nat) : Int), .int .i64 ((c : Nat) : Int), .int .i64 ((p - c : Nat) : Int), .pointer (some ⟨blk, off + (p - c) * 7, none⟩), .agg (vsA xv), .slice (some ⟨blk, off, none⟩) n cap, .int .i64 ((c : Nat) : Int), .pointer (some ⟨blk, off + (c) * 7, none⟩), .agg (vsA yv), .int .i64 (vsCmp xv yv), .bool false, _, _, _, _, _, _, _, _, _, _, _, _, _, _, _, _, _, _, _, _, _, _, _, _, _, _, _, _, _, _, _, _, _, _, _, _, _, _, _, _, _, _, _, _, _, _, _, _, _], defers := _ } _
          refine alongK_read (.bool (!false)) rfl rfl (fun wx hS => ex_not rfl rfl wx) ?_
          change AlongK _ _ _ _ _ { tmps := #[.slice (some ⟨blk, off, none⟩) n cap, _, _, _, .func (.func 70) #[] #[], _, _, _, _, _, _, _, _, _, _, _, _, _, _, _, .int .i64 ((i : Nat) : Int), .int .i64 ((j : Nat) : Int), .int .i64 ((p : Nat) : Int), .int .i64 ((c : Nat) : Int), _, _, _, _, _, _, _, _, _, _, _, _, _, _, _, _, _, _, _, _, _, _, _, _, _, _, _, _, _, _, _, _, _, _, _, _, _, _, _, _, _, _, _, _, _, _, _, _, _, _, _, _, _, _, _, _, _, _, _, _, _, _, _, _, _, _, _, _, _, _, _, _, _, _, _, _, _, _, _, _, _, _, _, _, _, _, _, _, _, _, _, _, _, _, _, _, _, _, _, _, _, _, _, _, _, _, _, _, _, _, _, _, _, _, _, _, _, _, _, _, _, _, _, _, _, _, _, _, _, _, _, _, _, _, .func (.func 70) #[] #[], .slice (some ⟨blk, off, none⟩) n cap, .int .i64 ((p : Nat) : Int), .int .i64 ((c : Nat) : Int), .int .i64 ((p - c : Nat) : Int), .pointer (some ⟨blk, off + (p - c) * 7, none⟩), .agg (vsA xv), .slice (some ⟨blk, off, none⟩) n cap, .int .i64 ((c : Nat) : Int), .pointer (some ⟨blk, off + (c) * 7, none⟩), .agg (vsA yv), .int .i64 (vsCmp xv yv), .bool false, .bool (!false), _, _, _, _, _, _, _, _, _, _, _, _, _, _, _, _, _, _, _, _, _, _, _, _, _, _, _, _, _, _, _, _, _, _, _, _, _, _, _, _, _, _, _, _, _, _, _, _], defers := _ } _
          refine alongK_done ?_
          focus
            have HS5 := Lib.hid hS5
            clear hS5
            go_wp2
            go_roundw
            case rel => exact ⟨c + 1, j, by go_num, rfl, Lib.hid (Hc.out.up hh1 hh2 (by rw [Hx.out, Hy.out, HK.out]; rfl)), HS5⟩
            case measure => simp [intOf]; omega
      · have hij : i = j := by have := Hc.out.m; omega
        subst hij
        have hz : ¬ (i : Int) < (i : Int) := by omega
        have c2 := Hc.out.h
        have h3 := HE.out.hmid; have h4 := HE.out.hnn; have h5 := HE.out.ham; have h6 := HE.out.hmb
        obtain ⟨e, he⟩ : ∃ e, e + i = nn := ⟨nn - i, by omega⟩
        have w7 : IntKind.i64.wrap ((nn : Int) - i) = (e : Int) := by rw [IntKind.wrap_i64]; omega
        have q1 := List.take_append_drop (i - a) U
        have q2 := List.take_append_drop (e - m) V
        have lU1 : (U.take (i - a)).length = i - a := by rw [List.length_take]; have := HA.out; omega
        have lU2 : (U.drop (i - a)).length = m - i := by rw [List.length_drop]; have := HA.out; omega
        have lV1 : (V.take (e - m)).length = e - m := by rw [List.length_take]; have := HA.out; omega
        have lV2 : (V.drop (e - m)).length = b - e := by rw [List.length_drop]; have := HA.out; omega
        have hsU : Srt vsK (U.take (i - a)) ∧ Srt vsK (U.drop (i - a)) := by
          have := hU; rw [← q1] at this; exact ⟨(List.pairwise_append.1 this).1, (List.pairwise_append.1 this).2.1⟩
        have hsV : Srt vsK (V.take (e - m)) ∧ Srt vsK (V.drop (e - m)) := by
          have := hV; rw [← q2] at this; exact ⟨(List.pairwise_append.1 this).1, (List.pairwise_append.1 this).2.1⟩
        have HM : Hid (∀ M1 M2, Mgd vsK (U.take (i - a)) (V.take (e - m)) M1 → Mgd vsK (U.drop (i - a)) (V.drop (e - m)) M2 → Mgd vsK U V (M1 ++ M2)) := fun M1 M2 h1 h2 =>
          sym_cut HL.out HA.out.1 HA.out.2.1 HA.out.2.2 hU hV HE.out Hc.out he h1 h2
        have HL1 : Hid (d.toList = P ++ (U.take (i - a) ++ (U.drop (i - a) ++ (V.take (e - m) ++ (V.drop (e - m) ++ T))))) := Lib.hid (by
          rw [HL.out, ← List.append_assoc (List.take (i - a) U), q1, ← List.append_assoc (List.take (e - m) V), q2])
        have lUV : U.length + V.length = b - a := by have := HA.out; omega
        have h7 : mid + m = e + i := by omega
        have h8 : a = P.length := HA.out.1
        rw [lUV] at HIH
        clear q1 q2
        generalize U.take (i - a) = U1 at lU1 hsU HM HL1
        generalize U.drop (i - a) = U2 at lU2 hsU HM HL1
        generalize V.take (e - m) = V1 at lV1 hsV HM HL1
        generalize V.drop (e - m) = V2 at lV2 hsV HM HL1
        have HR : Hid (i < m → m < e → Calls Tryz.prog 141 #[.slice (some ⟨blk, off, none⟩) n cap, .int .i64 (i : Nat), .int .i64 (m : Nat), .int .i64 (e : Nat), .func (.func 70) #[] #[]] wr fun e w' => e = .returned (.tuple #[]) ∧ ∃ d' : Array Vs, SW w0 blk off d' w' ∧ d'.toList = P ++ (U1 ++ (V1 ++ (U2 ++ (V2 ++ T))))) := fun x1 x2 => by
          refine (rotate_any R n cap i m e _ (P ++ U1) U2 V1 (V2 ++ T) HN.out hsz (by rw [List.length_append]; omega) (by rw [List.length_append]; omega) (by rw [List.length_append]; omega) (by omega) (by omega) d (by rw [HL1.out]; simp) HDS.out wr HS.out).mono ?_
          rintro e w' ⟨rfl, d', hS, hl⟩
          exact ⟨rfl, d', hS, (by rw [hl]; try simp)⟩
        have HD1 : Hid (¬ (i < m ∧ m < e) → d.toList = P ++ (U1 ++ (V1 ++ (U2 ++ (V2 ++ T))))) := fun h => by
          rw [HL1.out]
          by_cases x1 : i < m
          · have : V1 = [] := List.eq_nil_of_length_eq_zero (by omega)
            rw [this]; try simp
          · have : U2 = [] := List.eq_nil_of_length_eq_zero (by omega)
            rw [this]; try simp
        have HC1 : Hid (∀ (d1 : Array Vs) (w1 : World), SW w0 blk off d1 w1 → d1.toList = P ++ (U1 ++ (V1 ++ (U2 ++ (V2 ++ T)))) → a < i → i < mid → SymAt w0 blk off n cap P U1 V1 (U2 ++ (V2 ++ T)) a i mid d1 w1) := fun d1 w1 hS hl x1 x2 =>
          HIH.out P U1 V1 (U2 ++ (V2 ++ T)) a i mid d1 w1 (by omega) (by omega) (by omega) h8 (by omega) (by omega) hsU.1 hsV.1 hl (by rw [← HDS.out]; have k1 := congrArg List.length hl; have k2 := congrArg List.length HL1.out; simp only [Array.length_toList, List.length_append] at k1 k2; omega) hS
        have HM1 : Hid (¬ (a < i ∧ i < mid) → Mgd vsK U1 V1 (U1 ++ V1)) := fun h => by
          by_cases x1 : a < i
          · have : V1 = [] := List.eq_nil_of_length_eq_zero (by omega)
            rw [this, List.append_nil]; exact mgd_left vsK hsU.1
          · have : U1 = [] := List.eq_nil_of_length_eq_zero (by omega)
            rw [this, List.nil_append]; exact mgd_right vsK hsV.1
        have HC2 : Hid (∀ (M1 : List Vs) (d1 : Array Vs) (w1 : World), M1.length = mid - a → SW w0 blk off d1 w1 → d1.toList = P ++ (M1 ++ (U2 ++ (V2 ++ T))) → mid < e → e < b → SymAt w0 blk off n cap (P ++ M1) U2 V2 T mid e b d1 w1) := fun M1 d1 w1 hM hS hl x1 x2 =>
          HIH.out (P ++ M1) U2 V2 T mid e b d1 w1 (by omega) (by omega) (by omega) (by rw [List.length_append]; omega) (by omega) (by omega) hsU.2 hsV.2 (by rw [hl]; simp) (by rw [← HDS.out]; have k1 := congrArg List.length hl; have k2 := congrArg List.length HL1.out; simp only [Array.length_toList, List.length_append] at k1 k2; omega) hS
        have HM2 : Hid (¬ (mid < e ∧ e < b) → Mgd vsK U2 V2 (U2 ++ V2)) := fun h => by
          by_cases x1 : mid < e
          · have : V2 = [] := List.eq_nil_of_length_eq_zero (by omega)
            rw [this, List.append_nil]; exact mgd_left vsK hsU.2
          · have : U2 = [] := List.eq_nil_of_length_eq_zero (by omega)
            rw [this, List.nil_append]; exact mgd_right vsK hsV.2
        have HLM : Hid (∀ M1, Mgd vsK U1 V1 M1 → M1.length = mid - a) := fun M1 h => by have := h.len; omega
        clear lU1 lU2 lV1 lV2 hsU hsV lUV h8 HIH HC0 h3 h4 c1 c2 he w0a w0b w0c w0d w1 w2 w3 w4 w5 hmz HSL
        by_cases y1 : i < m ∧ m < e
        · have z1 : (i : Int) < (m : Int) := by omega
          have z2 : (m : Int) < (e : Int) := by omega
          have Hq := Lib.hid (HR.out y1.1 y1.2)
          go_wp2_with fail
          with_reducible refine Calls.mono Hq.out ?_
          rintro e1 w1 ⟨rfl, d1, hS1, hl1⟩
          have HS1 := Lib.hid hS1
          have HD1 := Lib.hid hl1
          clear hS1 hl1 Hq z1 z2 w7 hz
          by_cases y2 : a < i ∧ i < mid
          · have z1 : (a : Int) < (i : Int) := by omega
            have z2 : (i : Int) < (mid : Int) := by omega
            have Hq := Lib.hid (HC1.out d1 _ HS1.out HD1.out y2.1 y2.2)
            unfold SymAt at Hq
            go_wp2_with fail
            with_reducible refine Calls.mono Hq.out ?_
            rintro e2 w2 ⟨rfl, d2, hS2, M1, hl2, hm1⟩
            have HS2 := Lib.hid hS2
            have HD2 := Lib.hid hl2
            have hm1 := Lib.hid hm1
            clear hS2 hl2 Hq z1 z2
            by_cases y3 : mid < e ∧ e < b
            · have z1 : (mid : Int) < (e : Int) := by omega
              have z2 : (e : Int) < (b : Int) := by omega
              first
              | exfalso
                omega
              | have Hq := Lib.hid (HC2.out M1 d2 _ (HLM.out _ hm1.out) HS2.out HD2.out y3.1 y3.2)
                unfold SymAt at Hq
                go_wp2_with fail
                with_reducible refine Calls.mono Hq.out ?_
                rintro e3 w3 ⟨rfl, d3, hS3, M2, hl3, hm2⟩
                go_wp2
                go_end0
                exact ⟨rfl, d3, hS3, M1 ++ M2, (by rw [hl3]; try simp), HM.out _ _ hm1.out hm2⟩
            · have hm2 := HM2.out y3
              by_cases y4 : mid < e
              · have z1 : (mid : Int) < (e : Int) := by omega
                have z2 : ¬ (e : Int) < (b : Int) := by omega
                first
                | exfalso
                  omega
                | go_wp2
                  go_end0
                  exact ⟨rfl, d2, HS2.out, M1 ++ (U2 ++ V2), (by rw [HD2.out]; try simp), HM.out _ _ hm1.out hm2⟩
              · have z1 : ¬ (mid : Int) < (e : Int) := by omega
                first
                | exfalso
                  omega
                | go_wp2
                  go_end0
                  exact ⟨rfl, d2, HS2.out, M1 ++ (U2 ++ V2), (by rw [HD2.out]; try simp), HM.out _ _ hm1.out hm2⟩
          · have hm1 := Lib.hid (HM1.out y2)
            obtain ⟨M1, hM1⟩ : ∃ M1, U1 ++ V1 = M1 := ⟨_, rfl⟩
            obtain ⟨d2, hd2⟩ : ∃ d2, d1 = d2 := ⟨_, rfl⟩
            have HS2 := HS1
            have HD2 : Hid (d2.toList = P ++ (M1 ++ (U2 ++ (V2 ++ T)))) := Lib.hid (by rw [← hd2, ← hM1, HD1.out]; try simp)
            rw [hM1] at hm1
            rw [hd2] at HS2
            clear hd2 hM1
            by_cases y5 : a < i
            · have z1 : (a : Int) < (i : Int) := by omega
              have z2 : ¬ (i : Int) < (mid : Int) := by omega
              by_cases y3 : mid < e ∧ e < b
              · have z1 : (mid : Int) < (e : Int) := by omega
                have z2 : (e : Int) < (b : Int) := by omega
                first
                | exfalso
                  omega
                | have Hq := Lib.hid (HC2.out M1 d2 _ (HLM.out _ hm1.out) HS2.out HD2.out y3.1 y3.2)
                  unfold SymAt at Hq
                  go_wp2_with fail
                  with_reducible refine Calls.mono Hq.out ?_
                  rintro e3 w3 ⟨rfl, d3, hS3, M2, hl3, hm2⟩
                  go_wp2
                  go_end0
                  exact ⟨rfl, d3, hS3, M1 ++ M2, (by rw [hl3]; try simp), HM.out _ _ hm1.out hm2⟩
              · have hm2 := HM2.out y3
                by_cases y4 : mid < e
                · have z1 : (mid : Int) < (e : Int) := by omega
                  have z2 : ¬ (e : Int) < (b : Int) := by omega
                  first
                  | exfalso
                    omega
                  | go_wp2
                    go_end0
                    exact ⟨rfl, d2, HS2.out, M1 ++ (U2 ++ V2), (by rw [HD2.out]; try simp), HM.out _ _ hm1.out hm2⟩
                · have z1 : ¬ (mid : Int) < (e : Int) := by omega
                  first
                  | exfalso
                    omega
                  | go_wp2
                    go_end0
                    exact ⟨rfl, d2, HS2.out, M1 ++ (U2 ++ V2), (by rw [HD2.out]; try simp), HM.out _ _ hm1.out hm2⟩
            · have z1 : ¬ (a : Int) < (i : Int) := by omega
              by_cases y3 : mid < e ∧ e < b
              · have z1 : (mid : Int) < (e : Int) := by omega
                have z2 : (e : Int) < (b : Int) := by omega
                first
                | exfalso
                  omega
                | have Hq := Lib.hid (HC2.out M1 d2 _ (HLM.out _ hm1.out) HS2.out HD2.out y3.1 y3.2)
                  unfold SymAt at Hq
                  go_wp2_with fail
                  with_reducible refine Calls.mono Hq.out ?_
                  rintro e3 w3 ⟨rfl, d3, hS3, M2, hl3, hm2⟩
                  go_wp2
                  go_end0
                  exact ⟨rfl, d3, hS3, M1 ++ M2, (by rw [hl3]; try simp), HM.out _ _ hm1.out hm2⟩
              · have hm2 := HM2.out y3
                by_cases y4 : mid < e
                · have z1 : (mid : Int) < (e : Int) := by omega
                  have z2 : ¬ (e : Int) < (b : Int) := by omega
                  first
                  | exfalso
                    omega
                  | go_wp2
                    go_end0
                    exact ⟨rfl, d2, HS2.out, M1 ++ (U2 ++ V2), (by rw [HD2.out]; try simp), HM.out _ _ hm1.out hm2⟩
                · have z1 : ¬ (mid : Int) < (e : Int) := by omega
                  first
                  | exfalso
                    omega
                  | go_wp2
                    go_end0
                    exact ⟨rfl, d2, HS2.out, M1 ++ (U2 ++ V2), (by rw [HD2.out]; try simp), HM.out _ _ hm1.out hm2⟩
        · obtain ⟨d1, hd1⟩ : ∃ d1, d = d1 := ⟨_, rfl⟩
          have HD1 := Lib.hid (HD1.out y1)
          have HS1 := HS
          rw [hd1] at HD1 HS1
          clear hd1
          by_cases y0 : i < m
          · have z1 : (i : Int) < (m : Int) := by omega
            have z2 : ¬ (m : Int) < (e : Int) := by omega
            by_cases y2 : a < i ∧ i < mid
            · have z1 : (a : Int) < (i : Int) := by omega
              have z2 : (i : Int) < (mid : Int) := by omega
              have Hq := Lib.hid (HC1.out d1 _ HS1.out HD1.out y2.1 y2.2)
              unfold SymAt at Hq
              go_wp2_with fail
              with_reducible refine Calls.mono Hq.out ?_
              rintro e2 w2 ⟨rfl, d2, hS2, M1, hl2, hm1⟩
              have HS2 := Lib.hid hS2
              have HD2 := Lib.hid hl2
              have hm1 := Lib.hid hm1
              clear hS2 hl2 Hq z1 z2
              by_cases y3 : mid < e ∧ e < b
              · have z1 : (mid : Int) < (e : Int) := by omega
                have z2 : (e : Int) < (b : Int) := by omega
                first
                | exfalso
                  omega
                | have Hq := Lib.hid (HC2.out M1 d2 _ (HLM.out _ hm1.out) HS2.out HD2.out y3.1 y3.2)
                  unfold SymAt at Hq
                  go_wp2_with fail
                  with_reducible refine Calls.mono Hq.out ?_
                  rintro e3 w3 ⟨rfl, d3, hS3, M2, hl3, hm2⟩
                  go_wp2
                  go_end0
                  exact ⟨rfl, d3, hS3, M1 ++ M2, (by rw [hl3]; try simp), HM.out _ _ hm1.out hm2⟩
              · have hm2 := HM2.out y3
                by_cases y4 : mid < e
                · have z1 : (mid : Int) < (e : Int) := by omega
                  have z2 : ¬ (e : Int) < (b : Int) := by omega
                  first
                  | exfalso
                    omega
                  | go_wp2
                    go_end0
                    exact ⟨rfl, d2, HS2.out, M1 ++ (U2 ++ V2), (by rw [HD2.out]; try simp), HM.out _ _ hm1.out hm2⟩
                · have z1 : ¬ (mid : Int) < (e : Int) := by omega
                  first
                  | exfalso
                    omega
                  | go_wp2
                    go_end0
                    exact ⟨rfl, d2, HS2.out, M1 ++ (U2 ++ V2), (by rw [HD2.out]; try simp), HM.out _ _ hm1.out hm2⟩
            · have hm1 := Lib.hid (HM1.out y2)
              obtain ⟨M1, hM1⟩ : ∃ M1, U1 ++ V1 = M1 := ⟨_, rfl⟩
              obtain ⟨d2, hd2⟩ : ∃ d2, d1 = d2 := ⟨_, rfl⟩
              have HS2 := HS1
              have HD2 : Hid (d2.toList = P ++ (M1 ++ (U2 ++ (V2 ++ T)))) := Lib.hid (by rw [← hd2, ← hM1, HD1.out]; try simp)
              rw [hM1] at hm1
              rw [hd2] at HS2
              clear hd2 hM1
              by_cases y5 : a < i
              · have z1 : (a : Int) < (i : Int) := by omega
                have z2 : ¬ (i : Int) < (mid : Int) := by omega
                by_cases y3 : mid < e ∧ e < b
                · have z1 : (mid : Int) < (e : Int) := by omega
                  have z2 : (e : Int) < (b : Int) := by omega
                  first
                  | exfalso
                    omega
                  | have Hq := Lib.hid (HC2.out M1 d2 _ (HLM.out _ hm1.out) HS2.out HD2.out y3.1 y3.2)
                    unfold SymAt at Hq
                    go_wp2_with fail
                    with_reducible refine Calls.mono Hq.out ?_
                    rintro e3 w3 ⟨rfl, d3, hS3, M2, hl3, hm2⟩
                    go_wp2
                    go_end0
                    exact ⟨rfl, d3, hS3, M1 ++ M2, (by rw [hl3]; try simp), HM.out _ _ hm1.out hm2⟩
                · have hm2 := HM2.out y3
                  by_cases y4 : mid < e
                  · have z1 : (mid : Int) < (e : Int) := by omega
                    have z2 : ¬ (e : Int) < (b : Int) := by omega
                    first
                    | exfalso
                      omega
                    | go_wp2
                      go_end0
                      exact ⟨rfl, d2, HS2.out, M1 ++ (U2 ++ V2), (by rw [HD2.out]; try simp), HM.out _ _ hm1.out hm2⟩
                  · have z1 : ¬ (mid : Int) < (e : Int) := by omega
                    first
                    | exfalso
                      omega
                    | go_wp2
                      go_end0
                      exact ⟨rfl, d2, HS2.out, M1 ++ (U2 ++ V2), (by rw [HD2.out]; try simp), HM.out _ _ hm1.out hm2⟩
              · have z1 : ¬ (a : Int) < (i : Int) := by omega
                by_cases y3 : mid < e ∧ e < b
                · have z1 : (mid : Int) < (e : Int) := by omega
                  have z2 : (e : Int) < (b : Int) := by omega
                  first
                  | exfalso
                    omega
                  | have Hq := Lib.hid (HC2.out M1 d2 _ (HLM.out _ hm1.out) HS2.out HD2.out y3.1 y3.2)
                    unfold SymAt at Hq
                    go_wp2_with fail
                    with_reducible refine Calls.mono Hq.out ?_
                    rintro e3 w3 ⟨rfl, d3, hS3, M2, hl3, hm2⟩
                    go_wp2
                    go_end0
                    exact ⟨rfl, d3, hS3, M1 ++ M2, (by rw [hl3]; try simp), HM.out _ _ hm1.out hm2⟩
                · have hm2 := HM2.out y3
                  by_cases y4 : mid < e
                  · have z1 : (mid : Int) < (e : Int) := by omega
                    have z2 : ¬ (e : Int) < (b : Int) := by omega
                    first
                    | exfalso
                      omega
                    | go_wp2
                      go_end0
                      exact ⟨rfl, d2, HS2.out, M1 ++ (U2 ++ V2), (by rw [HD2.out]; try simp), HM.out _ _ hm1.out hm2⟩
                  · have z1 : ¬ (mid : Int) < (e : Int) := by omega
                    first
                    | exfalso
                      omega
                    | go_wp2
                      go_end0
                      exact ⟨rfl, d2, HS2.out, M1 ++ (U2 ++ V2), (by rw [HD2.out]; try simp), HM.out _ _ hm1.out hm2⟩
          · have z1 : ¬ (i : Int) < (m : Int) := by omega
            by_cases y2 : a < i ∧ i < mid
            · have z1 : (a : Int) < (i : Int) := by omega
              have z2 : (i : Int) < (mid : Int) := by omega
              have Hq := Lib.hid (HC1.out d1 _ HS1.out HD1.out y2.1 y2.2)
              unfold SymAt at Hq
              go_wp2_with fail
              with_reducible refine Calls.mono Hq.out ?_
              rintro e2 w2 ⟨rfl, d2, hS2, M1, hl2, hm1⟩
              have HS2 := Lib.hid hS2
              have HD2 := Lib.hid hl2
              have hm1 := Lib.hid hm1
              clear hS2 hl2 Hq z1 z2
              by_cases y3 : mid < e ∧ e < b
              · have z1 : (mid : Int) < (e : Int) := by omega
                have z2 : (e : Int) < (b : Int) := by omega
                first
                | exfalso
                  omega
                | have Hq := Lib.hid (HC2.out M1 d2 _ (HLM.out _ hm1.out) HS2.out HD2.out y3.1 y3.2)
                  unfold SymAt at Hq
                  go_wp2_with fail
                  with_reducible refine Calls.mono Hq.out ?_
                  rintro e3 w3 ⟨rfl, d3, hS3, M2, hl3, hm2⟩
                  go_wp2
                  go_end0
                  exact ⟨rfl, d3, hS3, M1 ++ M2, (by rw [hl3]; try simp), HM.out _ _ hm1.out hm2⟩
              · have hm2 := HM2.out y3
                by_cases y4 : mid < e
                · have z1 : (mid : Int) < (e : Int) := by omega
                  have z2 : ¬ (e : Int) < (b : Int) := by omega
                  first
                  | exfalso
                    omega
                  | go_wp2
                    go_end0
                    exact ⟨rfl, d2, HS2.out, M1 ++ (U2 ++ V2), (by rw [HD2.out]; try simp), HM.out _ _ hm1.out hm2⟩
                · have z1 : ¬ (mid : Int) < (e : Int) := by omega
                  first
                  | exfalso
                    omega
                  | go_wp2
                    go_end0
                    exact ⟨rfl, d2, HS2.out, M1 ++ (U2 ++ V2), (by rw [HD2.out]; try simp), HM.out _ _ hm1.out hm2⟩
            · have hm1 := Lib.hid (HM1.out y2)
              obtain ⟨M1, hM1⟩ : ∃ M1, U1 ++ V1 = M1 := ⟨_, rfl⟩
              obtain ⟨d2, hd2⟩ : ∃ d2, d1 = d2 := ⟨_, rfl⟩
              have HS2 := HS1
              have HD2 : Hid (d2.toList = P ++ (M1 ++ (U2 ++ (V2 ++ T)))) := Lib.hid (by rw [← hd2, ← hM1, HD1.out]; try simp)
              rw [hM1] at hm1
              rw [hd2] at HS2
              clear hd2 hM1
              by_cases y5 : a < i
              · have z1 : (a : Int) < (i : Int) := by omega
                have z2 : ¬ (i : Int) < (mid : Int) := by omega
                by_cases y3 : mid < e ∧ e < b
                · have z1 : (mid : Int) < (e : Int) := by omega
                  have z2 : (e : Int) < (b : Int) := by omega
                  first
                  | exfalso
                    omega
                  | have Hq := Lib.hid (HC2.out M1 d2 _ (HLM.out _ hm1.out) HS2.out HD2.out y3.1 y3.2)
                    unfold SymAt at Hq
                    go_wp2_with fail
                    with_reducible refine Calls.mono Hq.out ?_
                    rintro e3 w3 ⟨rfl, d3, hS3, M2, hl3, hm2⟩
                    go_wp2
                    go_end0
                    exact ⟨rfl, d3, hS3, M1 ++ M2, (by rw [hl3]; try simp), HM.out _ _ hm1.out hm2⟩
                · have hm2 := HM2.out y3
                  by_cases y4 : mid < e
                  · have z1 : (mid : Int) < (e : Int) := by omega
                    have z2 : ¬ (e : Int) < (b : Int) := by omega
                    first
                    | exfalso
                      omega
                    | go_wp2
                      go_end0
                      exact ⟨rfl, d2, HS2.out, M1 ++ (U2 ++ V2), (by rw [HD2.out]; try simp), HM.out _ _ hm1.out hm2⟩
                  · have z1 : ¬ (mid : Int) < (e : Int) := by omega
                    first
                    | exfalso
                      omega
                    | go_wp2
                      go_end0
                      exact ⟨rfl, d2, HS2.out, M1 ++ (U2 ++ V2), (by rw [HD2.out]; try simp), HM.out _ _ hm1.out hm2⟩
              · have z1 : ¬ (a : Int) < (i : Int) := by omega
                by_cases y3 : mid < e ∧ e < b
                · have z1 : (mid : Int) < (e : Int) := by omega
                  have z2 : (e : Int) < (b : Int) := by omega
                  first
                  | exfalso
                    omega
                  | have Hq := Lib.hid (HC2.out M1 d2 _ (HLM.out _ hm1.out) HS2.out HD2.out y3.1 y3.2)
                    unfold SymAt at Hq
                    go_wp2_with fail
                    with_reducible refine Calls.mono Hq.out ?_
                    rintro e3 w3 ⟨rfl, d3, hS3, M2, hl3, hm2⟩
                    go_wp2
                    go_end0
                    exact ⟨rfl, d3, hS3, M1 ++ M2, (by rw [hl3]; try simp), HM.out _ _ hm1.out hm2⟩
                · have hm2 := HM2.out y3
                  by_cases y4 : mid < e
                  · have z1 : (mid : Int) < (e : Int) := by omega
                    have z2 : ¬ (e : Int) < (b : Int) := by omega
                    first
                    | exfalso
                      omega
                    | go_wp2
                      go_end0
                      exact ⟨rfl, d2, HS2.out, M1 ++ (U2 ++ V2), (by rw [HD2.out]; try simp), HM.out _ _ hm1.out hm2⟩
                  · have z1 : ¬ (mid : Int) < (e : Int) := by omega
                    first
                    | exfalso
                      omega
                    | go_wp2
                      go_end0
                      exact ⟨rfl, d2, HS2.out, M1 ++ (U2 ++ V2), (by rw [HD2.out]; try simp), HM.out _ _ hm1.out hm2⟩
end
end Go.Proofs.YtfenmhddlojahaaGreat
