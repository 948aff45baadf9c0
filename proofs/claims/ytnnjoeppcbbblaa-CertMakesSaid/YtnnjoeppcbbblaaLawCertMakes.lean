import Derived.Test.YtnnjoeppcbbblaaRfMake
import Derived.Test.YtnnjoeppcbbblaaCtCheck
/-
  CertMakes: the walk returns true.
-/
namespace Go.Proofs.Ytnnjoeppcbbblaa
set_option maxRecDepth 100000
section
set_option linter.unusedVariables false
open Go.RowKit Go.Sort Go.Lib

theorem gath_exist : ∀ l : List Vs, ∃ D, Ndk vsK D ∧ (∀ z, fk vsK z D = fk vsK z l.reverse) ∧ D.length ≤ l.length
  | [] => ⟨[], List.Pairwise.nil, fun _ => rfl, Nat.le_refl _⟩
  | v :: t => by
    obtain ⟨D, h1, h2, h3⟩ := gath_exist t
    rw [List.reverse_cons]
    by_cases h : ∃ y ∈ D, vsK y = vsK v
    · obtain ⟨y, hy, hk⟩ := h
      exact ⟨D, h1, fun z => gather_old vsK h2 hy hk z, by simp; omega⟩
    · have hg := gather_new vsK h1 h2 (fun y hy e => h ⟨y, hy, e⟩)
      exact ⟨D ++ [v], hg.1, hg.2, by simp; omega⟩
theorem firsts_len {l R : List Vs} (h : Firsts vsK l R) : R.length ≤ l.length := by
  obtain ⟨D, h1, h2, h3⟩ := gath_exist l.reverse
  rw [List.reverse_reverse] at h2
  have := same_len vsK (ndk_up vsK h.up) h1 (fun z => (h2 z).trans (h.fst z).symm)
  rw [List.length_reverse] at h3
  omega
/-- what the two Makes answer -/
structure TwoP (w : World) (xs : List Vs) (V H : Int) (B : ByteArray) (e : Ending) (ok : Bool) (n : Nat) (ys : List Vs) (w' : World) : Prop where
  no : ok = false → e = .returned (.tuple #[.agg noCt, .bool false])
  yes : ok = true → ∃ (a : Option Addr) (cap : Nat), e = .returned (.tuple #[.agg #[.int .i64 V, .int .i64 H, .string B, .slice a n cap], .bool true]) ∧ VArg w' (.slice a n cap) ys
  up : Up w w'
theorem twoP {xs : List Vs} {V H : Int} {B : ByteArray} {q : Int} (hb : xs.length * 72 ≤ 140737488355328) (hq : -9223372036854775808 ≤ q ∧ q ≤ 9223372036854775807) :
    ∃ (ok : Bool) (n : Nat) (ys : List Vs), ys.length = n ∧ n < 4611686018427387904 ∧ ∀ (lv : Value) (w : World), VArg w lv xs →
      Calls Try.prog 5 #[lv, .agg #[.int .i64 V, .int .i64 H, .string B], .int .i64 q] w (fun e w' => TwoP w xs V H B e ok n ys w') ∧
      Calls Try.prog 6 #[lv, .agg #[.int .i64 V, .int .i64 H, .string B], .int .i64 q] w (fun e w' => TwoP w xs V H B e ok n ys w') := by
  obtain ⟨R, hR⟩ := firsts_exist vsK (xs.filter (vsOf V H B))
  by_cases h1 : q < 1
  · refine ⟨false, 0, [], rfl, by omega, fun lv w hl => ⟨?_, ?_⟩⟩
    · refine (make_low lv V H B q w h1).mono ?_
      rintro e w' ⟨rfl, hu⟩
      exact ⟨fun _ => rfl, (fun h => by cases h), hu⟩
    · refine (refMake_any lv xs V H B q w hl hb hq).mono ?_
      rintro e w' ⟨hx, hu⟩
      exact ⟨fun _ => (hx R hR).1 (.inl h1), (fun h => by cases h), hu⟩
  · obtain ⟨qn, rfl⟩ : ∃ qn : Nat, q = qn := ⟨q.toNat, by omega⟩
    have hq1 : 1 ≤ qn := by omega
    have uni : ∀ R', Firsts vsK (xs.filter (vsOf V H B)) R' → R' = R := fun R' h => firsts_unique vsK h.up hR.up (fun z => (h.fst z).trans (hR.fst z).symm)
    by_cases h2 : R.length < qn
    · refine ⟨false, 0, [], rfl, by omega, fun lv w hl => ⟨?_, ?_⟩⟩
      · refine (make_high lv xs V H B qn w hl hb hq1 (by omega)).mono ?_
        rintro e w' ⟨⟨R', k1, k2, k3⟩, hu⟩
        obtain rfl := uni R' k1
        exact ⟨fun _ => k2 h2, (fun h => by cases h), hu⟩
      · refine (refMake_any lv xs V H B qn w hl hb hq).mono ?_
        rintro e w' ⟨hx, hu⟩
        exact ⟨fun _ => (hx R hR).1 (.inr (by omega)), (fun h => by cases h), hu⟩
    · have hlR : R.length ≤ xs.length := Nat.le_trans (firsts_len hR) (List.length_filter_le _ _)
      refine ⟨true, qn, R.take qn, by rw [List.length_take, Nat.min_eq_left (by omega)], by omega, fun lv w hl => ⟨?_, ?_⟩⟩
      · refine (make_high lv xs V H B qn w hl hb hq1 (by omega)).mono ?_
        rintro e w' ⟨⟨R', k1, k2, k3⟩, hu⟩
        obtain rfl := uni R' k1
        exact ⟨(fun h => by cases h), fun _ => k3 (by omega), hu⟩
      · refine (refMake_any lv xs V H B qn w hl hb hq).mono ?_
        rintro e w' ⟨hx, hu⟩
        exact ⟨(fun h => by cases h), fun _ => (hx R hR).2 qn rfl hq1 (by omega), hu⟩

set_option maxHeartbeats 4000000 in
theorem lawCertMakes_any (lv : Value) (xs : List Vs) (V H : Int) (B : ByteArray) (q : Int) (w : World) (hl : VArg w lv xs) (hb : xs.length * 72 ≤ 140737488355328) (hq : -9223372036854775808 ≤ q ∧ q ≤ 9223372036854775807) :
    Calls Try.prog 3 #[lv, .agg (mkC V H B), .int .i64 q] w fun e w' => e = .returned (.bool true) ∧ Up w w' := by
  unfold mkC
  obtain ⟨ok, n, ys, hyn, hn, two⟩ := twoP (xs := xs) (V := V) (H := H) (B := B) hb hq
  have HTWO := Lib.hid two
  have HSAME := Lib.hid (fun a a2 c c2 wx h1 h2 => sameCert_any V H B a a2 n c c2 ys wx hyn h1 h2 hn)
  have h0 := heap_alloc_new w (.cells #[.int .i64 V, .int .i64 H, .string B] 24)
  have HL1 := Lib.hid (hl.up (Up.alloc (Up.refl w) (.cells #[.int .i64 V, .int .i64 H, .string B] 24)))
  have HU1 := Lib.hid (Up.alloc (Up.refl w) (.cells #[.int .i64 V, .int .i64 H, .string B] 24))
  have HB0 := Lib.hid h0
  clear two hl hyn hn hb hq
  go_enter Try.func3, Try.ntmps3
  go_wp2_with fail
  generalize w.alloc (.cells #[.int .i64 V, .int .i64 H, .string B] 24) = w1 at HB0 HL1 HU1 h0 ⊢
  generalize w.heap.size = mb at HB0 h0 ⊢
  clear h0
  cases ok with
  | false =>
    with_reducible refine Calls.mono (HTWO.out lv w1 HL1.out).1 ?_
    rintro e w2 ⟨h, h', hu2⟩
    obtain rfl : e = .returned (.tuple #[.agg #[.int .i64 0, .int .i64 0, .string ⟨#[]⟩, .slice none 0 0], .bool false]) := h rfl
    clear h h'
    have u3 := Up.trans hu2 (Up.alloc (Up.refl w2) (.cells #[.int .i64 0, .int .i64 0, .string ⟨#[]⟩, .slice none 0 0] 26))
    have HB3 := Lib.hid ((u3.block _ (lt_of_block HB0.out)).trans HB0.out)
    have HC3 := Lib.hid (heap_alloc_new w2 (.cells #[.int .i64 0, .int .i64 0, .string ⟨#[]⟩, .slice none 0 0] 26))
    have HL3 := Lib.hid (HL1.out.up u3)
    have HU3 := Lib.hid (Up.trans HU1.out u3)
    clear u3 hu2
    go_wp2_with (refine wpList_ex rfl (.agg #[.int .i64 V, .int .i64 H, .string B]) _ (ex_loadrow (x := .tmp 4) rfl rfl _ 24 HB3.out Try.underlying24 rfl info_mk) ?_)
    generalize w2.alloc (.cells #[.int .i64 0, .int .i64 0, .string ⟨#[]⟩, .slice none 0 0] 26) = w3 at HB3 HC3 HL3 HU3 ⊢
    generalize w2.heap.size = c1 at HC3 ⊢
    with_reducible refine Calls.mono (HTWO.out lv w3 HL3.out).2 ?_
    rintro e w4 ⟨h, h', hu4⟩
    obtain rfl : e = .returned (.tuple #[.agg #[.int .i64 0, .int .i64 0, .string ⟨#[]⟩, .slice none 0 0], .bool false]) := h rfl
    clear h h'
    have u5 := Up.trans hu4 (Up.alloc (Up.refl w4) (.cells #[.int .i64 0, .int .i64 0, .string ⟨#[]⟩, .slice none 0 0] 26))
    have HC4 := Lib.hid ((u5.block _ (lt_of_block HC3.out)).trans HC3.out)
    have HD4 := Lib.hid (heap_alloc_new w4 (.cells #[.int .i64 0, .int .i64 0, .string ⟨#[]⟩, .slice none 0 0] 26))
    have HU5 := Lib.hid (Up.trans HU3.out u5)
    have hn0 : ∀ wx, VArg wx (.slice none 0 0) [] := fun wx => ⟨none, 0, rfl, Nat.le_refl _, fun _ => rfl, .inl rfl⟩
    have HS5 := Lib.hid (sameCert_any 0 0 ⟨#[]⟩ none none 0 0 0 [] (w4.alloc (.cells #[.int .i64 0, .int .i64 0, .string ⟨#[]⟩, .slice none 0 0] 26)) rfl (hn0 _) (hn0 _) (by omega))
    clear hn0
    clear u5 hu4
    obtain ⟨k0, k1, k2, k3⟩ := ct_cells HC4.out
    obtain ⟨d0, d1, d2, d3⟩ := ct_cells HD4.out
    go_wp2_with fail
    with_reducible refine Calls.mono HS5.out ?_
    rintro e w6 ⟨rfl, hu6⟩
    go_wp2_with fail
    with_reducible refine Calls.mono (ctAlive_any _) ?_
    rintro e w7 ⟨rfl, hu7⟩
    go_wp2
    go_ret
    exact ⟨rfl, Up.trans HU5.out (Up.trans hu6 hu7)⟩
  | true =>
    with_reducible refine Calls.mono (HTWO.out lv w1 HL1.out).1 ?_
    rintro e w2 ⟨h, h', hu2⟩
    obtain ⟨a, ca, rfl, hv⟩ := h' rfl
    have HV := Lib.hid hv
    clear hv
    clear h h'
    have u3 := Up.trans hu2 (Up.alloc (Up.refl w2) (.cells #[.int .i64 V, .int .i64 H, .string B, .slice a n ca] 26))
    have HB3 := Lib.hid ((u3.block _ (lt_of_block HB0.out)).trans HB0.out)
    have HC3 := Lib.hid (heap_alloc_new w2 (.cells #[.int .i64 V, .int .i64 H, .string B, .slice a n ca] 26))
    have HL3 := Lib.hid (HL1.out.up u3)
    have HU3 := Lib.hid (Up.trans HU1.out u3)
    have HV3 := Lib.hid (HV.out.up (Up.alloc (Up.refl w2) (.cells #[.int .i64 V, .int .i64 H, .string B, .slice a n ca] 26)))
    clear u3 hu2
    go_wp2_with (refine wpList_ex rfl (.agg #[.int .i64 V, .int .i64 H, .string B]) _ (ex_loadrow (x := .tmp 4) rfl rfl _ 24 HB3.out Try.underlying24 rfl info_mk) ?_)
    generalize w2.alloc (.cells #[.int .i64 V, .int .i64 H, .string B, .slice a n ca] 26) = w3 at HB3 HC3 HL3 HU3 HV3 ⊢
    generalize w2.heap.size = c1 at HC3 ⊢
    with_reducible refine Calls.mono (HTWO.out lv w3 HL3.out).2 ?_
    rintro e w4 ⟨h, h', hu4⟩
    obtain ⟨b, cb, rfl, hv⟩ := h' rfl
    have HV2 := Lib.hid hv
    clear hv
    clear h h'
    have u5 := Up.trans hu4 (Up.alloc (Up.refl w4) (.cells #[.int .i64 V, .int .i64 H, .string B, .slice b n cb] 26))
    have HC4 := Lib.hid ((u5.block _ (lt_of_block HC3.out)).trans HC3.out)
    have HD4 := Lib.hid (heap_alloc_new w4 (.cells #[.int .i64 V, .int .i64 H, .string B, .slice b n cb] 26))
    have HU5 := Lib.hid (Up.trans HU3.out u5)
    have HS5 := Lib.hid (HSAME.out a b ca cb (w4.alloc (.cells #[.int .i64 V, .int .i64 H, .string B, .slice b n cb] 26)) (HV3.out.up u5) (HV2.out.up (Up.alloc (Up.refl w4) _)))
    clear u5 hu4
    obtain ⟨k0, k1, k2, k3⟩ := ct_cells HC4.out
    obtain ⟨d0, d1, d2, d3⟩ := ct_cells HD4.out
    go_wp2_with fail
    with_reducible refine Calls.mono HS5.out ?_
    rintro e w6 ⟨rfl, hu6⟩
    go_wp2_with fail
    with_reducible refine Calls.mono (ctAlive_any _) ?_
    rintro e w7 ⟨rfl, hu7⟩
    go_wp2
    go_ret
    exact ⟨rfl, Up.trans HU5.out (Up.trans hu6 hu7)⟩
end
end Go.Proofs.Ytnnjoeppcbbblaa
