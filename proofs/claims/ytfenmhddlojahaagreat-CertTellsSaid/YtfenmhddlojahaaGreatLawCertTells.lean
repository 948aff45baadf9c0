import Derived.Test.YtfenmhddlojahaaGreatCtPut
import Derived.Test.YtfenmhddlojahaaGreatRfCert
import Derived.Test.YtfenmhddlojahaaGreatCtFirst
/-
  CertTells: the walk returns true.
-/
namespace Go.Proofs.YtfenmhddlojahaaGreat
set_option maxRecDepth 100000
section
set_option linter.unusedVariables false
open Go.RowKit Go.Sort Go.Lib

theorem ctNum_any (E : Int) (w : World) : Calls Tryz.prog 11 #[.int .i64 E] w fun e w' => e = .returned (.int .i64 E) ∧ Up w w' := by
  go_enter Tryz.func11, Tryz.ntmps11
  go_wp2
  go_ret
  exact ⟨rfl, Up.refl _⟩
theorem build_mk (V H : Int) (B : ByteArray) (w : World) : (Instr.build 27 #[(0, .int .i64 V), (1, .int .i64 H), (2, .string B)]).run Tryz.prog w = .ok (.agg #[.int .i64 V, .int .i64 H, .string B]) w := by
  simp [go_sem]
theorem mk_same (V H : Int) (B : ByteArray) (x y : Operand) (w : World) : (do eqGuard .eql 27 x y (.agg #[.int .i64 V, .int .i64 H, .string B]) (.agg #[.int .i64 V, .int .i64 H, .string B]); binOp .eql 27 (.agg #[.int .i64 V, .int .i64 H, .string B]) (.agg #[.int .i64 V, .int .i64 H, .string B]) : Sem Value).run Tryz.prog w = .ok (.bool true) w := by
  rw [mk_eql]; simp
theorem bool_same (b : Bool) (x y : Operand) (w : World) : (do eqGuard .eql 4 x y (.bool b) (.bool b); binOp .eql 4 (.bool b) (.bool b) : Sem Value).run Tryz.prog w = .ok (.bool true) w := by
  simp [eqGuard, go_sem]

/-- the program's writer and the reference's fields: one error, and where there is none the same octets -/
def SameP (p q : Int × List Int) : Prop := p.1 = q.1 ∧ (p.1 = 0 → p.2 = q.2)
theorem SameP.num {p q : Int × List Int} (h : SameP p q) (n : Int) : SameP (numS p n) (wNumE q.1 n, rNumB q.2 n) := by
  obtain ⟨E, bs⟩ := p; obtain ⟨E', bs'⟩ := q
  obtain ⟨h1, h2⟩ := h
  simp only at h1 h2
  subst h1
  refine ⟨rfl, ?_⟩
  change wNumE E n = 0 → wNumB E bs n = rNumB bs' n
  unfold wNumE wNumB rNumB wErr wPut
  intro h0
  split at h0
  · split at h0
    · cases h0
    · contradiction
  · next h1 =>
    have := h2 h0
    subst this
    rw [if_neg h1, if_neg h1]
    split
    · next h2 => rw [if_pos h2.2]
    · next h2 => rw [if_neg (fun e => h2 ⟨h0, e⟩)]
theorem SameP.text {p q : Int × List Int} (h : SameP p q) (zs : List Int) : SameP (textS p zs) (wTextE q.1 zs, rTextB q.2 zs) := by
  obtain ⟨E, bs⟩ := p; obtain ⟨E', bs'⟩ := q
  obtain ⟨h1, h2⟩ := h
  simp only at h1 h2
  subst h1
  refine ⟨rfl, ?_⟩
  change wTextE E zs = 0 → wTextB E bs zs = rTextB bs' zs
  unfold wTextE wTextB rTextB wErr wPut
  intro h0
  split at h0
  · split at h0
    · cases h0
    · contradiction
  · next h1 =>
    have := h2 h0
    subst this
    rw [if_neg h1, if_neg h1]
    split
    · next h2 => rw [if_pos h2.2]
    · next h2 => rw [if_neg (fun e => h2 ⟨h0, e⟩)]
theorem SameP.vote {p q : Int × List Int} (h : SameP p q) (x : Vs) : SameP (pvS p x) (pvE q.1 x, pvB q.2 x) :=
  ((((((((h.text [118, 111, 116, 101]).num x.1.K).num x.1.V).num x.1.H).text x.1.B).num x.1.T).num x.1.G).text (octsOf x.2))
theorem SameP.votes : ∀ (xs : List Vs) {p q : Int × List Int}, SameP p q → SameP (ctWS p xs) (ctRE q xs)
  | [], _, _, h => h
  | x :: t, p, q, h => SameP.votes t (p := pvS p x) (q := (pvE q.1 x, pvB q.2 x)) (h.vote x)
theorem SameP.cert {p q : Int × List Int} (h : SameP p q) (V H : Int) (BL : List Int) (xs : List Vs) (n : Nat) : SameP (ctWS (chS p V H BL n) xs) (ctRE (chE q.1 V H BL n, chB q.2 V H BL n) xs) :=
  SameP.votes xs ((((h.num V).num H).text BL).num (n : Int))
theorem SameP.done {p q : Int × List Int} (h : SameP p q) : doneE q.1 q.2 = doneE p.1 p.2 ∧ doneB q.1 q.2 = doneB p.1 p.2 := by
  obtain ⟨E, bs⟩ := p; obtain ⟨E', bs'⟩ := q
  obtain ⟨h1, h2⟩ := h
  simp only at h1 h2
  subst h1
  by_cases hE : E = 0
  · rw [h2 hE]; exact ⟨rfl, rfl⟩
  · simp [doneE, doneB, hE]
theorem checkP_num (P : Prop) : ∃ RC : Int, ∀ (w : World) (e : Ending) (w' : World), CheckP w P e w' → e = .returned (.int .i64 RC) ∧ Up w w' := by
  by_cases h : P
  · exact ⟨0, fun w e w' k => ⟨k.yes h, k.up⟩⟩
  · exact ⟨41, fun w e w' k => ⟨k.no h, k.up⟩⟩

set_option maxHeartbeats 8000000 in
theorem lawCertTells_any (V H : Int) (BL : List Int) (a : Option Addr) (n cap : Nat) (xs : List Vs) (rv : Value) (ls : List (List Int)) (q V1 H1 : Int) (B1 : ByteArray) (V2 H2 : Int) (B2 : ByteArray) (w : World) (hV : I64 V) (hH : I64 H) (hu : U8s BL) (hbn : BL.length ≤ 9223372036854775807) (hv : VArg w (.slice a n cap) xs) (hn : xs.length = n) (hsz : n < 4611686018427387904) (hs : Strs w rv ls) (hll : ls.length ≤ 9223372036854775807) (hok : ∀ (j : Nat) (x : Vs), xs[j]? = some x → VsOk x) :
    Calls Tryz.prog 3 #[.agg #[.int .i64 V, .int .i64 H, .string (strOfNums BL), .slice a n cap], rv, .int .i64 q, .agg #[.int .i64 V1, .int .i64 H1, .string B1], .agg #[.int .i64 V2, .int .i64 H2, .string B2]] w fun e w' => e = .returned (.bool true) ∧ Up w w' := by
  obtain ⟨ra, rc, e, _⟩ := id hs
  subst e
  obtain ⟨RC, hRC⟩ := checkP_num (RightP V H (strOfNums BL) ls xs q)
  have HCK : Hid (∀ wx, Up w wx → Calls Tryz.prog 12 #[.agg #[.int .i64 V, .int .i64 H, .string (strOfNums BL), .slice a n cap], .slice ra ls.length rc, .int .i64 q] wx fun e w' => e = .returned (.int .i64 RC) ∧ Up wx w') := fun wx u => (ctCheck_any V H (strOfNums BL) a n cap xs _ ls q wx (hv.up u) hn hsz (hs.up u) hll hok).mono fun e w' k => hRC wx e w' k
  have HRK : Hid (∀ wx, Up w wx → Calls Tryz.prog 13 #[.agg #[.int .i64 V, .int .i64 H, .string (strOfNums BL), .slice a n cap], .slice ra ls.length rc, .int .i64 q] wx fun e w' => e = .returned (.int .i64 RC) ∧ Up wx w') := fun wx u => (refCert_any V H (strOfNums BL) a n cap xs _ ls q wx (hv.up u) hn hsz (hs.up u) hll hok).mono fun e w' k => hRC wx e w' k
  have HHI : Hid (∀ wx, Calls Tryz.prog 15 #[.agg #[.int .i64 V1, .int .i64 H1, .string B1], .agg #[.int .i64 V2, .int .i64 H2, .string B2]] wx fun e w' => e = .returned (.bool (hiB V1 H1 V2 H2)) ∧ Up wx w') := fun wx => higher_any V1 H1 B1 V2 H2 B2 wx
  have u1 := Up.alloc (Up.refl w) (.cells #[.int .i64 V, .int .i64 H, .string (strOfNums BL), .slice a n cap] 24)
  have u2 := Up.alloc (Up.refl (w.alloc (.cells #[.int .i64 V, .int .i64 H, .string (strOfNums BL), .slice a n cap] 24))) (.cells #[.int .i64 V1, .int .i64 H1, .string B1] 27)
  have u3 := Up.alloc (Up.refl ((w.alloc (.cells #[.int .i64 V, .int .i64 H, .string (strOfNums BL), .slice a n cap] 24)).alloc (.cells #[.int .i64 V1, .int .i64 H1, .string B1] 27))) (.cells #[.int .i64 V2, .int .i64 H2, .string B2] 27)
  have h1 := heap_alloc_new w (.cells #[.int .i64 V, .int .i64 H, .string (strOfNums BL), .slice a n cap] 24)
  have h2 := heap_alloc_new (w.alloc (.cells #[.int .i64 V, .int .i64 H, .string (strOfNums BL), .slice a n cap] 24)) (.cells #[.int .i64 V1, .int .i64 H1, .string B1] 27)
  have h3 := heap_alloc_new ((w.alloc (.cells #[.int .i64 V, .int .i64 H, .string (strOfNums BL), .slice a n cap] 24)).alloc (.cells #[.int .i64 V1, .int .i64 H1, .string B1] 27)) (.cells #[.int .i64 V2, .int .i64 H2, .string B2] 27)
  rw [show (w.alloc (.cells #[.int .i64 V, .int .i64 H, .string (strOfNums BL), .slice a n cap] 24)).heap.size = w.heap.size + 1 by simp] at h2
  rw [show ((w.alloc (.cells #[.int .i64 V, .int .i64 H, .string (strOfNums BL), .slice a n cap] 24)).alloc (.cells #[.int .i64 V1, .int .i64 H1, .string B1] 27)).heap.size = w.heap.size + 1 + 1 by simp] at h3
  have u23 := Up.trans u2 u3
  have HU3 := Lib.hid (Up.trans u1 u23)
  have HC3 := Lib.hid ((u23.block _ (lt_of_block h1)).trans h1)
  have HA3 := Lib.hid ((u3.block _ (lt_of_block h2)).trans h2)
  have HB3 := Lib.hid h3
  have HVW := Lib.hid hv
  have HPUT : Hid (∀ wx base g, Wr wx base g (.slice none 0 0) 0 [] → Up w wx → w.heap.size ≤ base → base ≤ wx.heap.size → Calls Tryz.prog 7 #[.pointer (some ⟨g, 0, none⟩), .agg #[.int .i64 V, .int .i64 H, .string (strOfNums BL), .slice a n cap]] wx fun e w' => e = .returned (.tuple #[]) ∧ ∃ o', Wr w' base g o' (ctWS (chS (0, []) V H BL n) xs).1 (ctWS (chS (0, []) V H BL n) xs).2 ∧ WrStep g (.slice none 0 0) o' wx w') :=
    fun wx base g k u h1 h2 => ctPut_any base g _ 0 [] V H BL a n cap xs wx k (by simp) h2 hV hH hu hbn (hv.up u) (fun hx b off e => Nat.lt_of_lt_of_le (varg_lt hv hx b off e) h1) hn hsz hok
  have hsm : SameP (ctWS (chS (0, []) V H BL n) xs) (ctRE (chE 0 V H BL n, chB [] V H BL n) xs) := SameP.cert (p := (0, [])) (q := (0, [])) ⟨rfl, fun _ => rfl⟩ V H BL xs n
  have hL := ctWS_len xs (chS (0, []) V H BL n) (by exact numS_le _ _ (textS_le _ _ (numS_le _ _ (numS_le _ _ (by simp)))))
  have hL2 := ctRE_len xs (chE 0 V H BL n, chB [] V H BL n) (rNumB_len _ (rTextB_len _ (rNumB_len _ (rNumB_len _ (by simp)))))
  obtain ⟨hd1, hd2⟩ := hsm.done
  have HRPUT : Hid (∀ wx, Up w wx → Calls Tryz.prog 10 #[.agg #[.slice none 0 0, .int .i64 0], .agg #[.int .i64 V, .int .i64 H, .string (strOfNums BL), .slice a n cap]] wx (RPto wx (ctRE (chE 0 V H BL n, chB [] V H BL n) xs).1 (ctRE (chE 0 V H BL n, chB [] V H BL n) xs).2)) :=
    fun wx u => refPutCert_any (.slice none 0 0) 0 [] V H BL a n cap xs wx ⟨none, 0, rfl, Nat.le_refl _, fun _ => rfl, .inl rfl⟩ (by simp) hu hbn (hv.up u) hn hsz hok
  have HRD : Hid (∀ wx b, Ints .u8 wx b (ctRE (chE 0 V H BL n, chB [] V H BL n) xs).2 → Calls Tryz.prog 9 #[.agg #[b, .int .i64 (ctRE (chE 0 V H BL n, chB [] V H BL n) xs).1]] wx fun e w' => ∃ r, e = .returned (.tuple #[r, .int .i64 (doneE (ctWS (chS (0, []) V H BL n) xs).1 (ctWS (chS (0, []) V H BL n) xs).2)]) ∧ Ints .u8 w' r (doneB (ctWS (chS (0, []) V H BL n) xs).1 (ctWS (chS (0, []) V H BL n) xs).2) ∧ Up wx w') := fun wx b k => by
    have h := refDone_any b (ctRE (chE 0 V H BL n, chB [] V H BL n) xs).1 (ctRE (chE 0 V H BL n, chB [] V H BL n) xs).2 wx k (Nat.le_trans hL2 (by decide))
    rw [hd1, hd2] at h
    exact h
  have HL := Lib.hid hL
  generalize ctWS (chS (0, []) V H BL n) xs = p at HPUT HRD HL
  generalize ctRE (chE 0 V H BL n, chB [] V H BL n) xs = p2 at HRPUT HRD
  obtain ⟨E1, b1⟩ := p
  obtain ⟨E2, b2⟩ := p2
  simp only at HPUT HRD HL HRPUT
  have HDN : Hid (∀ wx base g o, Wr wx base g o E1 b1 → Calls Tryz.prog 8 #[.pointer (some ⟨g, 0, none⟩)] wx fun e w' => ∃ r, e = .returned (.tuple #[r, .int .i64 (doneE E1 b1)]) ∧ w'.ownsRow wx.heap.size 5 1 r (doneB E1 b1).length ((doneB E1 b1).map (Value.int .u8)) ∧ Up wx w') := fun wx base g o k => wdone_any base g o E1 b1 wx k (Nat.le_trans HL.out (by decide))
  generalize doneE E1 b1 = DE at HDN HRD
  generalize doneB E1 b1 = X at HDN HRD
  obtain ⟨AB, hAB⟩ : ∃ AB, hiB V1 H1 V2 H2 = AB := ⟨_, rfl⟩
  rw [hAB] at HHI
  have HAB := Lib.hid hAB
  clear u1 u2 u3 h1 h2 h3 u23 hV hH hu hbn hv hn hsz hs hll hok hRC hsm hL hL2 hd1 hd2 hAB HVW
  go_enter Tryz.func3, Tryz.ntmps3
  go_wp2_with fail
  generalize ((w.alloc (.cells #[.int .i64 V, .int .i64 H, .string (strOfNums BL), .slice a n cap] 24)).alloc (.cells #[.int .i64 V1, .int .i64 H1, .string B1] 27)).alloc (.cells #[.int .i64 V2, .int .i64 H2, .string B2] 27) = w3 at HU3 HC3 HA3 HB3 ⊢
  have HCW : Hid (∀ wx, Up w3 wx → wx.heap[w.heap.size]? = some (.cells #[.int .i64 V, .int .i64 H, .string (strOfNums BL), .slice a n cap] 24 (0, 0))) := fun wx u => (u.block _ (lt_of_block HC3.out)).trans HC3.out
  have HMA : Hid (∀ wx, Up w3 wx → wx.heap[w.heap.size + 1]? = some (.cells #[.int .i64 V1, .int .i64 H1, .string B1] 27 (0, 0))) := fun wx u => (u.block _ (lt_of_block HA3.out)).trans HA3.out
  have HMB : Hid (∀ wx, Up w3 wx → wx.heap[w.heap.size + 1 + 1]? = some (.cells #[.int .i64 V2, .int .i64 H2, .string B2] 27 (0, 0))) := fun wx u => (u.block _ (lt_of_block HB3.out)).trans HB3.out
  have HSW : Hid (w.heap.size ≤ w3.heap.size) := HU3.out.size
  clear HC3 HA3 HB3
  generalize hmb : w.heap.size + 1 + 1 = mb at HMB ⊢
  generalize hma : w.heap.size + 1 = ma at HMA ⊢
  clear hmb hma
  obtain ⟨cb, hcb⟩ : ∃ cb, w.heap.size = cb := ⟨_, rfl⟩
  rw [hcb] at HCW ⊢
  clear hcb
  with_reducible refine Calls.mono (new_any w3) ?_
  rintro e w4 ⟨rfl, hw4⟩
  have HW4 : Hid (Wr w4 w3.heap.size w3.heap.size (.slice none 0 0) 0 []) := by subst hw4; exact wr_new w3
  have HU4 : Hid (Up w3 w4) := by subst hw4; exact Up.alloc (Up.refl _) _
  clear hw4
  have HC4 := Lib.hid (HCW.out _ HU4.out)
  go_wp2_with (refine wpList_ex rfl (.agg #[.int .i64 V, .int .i64 H, .string (strOfNums BL), .slice a n cap]) _ (ex_loadrow (x := .tmp 5) rfl rfl _ 24 HC4.out Tryz.underlying24 rfl info_ct) ?_)
  have hs4 : w3.heap.size ≤ w4.heap.size := Below.size HU4.out
  with_reducible refine Calls.mono (HPUT.out w4 _ _ HW4.out (Up.trans HU3.out HU4.out) HSW.out hs4) ?_
  rintro e w5 ⟨rfl, o5, k1, k2⟩
  have HU5 : Hid (Up w3 w5) := Below.trans HU4.out (HW4.out.below k2 hs4)
  have HW5 := Lib.hid k1
  clear k1 k2 HC4 HW4
  go_wp2_with fail
  with_reducible refine Calls.mono (HDN.out w5 _ _ _ HW5.out) ?_
  rintro e w6 ⟨r6, rfl, k1, k2⟩
  have HU6 := Lib.hid (Up.trans HU5.out k2)
  have hx6 := Ints.of_row k1
  obtain ⟨xa, xc, rfl⟩ := row_shape k1
  have HX6 := Lib.hid hx6
  clear k1 k2 hx6 HW5 HDN HPUT
  generalize hxn : X.length = xn at HX6 ⊢
  have HC6 := Lib.hid (HCW.out _ HU6.out)
  go_wp2_with (refine wpList_ex rfl (.agg #[.int .i64 V, .int .i64 H, .string (strOfNums BL), .slice a n cap]) _ (ex_loadrow (x := .tmp 5) rfl rfl _ 24 HC6.out Tryz.underlying24 rfl info_ct) ?_)
  with_reducible refine Calls.mono (HRPUT.out w6 (Up.trans HU3.out HU6.out)) ?_
  rintro e w7 ⟨b7, rfl, k1, k2⟩
  have HI7 := Lib.hid k1
  have HU7 := Lib.hid (Up.trans HU6.out k2)
  have HX7 := Lib.hid (HX6.out.up k2)
  clear k1 k2 HX6 HC6 HU6
  go_wp2_with fail
  with_reducible refine Calls.mono (HRD.out w7 _ HI7.out) ?_
  rintro e wr ⟨r8, rfl, k1, k2⟩
  have HUW := Lib.hid (Up.trans HU7.out k2)
  have HX8 := Lib.hid (HX7.out.up k2)
  obtain ⟨ya, yc, rfl, _⟩ := id k1
  have HY8 := Lib.hid k1
  clear k1 k2 HX7 HI7 HU7
  generalize X.length = yn at HY8 ⊢
  have c1 := mk_cells (HMA.out _ HUW.out)
  have c2 := mk_cells (HMB.out _ HUW.out)
  obtain ⟨p0, p1, _⟩ := c1
  obtain ⟨q0, q1, _⟩ := c2
  go_upto_region 5 with fail
  go_cut [16] from 33 to 51 (fun s16 wx => s16 = .bool AB ∧ wx = wr)
  case first =>
    by_cases g1 : V2 < V1
    · have he : AB = true := by rw [← HAB.out]; unfold hiB; simp [g1]
      subst he
      clear HAB
      go_wp2
      go_meet
      exact ⟨rfl, rfl⟩
    · by_cases g2 : V1 = V2
      · have e2 : (V1 == V2) = true := by rw [beq_iff_eq]; exact g2
        by_cases g3 : H2 < H1
        · have he : AB = true := by rw [← HAB.out]; unfold hiB; simp [g2, g3]
          subst he
          clear HAB g2
          go_wp2
          go_meet
          exact ⟨rfl, rfl⟩
        · have he : AB = false := by rw [← HAB.out]; unfold hiB; simp [g2, g3]
          subst he
          clear HAB g2
          go_wp2
          go_meet
          exact ⟨rfl, rfl⟩
      · have e2 : (V1 == V2) = false := by rw [beq_eq_false_iff_ne]; exact g2
        have he : AB = false := by rw [← HAB.out]; unfold hiB; simp [g1, g2]
        subst he
        clear HAB g2
        go_wp2
        go_meet
        exact ⟨rfl, rfl⟩
  case rest =>
    obtain ⟨rfl, rfl⟩ := hcut
    clear p0 p1 q0 q1 HAB
    have HUR := Lib.hid (Up.trans HU3.out HUW.out)
    have HCB : Hid (∀ wx, Up wc wx → wx.heap[cb]? = some (.cells #[.int .i64 V, .int .i64 H, .string (strOfNums BL), .slice a n cap] 24 (0, 0))) := fun wx u => HCW.out wx (Up.trans HUW.out u)
    have HMA2 : Hid (∀ wx, Up wc wx → wx.heap[ma]? = some (.cells #[.int .i64 V1, .int .i64 H1, .string B1] 27 (0, 0))) := fun wx u => HMA.out wx (Up.trans HUW.out u)
    have HMB2 : Hid (∀ wx, Up wc wx → wx.heap[mb]? = some (.cells #[.int .i64 V2, .int .i64 H2, .string B2] 27 (0, 0))) := fun wx u => HMB.out wx (Up.trans HUW.out u)
    have HCK2 : Hid (∀ wx, Up wc wx → Calls Tryz.prog 12 #[.agg #[.int .i64 V, .int .i64 H, .string (strOfNums BL), .slice a n cap], .slice ra ls.length rc, .int .i64 q] wx fun e w' => e = .returned (.int .i64 RC) ∧ Up wx w') := fun wx u => HCK.out wx (Up.trans HUR.out u)
    have HRK2 : Hid (∀ wx, Up wc wx → Calls Tryz.prog 13 #[.agg #[.int .i64 V, .int .i64 H, .string (strOfNums BL), .slice a n cap], .slice ra ls.length rc, .int .i64 q] wx fun e w' => e = .returned (.int .i64 RC) ∧ Up wx w') := fun wx u => HRK.out wx (Up.trans HUR.out u)
    have HX : Hid (∀ wx, Up wc wx → Ints .u8 wx (.slice xa xn xc) X ∧ Ints .u8 wx (.slice ya yn yc) X) := fun wx u => ⟨HX8.out.up u, HY8.out.up u⟩
    clear HMA HMB HCK HRK HX8 HY8 HCW
    go_wp2_with fail
    refine region_alongK (fun x => Up wc x) (.read 0 (.read 1 (.read 2 (.read 5 (.read 6 (.read 7 (.step 3 (.step 4 (.step 8 (.read 9 (.read 10 (.read 11 (.read 13 (.read 14 (.read 15 (.read 16 (.read 17 (.read 18 (.read 19 (.step 12 (.read 20 (.read 21 (.read 22 (.read 23 (.read 24 (.read 26 (.step 25 (.read 27 (.read 28 (.read 29 (.read 30 (.read 31 (.read 32 (.read 33 (.read 34 (.read 35 (.read 36 (.read 37 (.read 39 (.step 38 (.read 40 (.read 41 (.read 42 (.step 43 (.read 44 (.read 45 (.nil))))))))))))))))))))))))))))))))))))))))))))))) (by kernel_rfl) rfl (by kernel_rfl) (by kernel_rfl) (fun c a d v w h => by cases d <;> exact h) (Up.drew1 wc) ?_
    refine alongK_read (.agg #[.int .i64 V, .int .i64 H, .string (strOfNums BL), .slice a n cap]) rfl rfl (fun wx hS => ex_loadrow rfl rfl wx 24 ((HCB.out wx hS)) Tryz.underlying24 rfl info_ct) ?_
    refine alongK_read (.slice ra ls.length rc) rfl rfl (fun wx hS => ex_move (by rfl) (by rfl) wx) ?_
    change AlongK _ _ _ _ _ { tmps := #[.agg #[.int .i64 V, .int .i64 H, .string (strOfNums BL), .slice a n cap], .slice ra ls.length rc, .int .i64 q, _, _, .pointer (some ⟨cb, 0, none⟩), _, _, .pointer (some ⟨ma, 0, none⟩), .pointer (some ⟨mb, 0, none⟩), _, _, .slice xa xn xc, .int .i64 DE, .slice ya yn yc, .int .i64 DE, .bool AB, _, _, _, _, _, _, _, _, _, _, _, _, _, _, _, _, _, _, _, _, _, _, _, _, _, _, _, _, _, _, _, _, _, _, _, .agg #[.int .i64 V, .int .i64 H, .string (strOfNums BL), .slice a n cap], .slice ra ls.length rc, _, _, _, _, _, _, _, _, _, _, _, _, _, _, _, _, _, _, _, _, _, _, _, _, _, _, _, _, _, _, _, _, _, _, _, _, _, _, _, _, _, _, _], defers := _ } _
    refine alongK_read (.int .i64 q) rfl rfl (fun wx hS => ex_move (by rfl) (by rfl) wx) ?_
    refine alongK_read (.agg #[.int .i64 V, .int .i64 H, .string (strOfNums BL), .slice a n cap]) rfl rfl (fun wx hS => ex_loadrow rfl rfl wx 24 ((HCB.out wx hS)) Tryz.underlying24 rfl info_ct) ?_
    change AlongK _ _ _ _ _ { tmps := #[.agg #[.int .i64 V, .int .i64 H, .string (strOfNums BL), .slice a n cap], .slice ra ls.length rc, .int .i64 q, _, _, .pointer (some ⟨cb, 0, none⟩), _, _, .pointer (some ⟨ma, 0, none⟩), .pointer (some ⟨mb, 0, none⟩), _, _, .slice xa xn xc, .int .i64 DE, .slice ya yn yc, .int .i64 DE, .bool AB, _, _, _, _, _, _, _, _, _, _, _, _, _, _, _, _, _, _, _, _, _, _, _, _, _, _, _, _, _, _, _, _, _, _, _, .agg #[.int .i64 V, .int .i64 H, .string (strOfNums BL), .slice a n cap], .slice ra ls.length rc, .int .i64 q, _, _, .agg #[.int .i64 V, .int .i64 H, .string (strOfNums BL), .slice a n cap], _, _, _, _, _, _, _, _, _, _, _, _, _, _, _, _, _, _, _, _, _, _, _, _, _, _, _, _, _, _, _, _, _, _, _, _, _, _, _], defers := _ } _
    refine alongK_read (.slice ra ls.length rc) rfl rfl (fun wx hS => ex_move (by rfl) (by rfl) wx) ?_
    refine alongK_read (.int .i64 q) rfl rfl (fun wx hS => ex_move (by rfl) (by rfl) wx) ?_
    change AlongK _ _ _ _ _ { tmps := #[.agg #[.int .i64 V, .int .i64 H, .string (strOfNums BL), .slice a n cap], .slice ra ls.length rc, .int .i64 q, _, _, .pointer (some ⟨cb, 0, none⟩), _, _, .pointer (some ⟨ma, 0, none⟩), .pointer (some ⟨mb, 0, none⟩), _, _, .slice xa xn xc, .int .i64 DE, .slice ya yn yc, .int .i64 DE, .bool AB, _, _, _, _, _, _, _, _, _, _, _, _, _, _, _, _, _, _, _, _, _, _, _, _, _, _, _, _, _, _, _, _, _, _, _, .agg #[.int .i64 V, .int .i64 H, .string (strOfNums BL), .slice a n cap], .slice ra ls.length rc, .int .i64 q, _, _, .agg #[.int .i64 V, .int .i64 H, .string (strOfNums BL), .slice a n cap], .slice ra ls.length rc, .int .i64 q, _, _, _, _, _, _, _, _, _, _, _, _, _, _, _, _, _, _, _, _, _, _, _, _, _, _, _, _, _, _, _, _, _, _, _, _, _], defers := _ } _
    refine alongK_step ?_
    refine opK_call (vs := [.agg #[.int .i64 V, .int .i64 H, .string (strOfNums BL), .slice a n cap], .slice ra ls.length rc, .int .i64 q]) rfl rfl rfl (enters_of Tryz.func12 (by kernel_rfl) rfl) rfl ?_
    with_reducible refine Calls.mono (HCK2.out _ (Up.drew1 wc)) ?_
    rintro e y1 ⟨rfl, hy1⟩
    refine ⟨_, rfl, (fun x => Up wc x), (fun _ h => h), (Up.trans (Up.drew1 wc) hy1), ?_⟩
    change AlongK _ _ _ _ _ { tmps := #[.agg #[.int .i64 V, .int .i64 H, .string (strOfNums BL), .slice a n cap], .slice ra ls.length rc, .int .i64 q, _, _, .pointer (some ⟨cb, 0, none⟩), _, _, .pointer (some ⟨ma, 0, none⟩), .pointer (some ⟨mb, 0, none⟩), _, _, .slice xa xn xc, .int .i64 DE, .slice ya yn yc, .int .i64 DE, .bool AB, _, _, _, _, _, _, _, _, _, _, _, _, _, _, _, _, _, _, _, _, _, _, _, _, _, _, _, _, _, _, _, _, _, _, _, .agg #[.int .i64 V, .int .i64 H, .string (strOfNums BL), .slice a n cap], .slice ra ls.length rc, .int .i64 q, .int .i64 RC, _, .agg #[.int .i64 V, .int .i64 H, .string (strOfNums BL), .slice a n cap], .slice ra ls.length rc, .int .i64 q, _, _, _, _, _, _, _, _, _, _, _, _, _, _, _, _, _, _, _, _, _, _, _, _, _, _, _, _, _, _, _, _, _, _, _, _, _], defers := _ } _
    refine alongK_step ?_
    refine opK_call (vs := [.int .i64 RC]) rfl rfl rfl (enters_of Tryz.func11 (by kernel_rfl) rfl) rfl ?_
    with_reducible refine Calls.mono (ctNum_any RC _) ?_
    rintro e y2 ⟨rfl, hy2⟩
    refine ⟨_, rfl, (fun x => Up wc x), (fun _ h => h), (Up.trans (Up.trans (Up.drew1 wc) hy1) hy2), ?_⟩
    change AlongK _ _ _ _ _ { tmps := #[.agg #[.int .i64 V, .int .i64 H, .string (strOfNums BL), .slice a n cap], .slice ra ls.length rc, .int .i64 q, _, _, .pointer (some ⟨cb, 0, none⟩), _, _, .pointer (some ⟨ma, 0, none⟩), .pointer (some ⟨mb, 0, none⟩), _, _, .slice xa xn xc, .int .i64 DE, .slice ya yn yc, .int .i64 DE, .bool AB, _, _, _, _, _, _, _, _, _, _, _, _, _, _, _, _, _, _, _, _, _, _, _, _, _, _, _, _, _, _, _, _, _, _, _, .agg #[.int .i64 V, .int .i64 H, .string (strOfNums BL), .slice a n cap], .slice ra ls.length rc, .int .i64 q, .int .i64 RC, .int .i64 RC, .agg #[.int .i64 V, .int .i64 H, .string (strOfNums BL), .slice a n cap], .slice ra ls.length rc, .int .i64 q, _, _, _, _, _, _, _, _, _, _, _, _, _, _, _, _, _, _, _, _, _, _, _, _, _, _, _, _, _, _, _, _, _, _, _, _, _], defers := _ } _
    refine alongK_step ?_
    refine opK_call (vs := [.agg #[.int .i64 V, .int .i64 H, .string (strOfNums BL), .slice a n cap], .slice ra ls.length rc, .int .i64 q]) rfl rfl rfl (enters_of Tryz.func13 (by kernel_rfl) rfl) rfl ?_
    with_reducible refine Calls.mono (HRK2.out _ (Up.trans (Up.trans (Up.drew1 wc) hy1) hy2)) ?_
    rintro e y3 ⟨rfl, hy3⟩
    refine ⟨_, rfl, (fun x => Up wc x), (fun _ h => h), (Up.trans (Up.trans (Up.trans (Up.drew1 wc) hy1) hy2) hy3), ?_⟩
    change AlongK _ _ _ _ _ { tmps := #[.agg #[.int .i64 V, .int .i64 H, .string (strOfNums BL), .slice a n cap], .slice ra ls.length rc, .int .i64 q, _, _, .pointer (some ⟨cb, 0, none⟩), _, _, .pointer (some ⟨ma, 0, none⟩), .pointer (some ⟨mb, 0, none⟩), _, _, .slice xa xn xc, .int .i64 DE, .slice ya yn yc, .int .i64 DE, .bool AB, _, _, _, _, _, _, _, _, _, _, _, _, _, _, _, _, _, _, _, _, _, _, _, _, _, _, _, _, _, _, _, _, _, _, _, .agg #[.int .i64 V, .int .i64 H, .string (strOfNums BL), .slice a n cap], .slice ra ls.length rc, .int .i64 q, .int .i64 RC, .int .i64 RC, .agg #[.int .i64 V, .int .i64 H, .string (strOfNums BL), .slice a n cap], .slice ra ls.length rc, .int .i64 q, .int .i64 RC, _, _, _, _, _, _, _, _, _, _, _, _, _, _, _, _, _, _, _, _, _, _, _, _, _, _, _, _, _, _, _, _, _, _, _, _], defers := _ } _
    refine alongK_read (.bool true) rfl rfl (fun wx hS => ex_eqi rfl (by rfl) (by rfl) (by simp) wx) ?_
    refine alongK_read (.bool true) rfl rfl (fun wx hS => ex_move (by rfl) (by rfl) wx) ?_
    change AlongK _ _ _ _ _ { tmps := #[.agg #[.int .i64 V, .int .i64 H, .string (strOfNums BL), .slice a n cap], .slice ra ls.length rc, .int .i64 q, _, _, .pointer (some ⟨cb, 0, none⟩), _, _, .pointer (some ⟨ma, 0, none⟩), .pointer (some ⟨mb, 0, none⟩), _, _, .slice xa xn xc, .int .i64 DE, .slice ya yn yc, .int .i64 DE, .bool AB, _, _, _, _, _, _, _, _, _, _, _, _, _, _, _, _, _, _, _, _, _, _, _, _, _, _, _, _, _, _, _, _, _, _, _, .agg #[.int .i64 V, .int .i64 H, .string (strOfNums BL), .slice a n cap], .slice ra ls.length rc, .int .i64 q, .int .i64 RC, .int .i64 RC, .agg #[.int .i64 V, .int .i64 H, .string (strOfNums BL), .slice a n cap], .slice ra ls.length rc, .int .i64 q, .int .i64 RC, .bool true, .bool true, _, _, _, _, _, _, _, _, _, _, _, _, _, _, _, _, _, _, _, _, _, _, _, _, _, _, _, _, _, _, _, _, _, _], defers := _ } _
    refine alongK_read (.agg #[.int .i64 V, .int .i64 H, .string (strOfNums BL), .slice a n cap]) rfl rfl (fun wx hS => ex_loadrow rfl rfl wx 24 ((HCB.out wx hS)) Tryz.underlying24 rfl info_ct) ?_
    refine alongK_read (.pointer (some ⟨cb, 0, none⟩)) rfl rfl (fun wx hS => ex_field rfl rfl wx (by simp [go_sem])) ?_
    change AlongK _ _ _ _ _ { tmps := #[.agg #[.int .i64 V, .int .i64 H, .string (strOfNums BL), .slice a n cap], .slice ra ls.length rc, .int .i64 q, _, _, .pointer (some ⟨cb, 0, none⟩), _, _, .pointer (some ⟨ma, 0, none⟩), .pointer (some ⟨mb, 0, none⟩), _, _, .slice xa xn xc, .int .i64 DE, .slice ya yn yc, .int .i64 DE, .bool AB, _, _, _, _, _, _, _, _, _, _, _, _, _, _, _, _, _, _, _, _, _, _, _, _, _, _, _, _, _, _, _, _, _, _, _, .agg #[.int .i64 V, .int .i64 H, .string (strOfNums BL), .slice a n cap], .slice ra ls.length rc, .int .i64 q, .int .i64 RC, .int .i64 RC, .agg #[.int .i64 V, .int .i64 H, .string (strOfNums BL), .slice a n cap], .slice ra ls.length rc, .int .i64 q, .int .i64 RC, .bool true, .bool true, .agg #[.int .i64 V, .int .i64 H, .string (strOfNums BL), .slice a n cap], _, .pointer (some ⟨cb, 0, none⟩), _, _, _, _, _, _, _, _, _, _, _, _, _, _, _, _, _, _, _, _, _, _, _, _, _, _, _, _, _, _, _], defers := _ } _
    refine alongK_read (.int .i64 V) rfl rfl (fun wx hS => ex_load Tryz.isAgg3 rfl rfl wx ((ct_cells (HCB.out wx hS)).1)) ?_
    refine alongK_read (.pointer (some ⟨cb, 1, none⟩)) rfl rfl (fun wx hS => ex_field rfl rfl wx (by simp [go_sem])) ?_
    change AlongK _ _ _ _ _ { tmps := #[.agg #[.int .i64 V, .int .i64 H, .string (strOfNums BL), .slice a n cap], .slice ra ls.length rc, .int .i64 q, _, _, .pointer (some ⟨cb, 0, none⟩), _, _, .pointer (some ⟨ma, 0, none⟩), .pointer (some ⟨mb, 0, none⟩), _, _, .slice xa xn xc, .int .i64 DE, .slice ya yn yc, .int .i64 DE, .bool AB, _, _, _, _, _, _, _, _, _, _, _, _, _, _, _, _, _, _, _, _, _, _, _, _, _, _, _, _, _, _, _, _, _, _, _, .agg #[.int .i64 V, .int .i64 H, .string (strOfNums BL), .slice a n cap], .slice ra ls.length rc, .int .i64 q, .int .i64 RC, .int .i64 RC, .agg #[.int .i64 V, .int .i64 H, .string (strOfNums BL), .slice a n cap], .slice ra ls.length rc, .int .i64 q, .int .i64 RC, .bool true, .bool true, .agg #[.int .i64 V, .int .i64 H, .string (strOfNums BL), .slice a n cap], _, .pointer (some ⟨cb, 0, none⟩), .int .i64 V, .pointer (some ⟨cb, 1, none⟩), _, _, _, _, _, _, _, _, _, _, _, _, _, _, _, _, _, _, _, _, _, _, _, _, _, _, _, _, _], defers := _ } _
    refine alongK_read (.int .i64 H) rfl rfl (fun wx hS => ex_load Tryz.isAgg3 rfl rfl wx ((ct_cells (HCB.out wx hS)).2.1)) ?_
    refine alongK_read (.pointer (some ⟨cb, 2, none⟩)) rfl rfl (fun wx hS => ex_field rfl rfl wx (by simp [go_sem])) ?_
    change AlongK _ _ _ _ _ { tmps := #[.agg #[.int .i64 V, .int .i64 H, .string (strOfNums BL), .slice a n cap], .slice ra ls.length rc, .int .i64 q, _, _, .pointer (some ⟨cb, 0, none⟩), _, _, .pointer (some ⟨ma, 0, none⟩), .pointer (some ⟨mb, 0, none⟩), _, _, .slice xa xn xc, .int .i64 DE, .slice ya yn yc, .int .i64 DE, .bool AB, _, _, _, _, _, _, _, _, _, _, _, _, _, _, _, _, _, _, _, _, _, _, _, _, _, _, _, _, _, _, _, _, _, _, _, .agg #[.int .i64 V, .int .i64 H, .string (strOfNums BL), .slice a n cap], .slice ra ls.length rc, .int .i64 q, .int .i64 RC, .int .i64 RC, .agg #[.int .i64 V, .int .i64 H, .string (strOfNums BL), .slice a n cap], .slice ra ls.length rc, .int .i64 q, .int .i64 RC, .bool true, .bool true, .agg #[.int .i64 V, .int .i64 H, .string (strOfNums BL), .slice a n cap], _, .pointer (some ⟨cb, 0, none⟩), .int .i64 V, .pointer (some ⟨cb, 1, none⟩), .int .i64 H, .pointer (some ⟨cb, 2, none⟩), _, _, _, _, _, _, _, _, _, _, _, _, _, _, _, _, _, _, _, _, _, _, _, _, _, _, _], defers := _ } _
    refine alongK_read (.string (strOfNums BL)) rfl rfl (fun wx hS => ex_load Tryz.isAgg9 rfl rfl wx ((ct_cells (HCB.out wx hS)).2.2.1)) ?_
    refine alongK_read (.agg #[.int .i64 V, .int .i64 H, .string (strOfNums BL)]) rfl rfl (fun wx hS => ex_build3 wx wx (build_mk _ _ _ wx) rfl rfl rfl rfl) ?_
    change AlongK _ _ _ _ _ { tmps := #[.agg #[.int .i64 V, .int .i64 H, .string (strOfNums BL), .slice a n cap], .slice ra ls.length rc, .int .i64 q, _, _, .pointer (some ⟨cb, 0, none⟩), _, _, .pointer (some ⟨ma, 0, none⟩), .pointer (some ⟨mb, 0, none⟩), _, _, .slice xa xn xc, .int .i64 DE, .slice ya yn yc, .int .i64 DE, .bool AB, _, _, _, _, _, _, _, _, _, _, _, _, _, _, _, _, _, _, _, _, _, _, _, _, _, _, _, _, _, _, _, _, _, _, _, .agg #[.int .i64 V, .int .i64 H, .string (strOfNums BL), .slice a n cap], .slice ra ls.length rc, .int .i64 q, .int .i64 RC, .int .i64 RC, .agg #[.int .i64 V, .int .i64 H, .string (strOfNums BL), .slice a n cap], .slice ra ls.length rc, .int .i64 q, .int .i64 RC, .bool true, .bool true, .agg #[.int .i64 V, .int .i64 H, .string (strOfNums BL), .slice a n cap], _, .pointer (some ⟨cb, 0, none⟩), .int .i64 V, .pointer (some ⟨cb, 1, none⟩), .int .i64 H, .pointer (some ⟨cb, 2, none⟩), .string (strOfNums BL), .agg #[.int .i64 V, .int .i64 H, .string (strOfNums BL)], _, _, _, _, _, _, _, _, _, _, _, _, _, _, _, _, _, _, _, _, _, _, _, _, _], defers := _ } _
    refine alongK_step ?_
    refine opK_call (vs := [.agg #[.int .i64 V, .int .i64 H, .string (strOfNums BL), .slice a n cap]]) rfl rfl rfl (enters_of Tryz.func14 (by kernel_rfl) rfl) rfl ?_
    with_reducible refine Calls.mono (mark_any V H _ a n cap _) ?_
    rintro e y4 ⟨rfl, hy4⟩
    refine ⟨_, rfl, (fun x => Up wc x), (fun _ h => h), (Up.trans (Up.trans (Up.trans (Up.trans (Up.drew1 wc) hy1) hy2) hy3) hy4), ?_⟩
    change AlongK _ _ _ _ _ { tmps := #[.agg #[.int .i64 V, .int .i64 H, .string (strOfNums BL), .slice a n cap], .slice ra ls.length rc, .int .i64 q, _, _, .pointer (some ⟨cb, 0, none⟩), _, _, .pointer (some ⟨ma, 0, none⟩), .pointer (some ⟨mb, 0, none⟩), _, _, .slice xa xn xc, .int .i64 DE, .slice ya yn yc, .int .i64 DE, .bool AB, _, _, _, _, _, _, _, _, _, _, _, _, _, _, _, _, _, _, _, _, _, _, _, _, _, _, _, _, _, _, _, _, _, _, _, .agg #[.int .i64 V, .int .i64 H, .string (strOfNums BL), .slice a n cap], .slice ra ls.length rc, .int .i64 q, .int .i64 RC, .int .i64 RC, .agg #[.int .i64 V, .int .i64 H, .string (strOfNums BL), .slice a n cap], .slice ra ls.length rc, .int .i64 q, .int .i64 RC, .bool true, .bool true, .agg #[.int .i64 V, .int .i64 H, .string (strOfNums BL), .slice a n cap], .agg #[.int .i64 V, .int .i64 H, .string (strOfNums BL)], .pointer (some ⟨cb, 0, none⟩), .int .i64 V, .pointer (some ⟨cb, 1, none⟩), .int .i64 H, .pointer (some ⟨cb, 2, none⟩), .string (strOfNums BL), .agg #[.int .i64 V, .int .i64 H, .string (strOfNums BL)], _, _, _, _, _, _, _, _, _, _, _, _, _, _, _, _, _, _, _, _, _, _, _, _, _], defers := _ } _
    refine alongK_read (.bool true) rfl rfl (fun wx hS => ex_bin rfl rfl rfl wx (mk_same V H _ _ _ wx)) ?_
    refine alongK_read (.bool true) rfl rfl (fun wx hS => ex_pickt rfl (by rfl) (by rfl) wx) ?_
    change AlongK _ _ _ _ _ { tmps := #[.agg #[.int .i64 V, .int .i64 H, .string (strOfNums BL), .slice a n cap], .slice ra ls.length rc, .int .i64 q, _, _, .pointer (some ⟨cb, 0, none⟩), _, _, .pointer (some ⟨ma, 0, none⟩), .pointer (some ⟨mb, 0, none⟩), _, _, .slice xa xn xc, .int .i64 DE, .slice ya yn yc, .int .i64 DE, .bool AB, _, _, _, _, _, _, _, _, _, _, _, _, _, _, _, _, _, _, _, _, _, _, _, _, _, _, _, _, _, _, _, _, _, _, _, .agg #[.int .i64 V, .int .i64 H, .string (strOfNums BL), .slice a n cap], .slice ra ls.length rc, .int .i64 q, .int .i64 RC, .int .i64 RC, .agg #[.int .i64 V, .int .i64 H, .string (strOfNums BL), .slice a n cap], .slice ra ls.length rc, .int .i64 q, .int .i64 RC, .bool true, .bool true, .agg #[.int .i64 V, .int .i64 H, .string (strOfNums BL), .slice a n cap], .agg #[.int .i64 V, .int .i64 H, .string (strOfNums BL)], .pointer (some ⟨cb, 0, none⟩), .int .i64 V, .pointer (some ⟨cb, 1, none⟩), .int .i64 H, .pointer (some ⟨cb, 2, none⟩), .string (strOfNums BL), .agg #[.int .i64 V, .int .i64 H, .string (strOfNums BL)], .bool true, .bool true, _, _, _, _, _, _, _, _, _, _, _, _, _, _, _, _, _, _, _, _, _, _, _], defers := _ } _
    refine alongK_read (.bool true) rfl rfl (fun wx hS => ex_move (by rfl) (by rfl) wx) ?_
    refine alongK_read (.agg #[.int .i64 V1, .int .i64 H1, .string B1]) rfl rfl (fun wx hS => ex_loadrow rfl rfl wx 27 (HMA2.out wx hS) Tryz.underlying27 rfl info_mk) ?_
    change AlongK _ _ _ _ _ { tmps := #[.agg #[.int .i64 V, .int .i64 H, .string (strOfNums BL), .slice a n cap], .slice ra ls.length rc, .int .i64 q, _, _, .pointer (some ⟨cb, 0, none⟩), _, _, .pointer (some ⟨ma, 0, none⟩), .pointer (some ⟨mb, 0, none⟩), _, _, .slice xa xn xc, .int .i64 DE, .slice ya yn yc, .int .i64 DE, .bool AB, _, _, _, _, _, _, _, _, _, _, _, _, _, _, _, _, _, _, _, _, _, _, _, _, _, _, _, _, _, _, _, _, _, _, _, .agg #[.int .i64 V, .int .i64 H, .string (strOfNums BL), .slice a n cap], .slice ra ls.length rc, .int .i64 q, .int .i64 RC, .int .i64 RC, .agg #[.int .i64 V, .int .i64 H, .string (strOfNums BL), .slice a n cap], .slice ra ls.length rc, .int .i64 q, .int .i64 RC, .bool true, .bool true, .agg #[.int .i64 V, .int .i64 H, .string (strOfNums BL), .slice a n cap], .agg #[.int .i64 V, .int .i64 H, .string (strOfNums BL)], .pointer (some ⟨cb, 0, none⟩), .int .i64 V, .pointer (some ⟨cb, 1, none⟩), .int .i64 H, .pointer (some ⟨cb, 2, none⟩), .string (strOfNums BL), .agg #[.int .i64 V, .int .i64 H, .string (strOfNums BL)], .bool true, .bool true, .bool true, .agg #[.int .i64 V1, .int .i64 H1, .string B1], _, _, _, _, _, _, _, _, _, _, _, _, _, _, _, _, _, _, _, _, _], defers := _ } _
    refine alongK_read (.agg #[.int .i64 V2, .int .i64 H2, .string B2]) rfl rfl (fun wx hS => ex_loadrow rfl rfl wx 27 (HMB2.out wx hS) Tryz.underlying27 rfl info_mk) ?_
    refine alongK_read (.bool AB) rfl rfl (fun wx hS => ex_move (by rfl) (by rfl) wx) ?_
    change AlongK _ _ _ _ _ { tmps := #[.agg #[.int .i64 V, .int .i64 H, .string (strOfNums BL), .slice a n cap], .slice ra ls.length rc, .int .i64 q, _, _, .pointer (some ⟨cb, 0, none⟩), _, _, .pointer (some ⟨ma, 0, none⟩), .pointer (some ⟨mb, 0, none⟩), _, _, .slice xa xn xc, .int .i64 DE, .slice ya yn yc, .int .i64 DE, .bool AB, _, _, _, _, _, _, _, _, _, _, _, _, _, _, _, _, _, _, _, _, _, _, _, _, _, _, _, _, _, _, _, _, _, _, _, .agg #[.int .i64 V, .int .i64 H, .string (strOfNums BL), .slice a n cap], .slice ra ls.length rc, .int .i64 q, .int .i64 RC, .int .i64 RC, .agg #[.int .i64 V, .int .i64 H, .string (strOfNums BL), .slice a n cap], .slice ra ls.length rc, .int .i64 q, .int .i64 RC, .bool true, .bool true, .agg #[.int .i64 V, .int .i64 H, .string (strOfNums BL), .slice a n cap], .agg #[.int .i64 V, .int .i64 H, .string (strOfNums BL)], .pointer (some ⟨cb, 0, none⟩), .int .i64 V, .pointer (some ⟨cb, 1, none⟩), .int .i64 H, .pointer (some ⟨cb, 2, none⟩), .string (strOfNums BL), .agg #[.int .i64 V, .int .i64 H, .string (strOfNums BL)], .bool true, .bool true, .bool true, .agg #[.int .i64 V1, .int .i64 H1, .string B1], .agg #[.int .i64 V2, .int .i64 H2, .string B2], _, .bool AB, _, _, _, _, _, _, _, _, _, _, _, _, _, _, _, _, _, _], defers := _ } _
    refine alongK_step ?_
    refine opK_call (vs := [.agg #[.int .i64 V1, .int .i64 H1, .string B1], .agg #[.int .i64 V2, .int .i64 H2, .string B2]]) rfl rfl rfl (enters_of Tryz.func15 (by kernel_rfl) rfl) rfl ?_
    with_reducible refine Calls.mono (HHI.out _) ?_
    rintro e y5 ⟨rfl, hy5⟩
    refine ⟨_, rfl, (fun x => Up wc x), (fun _ h => h), (Up.trans (Up.trans (Up.trans (Up.trans (Up.trans (Up.drew1 wc) hy1) hy2) hy3) hy4) hy5), ?_⟩
    change AlongK _ _ _ _ _ { tmps := #[.agg #[.int .i64 V, .int .i64 H, .string (strOfNums BL), .slice a n cap], .slice ra ls.length rc, .int .i64 q, _, _, .pointer (some ⟨cb, 0, none⟩), _, _, .pointer (some ⟨ma, 0, none⟩), .pointer (some ⟨mb, 0, none⟩), _, _, .slice xa xn xc, .int .i64 DE, .slice ya yn yc, .int .i64 DE, .bool AB, _, _, _, _, _, _, _, _, _, _, _, _, _, _, _, _, _, _, _, _, _, _, _, _, _, _, _, _, _, _, _, _, _, _, _, .agg #[.int .i64 V, .int .i64 H, .string (strOfNums BL), .slice a n cap], .slice ra ls.length rc, .int .i64 q, .int .i64 RC, .int .i64 RC, .agg #[.int .i64 V, .int .i64 H, .string (strOfNums BL), .slice a n cap], .slice ra ls.length rc, .int .i64 q, .int .i64 RC, .bool true, .bool true, .agg #[.int .i64 V, .int .i64 H, .string (strOfNums BL), .slice a n cap], .agg #[.int .i64 V, .int .i64 H, .string (strOfNums BL)], .pointer (some ⟨cb, 0, none⟩), .int .i64 V, .pointer (some ⟨cb, 1, none⟩), .int .i64 H, .pointer (some ⟨cb, 2, none⟩), .string (strOfNums BL), .agg #[.int .i64 V, .int .i64 H, .string (strOfNums BL)], .bool true, .bool true, .bool true, .agg #[.int .i64 V1, .int .i64 H1, .string B1], .agg #[.int .i64 V2, .int .i64 H2, .string B2], .bool AB, .bool AB, _, _, _, _, _, _, _, _, _, _, _, _, _, _, _, _, _, _], defers := _ } _
    refine alongK_read (.bool true) rfl rfl (fun wx hS => ex_bin rfl rfl rfl wx (bool_same AB _ _ wx)) ?_
    refine alongK_read (.bool true) rfl rfl (fun wx hS => ex_pickt rfl (by rfl) (by rfl) wx) ?_
    change AlongK _ _ _ _ _ { tmps := #[.agg #[.int .i64 V, .int .i64 H, .string (strOfNums BL), .slice a n cap], .slice ra ls.length rc, .int .i64 q, _, _, .pointer (some ⟨cb, 0, none⟩), _, _, .pointer (some ⟨ma, 0, none⟩), .pointer (some ⟨mb, 0, none⟩), _, _, .slice xa xn xc, .int .i64 DE, .slice ya yn yc, .int .i64 DE, .bool AB, _, _, _, _, _, _, _, _, _, _, _, _, _, _, _, _, _, _, _, _, _, _, _, _, _, _, _, _, _, _, _, _, _, _, _, .agg #[.int .i64 V, .int .i64 H, .string (strOfNums BL), .slice a n cap], .slice ra ls.length rc, .int .i64 q, .int .i64 RC, .int .i64 RC, .agg #[.int .i64 V, .int .i64 H, .string (strOfNums BL), .slice a n cap], .slice ra ls.length rc, .int .i64 q, .int .i64 RC, .bool true, .bool true, .agg #[.int .i64 V, .int .i64 H, .string (strOfNums BL), .slice a n cap], .agg #[.int .i64 V, .int .i64 H, .string (strOfNums BL)], .pointer (some ⟨cb, 0, none⟩), .int .i64 V, .pointer (some ⟨cb, 1, none⟩), .int .i64 H, .pointer (some ⟨cb, 2, none⟩), .string (strOfNums BL), .agg #[.int .i64 V, .int .i64 H, .string (strOfNums BL)], .bool true, .bool true, .bool true, .agg #[.int .i64 V1, .int .i64 H1, .string B1], .agg #[.int .i64 V2, .int .i64 H2, .string B2], .bool AB, .bool AB, .bool true, .bool true, _, _, _, _, _, _, _, _, _, _, _, _, _, _, _, _], defers := _ } _
    refine alongK_read (.bool true) rfl rfl (fun wx hS => ex_move (by rfl) (by rfl) wx) ?_
    refine alongK_read (.slice xa xn xc) rfl rfl (fun wx hS => ex_move (by rfl) (by rfl) wx) ?_
    change AlongK _ _ _ _ _ { tmps := #[.agg #[.int .i64 V, .int .i64 H, .string (strOfNums BL), .slice a n cap], .slice ra ls.length rc, .int .i64 q, _, _, .pointer (some ⟨cb, 0, none⟩), _, _, .pointer (some ⟨ma, 0, none⟩), .pointer (some ⟨mb, 0, none⟩), _, _, .slice xa xn xc, .int .i64 DE, .slice ya yn yc, .int .i64 DE, .bool AB, _, _, _, _, _, _, _, _, _, _, _, _, _, _, _, _, _, _, _, _, _, _, _, _, _, _, _, _, _, _, _, _, _, _, _, .agg #[.int .i64 V, .int .i64 H, .string (strOfNums BL), .slice a n cap], .slice ra ls.length rc, .int .i64 q, .int .i64 RC, .int .i64 RC, .agg #[.int .i64 V, .int .i64 H, .string (strOfNums BL), .slice a n cap], .slice ra ls.length rc, .int .i64 q, .int .i64 RC, .bool true, .bool true, .agg #[.int .i64 V, .int .i64 H, .string (strOfNums BL), .slice a n cap], .agg #[.int .i64 V, .int .i64 H, .string (strOfNums BL)], .pointer (some ⟨cb, 0, none⟩), .int .i64 V, .pointer (some ⟨cb, 1, none⟩), .int .i64 H, .pointer (some ⟨cb, 2, none⟩), .string (strOfNums BL), .agg #[.int .i64 V, .int .i64 H, .string (strOfNums BL)], .bool true, .bool true, .bool true, .agg #[.int .i64 V1, .int .i64 H1, .string B1], .agg #[.int .i64 V2, .int .i64 H2, .string B2], .bool AB, .bool AB, .bool true, .bool true, .bool true, .slice xa xn xc, _, _, _, _, _, _, _, _, _, _, _, _, _, _], defers := _ } _
    refine alongK_read (.string (strOfNums X)) rfl rfl (fun wx hS => ex_conv rfl rfl wx wx (HX.out wx hS).1.str) ?_
    refine alongK_read (.slice ya yn yc) rfl rfl (fun wx hS => ex_move (by rfl) (by rfl) wx) ?_
    change AlongK _ _ _ _ _ { tmps := #[.agg #[.int .i64 V, .int .i64 H, .string (strOfNums BL), .slice a n cap], .slice ra ls.length rc, .int .i64 q, _, _, .pointer (some ⟨cb, 0, none⟩), _, _, .pointer (some ⟨ma, 0, none⟩), .pointer (some ⟨mb, 0, none⟩), _, _, .slice xa xn xc, .int .i64 DE, .slice ya yn yc, .int .i64 DE, .bool AB, _, _, _, _, _, _, _, _, _, _, _, _, _, _, _, _, _, _, _, _, _, _, _, _, _, _, _, _, _, _, _, _, _, _, _, .agg #[.int .i64 V, .int .i64 H, .string (strOfNums BL), .slice a n cap], .slice ra ls.length rc, .int .i64 q, .int .i64 RC, .int .i64 RC, .agg #[.int .i64 V, .int .i64 H, .string (strOfNums BL), .slice a n cap], .slice ra ls.length rc, .int .i64 q, .int .i64 RC, .bool true, .bool true, .agg #[.int .i64 V, .int .i64 H, .string (strOfNums BL), .slice a n cap], .agg #[.int .i64 V, .int .i64 H, .string (strOfNums BL)], .pointer (some ⟨cb, 0, none⟩), .int .i64 V, .pointer (some ⟨cb, 1, none⟩), .int .i64 H, .pointer (some ⟨cb, 2, none⟩), .string (strOfNums BL), .agg #[.int .i64 V, .int .i64 H, .string (strOfNums BL)], .bool true, .bool true, .bool true, .agg #[.int .i64 V1, .int .i64 H1, .string B1], .agg #[.int .i64 V2, .int .i64 H2, .string B2], .bool AB, .bool AB, .bool true, .bool true, .bool true, .slice xa xn xc, .string (strOfNums X), .slice ya yn yc, _, _, _, _, _, _, _, _, _, _, _, _], defers := _ } _
    refine alongK_read (.string (strOfNums X)) rfl rfl (fun wx hS => ex_conv rfl rfl wx wx (HX.out wx hS).2.str) ?_
    refine alongK_read (.bool true) rfl rfl (fun wx hS => ex_eqs rfl (by rfl) (by rfl) wx) ?_
    change AlongK _ _ _ _ _ { tmps := #[.agg #[.int .i64 V, .int .i64 H, .string (strOfNums BL), .slice a n cap], .slice ra ls.length rc, .int .i64 q, _, _, .pointer (some ⟨cb, 0, none⟩), _, _, .pointer (some ⟨ma, 0, none⟩), .pointer (some ⟨mb, 0, none⟩), _, _, .slice xa xn xc, .int .i64 DE, .slice ya yn yc, .int .i64 DE, .bool AB, _, _, _, _, _, _, _, _, _, _, _, _, _, _, _, _, _, _, _, _, _, _, _, _, _, _, _, _, _, _, _, _, _, _, _, .agg #[.int .i64 V, .int .i64 H, .string (strOfNums BL), .slice a n cap], .slice ra ls.length rc, .int .i64 q, .int .i64 RC, .int .i64 RC, .agg #[.int .i64 V, .int .i64 H, .string (strOfNums BL), .slice a n cap], .slice ra ls.length rc, .int .i64 q, .int .i64 RC, .bool true, .bool true, .agg #[.int .i64 V, .int .i64 H, .string (strOfNums BL), .slice a n cap], .agg #[.int .i64 V, .int .i64 H, .string (strOfNums BL)], .pointer (some ⟨cb, 0, none⟩), .int .i64 V, .pointer (some ⟨cb, 1, none⟩), .int .i64 H, .pointer (some ⟨cb, 2, none⟩), .string (strOfNums BL), .agg #[.int .i64 V, .int .i64 H, .string (strOfNums BL)], .bool true, .bool true, .bool true, .agg #[.int .i64 V1, .int .i64 H1, .string B1], .agg #[.int .i64 V2, .int .i64 H2, .string B2], .bool AB, .bool AB, .bool true, .bool true, .bool true, .slice xa xn xc, .string (strOfNums X), .slice ya yn yc, .string (strOfNums X), .bool true, _, _, _, _, _, _, _, _, _, _], defers := _ } _
    refine alongK_read (.bool true) rfl rfl (fun wx hS => ex_pickt rfl (by rfl) (by rfl) wx) ?_
    refine alongK_read (.bool true) rfl rfl (fun wx hS => ex_move (by rfl) (by rfl) wx) ?_
    change AlongK _ _ _ _ _ { tmps := #[.agg #[.int .i64 V, .int .i64 H, .string (strOfNums BL), .slice a n cap], .slice ra ls.length rc, .int .i64 q, _, _, .pointer (some ⟨cb, 0, none⟩), _, _, .pointer (some ⟨ma, 0, none⟩), .pointer (some ⟨mb, 0, none⟩), _, _, .slice xa xn xc, .int .i64 DE, .slice ya yn yc, .int .i64 DE, .bool AB, _, _, _, _, _, _, _, _, _, _, _, _, _, _, _, _, _, _, _, _, _, _, _, _, _, _, _, _, _, _, _, _, _, _, _, .agg #[.int .i64 V, .int .i64 H, .string (strOfNums BL), .slice a n cap], .slice ra ls.length rc, .int .i64 q, .int .i64 RC, .int .i64 RC, .agg #[.int .i64 V, .int .i64 H, .string (strOfNums BL), .slice a n cap], .slice ra ls.length rc, .int .i64 q, .int .i64 RC, .bool true, .bool true, .agg #[.int .i64 V, .int .i64 H, .string (strOfNums BL), .slice a n cap], .agg #[.int .i64 V, .int .i64 H, .string (strOfNums BL)], .pointer (some ⟨cb, 0, none⟩), .int .i64 V, .pointer (some ⟨cb, 1, none⟩), .int .i64 H, .pointer (some ⟨cb, 2, none⟩), .string (strOfNums BL), .agg #[.int .i64 V, .int .i64 H, .string (strOfNums BL)], .bool true, .bool true, .bool true, .agg #[.int .i64 V1, .int .i64 H1, .string B1], .agg #[.int .i64 V2, .int .i64 H2, .string B2], .bool AB, .bool AB, .bool true, .bool true, .bool true, .slice xa xn xc, .string (strOfNums X), .slice ya yn yc, .string (strOfNums X), .bool true, .bool true, .bool true, _, _, _, _, _, _, _, _], defers := _ } _
    refine alongK_read (.int .i64 DE) rfl rfl (fun wx hS => ex_move (by rfl) (by rfl) wx) ?_
    refine alongK_read (.int .i64 DE) rfl rfl (fun wx hS => ex_move (by rfl) (by rfl) wx) ?_
    change AlongK _ _ _ _ _ { tmps := #[.agg #[.int .i64 V, .int .i64 H, .string (strOfNums BL), .slice a n cap], .slice ra ls.length rc, .int .i64 q, _, _, .pointer (some ⟨cb, 0, none⟩), _, _, .pointer (some ⟨ma, 0, none⟩), .pointer (some ⟨mb, 0, none⟩), _, _, .slice xa xn xc, .int .i64 DE, .slice ya yn yc, .int .i64 DE, .bool AB, _, _, _, _, _, _, _, _, _, _, _, _, _, _, _, _, _, _, _, _, _, _, _, _, _, _, _, _, _, _, _, _, _, _, _, .agg #[.int .i64 V, .int .i64 H, .string (strOfNums BL), .slice a n cap], .slice ra ls.length rc, .int .i64 q, .int .i64 RC, .int .i64 RC, .agg #[.int .i64 V, .int .i64 H, .string (strOfNums BL), .slice a n cap], .slice ra ls.length rc, .int .i64 q, .int .i64 RC, .bool true, .bool true, .agg #[.int .i64 V, .int .i64 H, .string (strOfNums BL), .slice a n cap], .agg #[.int .i64 V, .int .i64 H, .string (strOfNums BL)], .pointer (some ⟨cb, 0, none⟩), .int .i64 V, .pointer (some ⟨cb, 1, none⟩), .int .i64 H, .pointer (some ⟨cb, 2, none⟩), .string (strOfNums BL), .agg #[.int .i64 V, .int .i64 H, .string (strOfNums BL)], .bool true, .bool true, .bool true, .agg #[.int .i64 V1, .int .i64 H1, .string B1], .agg #[.int .i64 V2, .int .i64 H2, .string B2], .bool AB, .bool AB, .bool true, .bool true, .bool true, .slice xa xn xc, .string (strOfNums X), .slice ya yn yc, .string (strOfNums X), .bool true, .bool true, .bool true, .int .i64 DE, _, .int .i64 DE, _, _, _, _, _], defers := _ } _
    refine alongK_step ?_
    refine opK_call (vs := [.int .i64 DE]) rfl rfl rfl (enters_of Tryz.func11 (by kernel_rfl) rfl) rfl ?_
    with_reducible refine Calls.mono (ctNum_any DE _) ?_
    rintro e y6 ⟨rfl, hy6⟩
    refine ⟨_, rfl, (fun x => Up wc x), (fun _ h => h), (Up.trans (Up.trans (Up.trans (Up.trans (Up.trans (Up.trans (Up.drew1 wc) hy1) hy2) hy3) hy4) hy5) hy6), ?_⟩
    change AlongK _ _ _ _ _ { tmps := #[.agg #[.int .i64 V, .int .i64 H, .string (strOfNums BL), .slice a n cap], .slice ra ls.length rc, .int .i64 q, _, _, .pointer (some ⟨cb, 0, none⟩), _, _, .pointer (some ⟨ma, 0, none⟩), .pointer (some ⟨mb, 0, none⟩), _, _, .slice xa xn xc, .int .i64 DE, .slice ya yn yc, .int .i64 DE, .bool AB, _, _, _, _, _, _, _, _, _, _, _, _, _, _, _, _, _, _, _, _, _, _, _, _, _, _, _, _, _, _, _, _, _, _, _, .agg #[.int .i64 V, .int .i64 H, .string (strOfNums BL), .slice a n cap], .slice ra ls.length rc, .int .i64 q, .int .i64 RC, .int .i64 RC, .agg #[.int .i64 V, .int .i64 H, .string (strOfNums BL), .slice a n cap], .slice ra ls.length rc, .int .i64 q, .int .i64 RC, .bool true, .bool true, .agg #[.int .i64 V, .int .i64 H, .string (strOfNums BL), .slice a n cap], .agg #[.int .i64 V, .int .i64 H, .string (strOfNums BL)], .pointer (some ⟨cb, 0, none⟩), .int .i64 V, .pointer (some ⟨cb, 1, none⟩), .int .i64 H, .pointer (some ⟨cb, 2, none⟩), .string (strOfNums BL), .agg #[.int .i64 V, .int .i64 H, .string (strOfNums BL)], .bool true, .bool true, .bool true, .agg #[.int .i64 V1, .int .i64 H1, .string B1], .agg #[.int .i64 V2, .int .i64 H2, .string B2], .bool AB, .bool AB, .bool true, .bool true, .bool true, .slice xa xn xc, .string (strOfNums X), .slice ya yn yc, .string (strOfNums X), .bool true, .bool true, .bool true, .int .i64 DE, .int .i64 DE, .int .i64 DE, _, _, _, _, _], defers := _ } _
    refine alongK_read (.bool true) rfl rfl (fun wx hS => ex_eqi rfl (by rfl) (by rfl) (by simp) wx) ?_
    refine alongK_read (.bool true) rfl rfl (fun wx hS => ex_pickt rfl (by rfl) (by rfl) wx) ?_
    change AlongK _ _ _ _ _ { tmps := #[.agg #[.int .i64 V, .int .i64 H, .string (strOfNums BL), .slice a n cap], .slice ra ls.length rc, .int .i64 q, _, _, .pointer (some ⟨cb, 0, none⟩), _, _, .pointer (some ⟨ma, 0, none⟩), .pointer (some ⟨mb, 0, none⟩), _, _, .slice xa xn xc, .int .i64 DE, .slice ya yn yc, .int .i64 DE, .bool AB, _, _, _, _, _, _, _, _, _, _, _, _, _, _, _, _, _, _, _, _, _, _, _, _, _, _, _, _, _, _, _, _, _, _, _, .agg #[.int .i64 V, .int .i64 H, .string (strOfNums BL), .slice a n cap], .slice ra ls.length rc, .int .i64 q, .int .i64 RC, .int .i64 RC, .agg #[.int .i64 V, .int .i64 H, .string (strOfNums BL), .slice a n cap], .slice ra ls.length rc, .int .i64 q, .int .i64 RC, .bool true, .bool true, .agg #[.int .i64 V, .int .i64 H, .string (strOfNums BL), .slice a n cap], .agg #[.int .i64 V, .int .i64 H, .string (strOfNums BL)], .pointer (some ⟨cb, 0, none⟩), .int .i64 V, .pointer (some ⟨cb, 1, none⟩), .int .i64 H, .pointer (some ⟨cb, 2, none⟩), .string (strOfNums BL), .agg #[.int .i64 V, .int .i64 H, .string (strOfNums BL)], .bool true, .bool true, .bool true, .agg #[.int .i64 V1, .int .i64 H1, .string B1], .agg #[.int .i64 V2, .int .i64 H2, .string B2], .bool AB, .bool AB, .bool true, .bool true, .bool true, .slice xa xn xc, .string (strOfNums X), .slice ya yn yc, .string (strOfNums X), .bool true, .bool true, .bool true, .int .i64 DE, .int .i64 DE, .int .i64 DE, .bool true, .bool true, _, _, _], defers := _ } _
    refine alongK_read (.bool true) rfl rfl (fun wx hS => ex_move (by rfl) (by rfl) wx) ?_
    change AlongK _ _ _ _ _ { tmps := #[.agg #[.int .i64 V, .int .i64 H, .string (strOfNums BL), .slice a n cap], .slice ra ls.length rc, .int .i64 q, _, _, .pointer (some ⟨cb, 0, none⟩), _, _, .pointer (some ⟨ma, 0, none⟩), .pointer (some ⟨mb, 0, none⟩), _, _, .slice xa xn xc, .int .i64 DE, .slice ya yn yc, .int .i64 DE, .bool AB, _, _, _, _, _, _, _, _, _, _, _, _, _, _, _, _, _, _, _, _, _, _, _, _, _, _, _, _, _, _, _, _, _, _, _, .agg #[.int .i64 V, .int .i64 H, .string (strOfNums BL), .slice a n cap], .slice ra ls.length rc, .int .i64 q, .int .i64 RC, .int .i64 RC, .agg #[.int .i64 V, .int .i64 H, .string (strOfNums BL), .slice a n cap], .slice ra ls.length rc, .int .i64 q, .int .i64 RC, .bool true, .bool true, .agg #[.int .i64 V, .int .i64 H, .string (strOfNums BL), .slice a n cap], .agg #[.int .i64 V, .int .i64 H, .string (strOfNums BL)], .pointer (some ⟨cb, 0, none⟩), .int .i64 V, .pointer (some ⟨cb, 1, none⟩), .int .i64 H, .pointer (some ⟨cb, 2, none⟩), .string (strOfNums BL), .agg #[.int .i64 V, .int .i64 H, .string (strOfNums BL)], .bool true, .bool true, .bool true, .agg #[.int .i64 V1, .int .i64 H1, .string B1], .agg #[.int .i64 V2, .int .i64 H2, .string B2], .bool AB, .bool AB, .bool true, .bool true, .bool true, .slice xa xn xc, .string (strOfNums X), .slice ya yn yc, .string (strOfNums X), .bool true, .bool true, .bool true, .int .i64 DE, .int .i64 DE, .int .i64 DE, .bool true, .bool true, .bool true, _, _], defers := _ } _
    refine alongK_step ?_
    refine opK_call (vs := []) rfl rfl rfl (enters_of Tryz.func16 (by kernel_rfl) rfl) rfl ?_
    with_reducible refine Calls.mono (ctAlive_any _) ?_
    rintro e y7 ⟨rfl, hy7⟩
    refine ⟨_, rfl, (fun x => Up wc x), (fun _ h => h), (Up.trans (Up.trans (Up.trans (Up.trans (Up.trans (Up.trans (Up.trans (Up.drew1 wc) hy1) hy2) hy3) hy4) hy5) hy6) hy7), ?_⟩
    change AlongK _ _ _ _ _ { tmps := #[.agg #[.int .i64 V, .int .i64 H, .string (strOfNums BL), .slice a n cap], .slice ra ls.length rc, .int .i64 q, _, _, .pointer (some ⟨cb, 0, none⟩), _, _, .pointer (some ⟨ma, 0, none⟩), .pointer (some ⟨mb, 0, none⟩), _, _, .slice xa xn xc, .int .i64 DE, .slice ya yn yc, .int .i64 DE, .bool AB, _, _, _, _, _, _, _, _, _, _, _, _, _, _, _, _, _, _, _, _, _, _, _, _, _, _, _, _, _, _, _, _, _, _, _, .agg #[.int .i64 V, .int .i64 H, .string (strOfNums BL), .slice a n cap], .slice ra ls.length rc, .int .i64 q, .int .i64 RC, .int .i64 RC, .agg #[.int .i64 V, .int .i64 H, .string (strOfNums BL), .slice a n cap], .slice ra ls.length rc, .int .i64 q, .int .i64 RC, .bool true, .bool true, .agg #[.int .i64 V, .int .i64 H, .string (strOfNums BL), .slice a n cap], .agg #[.int .i64 V, .int .i64 H, .string (strOfNums BL)], .pointer (some ⟨cb, 0, none⟩), .int .i64 V, .pointer (some ⟨cb, 1, none⟩), .int .i64 H, .pointer (some ⟨cb, 2, none⟩), .string (strOfNums BL), .agg #[.int .i64 V, .int .i64 H, .string (strOfNums BL)], .bool true, .bool true, .bool true, .agg #[.int .i64 V1, .int .i64 H1, .string B1], .agg #[.int .i64 V2, .int .i64 H2, .string B2], .bool AB, .bool AB, .bool true, .bool true, .bool true, .slice xa xn xc, .string (strOfNums X), .slice ya yn yc, .string (strOfNums X), .bool true, .bool true, .bool true, .int .i64 DE, .int .i64 DE, .int .i64 DE, .bool true, .bool true, .bool true, .bool true, _], defers := _ } _
    refine alongK_read (.bool true) rfl rfl (fun wx hS => ex_pickt rfl (by rfl) (by rfl) wx) ?_
    refine alongK_read (.bool true) rfl rfl (fun wx hS => ex_assign (by rfl) (by rfl) wx) ?_
    change AlongK _ _ _ _ _ { tmps := #[.agg #[.int .i64 V, .int .i64 H, .string (strOfNums BL), .slice a n cap], .slice ra ls.length rc, .int .i64 q, _, _, .pointer (some ⟨cb, 0, none⟩), _, _, .pointer (some ⟨ma, 0, none⟩), .pointer (some ⟨mb, 0, none⟩), .bool true, _, .slice xa xn xc, .int .i64 DE, .slice ya yn yc, .int .i64 DE, .bool AB, _, _, _, _, _, _, _, _, _, _, _, _, _, _, _, _, _, _, _, _, _, _, _, _, _, _, _, _, _, _, _, _, _, _, _, .agg #[.int .i64 V, .int .i64 H, .string (strOfNums BL), .slice a n cap], .slice ra ls.length rc, .int .i64 q, .int .i64 RC, .int .i64 RC, .agg #[.int .i64 V, .int .i64 H, .string (strOfNums BL), .slice a n cap], .slice ra ls.length rc, .int .i64 q, .int .i64 RC, .bool true, .bool true, .agg #[.int .i64 V, .int .i64 H, .string (strOfNums BL), .slice a n cap], .agg #[.int .i64 V, .int .i64 H, .string (strOfNums BL)], .pointer (some ⟨cb, 0, none⟩), .int .i64 V, .pointer (some ⟨cb, 1, none⟩), .int .i64 H, .pointer (some ⟨cb, 2, none⟩), .string (strOfNums BL), .agg #[.int .i64 V, .int .i64 H, .string (strOfNums BL)], .bool true, .bool true, .bool true, .agg #[.int .i64 V1, .int .i64 H1, .string B1], .agg #[.int .i64 V2, .int .i64 H2, .string B2], .bool AB, .bool AB, .bool true, .bool true, .bool true, .slice xa xn xc, .string (strOfNums X), .slice ya yn yc, .string (strOfNums X), .bool true, .bool true, .bool true, .int .i64 DE, .int .i64 DE, .int .i64 DE, .bool true, .bool true, .bool true, .bool true, .bool true], defers := _ } _
    refine alongK_done ?_
    have HEND := Lib.hid (Up.trans (Up.trans (Up.trans (Up.trans (Up.trans (Up.trans (Up.trans (Up.drew1 wc) hy1) hy2) hy3) hy4) hy5) hy6) hy7)
    go_wp2
    go_ret
    exact ⟨rfl, Up.trans HUR.out HEND.out⟩
theorem lawCertTells_in (V H : Int) (B : ByteArray) (a : Option Addr) (n cap : Nat) (xs : List Vs) (rv : Value) (ls : List (List Int)) (q V1 H1 : Int) (B1 : ByteArray) (V2 H2 : Int) (B2 : ByteArray) (w : World) (hV : (Lit.int .i64 V).wf = true) (hH : (Lit.int .i64 H).wf = true) (hbn : B.size ≤ maxLen) (hv : VArg w (.slice a n cap) xs) (hn : xs.length = n) (hsz : n * 72 ≤ 140737488355328) (hs : Strs w rv ls) (hll : ls.length ≤ maxLen) (hok : ∀ (j : Nat) (x : Vs), xs[j]? = some x → VsOk x) :
    Calls Tryz.prog 3 #[.agg #[.int .i64 V, .int .i64 H, .string B, .slice a n cap], rv, .int .i64 q, .agg (mkC V1 H1 B1), .agg (mkC V2 H2 B2)] w fun e w' => e = .returned (.bool true) ∧ Up w w' := by
  have h := lawCertTells_any V H (octsOf B) a n cap xs rv ls q V1 H1 B1 V2 H2 B2 w (i64_of_wf hV) (i64_of_wf hH) (octsOf_u8s B) (by rw [octsOf_length]; exact Nat.le_trans hbn (by decide)) hv hn (by omega) hs (Nat.le_trans hll (by decide)) hok
  rw [strOf_octs] at h
  exact h
end
end Go.Proofs.YtfenmhddlojahaaGreat
