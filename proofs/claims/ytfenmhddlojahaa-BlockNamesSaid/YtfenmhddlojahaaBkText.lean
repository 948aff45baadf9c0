import Derived.Test.YtfenmhddlojahaaBkParts
import Derived.Test.YtfenmhddlojahaaShaLong
/-
  block: Text and Name, of whatever block.
-/
namespace Go.Proofs.Ytfenmhddlojahaa
set_option maxRecDepth 100000
section
set_option linter.unusedVariables false
set_option linter.unusedSimpArgs false
open Go.RowKit Go.Sort Go.Lib

/-- a block's numbers, in octets -/
def bkH (V H : Int) (P : ByteArray) (JV : Int) (n : Nat) : List Int := [0, 5, 98, 108, 111, 99, 107] ++ octAll V 6 ++ octAll H 6 ++ (octAll 32 2 ++ octsOf P) ++ octAll JV 6 ++ octAll (n : Int) 6
/-- a transaction's octets -/
def tsB (x : Ts) : List Int := txT x.1.F x.1.T x.1.A x.1.N ++ (octAll (octsOf x.2).length 2 ++ octsOf x.2)
/-- a block's text, in parts -/
def bkL (V H : Int) (P : ByteArray) (JV : Int) (xs : List Ts) : List (List Int) := bkH V H P JV xs.length :: xs.map tsB

theorem ts_ok {x : Ts} (h : tsE x = 0) : ((0 ≤ x.1.F ∧ x.1.F ≤ 3) ∧ (0 ≤ x.1.T ∧ x.1.T ≤ 3) ∧ (1 ≤ x.1.A ∧ x.1.A ≤ 1000) ∧ (0 ≤ x.1.N ∧ x.1.N ≤ 1099511627776)) ∧ x.2.size ≤ 4096 := by
  unfold tsE txE at h
  split at h
  · next k => exact ⟨k.1, k.2.2⟩
  · cases h
theorem tsB_len {x : Ts} (h : tsE x = 0) : (tsB x).length ≤ 4126 := by
  have := (ts_ok h).2
  unfold tsB
  rw [List.length_append, List.length_append, txT_length, octAll_length, octsOf_length]; omega
theorem tsB_u8s (x : Ts) : U8s (tsB x) := (txT_u8s _ _ _ _).append ((octAll_u8s _ _).append (octsOf_u8s _))
theorem bkH_len {V H : Int} {P : ByteArray} {JV : Int} {n : Nat} (h : P.size = 32) : (bkH V H P JV n).length = 65 := by
  unfold bkH
  simp only [List.length_append, octAll_length, octsOf_length, h, List.length_cons, List.length_nil]
theorem bkW_u8s : U8s [98, 108, 111, 99, 107] := by intro j hj; match j, hj with | 0, _ => decide | 1, _ => decide | 2, _ => decide | 3, _ => decide | 4, _ => decide
theorem bkW7_u8s : U8s [0, 5, 98, 108, 111, 99, 107] := by intro j hj; match j, hj with | 0, _ => decide | 1, _ => decide | 2, _ => decide | 3, _ => decide | 4, _ => decide | 5, _ => decide | 6, _ => decide
theorem bkH_u8s (V H : Int) (P : ByteArray) (JV : Int) (n : Nat) : U8s (bkH V H P JV n) :=
  ((((bkW7_u8s.append (octAll_u8s _ _)).append (octAll_u8s _ _)).append ((octAll_u8s _ _).append (octsOf_u8s _))).append (octAll_u8s _ _)).append (octAll_u8s _ _)
theorem flat_u8s : ∀ (ls : List (List Int)), (∀ l ∈ ls, U8s l) → U8s ls.flatten
  | [], _ => by intro j hj; simp at hj
  | l :: t, h => by rw [List.flatten_cons]; exact (h l (by simp)).append (flat_u8s t (fun m hm => h m (by simp [hm])))
theorem flat_len (m : Nat) : ∀ (ls : List (List Int)), (∀ l ∈ ls, l.length ≤ m) → ls.flatten.length ≤ ls.length * m
  | [], _ => by simp
  | l :: t, h => by
    have h1 := h l (by simp)
    have h2 := flat_len m t (fun k hk => h k (by simp [hk]))
    rw [List.flatten_cons, List.length_append, List.length_cons, Nat.add_mul]
    omega
theorem bkL_len {V H : Int} {P : ByteArray} {JV JH : Int} {JB : ByteArray} {xs : List Ts} {S : ByteArray} (h : BkMay V H P JV JH JB xs S) : (bkL V H P JV xs).flatten.length ≤ 17000 := by
  have h1 := flat_len 4126 (xs.map tsB) (fun l hl => by
    obtain ⟨x, hx, rfl⟩ := List.mem_map.1 hl
    exact tsB_len (h.ts x hx))
  have h2 := bkH_len (V := V) (H := H) (JV := JV) (n := xs.length) h.p
  have h3 := h.n
  unfold bkL
  rw [List.flatten_cons, List.length_append, h2]
  rw [List.length_map] at h1
  have : xs.length * 4126 ≤ 4 * 4126 := Nat.mul_le_mul_right _ h3
  omega
theorem bkL_u8s (V H : Int) (P : ByteArray) (JV : Int) (xs : List Ts) : U8s (bkL V H P JV xs).flatten := flat_u8s _ (fun l hl => by
    unfold bkL at hl
    rcases List.mem_cons.1 hl with rfl | hl
    · exact bkH_u8s _ _ _ _ _
    · obtain ⟨x, _, rfl⟩ := List.mem_map.1 hl
      exact tsB_u8s x)
theorem wnum_in {base g : Nat} {o : Value} {bs : List Int} {n : Int} {w : World} (h : Wr w base g o 0 bs) (hn : 0 ≤ n ∧ n ≤ 1099511627776) (hb : bs.length ≤ 16384) (hbase : base ≤ w.heap.size) :
    Calls Try.prog 30 #[.pointer (some ⟨g, 0, none⟩), .int .i64 n] w fun e w' => e = .returned (.tuple #[]) ∧ ∃ o', Wr w' base g o' 0 (bs ++ octAll n 6) ∧ WrStep g o o' w w' := by
  have k := wnum_any base g o 0 bs n w h (by omega) (by omega) hbase
  have e := numS_ok bs n hn hb
  have e1 : wNumE 0 n = 0 := congrArg Prod.fst e
  have e2 : wNumB 0 bs n = bs ++ octAll n 6 := congrArg Prod.snd e
  rwa [e1, e2] at k
theorem wtext_in {base g : Nat} {o : Value} {bs zs : List Int} {w : World} (h : Wr w base g o 0 bs) (hu : U8s zs) (hz : zs.length ≤ 4096) (hb : bs.length ≤ 16384) (hbase : base ≤ w.heap.size) :
    Calls Try.prog 29 #[.pointer (some ⟨g, 0, none⟩), .string (strOfNums zs)] w fun e w' => e = .returned (.tuple #[]) ∧ ∃ o', Wr w' base g o' 0 (bs ++ (octAll zs.length 2 ++ zs)) ∧ WrStep g o o' w w' := by
  have k := wtext_any base g o 0 bs zs w h hu (by omega) (by omega) hbase
  have e := textS_ok bs zs hz hb
  have e1 : wTextE 0 zs = 0 := congrArg Prod.fst e
  have e2 : wTextB 0 bs zs = bs ++ (octAll zs.length 2 ++ zs) := congrArg Prod.snd e
  rwa [e1, e2] at k

set_option maxHeartbeats 2000000 in
/-- the numbers' closure, on a writer that nothing was written to -/
theorem putB_any (g M : Nat) (V H : Int) (P : ByteArray) (JV JH : Int) (JB : ByteArray) (ja : Option Addr) (jn jc : Nat) (ta : Option Addr) (n tc : Nat) (S : ByteArray) (base : Nat) (w : World) (h : Wr w base g (.slice none 0 0) 0 []) (hbase : base ≤ w.heap.size) (hMg : M ≠ g) (hM : w.heap[M]? = some (.cells (bkC V H P JV JH JB ja jn jc ta n tc S) 27 (0, 0)))
    (hV : 0 ≤ V ∧ V ≤ 1048576) (hH : 1 ≤ H ∧ H ≤ 1048576) (hP : P.size = 32) (hJ : 0 ≤ JV ∧ JV ≤ V) (hn : n ≤ 4) :
    Calls Try.prog 28 (#[.pointer (some ⟨g, 0, none⟩)] ++ #[.pointer (some ⟨M, 0, none⟩)]) w fun e w' => e = .returned (.tuple #[]) ∧ ∃ o', Wr w' base g o' 0 (bkH V H P JV n) ∧ WrStep g (.slice none 0 0) o' w w' := by
  have hV2 : 0 ≤ V ∧ V ≤ 1099511627776 := by omega
  have hH2 : 0 ≤ H ∧ H ≤ 1099511627776 := by omega
  have hJ2 : 0 ≤ JV ∧ JV ≤ 1099511627776 := by omega
  have hn2 : 0 ≤ (n : Int) ∧ (n : Int) ≤ 1099511627776 := by omega
  unfold bkC at hM
  have HG := Lib.hid h.lt
  have HW := Lib.hid h
  have HX : Hid (∀ (ok : Value) (wk : World), WrStep g (.slice none 0 0) ok w wk → wk.heap[M]? = some (.cells #[.int .i64 V, .int .i64 H, .string P, .int .i64 JV, .int .i64 JH, .string JB, .slice ja jn jc, .slice ta n tc, .string S] 27 (0, 0)) ∧ base ≤ wk.heap.size) := fun ok wk hs => ⟨hs.keep hM hMg (by simp [Value.ownBlock]), Nat.le_trans hbase hs.size⟩
  have T0 := Lib.hid (WrStep.refl g (.slice none 0 0) w)
  have C1 : Hid (∀ wx o', Wr wx base g o' 0 [] → WrStep g (.slice none 0 0) o' w wx → Calls Try.prog 29 #[.pointer (some ⟨g, 0, none⟩), .string ⟨#[98, 108, 111, 99, 107]⟩] wx fun e w' => e = .returned (.tuple #[]) ∧ ∃ o2, Wr w' base g o2 0 ([0, 5, 98, 108, 111, 99, 107] : List Int) ∧ WrStep g o' o2 wx w') := fun wx o' k s => wtext_in (zs := [98, 108, 111, 99, 107]) k bkW_u8s (by decide) (by decide) (HX.out _ _ s).2
  have C2 : Hid (∀ wx o', Wr wx base g o' 0 ([0, 5, 98, 108, 111, 99, 107] : List Int) → WrStep g (.slice none 0 0) o' w wx → Calls Try.prog 30 #[.pointer (some ⟨g, 0, none⟩), .int .i64 V] wx fun e w' => e = .returned (.tuple #[]) ∧ ∃ o2, Wr w' base g o2 0 (([0, 5, 98, 108, 111, 99, 107] : List Int) ++ octAll V 6) ∧ WrStep g o' o2 wx w') := fun wx o' k s => wnum_in k hV2 (by simp [octAll_length, octsOf_length, hP]) (HX.out _ _ s).2
  have C3 : Hid (∀ wx o', Wr wx base g o' 0 (([0, 5, 98, 108, 111, 99, 107] : List Int) ++ octAll V 6) → WrStep g (.slice none 0 0) o' w wx → Calls Try.prog 30 #[.pointer (some ⟨g, 0, none⟩), .int .i64 H] wx fun e w' => e = .returned (.tuple #[]) ∧ ∃ o2, Wr w' base g o2 0 ((([0, 5, 98, 108, 111, 99, 107] : List Int) ++ octAll V 6) ++ octAll H 6) ∧ WrStep g o' o2 wx w') := fun wx o' k s => wnum_in k hH2 (by simp [octAll_length, octsOf_length, hP]) (HX.out _ _ s).2
  have C4 : Hid (∀ wx o', Wr wx base g o' 0 ((([0, 5, 98, 108, 111, 99, 107] : List Int) ++ octAll V 6) ++ octAll H 6) → WrStep g (.slice none 0 0) o' w wx → Calls Try.prog 29 #[.pointer (some ⟨g, 0, none⟩), .string P] wx fun e w' => e = .returned (.tuple #[]) ∧ ∃ o2, Wr w' base g o2 0 (((([0, 5, 98, 108, 111, 99, 107] : List Int) ++ octAll V 6) ++ octAll H 6) ++ (octAll 32 2 ++ octsOf P)) ∧ WrStep g o' o2 wx w') := fun wx o' k s => by
    have c := wtext_in (zs := octsOf P) k (octsOf_u8s P) (by rw [octsOf_length]; omega) (by simp [octAll_length]) (HX.out _ _ s).2
    rw [strOf_octs, octsOf_length, hP] at c
    exact c
  have C5 : Hid (∀ wx o', Wr wx base g o' 0 (((([0, 5, 98, 108, 111, 99, 107] : List Int) ++ octAll V 6) ++ octAll H 6) ++ (octAll 32 2 ++ octsOf P)) → WrStep g (.slice none 0 0) o' w wx → Calls Try.prog 30 #[.pointer (some ⟨g, 0, none⟩), .int .i64 JV] wx fun e w' => e = .returned (.tuple #[]) ∧ ∃ o2, Wr w' base g o2 0 ((((([0, 5, 98, 108, 111, 99, 107] : List Int) ++ octAll V 6) ++ octAll H 6) ++ (octAll 32 2 ++ octsOf P)) ++ octAll JV 6) ∧ WrStep g o' o2 wx w') := fun wx o' k s => wnum_in k hJ2 (by simp [octAll_length, octsOf_length, hP]) (HX.out _ _ s).2
  have C6 : Hid (∀ wx o', Wr wx base g o' 0 ((((([0, 5, 98, 108, 111, 99, 107] : List Int) ++ octAll V 6) ++ octAll H 6) ++ (octAll 32 2 ++ octsOf P)) ++ octAll JV 6) → WrStep g (.slice none 0 0) o' w wx → Calls Try.prog 30 #[.pointer (some ⟨g, 0, none⟩), .int .i64 (n : Int)] wx fun e w' => e = .returned (.tuple #[]) ∧ ∃ o2, Wr w' base g o2 0 (((((([0, 5, 98, 108, 111, 99, 107] : List Int) ++ octAll V 6) ++ octAll H 6) ++ (octAll 32 2 ++ octsOf P)) ++ octAll JV 6) ++ octAll (n : Int) 6) ∧ WrStep g o' o2 wx w') := fun wx o' k s => wnum_in k hn2 (by simp [octAll_length, octsOf_length, hP]) (HX.out _ _ s).2
  unfold bkH
  generalize hZ1 : ([0, 5, 98, 108, 111, 99, 107] : List Int) = Z1 at C1 C2 C3 C4 C5 C6 ⊢
  generalize hZ2 : (Z1 ++ octAll V 6) = Z2 at C2 C3 C4 C5 C6 ⊢
  generalize hZ3 : (Z2 ++ octAll H 6) = Z3 at C3 C4 C5 C6 ⊢
  generalize hZ4 : (Z3 ++ (octAll 32 2 ++ octsOf P)) = Z4 at C4 C5 C6 ⊢
  generalize hZ5 : (Z4 ++ octAll JV 6) = Z5 at C5 C6 ⊢
  generalize hZ6 : (Z5 ++ octAll (n : Int) 6) = Z6 at C6 ⊢
  clear hZ1 hZ2 hZ3 hZ4 hZ5 hZ6
  clear h hbase hMg hM hV hH hP hJ hn hV2 hH2 hJ2 hn2
  go_enter Try.func28, Try.ntmps28
  go_wp2_with fail
  with_reducible refine Calls.mono (C1.out _ _ HW.out T0.out) ?_
  rintro e w1 ⟨rfl, o1, h1, h2⟩
  have W1 := Lib.hid h1
  have T1 := Lib.hid (T0.out.trans HG.out h2)
  clear h1 h2
  obtain ⟨c0, c1, c2, c3, c4, c5, c6, c7, c8⟩ := bk_cells (HX.out _ _ T1.out).1
  clear c1 c2 c3 c4 c5 c6 c7 c8
  go_wp2_with fail
  with_reducible refine Calls.mono (C2.out _ _ W1.out T1.out) ?_
  rintro e w2 ⟨rfl, o2, h1, h2⟩
  have W2 := Lib.hid h1
  have T2 := Lib.hid (T1.out.trans HG.out h2)
  clear h1 h2
  clear c0
  obtain ⟨c0, c1, c2, c3, c4, c5, c6, c7, c8⟩ := bk_cells (HX.out _ _ T2.out).1
  clear c0 c2 c3 c4 c5 c6 c7 c8
  go_wp2_with fail
  with_reducible refine Calls.mono (C3.out _ _ W2.out T2.out) ?_
  rintro e w3 ⟨rfl, o3, h1, h2⟩
  have W3 := Lib.hid h1
  have T3 := Lib.hid (T2.out.trans HG.out h2)
  clear h1 h2
  clear c1
  obtain ⟨c0, c1, c2, c3, c4, c5, c6, c7, c8⟩ := bk_cells (HX.out _ _ T3.out).1
  clear c0 c1 c3 c4 c5 c6 c7 c8
  go_wp2_with fail
  with_reducible refine Calls.mono (C4.out _ _ W3.out T3.out) ?_
  rintro e w4 ⟨rfl, o4, h1, h2⟩
  have W4 := Lib.hid h1
  have T4 := Lib.hid (T3.out.trans HG.out h2)
  clear h1 h2
  clear c2
  obtain ⟨c0, c1, c2, c3, c4, c5, c6, c7, c8⟩ := bk_cells (HX.out _ _ T4.out).1
  clear c0 c1 c2 c4 c5 c6 c7 c8
  go_wp2_with fail
  with_reducible refine Calls.mono (C5.out _ _ W4.out T4.out) ?_
  rintro e w5 ⟨rfl, o5, h1, h2⟩
  have W5 := Lib.hid h1
  have T5 := Lib.hid (T4.out.trans HG.out h2)
  clear h1 h2
  clear c3
  obtain ⟨c0, c1, c2, c3, c4, c5, c6, c7, c8⟩ := bk_cells (HX.out _ _ T5.out).1
  clear c0 c1 c2 c3 c4 c5 c6 c8
  go_wp2_with fail
  with_reducible refine Calls.mono (C6.out _ _ W5.out T5.out) ?_
  rintro e w6 ⟨rfl, o6, h1, h2⟩
  have W6 := Lib.hid h1
  have T6 := Lib.hid (T5.out.trans HG.out h2)
  clear h1 h2
  go_wp2
  go_end0
  exact ⟨rfl, o6, W6.out, T6.out⟩
theorem putT_any (g k : Nat) (x : Ts) (base : Nat) (w : World) (h : Wr w base g (.slice none 0 0) 0 []) (hbase : base ≤ w.heap.size) (hk : w.heap[k]? = some (.cells (tsA x) 36 (0, 0))) (hx : tsE x = 0) :
    Calls Try.prog 31 (#[.pointer (some ⟨g, 0, none⟩)] ++ #[.pointer (some ⟨k, 0, none⟩)]) w fun e w' => e = .returned (.tuple #[]) ∧ ∃ o', Wr w' base g o' 0 (tsB x) ∧ WrStep g (.slice none 0 0) o' w w' := by
  obtain ⟨⟨hF, hT, hA, hN⟩, hS⟩ := ts_ok hx
  have HP : Hid (Calls Try.prog 32 #[.pointer (some ⟨g, 0, none⟩), .agg (tsA x)] w fun e w' => e = .returned (.tuple #[]) ∧ ∃ o', Wr w' base g o' 0 (tsB x) ∧ WrStep g (.slice none 0 0) o' w w') := by
    have c := txPut_any base g (.slice none 0 0) 0 [] x.1.F x.1.T x.1.A x.1.N (octsOf x.2) w h ⟨by omega, by omega⟩ ⟨by omega, by omega⟩ ⟨by omega, by omega⟩ ⟨by omega, by omega⟩ (octsOf_u8s _) (by rw [octsOf_length]; omega) (by decide) hbase
    rw [txS_ok [] _ _ _ _ ⟨by omega, by omega⟩ ⟨by omega, by omega⟩ ⟨by omega, by omega⟩ ⟨by omega, by omega⟩ (by decide), textS_ok _ _ (by rw [octsOf_length]; omega) (by rw [List.nil_append, txT_length]; decide), strOf_octs, List.nil_append] at c
    exact c
  have HK := Lib.hid hk
  generalize tsB x = Z at HP ⊢
  clear h hbase hk hx hF hT hA hN hS
  go_enter Try.func31, Try.ntmps31
  go_wp2_with (refine wpList_ex rfl (.agg (tsA x)) _ (ex_loadrow (x := .tmp 1) rfl rfl _ 36 HK.out Try.underlying36 rfl info_tx) ?_)
  with_reducible refine Calls.mono HP.out ?_
  rintro e w1 ⟨rfl, o1, h1, h2⟩
  have H1 := Lib.hid h1
  have H2 := Lib.hid h2
  clear h1 h2
  go_wp2
  go_end0
  exact ⟨rfl, o1, H1.out, H2.out⟩

theorem own_keep {S : Nat → Prop} {w w' : World} {base : Nat} {e : TypeId} {sz : Nat} {v : Value} {n : Nat} {xs : List Value} (h : w.ownsRow base e sz v n xs) (k : KeptBut S w w') (hS : ∀ g, v.ownBlock = some g → ¬ S g) : w'.ownsRow base e sz v n xs := by
  refine ⟨h.1, ?_⟩
  rcases h.2 with hn | ⟨g, cap, cur, rfl, hb, hgg, rest⟩
  · exact .inl hn
  · exact .inr ⟨g, cap, cur, rfl, hb, (k.block g (lt_of_block hgg) (hS g rfl)).trans hgg, rest⟩
theorem rows_apart {w : World} {b1 b2 n1 n2 s1 s2 g : Nat} {e1 e2 : TypeId} {v1 v2 : Value} {x1 x2 : List Value} (h1 : w.ownsRow b1 e1 s1 v1 n1 x1) (h2 : w.ownsRow b2 e2 s2 v2 n2 x2) (he : e1 ≠ e2) (hg : v1.ownBlock = some g) : v2.ownBlock ≠ some g := by
  rcases h1.2 with ⟨rfl, _⟩ | ⟨g', cap, cur, rfl, _, hgg, _⟩
  · simp [Value.ownBlock] at hg
  · simp only [Value.ownBlock, Option.some.injEq] at hg
    subst hg
    exact fun e => block_off hgg he h2 e.symm
/-- the parts, told so far -/
def PartRows (W : World) (us : List Value) (ls : List (List Int)) : Prop := ∀ (j : Nat) (u : Value), us[j]? = some u → ∃ l base, ls[j]? = some l ∧ W.ownsRow base 5 1 u l.length (l.map (Value.int .u8))
theorem PartRows.up {W W' : World} {us : List Value} {ls : List (List Int)} (h : PartRows W us ls) (u : Up W W') : PartRows W' us ls := fun j v hj => by
  obtain ⟨l, b, h1, h2⟩ := h j v hj
  exact ⟨l, b, h1, ownsRow_up h2 u⟩
theorem PartRows.kept {S : Nat → Prop} {W W' : World} {us : List Value} {ls : List (List Int)} (h : PartRows W us ls) (k : KeptBut S W W') (hS : ∀ (l : List Int) (b : Nat) (u : Value) (g : Nat), W.ownsRow b 5 1 u l.length (l.map (Value.int .u8)) → u.ownBlock = some g → ¬ S g) : PartRows W' us ls := fun j v hj => by
  obtain ⟨l, b, h1, h2⟩ := h j v hj
  exact ⟨l, b, h1, own_keep h2 k (fun g hg => hS l b v g h2 hg)⟩
theorem PartRows.more {W : World} {us : List Value} {ls : List (List Int)} (h : PartRows W us ls) {l : List Int} (hl : ls[us.length]? = some l) {u : Value} {b : Nat} (hu : W.ownsRow b 5 1 u l.length (l.map (Value.int .u8))) : PartRows W (us ++ [u]) ls := fun j v hj => by
  by_cases hi : j < us.length
  · rw [List.getElem?_append_left hi] at hj
    exact h j v hj
  · have hi2 : j = us.length := by
      have := (List.getElem?_eq_some_iff.1 hj).1
      simp at this; omega
    subst hi2
    simp at hj
    subst hj
    exact ⟨l, b, hl, hu⟩
theorem info_by : (Try.prog.info? 37).map (fun i => (i.zero, i.size, i.bytes)) = some (some (.slice none 0 0), 1, 24) := by kernel_rfl
/-- all parts are rows of octets -/
theorem rows_of_parts {W : World} {base n c : Nat} {a : Option Addr} {us : List Value} {ls : List (List Int)} (ho : W.ownsRow base 37 1 (.slice a n c) n us) (hp : PartRows W us ls) (hl : ls.length = n) : Rows8 W (.slice a n c) ls := by
  have hu : us.length = n := by have := ho.1; omega
  rcases ho.2 with ⟨he, h0⟩ | ⟨g, cap, cur, he, _, hg, hc, _, hs, ht⟩
  · cases he
    have : ls = [] := List.eq_nil_of_length_eq_zero (by omega)
    subst this
    exact ⟨none, 0, rfl, Nat.le_refl _, fun _ => rfl, .inl rfl⟩
  · cases he
    refine ⟨_, c, by rw [hl], by omega, (fun e => by cases e), .inr ⟨g, 0, rfl, fun j hj => ?_⟩⟩
    obtain ⟨u, hju⟩ : ∃ u, us[j]? = some u := ⟨us[j]'(by omega), List.getElem?_eq_getElem _⟩
    obtain ⟨l, b, h1, h2⟩ := hp j u hju
    refine ⟨u, ?_, by rw [h1]; exact Ints.of_row h2⟩
    rw [Nat.zero_add, cell_of_row _ _ j _ _ _ hg, ← hju, ← ht, List.getElem?_take_of_lt (by omega), Array.getElem?_toList]
end
end Go.Proofs.Ytfenmhddlojahaa
