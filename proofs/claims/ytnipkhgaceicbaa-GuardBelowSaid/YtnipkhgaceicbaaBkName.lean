import Derived.Test.YtnipkhgaceicbaaBkParts
import Derived.Test.YtnipkhgaceicbaaShaLong
namespace Go.Proofs.Ytnipkhgaceicbaa
/-
  block: Text and Name, of whatever block.
-/
section
set_option maxRecDepth 100000
section
set_option linter.unusedVariables false
set_option linter.unusedSimpArgs false
open Go.RowKit Go.Sort Go.Lib

/-- a block's numbers, in octets -/
def bkH (V H : Int) (P : ByteArray) (JV : Int) (n : Nat) : List Int := [0, 5, 98, 108, 111, 99, 107] ++ octAll V 6 ++ octAll H 6 ++ (octAll 32 2 ++ octsOf P) ++ octAll JV 6 ++ octAll (n : Int) 6
/-- a transaction's octets -/
def tsB (x : Ts) : List Int := txT x.1.F x.1.T x.1.A x.1.N ++ (octAll (octsOf x.2).length 2 ++ octsOf x.2)
/-- a block's text, in parts -/
def bkL (V H : Int) (P : ByteArray) (JV : Int) (xs : List Ts) : List (List Int) := bkH V H P JV xs.length :: xs.map tsB

theorem ts_ok {x : Ts} (h : tsE x = 0) : ((0 ≤ x.1.F ∧ x.1.F ≤ 3) ∧ (0 ≤ x.1.T ∧ x.1.T ≤ 3) ∧ (1 ≤ x.1.A ∧ x.1.A ≤ 1000) ∧ (0 ≤ x.1.N ∧ x.1.N ≤ 1099511627776)) ∧ x.2.size ≤ 4096 := by
  unfold tsE txE at h
  split at h
  · next k => exact ⟨k.1, k.2.2⟩
  · cases h
theorem tsB_len {x : Ts} (h : tsE x = 0) : (tsB x).length ≤ 4126 := by
  have := (ts_ok h).2
  unfold tsB
  rw [List.length_append, List.length_append, txT_length, octAll_length, octsOf_length]; omega
theorem tsB_u8s (x : Ts) : U8s (tsB x) := (txT_u8s _ _ _ _).append ((octAll_u8s _ _).append (octsOf_u8s _))
theorem bkH_len {V H : Int} {P : ByteArray} {JV : Int} {n : Nat} (h : P.size = 32) : (bkH V H P JV n).length = 65 := by
  unfold bkH
  simp only [List.length_append, octAll_length, octsOf_length, h, List.length_cons, List.length_nil]
theorem bkW_u8s : U8s [98, 108, 111, 99, 107] := by intro j hj; match j, hj with | 0, _ => decide | 1, _ => decide | 2, _ => decide | 3, _ => decide | 4, _ => decide
theorem bkW7_u8s : U8s [0, 5, 98, 108, 111, 99, 107] := by intro j hj; match j, hj with | 0, _ => decide | 1, _ => decide | 2, _ => decide | 3, _ => decide | 4, _ => decide | 5, _ => decide | 6, _ => decide
theorem bkH_u8s (V H : Int) (P : ByteArray) (JV : Int) (n : Nat) : U8s (bkH V H P JV n) :=
  ((((bkW7_u8s.append (octAll_u8s _ _)).append (octAll_u8s _ _)).append ((octAll_u8s _ _).append (octsOf_u8s _))).append (octAll_u8s _ _)).append (octAll_u8s _ _)
theorem bkFlat_u8s : ∀ (ls : List (List Int)), (∀ l ∈ ls, U8s l) → U8s ls.flatten
  | [], _ => by intro j hj; simp at hj
  | l :: t, h => by rw [List.flatten_cons]; exact (h l (by simp)).append (bkFlat_u8s t (fun m hm => h m (by simp [hm])))
theorem bkFlat_len (m : Nat) : ∀ (ls : List (List Int)), (∀ l ∈ ls, l.length ≤ m) → ls.flatten.length ≤ ls.length * m
  | [], _ => by simp
  | l :: t, h => by
    have h1 := h l (by simp)
    have h2 := bkFlat_len m t (fun k hk => h k (by simp [hk]))
    rw [List.flatten_cons, List.length_append, List.length_cons, Nat.add_mul]
    omega
theorem bkL_len {V H : Int} {P : ByteArray} {JV JH : Int} {JB : ByteArray} {xs : List Ts} {S : ByteArray} (h : BkMay V H P JV JH JB xs S) : (bkL V H P JV xs).flatten.length ≤ 17000 := by
  have h1 := bkFlat_len 4126 (xs.map tsB) (fun l hl => by
    obtain ⟨x, hx, rfl⟩ := List.mem_map.1 hl
    exact tsB_len (h.ts x hx))
  have h2 := bkH_len (V := V) (H := H) (JV := JV) (n := xs.length) h.p
  have h3 := h.n
  unfold bkL
  rw [List.flatten_cons, List.length_append, h2]
  rw [List.length_map] at h1
  have : xs.length * 4126 ≤ 4 * 4126 := Nat.mul_le_mul_right _ h3
  omega
theorem bkL_u8s (V H : Int) (P : ByteArray) (JV : Int) (xs : List Ts) : U8s (bkL V H P JV xs).flatten := bkFlat_u8s _ (fun l hl => by
    unfold bkL at hl
    rcases List.mem_cons.1 hl with rfl | hl
    · exact bkH_u8s _ _ _ _ _
    · obtain ⟨x, _, rfl⟩ := List.mem_map.1 hl
      exact tsB_u8s x)
theorem wnum_in {base g : Nat} {o : Value} {bs : List Int} {n : Int} {w : World} (h : Wr w base g o 0 bs) (hn : 0 ≤ n ∧ n ≤ 1099511627776) (hb : bs.length ≤ 16384) (hbase : base ≤ w.heap.size) :
    Calls Try.prog 68 #[.pointer (some ⟨g, 0, none⟩), .int .i64 n] w fun e w' => e = .returned (.tuple #[]) ∧ ∃ o', Wr w' base g o' 0 (bs ++ octAll n 6) ∧ WrStep g o o' w w' := by
  have k := wnum_any base g o 0 bs n w h (by omega) (by omega) hbase
  have e := numS_ok bs n hn hb
  have e1 : wNumE 0 n = 0 := congrArg Prod.fst e
  have e2 : wNumB 0 bs n = bs ++ octAll n 6 := congrArg Prod.snd e
  rwa [e1, e2] at k
theorem wtext_in {base g : Nat} {o : Value} {bs zs : List Int} {w : World} (h : Wr w base g o 0 bs) (hu : U8s zs) (hz : zs.length ≤ 4096) (hb : bs.length ≤ 16384) (hbase : base ≤ w.heap.size) :
    Calls Try.prog 67 #[.pointer (some ⟨g, 0, none⟩), .string (strOfNums zs)] w fun e w' => e = .returned (.tuple #[]) ∧ ∃ o', Wr w' base g o' 0 (bs ++ (octAll zs.length 2 ++ zs)) ∧ WrStep g o o' w w' := by
  have k := wtext_any base g o 0 bs zs w h hu (by omega) (by omega) hbase
  have e := textS_ok bs zs hz hb
  have e1 : wTextE 0 zs = 0 := congrArg Prod.fst e
  have e2 : wTextB 0 bs zs = bs ++ (octAll zs.length 2 ++ zs) := congrArg Prod.snd e
  rwa [e1, e2] at k

set_option maxHeartbeats 2000000 in
/-- the numbers' closure, on a writer that nothing was written to -/
theorem putB_any (g M : Nat) (V H : Int) (P : ByteArray) (JV JH : Int) (JB : ByteArray) (ja : Option Addr) (jn jc : Nat) (ta : Option Addr) (n tc : Nat) (S : ByteArray) (base : Nat) (w : World) (h : Wr w base g (.slice none 0 0) 0 []) (hbase : base ≤ w.heap.size) (hMg : M ≠ g) (hM : w.heap[M]? = some (.cells (bkC V H P JV JH JB ja jn jc ta n tc S) 41 (0, 0)))
    (hV : 0 ≤ V ∧ V ≤ 1048576) (hH : 1 ≤ H ∧ H ≤ 1048576) (hP : P.size = 32) (hJ : 0 ≤ JV ∧ JV ≤ V) (hn : n ≤ 4) :
    Calls Try.prog 66 (#[.pointer (some ⟨g, 0, none⟩)] ++ #[.pointer (some ⟨M, 0, none⟩)]) w fun e w' => e = .returned (.tuple #[]) ∧ ∃ o', Wr w' base g o' 0 (bkH V H P JV n) ∧ WrStep g (.slice none 0 0) o' w w' := by
  have hV2 : 0 ≤ V ∧ V ≤ 1099511627776 := by omega
  have hH2 : 0 ≤ H ∧ H ≤ 1099511627776 := by omega
  have hJ2 : 0 ≤ JV ∧ JV ≤ 1099511627776 := by omega
  have hn2 : 0 ≤ (n : Int) ∧ (n : Int) ≤ 1099511627776 := by omega
  unfold bkC at hM
  have HG := Lib.hid h.lt
  have HW := Lib.hid h
  have HX : Hid (∀ (ok : Value) (wk : World), WrStep g (.slice none 0 0) ok w wk → wk.heap[M]? = some (.cells #[.int .i64 V, .int .i64 H, .string P, .int .i64 JV, .int .i64 JH, .string JB, .slice ja jn jc, .slice ta n tc, .string S] 41 (0, 0)) ∧ base ≤ wk.heap.size) := fun ok wk hs => ⟨hs.keep hM hMg (by simp [Value.ownBlock]), Nat.le_trans hbase hs.size⟩
  have T0 := Lib.hid (WrStep.refl g (.slice none 0 0) w)
  have C1 : Hid (∀ wx o', Wr wx base g o' 0 [] → WrStep g (.slice none 0 0) o' w wx → Calls Try.prog 67 #[.pointer (some ⟨g, 0, none⟩), .string ⟨#[98, 108, 111, 99, 107]⟩] wx fun e w' => e = .returned (.tuple #[]) ∧ ∃ o2, Wr w' base g o2 0 ([0, 5, 98, 108, 111, 99, 107] : List Int) ∧ WrStep g o' o2 wx w') := fun wx o' k s => wtext_in (zs := [98, 108, 111, 99, 107]) k bkW_u8s (by decide) (by decide) (HX.out _ _ s).2
  have C2 : Hid (∀ wx o', Wr wx base g o' 0 ([0, 5, 98, 108, 111, 99, 107] : List Int) → WrStep g (.slice none 0 0) o' w wx → Calls Try.prog 68 #[.pointer (some ⟨g, 0, none⟩), .int .i64 V] wx fun e w' => e = .returned (.tuple #[]) ∧ ∃ o2, Wr w' base g o2 0 (([0, 5, 98, 108, 111, 99, 107] : List Int) ++ octAll V 6) ∧ WrStep g o' o2 wx w') := fun wx o' k s => wnum_in k hV2 (by simp [octAll_length, octsOf_length, hP]) (HX.out _ _ s).2
  have C3 : Hid (∀ wx o', Wr wx base g o' 0 (([0, 5, 98, 108, 111, 99, 107] : List Int) ++ octAll V 6) → WrStep g (.slice none 0 0) o' w wx → Calls Try.prog 68 #[.pointer (some ⟨g, 0, none⟩), .int .i64 H] wx fun e w' => e = .returned (.tuple #[]) ∧ ∃ o2, Wr w' base g o2 0 ((([0, 5, 98, 108, 111, 99, 107] : List Int) ++ octAll V 6) ++ octAll H 6) ∧ WrStep g o' o2 wx w') := fun wx o' k s => wnum_in k hH2 (by simp [octAll_length, octsOf_length, hP]) (HX.out _ _ s).2
  have C4 : Hid (∀ wx o', Wr wx base g o' 0 ((([0, 5, 98, 108, 111, 99, 107] : List Int) ++ octAll V 6) ++ octAll H 6) → WrStep g (.slice none 0 0) o' w wx → Calls Try.prog 67 #[.pointer (some ⟨g, 0, none⟩), .string P] wx fun e w' => e = .returned (.tuple #[]) ∧ ∃ o2, Wr w' base g o2 0 (((([0, 5, 98, 108, 111, 99, 107] : List Int) ++ octAll V 6) ++ octAll H 6) ++ (octAll 32 2 ++ octsOf P)) ∧ WrStep g o' o2 wx w') := fun wx o' k s => by
    have c := wtext_in (zs := octsOf P) k (octsOf_u8s P) (by rw [octsOf_length]; omega) (by simp [octAll_length]) (HX.out _ _ s).2
    rw [strOf_octs, octsOf_length, hP] at c
    exact c
  have C5 : Hid (∀ wx o', Wr wx base g o' 0 (((([0, 5, 98, 108, 111, 99, 107] : List Int) ++ octAll V 6) ++ octAll H 6) ++ (octAll 32 2 ++ octsOf P)) → WrStep g (.slice none 0 0) o' w wx → Calls Try.prog 68 #[.pointer (some ⟨g, 0, none⟩), .int .i64 JV] wx fun e w' => e = .returned (.tuple #[]) ∧ ∃ o2, Wr w' base g o2 0 ((((([0, 5, 98, 108, 111, 99, 107] : List Int) ++ octAll V 6) ++ octAll H 6) ++ (octAll 32 2 ++ octsOf P)) ++ octAll JV 6) ∧ WrStep g o' o2 wx w') := fun wx o' k s => wnum_in k hJ2 (by simp [octAll_length, octsOf_length, hP]) (HX.out _ _ s).2
  have C6 : Hid (∀ wx o', Wr wx base g o' 0 ((((([0, 5, 98, 108, 111, 99, 107] : List Int) ++ octAll V 6) ++ octAll H 6) ++ (octAll 32 2 ++ octsOf P)) ++ octAll JV 6) → WrStep g (.slice none 0 0) o' w wx → Calls Try.prog 68 #[.pointer (some ⟨g, 0, none⟩), .int .i64 (n : Int)] wx fun e w' => e = .returned (.tuple #[]) ∧ ∃ o2, Wr w' base g o2 0 (((((([0, 5, 98, 108, 111, 99, 107] : List Int) ++ octAll V 6) ++ octAll H 6) ++ (octAll 32 2 ++ octsOf P)) ++ octAll JV 6) ++ octAll (n : Int) 6) ∧ WrStep g o' o2 wx w') := fun wx o' k s => wnum_in k hn2 (by simp [octAll_length, octsOf_length, hP]) (HX.out _ _ s).2
  unfold bkH
  generalize hZ1 : ([0, 5, 98, 108, 111, 99, 107] : List Int) = Z1 at C1 C2 C3 C4 C5 C6 ⊢
  generalize hZ2 : (Z1 ++ octAll V 6) = Z2 at C2 C3 C4 C5 C6 ⊢
  generalize hZ3 : (Z2 ++ octAll H 6) = Z3 at C3 C4 C5 C6 ⊢
  generalize hZ4 : (Z3 ++ (octAll 32 2 ++ octsOf P)) = Z4 at C4 C5 C6 ⊢
  generalize hZ5 : (Z4 ++ octAll JV 6) = Z5 at C5 C6 ⊢
  generalize hZ6 : (Z5 ++ octAll (n : Int) 6) = Z6 at C6 ⊢
  clear hZ1 hZ2 hZ3 hZ4 hZ5 hZ6
  clear h hbase hMg hM hV hH hP hJ hn hV2 hH2 hJ2 hn2
  go_enter Try.func66, Try.ntmps66
  go_wp2_with fail
  with_reducible refine Calls.mono (C1.out _ _ HW.out T0.out) ?_
  rintro e w1 ⟨rfl, o1, h1, h2⟩
  have W1 := Lib.hid h1
  have T1 := Lib.hid (T0.out.trans HG.out h2)
  clear h1 h2
  obtain ⟨c0, c1, c2, c3, c4, c5, c6, c7, c8⟩ := bk_cells (HX.out _ _ T1.out).1
  clear c1 c2 c3 c4 c5 c6 c7 c8
  go_wp2_with fail
  with_reducible refine Calls.mono (C2.out _ _ W1.out T1.out) ?_
  rintro e w2 ⟨rfl, o2, h1, h2⟩
  have W2 := Lib.hid h1
  have T2 := Lib.hid (T1.out.trans HG.out h2)
  clear h1 h2
  clear c0
  obtain ⟨c0, c1, c2, c3, c4, c5, c6, c7, c8⟩ := bk_cells (HX.out _ _ T2.out).1
  clear c0 c2 c3 c4 c5 c6 c7 c8
  go_wp2_with fail
  with_reducible refine Calls.mono (C3.out _ _ W2.out T2.out) ?_
  rintro e w3 ⟨rfl, o3, h1, h2⟩
  have W3 := Lib.hid h1
  have T3 := Lib.hid (T2.out.trans HG.out h2)
  clear h1 h2
  clear c1
  obtain ⟨c0, c1, c2, c3, c4, c5, c6, c7, c8⟩ := bk_cells (HX.out _ _ T3.out).1
  clear c0 c1 c3 c4 c5 c6 c7 c8
  go_wp2_with fail
  with_reducible refine Calls.mono (C4.out _ _ W3.out T3.out) ?_
  rintro e w4 ⟨rfl, o4, h1, h2⟩
  have W4 := Lib.hid h1
  have T4 := Lib.hid (T3.out.trans HG.out h2)
  clear h1 h2
  clear c2
  obtain ⟨c0, c1, c2, c3, c4, c5, c6, c7, c8⟩ := bk_cells (HX.out _ _ T4.out).1
  clear c0 c1 c2 c4 c5 c6 c7 c8
  go_wp2_with fail
  with_reducible refine Calls.mono (C5.out _ _ W4.out T4.out) ?_
  rintro e w5 ⟨rfl, o5, h1, h2⟩
  have W5 := Lib.hid h1
  have T5 := Lib.hid (T4.out.trans HG.out h2)
  clear h1 h2
  clear c3
  obtain ⟨c0, c1, c2, c3, c4, c5, c6, c7, c8⟩ := bk_cells (HX.out _ _ T5.out).1
  clear c0 c1 c2 c3 c4 c5 c6 c8
  go_wp2_with fail
  with_reducible refine Calls.mono (C6.out _ _ W5.out T5.out) ?_
  rintro e w6 ⟨rfl, o6, h1, h2⟩
  have W6 := Lib.hid h1
  have T6 := Lib.hid (T5.out.trans HG.out h2)
  clear h1 h2
  go_wp2
  go_end0
  exact ⟨rfl, o6, W6.out, T6.out⟩
theorem putT_any (g k : Nat) (x : Ts) (base : Nat) (w : World) (h : Wr w base g (.slice none 0 0) 0 []) (hbase : base ≤ w.heap.size) (hk : w.heap[k]? = some (.cells (tsA x) 90 (0, 0))) (hx : tsE x = 0) :
    Calls Try.prog 69 (#[.pointer (some ⟨g, 0, none⟩)] ++ #[.pointer (some ⟨k, 0, none⟩)]) w fun e w' => e = .returned (.tuple #[]) ∧ ∃ o', Wr w' base g o' 0 (tsB x) ∧ WrStep g (.slice none 0 0) o' w w' := by
  obtain ⟨⟨hF, hT, hA, hN⟩, hS⟩ := ts_ok hx
  have HP : Hid (Calls Try.prog 70 #[.pointer (some ⟨g, 0, none⟩), .agg (tsA x)] w fun e w' => e = .returned (.tuple #[]) ∧ ∃ o', Wr w' base g o' 0 (tsB x) ∧ WrStep g (.slice none 0 0) o' w w') := by
    have c := txPut_any base g (.slice none 0 0) 0 [] x.1.F x.1.T x.1.A x.1.N (octsOf x.2) w h ⟨by omega, by omega⟩ ⟨by omega, by omega⟩ ⟨by omega, by omega⟩ ⟨by omega, by omega⟩ (octsOf_u8s _) (by rw [octsOf_length]; omega) (by decide) hbase
    rw [txS_ok [] _ _ _ _ ⟨by omega, by omega⟩ ⟨by omega, by omega⟩ ⟨by omega, by omega⟩ ⟨by omega, by omega⟩ (by decide), textS_ok _ _ (by rw [octsOf_length]; omega) (by rw [List.nil_append, txT_length]; decide), strOf_octs, List.nil_append] at c
    exact c
  have HK := Lib.hid hk
  generalize tsB x = Z at HP ⊢
  clear h hbase hk hx hF hT hA hN hS
  go_enter Try.func69, Try.ntmps69
  go_wp2_with (refine wpList_ex rfl (.agg (tsA x)) _ (ex_loadrow (x := .tmp 1) rfl rfl _ 90 HK.out Try.underlying90 rfl info_tx) ?_)
  with_reducible refine Calls.mono HP.out ?_
  rintro e w1 ⟨rfl, o1, h1, h2⟩
  have H1 := Lib.hid h1
  have H2 := Lib.hid h2
  clear h1 h2
  go_wp2
  go_end0
  exact ⟨rfl, o1, H1.out, H2.out⟩

theorem own_keep {S : Nat → Prop} {w w' : World} {base : Nat} {e : TypeId} {sz : Nat} {v : Value} {n : Nat} {xs : List Value} (h : w.ownsRow base e sz v n xs) (k : KeptBut S w w') (hS : ∀ g, v.ownBlock = some g → ¬ S g) : w'.ownsRow base e sz v n xs := by
  refine ⟨h.1, ?_⟩
  rcases h.2 with hn | ⟨g, cap, cur, rfl, hb, hgg, rest⟩
  · exact .inl hn
  · exact .inr ⟨g, cap, cur, rfl, hb, (k.block g (lt_of_block hgg) (hS g rfl)).trans hgg, rest⟩
theorem rows_apart {w : World} {b1 b2 n1 n2 s1 s2 g : Nat} {e1 e2 : TypeId} {v1 v2 : Value} {x1 x2 : List Value} (h1 : w.ownsRow b1 e1 s1 v1 n1 x1) (h2 : w.ownsRow b2 e2 s2 v2 n2 x2) (he : e1 ≠ e2) (hg : v1.ownBlock = some g) : v2.ownBlock ≠ some g := by
  rcases h1.2 with ⟨rfl, _⟩ | ⟨g', cap, cur, rfl, _, hgg, _⟩
  · simp [Value.ownBlock] at hg
  · simp only [Value.ownBlock, Option.some.injEq] at hg
    subst hg
    exact fun e => block_off hgg he h2 e.symm
/-- the parts, told so far -/
def PartRows (W : World) (us : List Value) (ls : List (List Int)) : Prop := ∀ (j : Nat) (u : Value), us[j]? = some u → ∃ l base, ls[j]? = some l ∧ W.ownsRow base 5 1 u l.length (l.map (Value.int .u8))
theorem PartRows.up {W W' : World} {us : List Value} {ls : List (List Int)} (h : PartRows W us ls) (u : Up W W') : PartRows W' us ls := fun j v hj => by
  obtain ⟨l, b, h1, h2⟩ := h j v hj
  exact ⟨l, b, h1, ownsRow_up h2 u⟩
theorem PartRows.kept {S : Nat → Prop} {W W' : World} {us : List Value} {ls : List (List Int)} (h : PartRows W us ls) (k : KeptBut S W W') (hS : ∀ (l : List Int) (b : Nat) (u : Value) (g : Nat), W.ownsRow b 5 1 u l.length (l.map (Value.int .u8)) → u.ownBlock = some g → ¬ S g) : PartRows W' us ls := fun j v hj => by
  obtain ⟨l, b, h1, h2⟩ := h j v hj
  exact ⟨l, b, h1, own_keep h2 k (fun g hg => hS l b v g h2 hg)⟩
theorem PartRows.more {W : World} {us : List Value} {ls : List (List Int)} (h : PartRows W us ls) {l : List Int} (hl : ls[us.length]? = some l) {u : Value} {b : Nat} (hu : W.ownsRow b 5 1 u l.length (l.map (Value.int .u8))) : PartRows W (us ++ [u]) ls := fun j v hj => by
  by_cases hi : j < us.length
  · rw [List.getElem?_append_left hi] at hj
    exact h j v hj
  · have hi2 : j = us.length := by
      have := (List.getElem?_eq_some_iff.1 hj).1
      simp at this; omega
    subst hi2
    simp at hj
    subst hj
    exact ⟨l, b, hl, hu⟩
theorem info_by : (Try.prog.info? 74).map (fun i => (i.zero, i.size, i.bytes)) = some (some (.slice none 0 0), 1, 24) := by kernel_rfl
/-- all parts are rows of octets -/
theorem rows_of_parts {W : World} {base n c : Nat} {a : Option Addr} {us : List Value} {ls : List (List Int)} (ho : W.ownsRow base 74 1 (.slice a n c) n us) (hp : PartRows W us ls) (hl : ls.length = n) : Rows8 W (.slice a n c) ls := by
  have hu : us.length = n := by have := ho.1; omega
  rcases ho.2 with ⟨he, h0⟩ | ⟨g, cap, cur, he, _, hg, hc, _, hs, ht⟩
  · cases he
    have : ls = [] := List.eq_nil_of_length_eq_zero (by omega)
    subst this
    exact ⟨none, 0, rfl, Nat.le_refl _, fun _ => rfl, .inl rfl⟩
  · cases he
    refine ⟨_, c, by rw [hl], by omega, (fun e => by cases e), .inr ⟨g, 0, rfl, fun j hj => ?_⟩⟩
    obtain ⟨u, hju⟩ : ∃ u, us[j]? = some u := ⟨us[j]'(by omega), List.getElem?_eq_getElem _⟩
    obtain ⟨l, b, h1, h2⟩ := hp j u hju
    refine ⟨u, ?_, by rw [h1]; exact Ints.of_row h2⟩
    rw [Nat.zero_add, cell_of_row _ _ j _ _ _ hg, ← hju, ← ht, List.getElem?_take_of_lt (by omega), Array.getElem?_toList]
end
end

/-
  block: Text and Name, of whatever block.
-/
section
set_option maxRecDepth 100000
section
set_option linter.unusedVariables false
open Go.RowKit Go.Sort Go.Lib

theorem done_in {bs : List Int} (h : bs.length ≤ 16384) : doneE 0 bs = 0 ∧ doneB 0 bs = bs := by
  unfold doneE doneB
  constructor
  · rw [if_neg (by decide), if_neg (by omega)]
  · first | rw [if_neg (by omega)] | simp [h]
/-- what writes one part -/
structure PartFn (wp : World) (f : Value) (l : List Int) : Prop where
  ex : ∃ (F : FuncId) (cb : Array Value), f = .func (.func F) #[] cb ∧ (∀ args w, (callFunc F args).run Try.prog w = .ok (.enter F args) w) ∧
    ∀ (wx : World) (g base : Nat), Up wp wx → Wr wx base g (.slice none 0 0) 0 [] → base ≤ wx.heap.size → wp.heap.size ≤ g →
      Calls Try.prog F (#[.pointer (some ⟨g, 0, none⟩)] ++ cb) wx fun e w' => e = .returned (.tuple #[]) ∧ ∃ o', Wr w' base g o' 0 l ∧ WrStep g (.slice none 0 0) o' wx w'
  len : l.length ≤ 16384
theorem partB {V H : Int} {P : ByteArray} {JV JH : Int} {JB : ByteArray} {ja : Option Addr} {jn jc : Nat} {ta : Option Addr} {n tc : Nat} {S : ByteArray} {xs : List Ts} {wp : World} {M : Nat} (hm : BkMay V H P JV JH JB xs S) (hn : xs.length = n) (hM : wp.heap[M]? = some (.cells (bkC V H P JV JH JB ja jn jc ta n tc S) 41 (0, 0))) : PartFn wp (fnB M) (bkH V H P JV n) :=
  ⟨⟨_, _, rfl, enters_of Try.func66 (by kernel_rfl) rfl, fun wx g base u h hb hg => putB_any g M V H P JV JH JB ja jn jc ta n tc S base wx h hb (fun e => by have := lt_of_block hM; omega) ((u.block _ (lt_of_block hM)).trans hM) hm.v hm.h hm.p hm.jv (by have := hm.n; omega)⟩, by rw [bkH_len hm.p]; decide⟩
theorem partT {x : Ts} {wp : World} {k : Nat} (hx : tsE x = 0) (hk : wp.heap[k]? = some (.cells (tsA x) 90 (0, 0))) : PartFn wp (fnT k) (tsB x) :=
  ⟨⟨_, _, rfl, enters_of Try.func69 (by kernel_rfl) rfl, fun wx g base u h hb hg => putT_any g k x base wx h hb ((u.block _ (lt_of_block hk)).trans hk) hx⟩, Nat.le_trans (tsB_len hx) (by decide)⟩
/-- each part has its closure -/
theorem part_fns {V H : Int} {P : ByteArray} {JV JH : Int} {JB : ByteArray} {ja : Option Addr} {jn jc : Nat} {ta : Option Addr} {n tc : Nat} {S : ByteArray} {xs : List Ts} {wp : World} {M : Nat} {bs : List Nat} (hm : BkMay V H P JV JH JB xs S) (hn : xs.length = n) (hM : wp.heap[M]? = some (.cells (bkC V H P JV JH JB ja jn jc ta n tc S) 41 (0, 0))) (hb : bs.length = n) (hbx : Boxes wp bs xs) (i : Nat) (hi : i < n + 1) :
    ∃ f l, (fnB M :: bs.map fnT)[i]? = some f ∧ (bkL V H P JV xs)[i]? = some l ∧ PartFn wp f l := by
  match i, hi with
  | 0, _ => exact ⟨_, _, rfl, rfl, by rw [hn]; exact partB hm hn hM⟩
  | k + 1, hi =>
    obtain ⟨b, hbk⟩ : ∃ b, bs[k]? = some b := ⟨bs[k]'(by omega), List.getElem?_eq_getElem _⟩
    obtain ⟨x, hx, hh⟩ := hbx k b hbk
    refine ⟨fnT b, tsB x, ?_, ?_, partT (hm.ts x (List.mem_of_getElem? hx)) hh⟩
    · rw [List.getElem?_cons_succ, List.getElem?_map, hbk]; rfl
    · unfold bkL; rw [List.getElem?_cons_succ, List.getElem?_map, hx]; rfl

/-- what Text answers -/
structure TextP (w : World) (bs : List Int) (e : Ending) (w' : World) : Prop where
  ex : ∃ a c, e = .returned (.slice a bs.length c) ∧ Ints .u8 w' (.slice a bs.length c) bs
  up : Up w w'

set_option maxHeartbeats 4000000 in
theorem bkText_ok (V H : Int) (P : ByteArray) (JV JH : Int) (JB : ByteArray) (ja : Option Addr) (jn jc : Nat) (ta : Option Addr) (n tc : Nat) (S : ByteArray) (xs : List Ts) (w : World) (hm : BkMay V H P JV JH JB xs S) (ht : TArg w (.slice ta n tc) xs) :
    Calls Try.prog 40 #[.agg (bkC V H P JV JH JB ja jn jc ta n tc S)] w (TextP w (bkL V H P JV xs).flatten) := by
  have hn := ht.len
  have h4 : n ≤ 4 := by have := hm.n; omega
  have HCK : Hid (∀ wx, Up w wx → Calls Try.prog 53 #[.agg (bkC V H P JV JH JB ja jn jc ta n tc S)] wx fun e w' => e = .returned (.int .i64 0) ∧ Up wx w') := fun wx u => by
    have c := bkCheck_any V H P JV JH JB ja jn jc ta n tc S xs wx (by omega) (ht.up u)
    rwa [bkE_ok hm] at c
  have HTP : Hid (∀ wx, Up w wx → Calls Try.prog 54 #[.agg (bkC V H P JV JH JB ja jn jc ta n tc S)] wx (PartsP wx (bkC V H P JV JH JB ja jn jc ta n tc S) xs n)) := fun wx u => textParts_any V H P JV JH JB ja jn jc ta n tc S xs wx h4 (ht.up u)
  have HPF : Hid (∀ (wp : World) (M : Nat) (bs : List Nat), wp.heap[M]? = some (.cells (bkC V H P JV JH JB ja jn jc ta n tc S) 41 (0, 0)) → bs.length = n → Boxes wp bs xs → ∀ i, i < n + 1 → ∃ f l, (fnB M :: bs.map fnT)[i]? = some f ∧ (bkL V H P JV xs)[i]? = some l ∧ PartFn wp f l) := fun wp M bs h1 h2 h3 => part_fns hm hn h1 h2 h3
  have HLL : Hid ((bkL V H P JV xs).length = n + 1) := by (have h : (bkL V H P JV xs).length = n + 1 := by unfold bkL; simp [hn]); exact h
  have HFL := Lib.hid (bkL_len hm)
  generalize bkL V H P JV xs = ls at HPF HLL HFL ⊢
  have HU0 := Lib.hid (Up.alloc (Up.refl w) (.cells (bkC V H P JV JH JB ja jn jc ta n tc S) 41))
  have HB0 := Lib.hid (heap_alloc_new w (.cells (bkC V H P JV JH JB ja jn jc ta n tc S) 41))
  unfold bkC at HU0 HB0 HCK HTP HPF ⊢
  clear hm ht hn
  go_enter Try.func40, Try.ntmps40
  go_wp2_with (refine wpList_ex rfl (.agg #[.int .i64 V, .int .i64 H, .string P, .int .i64 JV, .int .i64 JH, .string JB, .slice ja jn jc, .slice ta n tc, .string S]) _ (ex_loadrow (x := .tmp 1) rfl rfl _ 41 HB0.out Try.underlying41 rfl info_bk) ?_)
  generalize w.alloc (.cells #[.int .i64 V, .int .i64 H, .string P, .int .i64 JV, .int .i64 JH, .string JB, .slice ja jn jc, .slice ta n tc, .string S] 41) = w1 at HU0 HB0 ⊢
  generalize w.heap.size = B at HB0 ⊢
  with_reducible refine Calls.mono (HCK.out _ HU0.out) ?_
  rintro e w2 ⟨rfl, u2⟩
  have HB2 := Lib.hid ((u2.block _ (lt_of_block HB0.out)).trans HB0.out)
  have HU2 := Lib.hid (Up.trans HU0.out u2)
  clear u2 HB0 HU0
  go_wp2_with (refine wpList_ex rfl (.agg #[.int .i64 V, .int .i64 H, .string P, .int .i64 JV, .int .i64 JH, .string JB, .slice ja jn jc, .slice ta n tc, .string S]) _ (ex_loadrow (x := .tmp 1) rfl rfl _ 41 HB2.out Try.underlying41 rfl info_bk) ?_)
  with_reducible refine Calls.mono (HTP.out _ HU2.out) ?_
  rintro e wp ⟨⟨fa, fc, M, bs, rfl, ho, hM, hbl, hbx⟩, up⟩
  have HPP := Lib.hid (HPF.out wp M bs hM hbl hbx)
  have HUP := Lib.hid (Up.trans HU2.out up)
  obtain ⟨fg, hfg, hfrow⟩ : ∃ fg, fa = some ⟨fg, 0, none⟩ ∧ ∀ wx, Up wp wx → ∀ (i : Nat) (f : Value), i < n + 1 → (fnB M :: bs.map fnT)[i]? = some f → wx.cell? ⟨fg, i, none⟩ = some f := by
    rcases ho.2 with ⟨he, h0⟩ | ⟨g, cap, cur, he, _, hg, hc, _, hs, ht⟩
    · omega
    · cases he
      refine ⟨g, rfl, fun wx u i f hi hf => ?_⟩
      rw [cell_of_row _ _ i _ _ _ ((u.block _ (lt_of_block hg)).trans hg), ← hf, ← ht, List.getElem?_take_of_lt (by omega), Array.getElem?_toList]
  subst hfg
  have HFR := Lib.hid hfrow
  clear ho hM hbl hbx up hfrow HPF HTP HCK HB2 HU2
  generalize (fnB M :: bs.map fnT) = fs at HPP HFR
  obtain ⟨m, hm1⟩ : ∃ m, n + 1 = m := ⟨_, rfl⟩
  rw [hm1] at HPP HFR HLL ⊢
  have hm5 : m ≤ 5 := by omega
  clear hm1
  go_wp2
  go_loopw [3, 15] (fun v3 vi wr => ∃ (i : Nat) (va : Option Addr) (vc : Nat) (us : List Value), v3 = .slice va i vc ∧ vi = .int .i64 (i : Nat) ∧ i ≤ m ∧ us.length = i ∧ Hid (wr.ownsRow wp.heap.size 74 1 (.slice va i vc) i us) ∧ Hid (PartRows wr us ls) ∧ Hid (Up wp wr))
    (fun _ vi _ => m - (RowKit.intOf vi).toNat)
  case atStart => exact ⟨0, none, 0, [], rfl, rfl, Nat.zero_le _, rfl, Lib.hid ⟨rfl, .inl ⟨rfl, rfl⟩⟩, Lib.hid (fun j u h => by simp at h), Lib.hid (Up.refl _)⟩
  case round =>
    obtain ⟨i, va, vc, us, rfl, rfl, hi, hul, HO, HP, HU⟩ := hrel
    by_cases hlt : i < m
    · have hz : (i : Int) < (m : Int) := by omega
      obtain ⟨f, l, hf, hl, ⟨⟨F, cb, rfl, eg, hcall⟩, hlen⟩⟩ := HPP.out i hlt
      have hcell := HFR.out wr HU.out i _ hlt hf
      have HCA := Lib.hid hcall
      have HEG := Lib.hid eg
      have HLS := Lib.hid hl
      have HLE := Lib.hid hlen
      clear hf hl hcall eg hlen
      go_wp2_with fail
      clear hcell
      with_reducible refine Calls.mono (new_any wr) ?_
      rintro e w4 ⟨rfl, hw4⟩
      have HW4 : Hid (Wr w4 wr.heap.size wr.heap.size (.slice none 0 0) 0 []) := by subst hw4; exact wr_new wr
      have HU4 : Hid (Up wr w4) := by subst hw4; exact Up.alloc (Up.refl _) _
      clear hw4
      have hs4 : wr.heap.size ≤ w4.heap.size := Below.size HU4.out
      have HSZ : Hid (wp.heap.size ≤ wr.heap.size) := Below.size HU.out
      have HC4 := Lib.hid (HCA.out w4 wr.heap.size wr.heap.size (Up.trans HU.out HU4.out) HW4.out hs4 HSZ.out)
      go_wp2_with (refine wpList_callv (f := F) (cb := cb) (vs := [.pointer (some ⟨wr.heap.size, 0, none⟩)]) rfl rfl rfl rfl HEG.out ?_)
      with_reducible refine Calls.mono HC4.out ?_
      rintro e w5 ⟨rfl, o5, k1, k2⟩
      refine ⟨_, rfl, ?_⟩
      have HU5 : Hid (Up wr w5) := Below.trans HU4.out (HW4.out.below k2 hs4)
      have hdn := wdone_any wr.heap.size wr.heap.size o5 0 l w5 k1 (Nat.le_trans HLE.out (by decide))
      rw [(done_in HLE.out).1, (done_in HLE.out).2] at hdn
      have HDN := Lib.hid hdn
      clear k1 k2 hdn hs4
      go_wp2_with fail
      with_reducible refine Calls.mono HDN.out ?_
      rintro e w6 ⟨r6, rfl, k1, k2⟩
      have HU6 := Lib.hid (Up.trans HU5.out k2)
      obtain ⟨xa, xc, rfl⟩ := row_shape k1
      have HR6 := Lib.hid k1
      have ho6 := ownsRow_up HO.out HU6.out
      obtain ⟨va', vc', w8, hap, ho8, hu8, hk8⟩ := app1 (st := 107) (et := 74) Try.underlying107 info_by rfl wp w6 va vc i us (.slice xa l.length xc) ho6 rfl (Up.trans HU.out HU6.out) (by omega) (by unfold maxLen; omega)
      have hp8 := (HP.out.up HU6.out).kept hk8 (fun l' b u g hu hg e => rows_apart hu ho6 (by decide) hg e)
      have hr8 := own_keep k1 hk8 (fun g hg e => rows_apart k1 ho6 (by decide) hg e)
      have HP8 := Lib.hid (hp8.more (by rw [hul]; exact HLS.out) hr8)
      have HO8 := Lib.hid ho8
      have HU8 := Lib.hid hu8
      have HAP := Lib.hid hap
      have hul8 : (us ++ [Value.slice xa l.length xc]).length = i + 1 := by simp [hul]
      have HUL := Lib.hid hul8
      clear k1 k2 ho6 hap ho8 hu8 hk8 hp8 hr8 hul8
      generalize us ++ [Value.slice xa l.length xc] = us' at HP8 HO8 HUL
      generalize hi8 : i + 1 = i' at HO8 HUL HAP
      have HI8 := Lib.hid hi8
      clear hi8
      generalize l.length = ln at HAP ⊢
      go_wp2_with (first | (refine wpList_ex rfl (.slice va' i' vc') w8 (ex_app1 (s := .tmp 28) (x := .tmp 30) rfl rfl rfl rfl HAP.out) ?_))
      go_roundw
      case rel => exact ⟨i', va', vc', us', rfl, by rw [← HI8.out]; go_num, by rw [← HI8.out]; exact hlt, HUL.out, HO8, HP8, HU8⟩
      case measure => simp [RowKit.intOf]; omega
    · have hie : i = m := by omega
      have hz : ¬ (i : Int) < (m : Int) := by omega
      have HR8 := Lib.hid (rows_of_parts HO.out HP.out (by rw [HLL.out, hie]))
      have hj := join_any (.slice va i vc) ls wr HR8.out (by rw [HLL.out]; omega) (Nat.le_trans HFL.out (by decide))
      have HJ : Hid (Calls Try.prog 57 #[.slice va i vc] wr fun e w' => ∃ a k c, e = .returned (.slice a k c) ∧ k = ls.flatten.length ∧ Ints .u8 w' (.slice a k c) ls.flatten ∧ Up wr w') := hj.mono (fun e w' h => ⟨_, _, _, h.1, rfl, Ints.of_row h.2.1, h.2.2⟩)
      clear hj hie
      go_wp2_with fail
      with_reducible refine Calls.mono HJ.out ?_
      rintro e w9 ⟨ja9, k9, jc9, rfl, hk9, h9, u9⟩
      have HI9 := Lib.hid h9
      have HK9 := Lib.hid hk9
      have HU9 : Hid (Up w w9) := Up.trans HUP.out (Up.trans HU.out u9)
      clear h9 u9 hk9
      go_wp2
      go_ret
      exact ⟨⟨ja9, jc9, by rw [← HK9.out]; rfl, by rw [← HK9.out]; exact HI9.out⟩, HU9.out⟩

theorem bkText_no (V H : Int) (P : ByteArray) (JV JH : Int) (JB : ByteArray) (ja : Option Addr) (jn jc : Nat) (ta : Option Addr) (n tc : Nat) (S : ByteArray) (xs : List Ts) (w : World) (hm : ¬ BkMay V H P JV JH JB xs S) (hsz : n ≤ 9223372036854775807) (ht : TArg w (.slice ta n tc) xs) :
    Calls Try.prog 40 #[.agg (bkC V H P JV JH JB ja jn jc ta n tc S)] w (TextP w []) := by
  have HCK : Hid (∀ wx, Up w wx → Calls Try.prog 53 #[.agg (bkC V H P JV JH JB ja jn jc ta n tc S)] wx fun e w' => e = .returned (.int .i64 9) ∧ Up wx w') := fun wx u => by
    have c := bkCheck_any V H P JV JH JB ja jn jc ta n tc S xs wx hsz (ht.up u)
    rwa [bkE_no hm] at c
  have HU0 := Lib.hid (Up.alloc (Up.refl w) (.cells (bkC V H P JV JH JB ja jn jc ta n tc S) 41))
  have HB0 := Lib.hid (heap_alloc_new w (.cells (bkC V H P JV JH JB ja jn jc ta n tc S) 41))
  unfold bkC at HU0 HB0 HCK ⊢
  clear hm ht hsz
  go_enter Try.func40, Try.ntmps40
  go_wp2_with (refine wpList_ex rfl (.agg #[.int .i64 V, .int .i64 H, .string P, .int .i64 JV, .int .i64 JH, .string JB, .slice ja jn jc, .slice ta n tc, .string S]) _ (ex_loadrow (x := .tmp 1) rfl rfl _ 41 HB0.out Try.underlying41 rfl info_bk) ?_)
  with_reducible refine Calls.mono (HCK.out _ HU0.out) ?_
  rintro e w2 ⟨rfl, u2⟩
  have HU2 := Lib.hid (Up.trans HU0.out u2)
  clear u2
  go_wp2
  go_ret
  exact ⟨⟨none, 0, rfl, Ints.empty (fun _ => rfl)⟩, HU2.out⟩

/-- a block's name -/
noncomputable def bkN (V H : Int) (P : ByteArray) (JV JH : Int) (JB : ByteArray) (xs : List Ts) (S : ByteArray) : ByteArray := @ite _ (BkMay V H P JV JH JB xs S) (Classical.propDecidable _) (strOfNums (sumB (bkL V H P JV xs).flatten)) ⟨#[]⟩

set_option maxHeartbeats 2000000 in
theorem bkName_ok (V H : Int) (P : ByteArray) (JV JH : Int) (JB : ByteArray) (ja : Option Addr) (jn jc : Nat) (ta : Option Addr) (n tc : Nat) (S : ByteArray) (xs : List Ts) (w : World) (hm : BkMay V H P JV JH JB xs S) (ht : TArg w (.slice ta n tc) xs) :
    Calls Try.prog 26 #[.agg (bkC V H P JV JH JB ja jn jc ta n tc S)] w fun e w' => e = .returned (.string (strOfNums (sumB (bkL V H P JV xs).flatten))) ∧ Up w w' := by
  have HT : Hid (∀ wx, Up w wx → Calls Try.prog 40 #[.agg (bkC V H P JV JH JB ja jn jc ta n tc S)] wx (TextP wx (bkL V H P JV xs).flatten)) := fun wx u => bkText_ok V H P JV JH JB ja jn jc ta n tc S xs wx hm (ht.up u)
  have hlen := bkL_len hm
  have hu8 := bkL_u8s V H P JV xs
  have hpos : 0 < (bkL V H P JV xs).flatten.length := by
    unfold bkL
    rw [List.flatten_cons, List.length_append, bkH_len hm.p]; omega
  generalize (bkL V H P JV xs).flatten = fl at HT hlen hu8 hpos ⊢
  have HL : Hid (∀ (v : Value) wx, Rows8 wx v [fl] → Calls Try.prog 41 #[v] wx fun e w' => e = .returned (.string (strOfNums (sumB fl))) ∧ Up wx w') := fun v wx h => by
    have hff : [fl].flatten = fl := by simp
    have c := long_any v [fl] wx h (by rw [hff]; exact hu8) (by simp) (by rw [hff]; exact Nat.le_trans hlen (by decide))
    rw [hff] at c
    exact c
  have HU0 := Lib.hid (Up.alloc (Up.refl w) (.cells (bkC V H P JV JH JB ja jn jc ta n tc S) 41))
  have HB0 := Lib.hid (heap_alloc_new w (.cells (bkC V H P JV JH JB ja jn jc ta n tc S) 41))
  unfold bkC at HU0 HB0 HT ⊢
  generalize sumB fl = Z at HL ⊢
  have HLN := Lib.hid hlen
  clear hm ht hlen hu8
  go_enter Try.func26, Try.ntmps26
  go_wp2_with (refine wpList_ex rfl (.agg #[.int .i64 V, .int .i64 H, .string P, .int .i64 JV, .int .i64 JH, .string JB, .slice ja jn jc, .slice ta n tc, .string S]) _ (ex_loadrow (x := .tmp 1) rfl rfl _ 41 HB0.out Try.underlying41 rfl info_bk) ?_)
  with_reducible refine Calls.mono (HT.out _ HU0.out) ?_
  rintro e w2 ⟨⟨a2, c2, rfl, h2⟩, u2⟩
  have HU2 := Lib.hid (Up.trans HU0.out u2)
  have HR : Hid (Rows8 (w2.alloc (.cells #[.slice a2 fl.length c2] 74)) (.slice (some ⟨w2.heap.size, 0, none⟩) 1 1) [fl]) := by
    refine ⟨_, 1, rfl, Nat.le_refl _, (fun e => by cases e), .inr ⟨w2.heap.size, 0, rfl, fun j hj => ?_⟩⟩
    have hj0 : j = 0 := by simpa using hj
    subst hj0
    exact ⟨_, cell_of_row _ _ 0 _ _ _ (heap_alloc_new w2 _), h2.up (Up.alloc (Up.refl w2) _)⟩
  have HU3 := Lib.hid (Up.trans HU2.out (Up.alloc (Up.refl w2) (.cells #[.slice a2 fl.length c2] 74)))
  clear u2 h2
  generalize fl.length = k at HR HU3 hpos ⊢
  have hz : ((k : Int) == 0) = false := by rw [beq_eq_false_iff_ne]; omega
  go_wp2_with fail
  with_reducible refine Calls.mono (HL.out _ _ HR.out) ?_
  rintro e w4 ⟨rfl, u4⟩
  have HU4 := Lib.hid (Up.trans HU3.out u4)
  clear u4
  go_wp2
  go_ret
  exact ⟨rfl, HU4.out⟩
theorem bkName_no (V H : Int) (P : ByteArray) (JV JH : Int) (JB : ByteArray) (ja : Option Addr) (jn jc : Nat) (ta : Option Addr) (n tc : Nat) (S : ByteArray) (xs : List Ts) (w : World) (hm : ¬ BkMay V H P JV JH JB xs S) (hsz : n ≤ 9223372036854775807) (ht : TArg w (.slice ta n tc) xs) :
    Calls Try.prog 26 #[.agg (bkC V H P JV JH JB ja jn jc ta n tc S)] w fun e w' => e = .returned (.string ⟨#[]⟩) ∧ Up w w' := by
  have HT : Hid (∀ wx, Up w wx → Calls Try.prog 40 #[.agg (bkC V H P JV JH JB ja jn jc ta n tc S)] wx (TextP wx [])) := fun wx u => bkText_no V H P JV JH JB ja jn jc ta n tc S xs wx hm hsz (ht.up u)
  have HU0 := Lib.hid (Up.alloc (Up.refl w) (.cells (bkC V H P JV JH JB ja jn jc ta n tc S) 41))
  have HB0 := Lib.hid (heap_alloc_new w (.cells (bkC V H P JV JH JB ja jn jc ta n tc S) 41))
  unfold bkC at HU0 HB0 HT ⊢
  clear hm ht hsz
  go_enter Try.func26, Try.ntmps26
  go_wp2_with (refine wpList_ex rfl (.agg #[.int .i64 V, .int .i64 H, .string P, .int .i64 JV, .int .i64 JH, .string JB, .slice ja jn jc, .slice ta n tc, .string S]) _ (ex_loadrow (x := .tmp 1) rfl rfl _ 41 HB0.out Try.underlying41 rfl info_bk) ?_)
  with_reducible refine Calls.mono (HT.out _ HU0.out) ?_
  rintro e w2 ⟨⟨a2, c2, rfl, h2⟩, u2⟩
  have HU2 := Lib.hid (Up.trans HU0.out u2)
  clear u2 h2
  go_wp2
  go_ret
  exact ⟨rfl, HU2.out⟩
end
end
end Go.Proofs.Ytnipkhgaceicbaa
