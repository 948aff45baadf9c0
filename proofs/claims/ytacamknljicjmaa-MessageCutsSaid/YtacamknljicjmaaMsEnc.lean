import Derived.Test.YtacamknljicjmaaMsPut
/-
  What a writer without error has written.
-/
namespace Go.Proofs.Ytacamknljicjmaa
set_option maxRecDepth 100000
section
set_option linter.unusedVariables false
open Go.RowKit Go.Sort Go.Lib

/-- no error, and not too many octets -/
def Good (p : Int × List Int) : Prop := p.1 = 0 ∧ p.2.length ≤ 16384
theorem numS_good {p : Int × List Int} {n : Int} (h : Good (numS p n)) : Good p ∧ (0 ≤ n ∧ n ≤ 1099511627776) ∧ numS p n = (0, p.2 ++ octAll n 6) := by
  obtain ⟨E, bs⟩ := p
  obtain ⟨h1, h2⟩ := h
  unfold numS at h1 h2 ⊢
  simp only at h1 h2 ⊢
  unfold wNumE at h1 ⊢
  unfold wNumB at h2 ⊢
  by_cases hn : n < 0 ∨ 1099511627776 < n
  · rw [if_pos hn] at h1
    unfold wErr at h1
    split at h1
    · cases h1
    · next k => exact absurd h1 k
  · rw [if_neg hn] at h1 h2 ⊢
    rw [if_neg hn]
    subst h1
    unfold wPut at h2 ⊢
    by_cases hb : bs.length ≤ 16384
    · rw [if_pos ⟨rfl, hb⟩]
      exact ⟨⟨rfl, hb⟩, ⟨by omega, by omega⟩, rfl⟩
    · rw [if_neg (fun k => hb k.2)] at h2
      exact absurd h2 hb
theorem textS_good {p : Int × List Int} {z : List Int} (h : Good (textS p z)) : Good p ∧ z.length ≤ 4096 ∧ textS p z = (0, p.2 ++ (octAll z.length 2 ++ z)) := by
  obtain ⟨E, bs⟩ := p
  obtain ⟨h1, h2⟩ := h
  unfold textS at h1 h2 ⊢
  simp only at h1 h2 ⊢
  unfold wTextE at h1 ⊢
  unfold wTextB at h2 ⊢
  by_cases hn : 4096 < z.length
  · rw [if_pos hn] at h1
    unfold wErr at h1
    split at h1
    · cases h1
    · next k => exact absurd h1 k
  · rw [if_neg hn] at h1 h2 ⊢
    rw [if_neg hn]
    subst h1
    unfold wPut at h2 ⊢
    by_cases hb : bs.length ≤ 16384
    · rw [if_pos ⟨rfl, hb⟩]
      exact ⟨⟨rfl, hb⟩, by omega, rfl⟩
    · rw [if_neg (fun k => hb k.2)] at h2
      exact absurd h2 hb
/-- a statement's, a transaction's octets -/
def vsO (x : Vs) : List Int := vtO x.1 (octsOf x.2)
def tsO (x : Ts) : List Int := txO x.1.F x.1.T x.1.A x.1.N (octsOf x.2)
theorem pvS_good {p : Int × List Int} {x : Vs} (h : Good (pvS p x)) : Good p ∧ pvS p x = (0, p.2 ++ vsO x) := by
  unfold pvS vtS6 vtS5 vtS4 vtS3 vtS2 vtS1 vtS0 at h ⊢
  obtain ⟨h7, _, e7⟩ := textS_good h
  obtain ⟨h6, _, e6⟩ := numS_good h7
  obtain ⟨h5, _, e5⟩ := numS_good h6
  obtain ⟨h4, _, e4⟩ := textS_good h5
  obtain ⟨h3, _, e3⟩ := numS_good h4
  obtain ⟨h2, _, e2⟩ := numS_good h3
  obtain ⟨h1, _, e1⟩ := numS_good h2
  obtain ⟨h0, _, e0⟩ := textS_good h1
  refine ⟨h0, ?_⟩
  have e4' : octAll (([118, 111, 116, 101] : List Int).length : Int) 2 = [0, 4] := by decide
  rw [e7, e6, e5, e4, e3, e2, e1, e0, e4']
  simp [vsO, vtO, vtT]
theorem tsS_good {p : Int × List Int} {x : Ts} (h : Good (tsS x p)) : Good p ∧ tsS x p = (0, p.2 ++ tsO x) := by
  unfold tsS at h ⊢
  simp only [txS, txX] at h ⊢
  obtain ⟨h5, _, e5⟩ := textS_good h
  obtain ⟨h4, _, e4⟩ := numS_good h5
  obtain ⟨h3, _, e3⟩ := numS_good h4
  obtain ⟨h2, _, e2⟩ := numS_good h3
  obtain ⟨h1, _, e1⟩ := numS_good h2
  obtain ⟨h0, _, e0⟩ := textS_good h1
  refine ⟨h0, ?_⟩
  have e4' : octAll (([116, 120] : List Int).length : Int) 2 = [0, 2] := by decide
  rw [e5, e4, e3, e2, e1, e0, e4']
  simp [tsO, txO, txT]
/-- so many -/
def vsOs (xs : List Vs) : List Int := (xs.map vsO).flatten
def tsOs (xs : List Ts) : List Int := (xs.map tsO).flatten
theorem ctWS_good : ∀ (xs : List Vs) {p : Int × List Int}, Good (ctWS p xs) → Good p ∧ ctWS p xs = (0, p.2 ++ vsOs xs)
  | [], p, h => ⟨h, by obtain ⟨E, bs⟩ := p; have this : E = 0 := h.1; subst this; unfold ctWS vsOs; simp⟩
  | x :: t, p, h => by
    have k := ctWS_good t (p := pvS p x) h
    obtain ⟨k1, k2⟩ := pvS_good k.1
    refine ⟨k1, ?_⟩
    show ctWS (pvS p x) t = _
    rw [k.2, k2]
    unfold vsOs
    simp
def chO (V H : Int) (B : List Int) (n : Nat) : List Int := octAll V 6 ++ (octAll H 6 ++ ((octAll B.length 2 ++ B) ++ octAll (n : Int) 6))
theorem chS_good {p : Int × List Int} {V H : Int} {B : List Int} {n : Nat} (h : Good (chS p V H B n)) : Good p ∧ chS p V H B n = (0, p.2 ++ chO V H B n) := by
  unfold chS at h ⊢
  obtain ⟨h3, _, e3⟩ := numS_good h
  obtain ⟨h2, _, e2⟩ := textS_good h3
  obtain ⟨h1, _, e1⟩ := numS_good h2
  obtain ⟨h0, _, e0⟩ := numS_good h1
  refine ⟨h0, ?_⟩
  rw [e3, e2, e1, e0]
  simp [chO]
def ctO (c : Cm) : List Int := chO c.V c.H (octsOf c.B) c.vs.length ++ vsOs c.vs
theorem ctS_good {p : Int × List Int} {V H : Int} {B : ByteArray} {xs : List Vs} (h : Good (ctWS (chS p V H (octsOf B) xs.length) xs)) : Good p ∧ ctWS (chS p V H (octsOf B) xs.length) xs = (0, p.2 ++ (chO V H (octsOf B) xs.length ++ vsOs xs)) := by
  obtain ⟨k1, k2⟩ := ctWS_good xs h
  obtain ⟨k3, k4⟩ := chS_good k1
  refine ⟨k3, ?_⟩
  rw [k2, k4]
  simp
def bkHO (V H : Int) (P : ByteArray) (JV : Int) (n : Nat) : List Int := (octAll (([98, 108, 111, 99, 107] : List Int).length : Int) 2 ++ [98, 108, 111, 99, 107]) ++ (octAll V 6 ++ (octAll H 6 ++ ((octAll (octsOf P).length 2 ++ octsOf P) ++ (octAll JV 6 ++ octAll (n : Int) 6))))
theorem bkHS_good {p : Int × List Int} {V H : Int} {P : ByteArray} {JV : Int} {n : Nat} (h : Good (bkHS V H P JV n p)) : Good p ∧ bkHS V H P JV n p = (0, p.2 ++ bkHO V H P JV n) := by
  unfold bkHS at h ⊢
  obtain ⟨h5, _, e5⟩ := numS_good h
  obtain ⟨h4, _, e4⟩ := numS_good h5
  obtain ⟨h3, _, e3⟩ := textS_good h4
  obtain ⟨h2, _, e2⟩ := numS_good h3
  obtain ⟨h1, _, e1⟩ := numS_good h2
  obtain ⟨h0, _, e0⟩ := textS_good h1
  refine ⟨h0, ?_⟩
  rw [e5, e4, e3, e2, e1, e0]
  simp [bkHO]
theorem runT_good : ∀ (xs : List Ts) {p : Int × List Int}, Good (runS (xs.map tsS) p) → Good p ∧ runS (xs.map tsS) p = (0, p.2 ++ tsOs xs)
  | [], p, h => ⟨h, by obtain ⟨E, bs⟩ := p; have this : E = 0 := h.1; subst this; unfold runS tsOs; simp⟩
  | x :: t, p, h => by
    have k := runT_good t (p := tsS x p) h
    obtain ⟨k1, k2⟩ := tsS_good k.1
    refine ⟨k1, ?_⟩
    show runS (t.map tsS) (tsS x p) = _
    rw [k.2, k2]
    unfold tsOs
    simp
def bkO (V H : Int) (P : ByteArray) (JV JH : Int) (JB : ByteArray) (js : List Vs) (xs : List Ts) (S : ByteArray) : List Int :=
  bkHO V H P JV xs.length ++ (tsOs xs ++ ((chO JV JH (octsOf JB) js.length ++ vsOs js) ++ (octAll (octsOf S).length 2 ++ octsOf S)))
theorem bkPS_good {p : Int × List Int} {V H : Int} {P : ByteArray} {JV JH : Int} {JB : ByteArray} {js : List Vs} {xs : List Ts} {S : ByteArray} (h : Good (bkPS V H P JV JH JB js xs S p)) : Good p ∧ bkPS V H P JV JH JB js xs S p = (0, p.2 ++ bkO V H P JV JH JB js xs S) := by
  unfold bkPS at h ⊢
  obtain ⟨h3, _, e3⟩ := textS_good h
  obtain ⟨h2, e2⟩ := ctS_good h3
  obtain ⟨h1, e1⟩ := runT_good xs (p := bkHS V H P JV xs.length p) h2
  obtain ⟨h0, e0⟩ := bkHS_good h1
  refine ⟨h0, ?_⟩
  rw [e3, e2]
  show (0, (runS (xs.map tsS) (bkHS V H P JV xs.length p)).2 ++ _ ++ _) = _
  rw [e1, e0]
  simp [bkO]
/-- what a message bears, in octets -/
def brO (m : Mm) : List Int :=
  if m.K = 1 then bkO m.b.V m.b.H m.b.P m.b.J.V m.b.J.H m.b.J.B m.b.J.vs m.b.tx m.b.S else if m.K = 2 then vsO m.v else if m.K = 3 then ctO m.c else
  if m.K = 4 then octAll (m.bl.length : Int) 6 ++ vsOs m.bl else if m.K = 5 then octAll (octsOf m.a).length 2 ++ octsOf m.a else if m.K = 6 then tsO m.t else []
theorem wrS_good {m : Mm} {p : Int × List Int} (h : Good (wrS m p)) : Good p ∧ wrS m p = (0, p.2 ++ brO m) := by
  unfold wrS at h ⊢
  unfold brO
  by_cases g1 : m.K = 1
  · rw [if_pos g1] at h ⊢; rw [if_pos g1]; exact bkPS_good h
  rw [if_neg g1] at h ⊢; rw [if_neg g1]
  by_cases g2 : m.K = 2
  · rw [if_pos g2] at h ⊢; rw [if_pos g2]; exact pvS_good h
  rw [if_neg g2] at h ⊢; rw [if_neg g2]
  by_cases g3 : m.K = 3
  · rw [if_pos g3] at h ⊢; rw [if_pos g3]; exact ctS_good h
  rw [if_neg g3] at h ⊢; rw [if_neg g3]
  by_cases g4 : m.K = 4
  · rw [if_pos g4] at h ⊢; rw [if_pos g4]
    obtain ⟨k1, k2⟩ := ctWS_good _ h
    obtain ⟨k3, _, k4⟩ := numS_good k1
    refine ⟨k3, ?_⟩
    rw [k2, k4]; simp
  rw [if_neg g4] at h ⊢; rw [if_neg g4]
  by_cases g5 : m.K = 5
  · rw [if_pos g5] at h ⊢; rw [if_pos g5]
    obtain ⟨k1, _, k2⟩ := textS_good h
    exact ⟨k1, k2⟩
  rw [if_neg g5] at h ⊢; rw [if_neg g5]
  by_cases g6 : m.K = 6
  · rw [if_pos g6] at h ⊢; rw [if_pos g6]; exact tsS_good h
  rw [if_neg g6] at h ⊢; rw [if_neg g6]
  obtain ⟨E, bs⟩ := p
  have := h.1
  simp only at this
  subst this
  exact ⟨h, by simp⟩
def msO (m : Mm) : List Int := octAll m.K 6 ++ brO m
theorem putE_zero {m : Mm} (h : putE m = 0) : MayM m ∧ putB m = msO m ∧ (0 ≤ m.K ∧ m.K ≤ 1099511627776) := by
  by_cases hm : MayM m
  · unfold putE at h
    rw [if_pos hm] at h
    have hg : Good (putQ m) := by
      unfold doneE at h
      split at h
      · next k => exact absurd h k
      · next k =>
        split at h
        · cases h
        · next k2 => exact ⟨Classical.not_not.1 k, by omega⟩
    have k := wrS_good (show Good (wrS m (numS (0, []) m.K)) from hg)
    obtain ⟨_, k3, k4⟩ := numS_good k.1
    refine ⟨hm, ?_, k3⟩
    unfold putB
    rw [if_pos hm]
    unfold doneB
    rw [if_neg (fun e => e.elim (fun e1 => e1 hg.1) (fun e2 => by have := hg.2; omega))]
    show (wrS m (numS (0, []) m.K)).2 = _
    rw [k.2, k4]
    simp [msO]
  · unfold putE at h
    rw [if_neg hm] at h
    cases h
/-- octets -/
theorem vsO_u8s {x : Vs} (h : U8s x.1.B) : U8s (vsO x) := vtO_u8s _ _ h (octsOf_u8s _)
theorem tsO_u8s (x : Ts) : U8s (tsO x) := txO_u8s _ _ _ _ _ (octsOf_u8s _)
theorem nil_u8s : U8s [] := fun j hj => absurd hj (Nat.not_lt_zero _)
theorem vsOs_u8s : ∀ {xs : List Vs}, (∀ x ∈ xs, U8s x.1.B) → U8s (vsOs xs)
  | [], _ => nil_u8s
  | x :: t, h => by
    unfold vsOs
    rw [List.map_cons, List.flatten_cons]
    exact (vsO_u8s (h x (List.mem_cons_self ..))).append (vsOs_u8s (xs := t) (fun y hy => h y (List.mem_cons_of_mem _ hy)))
theorem tsOs_u8s : ∀ (xs : List Ts), U8s (tsOs xs)
  | [] => nil_u8s
  | x :: t => by
    unfold tsOs
    rw [List.map_cons, List.flatten_cons]
    exact (tsO_u8s x).append (tsOs_u8s t)
theorem chO_u8s (V H : Int) (B : ByteArray) (n : Nat) : U8s (chO V H (octsOf B) n) := (octAll_u8s _ _).append ((octAll_u8s _ _).append (((octAll_u8s _ _).append (octsOf_u8s _)).append (octAll_u8s _ _)))
theorem msO_u8s {m : Mm} (h : MOk m) : U8s (msO m) := by
  unfold msO
  refine (octAll_u8s _ _).append ?_
  unfold brO
  split
  · unfold bkO bkHO
    exact (((octAll_u8s _ _).append bkWd_u8s).append ((octAll_u8s _ _).append ((octAll_u8s _ _).append (((octAll_u8s _ _).append (octsOf_u8s _)).append ((octAll_u8s _ _).append (octAll_u8s _ _)))))).append ((tsOs_u8s _).append (((chO_u8s _ _ _ _).append (vsOs_u8s (fun x hx => (h.js x hx).1))).append ((octAll_u8s _ _).append (octsOf_u8s _))))
  split
  · exact vsO_u8s h.v.1
  split
  · exact (chO_u8s _ _ _ _).append (vsOs_u8s (fun x hx => (h.cs x hx).1))
  split
  · exact (octAll_u8s _ _).append (vsOs_u8s (fun x hx => (h.ls x hx).1))
  split
  · exact (octAll_u8s _ _).append (octsOf_u8s _)
  split
  · exact tsO_u8s _
  exact nil_u8s
end
end Go.Proofs.Ytacamknljicjmaa
