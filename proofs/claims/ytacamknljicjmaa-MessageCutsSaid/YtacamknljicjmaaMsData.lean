import Derived.Test.YtacamknljicjmaaMsBk
/-
  A message: its cells, and what is known of them.
-/
namespace Go.Proofs.Ytacamknljicjmaa
set_option maxRecDepth 100000
section
set_option linter.unusedVariables false
open Go.RowKit Go.Sort Go.Lib

/-- a cert, a block, a message -/
structure Cm where
  V : Int
  H : Int
  B : ByteArray
  vs : List Vs
structure Bm where
  V : Int
  H : Int
  P : ByteArray
  J : Cm
  tx : List Ts
  S : ByteArray
structure Mm where
  K : Int
  b : Bm
  v : Vs
  c : Cm
  bl : List Vs
  a : ByteArray
  t : Ts
/-- where a slice lies -/
abbrev Pl := Option Addr × Nat
structure Ps where
  j : Pl
  x : Pl
  c : Pl
  l : Pl
def slV (p : Pl) (n : Nat) : Value := .slice p.1 n p.2
def ctLs (c : Cm) (p : Pl) : List Value := [.int .i64 c.V, .int .i64 c.H, .string c.B, .slice p.1 c.vs.length p.2]
def bkLs (b : Bm) (p q : Pl) : List Value := [.int .i64 b.V, .int .i64 b.H, .string b.P, .int .i64 b.J.V, .int .i64 b.J.H, .string b.J.B, .slice p.1 b.J.vs.length p.2, .slice q.1 b.tx.length q.2, .string b.S]
def msLs (m : Mm) (p : Ps) : List Value := .int .i64 m.K :: (bkLs m.b p.j p.x ++ (vsC m.v ++ (ctLs m.c p.c ++ (.slice p.l.1 m.bl.length p.l.2 :: .string m.a :: tsC m.t))))
def msA (m : Mm) (p : Ps) : Array Value := (msLs m p).toArray
theorem msA_size (m : Mm) (p : Ps) : (msA m p).size = 28 := rfl
theorem msA_one (m : Mm) (p : Ps) : (msA m p).all (·.oneCell') = true := by simp [msA, msLs, bkLs, vsC, ctLs, tsC, Value.oneCell']
theorem msA_k (m : Mm) (p : Ps) : (msA m p)[0]? = some (.int .i64 m.K) := rfl
theorem msA_b (m : Mm) (p : Ps) : At (msA m p) 1 (bkLs m.b p.j p.x) := at_mid [.int .i64 m.K] (bkLs m.b p.j p.x) (vsC m.v ++ (ctLs m.c p.c ++ (.slice p.l.1 m.bl.length p.l.2 :: .string m.a :: tsC m.t)))
theorem msA_j (m : Mm) (p : Ps) : At (msA m p) 4 (ctLs m.b.J p.j) := at_mid [.int .i64 m.K, .int .i64 m.b.V, .int .i64 m.b.H, .string m.b.P] (ctLs m.b.J p.j) (.slice p.x.1 m.b.tx.length p.x.2 :: .string m.b.S :: (vsC m.v ++ (ctLs m.c p.c ++ (.slice p.l.1 m.bl.length p.l.2 :: .string m.a :: tsC m.t))))
theorem msA_v (m : Mm) (p : Ps) : At (msA m p) 10 (vsC m.v) := at_mid (.int .i64 m.K :: bkLs m.b p.j p.x) (vsC m.v) (ctLs m.c p.c ++ (.slice p.l.1 m.bl.length p.l.2 :: .string m.a :: tsC m.t))
theorem msA_c (m : Mm) (p : Ps) : At (msA m p) 17 (ctLs m.c p.c) := at_mid (.int .i64 m.K :: (bkLs m.b p.j p.x ++ vsC m.v)) (ctLs m.c p.c) (.slice p.l.1 m.bl.length p.l.2 :: .string m.a :: tsC m.t)
theorem msA_l (m : Mm) (p : Ps) : (msA m p)[21]? = some (.slice p.l.1 m.bl.length p.l.2) := rfl
theorem msA_a (m : Mm) (p : Ps) : (msA m p)[22]? = some (.string m.a) := rfl
theorem msA_t (m : Mm) (p : Ps) : At (msA m p) 23 (tsC m.t) := by
  have h := at_mid (.int .i64 m.K :: (bkLs m.b p.j p.x ++ (vsC m.v ++ (ctLs m.c p.c ++ [.slice p.l.1 m.bl.length p.l.2, .string m.a])))) (tsC m.t) []
  exact h
/-- the slices lie there -/
structure MIn (W : World) (m : Mm) (p : Ps) : Prop where
  j : VArg W (.slice p.j.1 m.b.J.vs.length p.j.2) m.b.J.vs
  x : TArg W (.slice p.x.1 m.b.tx.length p.x.2) m.b.tx
  c : VArg W (.slice p.c.1 m.c.vs.length p.c.2) m.c.vs
  l : VArg W (.slice p.l.1 m.bl.length p.l.2) m.bl
theorem MIn.up {W W' : World} {m : Mm} {p : Ps} (h : MIn W m p) (u : Up W W') : MIn W' m p := ⟨h.j.up u, h.x.up u, h.c.up u, h.l.up u⟩
/-- what the form says of a message -/
structure MOk (m : Mm) : Prop where
  k : I64 m.K
  bv : I64 m.b.V
  bh : I64 m.b.H
  jv : I64 m.b.J.V
  jh : I64 m.b.J.H
  cv : I64 m.c.V
  ch : I64 m.c.H
  bp : m.b.P.size ≤ maxLen
  jb : m.b.J.B.size ≤ maxLen
  bs : m.b.S.size ≤ maxLen
  cb : m.c.B.size ≤ maxLen
  a : m.a.size ≤ maxLen
  v : VsOk m.v
  t : TsOk m.t
  js : ∀ x ∈ m.b.J.vs, VsOk x
  xs : ∀ x ∈ m.b.tx, TsOk x
  cs : ∀ x ∈ m.c.vs, VsOk x
  ls : ∀ x ∈ m.bl, VsOk x
  jn : m.b.J.vs.length ≤ maxLen
  xn : m.b.tx.length ≤ maxLen
  cn : m.c.vs.length ≤ maxLen
  ln : m.bl.length ≤ maxLen
theorem len62 {n : Nat} (h : n ≤ maxLen) : n ≤ 9223372036854775807 := Nat.le_trans h (by decide)
theorem cm_ext {c d : Cm} : (c.V = d.V ∧ c.H = d.H ∧ c.B = d.B ∧ c.vs = d.vs) ↔ c = d := by
  cases c; cases d; simp
theorem bm_ext {c d : Bm} : (c.V = d.V ∧ c.H = d.H ∧ c.P = d.P ∧ (c.J.V = d.J.V ∧ c.J.H = d.J.H ∧ c.J.B = d.J.B ∧ c.J.vs = d.J.vs) ∧ c.tx = d.tx ∧ c.S = d.S) ↔ c = d := by
  rw [cm_ext]
  cases c; cases d; simp
theorem mm_ext {c d : Mm} : c = d ↔ (c.K = d.K ∧ c.b = d.b ∧ c.v = d.v ∧ c.c = d.c ∧ c.bl = d.bl ∧ c.a = d.a ∧ c.t = d.t) := by
  cases c; cases d; simp
theorem info_ms : (Try.prog.info? 33).map (·.size) = some 28 := by kernel_rfl
end
end Go.Proofs.Ytacamknljicjmaa
