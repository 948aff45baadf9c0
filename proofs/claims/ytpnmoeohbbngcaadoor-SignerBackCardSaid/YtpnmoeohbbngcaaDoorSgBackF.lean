import Derived.Test.YtpnmoeohbbngcaaDoorSgGood
/-
  SignerBack: the walk returns true.
-/
namespace Go.Proofs.YtpnmoeohbbngcaaDoor
set_option maxRecDepth 100000
section
set_option linter.unusedVariables false
open Go.RowKit

theorem ex_index {P : Program} {ρ : Operand → Value} {o : Oper} {x y : Operand} {t e : TypeId} {b off n c k : Nat} (hu : P.underlying t = some (.slice e)) (hsz : ∀ w, (sizeOf e).run P w = .ok 1 w) (hop : o.op = .indexAddr t x y) (hx : ρ x = .slice (some ⟨b, off, none⟩) n c) (hy : ρ y = .int .i64 k) (hk : k < n) (w' : World) :
    (execOp ρ o).run P w' = .ok (.value (.pointer (some ⟨b, off + k, none⟩))) w' := by
  have h2 : ((⟨b, off, none⟩ : Addr).add k) = ⟨b, off + k, none⟩ := by unfold Addr.add; split <;> simp_all
  have hr : (Instr.indexAt t (.slice (some ⟨b, off, none⟩) n c) (.int .i64 k)).run P w' = .ok (.pointer (some ⟨b, off + k, none⟩)) w' := by
    have he : P.elem t = e := by simp [Program.elem, hu]
    have h3 := run_indexAt_slice (P := P) (w := w') t ⟨b, off, none⟩ n c .i64 k (by rw [he]; exact hu)
    rw [if_pos ⟨by omega, by omega⟩, he, hsz] at h3
    rw [h3]
    simp [h2]
  unfold execOp; rw [hop]; simp only [hx, hy, Sem.run_bind, hr, Result.andThen_ok, Sem.run_pure]
theorem ex_extract {P : Program} {ρ : Operand → Value} {o : Oper} {x : Operand} {k : Nat} {cs : Array Value} {v : Value} (hop : o.op = .extract x k) (hx : ρ x = .tuple cs) (hk : cs[k]? = some v) (w : World) : (execOp ρ o).run P w = .ok (.value v) w := by
  unfold execOp; rw [hop]; simp only [hx]
  simp [Instr.extract, hk]

theorem one_keyB (s : ByteArray) (v : Value) (k : Int) (hv : v.oneCell' = true) : (#[.string s, v, .int .i64 k] : Array Value).all (·.oneCell') = true := by
  have h1 : (Value.string s).oneCell' = true := by simp [Value.oneCell']
  have h2 : (Value.int .i64 k).oneCell' = true := by simp [Value.oneCell']
  simp [h1, h2, hv]

/-- the four calls of a round -/
structure BackFacts (w : World) (SEED ROOT : ByteArray) (n K : Nat) (ls : List (List Int)) (SIG : Nat → List Int → ByteArray) : Prop where
  new : Calls Tryd.prog 18 #[.string SEED, .int .i64 K] w fun e w' => ∃ g c, e = .returned (.tuple #[.agg #[.string SEED, .slice (some ⟨g, 0, none⟩) n c, .int .i64 0], .int .i64 0]) ∧ Strs w' (.slice (some ⟨g, 0, none⟩) n c) ls ∧ Up w w'
  root : ∀ g c wx, Strs wx (.slice (some ⟨g, 0, none⟩) n c) ls → Calls Tryd.prog 8 #[.agg #[.string SEED, .slice (some ⟨g, 0, none⟩) n c, .int .i64 0]] wx fun e w' => e = .returned (.tuple #[.string ROOT, .int .i64 0]) ∧ Up wx w'
  sign : ∀ g c (i : Nat) u text wx, i < n → Up w wx → Strs wx (.slice (some ⟨g, 0, none⟩) n c) ls → Ints .u8 wx u text → U8s text → text.length ≤ 140737488355328 → Calls Tryd.prog 6 #[.agg #[.string SEED, .slice (some ⟨g, 0, none⟩) n c, .int .i64 i], u] wx fun e w' => ∃ g' c', e = .returned (.tuple #[.string (SIG i text), .agg #[.string SEED, .slice (some ⟨g', 0, none⟩) n c', .int .i64 ((i + 1 : Nat) : Int)], .int .i64 0]) ∧ w'.ownsRow wx.heap.size 9 1 (.slice (some ⟨g', 0, none⟩) n c') ls.length (strVs ls) ∧ Up wx w'
  full : ∀ g c (i : Nat) u text wx, i = n → Strs wx (.slice (some ⟨g, 0, none⟩) n c) ls → Ints .u8 wx u text → Calls Tryd.prog 6 #[.agg #[.string SEED, .slice (some ⟨g, 0, none⟩) n c, .int .i64 i], u] wx fun e w' => e = .returned (.tuple #[.string ⟨#[]⟩, .agg noKey, .int .i64 17]) ∧ Up wx w'
  ver : ∀ (i : Nat) u text wx, i < n → Ints .u8 wx u text → U8s text → text.length ≤ 140737488355328 → Calls Tryd.prog 19 #[.string ROOT, .int .i64 K, u, .string (SIG i text)] wx fun e w' => e = .returned (.tuple #[.int .i64 i, .bool true]) ∧ Up wx w'

theorem backFacts (seed : List Int) (K : Nat) (w : World) (hu : U8s seed) (hl : seed.length ≤ 64) (hK : K ≤ 4) (hT : Tab64 w) : BackFacts w (strOfNums seed) (strOfNums (rootB (leavesB seed (2 ^ K)))) (2 ^ K) K (leavesB seed (2 ^ K)) (fun i text => strOfNums (sigB seed (leavesB seed (2 ^ K)) i K text)) := by
  have hll : (leavesB seed (2 ^ K)).length = 2 ^ K := upTo_length _ _
  have hn16 : 2 ^ K ≤ 1000 := by
    have : K = 0 ∨ K = 1 ∨ K = 2 ∨ K = 3 ∨ K = 4 := by omega
    rcases this with rfl | rfl | rfl | rfl | rfl <;> omega
  have h8 : All8 (leavesB seed (2 ^ K)) := (leaves_ok seed K hl hK 0 (by omega)).eight
  refine ⟨?_, ?_, ?_, ?_, ?_⟩
  · refine (new_ok seed K w hu hl hK).mono fun e w' ⟨v, h1, h2, h3⟩ => ?_
    obtain ⟨g, c, rfl, _⟩ := row_slice h2 (Nat.two_pow_pos K)
    exact ⟨g, c, h1, Strs.of_row h2, h3⟩
  · intro g c wx hs
    exact sgRoot_ok seed _ _ 0 wx hs (leaves_ok seed K hl hK 0 (by omega)) (leaves_fits seed _)
  · intro g c i u text wx hi hx hs hv hut hlt
    refine (sgSign_ok seed _ _ i K u text wx hs (leaves_ok seed K hl hK i (by omega)) (leaves_fits seed _) hu hll hK (by omega) hv hut hlt (hT.up hx)).mono fun e w' ⟨r, h1, h2, h3⟩ => ?_
    obtain ⟨g', c', rfl, _⟩ := row_slice h2 (by omega)
    rw [hll] at h1 h2
    exact ⟨g', c', h1, by rw [hll]; exact h2, h3⟩
  · intro g c i u text wx hi hs hv
    subst hi
    have hk := leaves_ok seed K hl hK (2 ^ K) (Nat.le_refl _)
    have hk' : KeyOk seed (leavesB seed (2 ^ K)) ((leavesB seed (2 ^ K)).length : Int) := by rw [hll]; exact hk
    have := sgSign_full seed _ _ u text wx hs hk' hv
    rw [hll] at this
    exact this
  · intro i u text wx hi hv hut hlt
    refine (verify_any _ K u text (sigB seed (leavesB seed (2 ^ K)) i K text) wx hv hut hlt (sig_u8s _ _ _ _ _ (leaves_fits seed _)) (by rw [sig_length _ _ _ _ _ h8 hll hi]; omega)).mono fun e w' ⟨⟨a, ok, h1, h2, _⟩, h3⟩ => ?_
    obtain ⟨ha, hok⟩ := h2 (good_sign seed i K text hK hi)
    rw [sig_leaf _ _ _ _ _ (by omega)] at ha
    subst ha
    subst hok
    exact ⟨h1, h3⟩

end
end Go.Proofs.YtpnmoeohbbngcaaDoor
