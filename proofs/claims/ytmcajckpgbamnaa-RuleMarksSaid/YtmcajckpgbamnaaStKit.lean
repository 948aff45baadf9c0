import Derived.Shelf.SlSortCmp.KitK
import Derived.Test.YtmcajckpgbamnaaFirsts
import Derived.Test.YtmcajckpgbamnaaAlong
import Derived.Test.YtmcajckpgbamnaaVtCheck
import Derived.Test.YtmcajckpgbamnaaCtFirst
/-
  The sort of statements that keeps the order of what has one signer: the row, its worlds, single operations.
-/
namespace Go.Proofs.Ytmcajckpgbamnaa
set_option maxRecDepth 100000
section
set_option linter.unusedVariables false
open Go.RowKit Go.Sort Go.Lib

instance vtInhabited : Inhabited Vt := ⟨⟨0, 0, 0, [], 0, 0⟩⟩
/-- a statement with its Sig -/
abbrev Vs := Vt × ByteArray
def vsC (x : Vs) : List Value := [.int .i64 x.1.K, .int .i64 x.1.V, .int .i64 x.1.H, .string (strOfNums x.1.B), .int .i64 x.1.T, .int .i64 x.1.G, .string x.2]
def vsA (x : Vs) : Array Value := (vsC x).toArray
def vsK (x : Vs) : Int := x.1.G
theorem vsA_eq (x : Vs) : vsA x = vtC x.1 x.2 := rfl
theorem vsC_len (x : Vs) : (vsC x).length = 7 := rfl
theorem vsC_one (x : Vs) : ∀ v ∈ vsC x, v.oneCell' = true := by intro v hv; simp [vsC] at hv; rcases hv with rfl | rfl | rfl | rfl | rfl | rfl | rfl <;> rfl
def vsCmp (x y : Vs) : Int := cmpI (vsK x) (vsK y)
theorem ltOf_vs : ltOf vsCmp = keyLt vsK := by
  funext x y
  unfold ltOf keyLt vsCmp cmpI
  congr 1
  apply propext
  repeat' split
  all_goals omega

section
variable {α : Type} [Inhabited α] {enc : α → List Value} {k : Nat} {w0 W : World} {blk off : Nat} {dk d0 : Array α}
theorem setMany_put (hk : ∀ x, (enc x).length = k) (d : Array α) (i : Nat) (hi : i < d.size) (x : α) : setMany (flatK enc k d) (i * k) (enc x) = flatK enc k (d.setIfInBounds i x) := by
  refine ext_get! (by simp) fun t ht => ?_
  have ht' : t < d.size * k := by simpa using ht
  have k0 : 0 < k := by rcases Nat.eq_zero_or_pos k with h | h; · subst h; simp at ht'
                        · exact h
  have hd : t / k < d.size := Nat.div_lt_of_lt_mul (by rw [Nat.mul_comm]; exact ht')
  rw [get_setMany _ _ _ t (by simpa using ht'), get_flatK _ _ _ t ht', get_flatK _ _ _ t (by simpa using ht'), hk]
  have m : ∀ q, t / k = q → t - q * k = t % k := fun q h => by subst h; rw [Nat.mod_eq_sub_div_mul]
  by_cases a : t / k = i
  · rw [if_pos ((blk_iff k i t k0).2 a), m i a]
    subst a
    simp [hd]
  · rw [if_neg (fun h => a ((blk_iff k i t k0).1 h))]
    simp [hd, Ne.symm a]
theorem SWK.put (h : SWK enc k w0 blk off dk W) (R : RowK enc k w0 blk off d0) (i : Nat) (hi : i < dk.size) (x : α) : SWK enc k w0 blk off (dk.setIfInBounds i x) (W.setCells blk (off + i * k) (enc x)) := by
  obtain ⟨n, os, rfl⟩ := h
  refine ⟨n, os, ?_⟩
  unfold sortWorldK
  rw [setCells_grow os blk _ _ _ (by rw [size_putRowK]; exact R.hblk)]
  unfold putRowK
  rw [setCells_putRow _ _ _ _ _ _ (by rw [R.hk, size_flatK]; exact rowK_bnd dk k i hi), setMany_put R.hk dk i hi x]
theorem SWK.stores (h : SWK enc k w0 blk off dk W) (R : RowK enc k w0 blk off d0) (hs : dk.size = d0.size) (P : Program) (i : Nat) (hi : i < dk.size) (x : α) :
    Sem.run P (storeCells ⟨blk, off + i * k, none⟩ (enc x) 0) W = .ok () (W.setCells blk (off + i * k) (enc x)) :=
  stores_of_holds P (h.holds R.hblk R.hH hs) (i * k) _ (by rw [R.hk, size_flatK]; exact rowK_bnd dk k i hi) (R.h1 _)
end

section
variable {o : Oper} {x y z : Operand} {ρ : Operand → Value} {v : Value} {w0 W : World} {blk off : Nat} {dk d0 : Array Vs}
abbrev SW (w0 : World) (blk off : Nat) (dk : Array Vs) (W : World) : Prop := SWK vsC 7 w0 blk off dk W
/-- an element, whole -/
theorem ex_elem (hop : o.op = .load 28 x) {i : Nat} (hx : ρ x = .pointer (some ⟨blk, off + i * 7, none⟩)) (h : SW w0 blk off dk W) (R : RowK vsC 7 w0 blk off d0) (hs : dk.size = d0.size) (hi : i < dk.size) {u : Vs} (hu : dk[i]! = u) :
    (execOp ρ o).run Try.prog W = .ok (.value (.agg (vsA u))) W := by
  have h1 := SWK.load h R hs Try.prog i hi
  rw [hu] at h1
  unfold execOp; rw [hop]; simp only [hx]
  simp [Instr.loadAt, Instr.sureAddr, loadVar, loadCells, Try.isAgg28, Try.sizeOf28, h1, Result.andThen, vsA]
theorem ex_put (hop : o.op = .store 28 x y) {i : Nat} (hx : ρ x = .pointer (some ⟨blk, off + i * 7, none⟩)) (u : Vs) (hy : ρ y = .agg (vsA u)) (h : SW w0 blk off dk W) (R : RowK vsC 7 w0 blk off d0) (hs : dk.size = d0.size) (hi : i < dk.size) :
    (execOp ρ o).run Try.prog W = .ok .skip (W.setCells blk (off + i * 7) (vsC u)) := by
  have h1 := SWK.stores h R hs Try.prog i hi u
  unfold execOp; rw [hop]; simp only [hx, hy]
  simp [Instr.storeAt, Instr.sureAddr, storeVar, Value.cells, vsA, vsC_len, h1, Result.andThen]
theorem bin_add (x y : Operand) (a b : Nat) (h : a + b ≤ 9223372036854775807) (w : World) : (do eqGuard .add 3 x y (.int .i64 (a : Nat)) (.int .i64 (b : Nat)); binOp .add 3 (.int .i64 (a : Nat)) (.int .i64 (b : Nat)) : Sem Value).run Try.prog w = .ok (.int .i64 ((a + b : Nat) : Int)) w := by
  simp [eqGuard, go_sem]
  rw [IntKind.wrap_i64]; omega
theorem bin_sub (x y : Operand) (a b : Nat) (h : b ≤ a) (ha : a ≤ 9223372036854775807) (w : World) : (do eqGuard .sub 3 x y (.int .i64 (a : Nat)) (.int .i64 (b : Nat)); binOp .sub 3 (.int .i64 (a : Nat)) (.int .i64 (b : Nat)) : Sem Value).run Try.prog w = .ok (.int .i64 ((a - b : Nat) : Int)) w := by
  simp [eqGuard, go_sem]
  rw [IntKind.wrap_i64]; omega
theorem bin_neg (x y : Operand) (a : Int) (b : Bool) (hb : b = decide (a < 0)) (w : World) : (do eqGuard .lss 3 x y (.int .i64 a) (.int .i64 0); binOp .lss 3 (.int .i64 a) (.int .i64 0) : Sem Value).run Try.prog w = .ok (.bool b) w := by
  subst hb
  simp [eqGuard, go_sem]
end
/-- a call of a function value -/
theorem opK_callv {P : Program} {ops : Array Oper} {Q : Exit → Act → World → Prop} {i : Nat} {o : Oper} {a : Act} {w : World} {r : Plan} {S : World → Prop} {f : FuncId} {cb : Array Value} {t : Operand} {args : List Operand} {ts : Array TypeId} {vs : List Value} (ho : ops[i]? = some o) (hop : o.op = .call { callee := .value t, args := args.toArray, argTypes := ts }) (ht : a.eval t = .func (.func f) #[] cb) (hvs : args.map a.eval = vs)
    (he : ∀ args w, (callFunc f args).run P w = .ok (.enter f args) w) (hw : Region.wanted o (yielded ops a.tmps) = true)
    (hc : Calls P f (vs.toArray ++ cb) w fun e w' => ∃ v, e = .returned v ∧ ∃ S' : World → Prop, (∀ x, S' x → S x) ∧ S' w' ∧ AlongK P ops Q r S' (a.put o.dst v) w') : wpOp P ops Q i (fun a' w' => ∃ S' : World → Prop, (∀ x, S' x → S x) ∧ S' w' ∧ AlongK P ops Q r S' a' w') a w := by
  refine wpOp_step ho fun K' hK => ?_
  rw [if_pos hw]
  have hrun : (execOp a.eval o).run P w = .ok (.enter f (vs.toArray ++ cb)) w := by
    unfold execOp; rw [hop]; simp only [resolve, ht, List.map_toArray, hvs]; simp [invoke, he, go_sem]
  unfold Oper.wp
  rw [hrun, Oper.upon_enter]
  refine Calls.mono hc fun e w' ⟨v, he, h⟩ => ?_
  subst he
  exact hK _ _ h
end
end Go.Proofs.Ytmcajckpgbamnaa
