import Derived.Deep.QuietTactic
import Derived.BigQuiet
import Derived.Test.YtnipkhgaceicbaaTrMap
import Derived.Test.YtnipkhgaceicbaaBkName
import Derived.Test.YtnipkhgaceicbaaCtArgs
import Derived.Test.YtnipkhgaceicbaaTsArg
import Derived.Test.YtnipkhgaceicbaaTsRow
/-
  The program's tree: what it is, and its small functions.
-/
namespace Go.Proofs.Ytnipkhgaceicbaa
set_option maxRecDepth 100000
section
set_option linter.unusedVariables false
open Go.RowKit Go.Sort Go.Lib

/-- a block, with what its slices hold -/
structure Tb where
  V : Int
  H : Int
  P : ByteArray
  JV : Int
  JH : Int
  JB : ByteArray
  ja : Option Addr
  jc : Nat
  vs : List Vs
  ta : Option Addr
  tc : Nat
  tx : List Ts
  S : ByteArray
def tbA (x : Tb) : Array Value := #[.int .i64 x.V, .int .i64 x.H, .string x.P, .int .i64 x.JV, .int .i64 x.JH, .string x.JB, .slice x.ja x.vs.length x.jc, .slice x.ta x.tx.length x.tc, .string x.S]
theorem tbA_bk (x : Tb) : tbA x = bkC x.V x.H x.P x.JV x.JH x.JB x.ja x.vs.length x.jc x.ta x.tx.length x.tc x.S := rfl
theorem tbA_one (x : Tb) : (tbA x).all (·.oneCell') = true := by simp [tbA, Value.oneCell']
/-- no block -/
def tb0 : Tb := ⟨0, 0, ⟨#[]⟩, 0, 0, ⟨#[]⟩, none, 0, [], none, 0, [], ⟨#[]⟩⟩
/-- its lists lie there -/
def TbIn (W : World) (x : Tb) : Prop := VArg W (.slice x.ja x.vs.length x.jc) x.vs ∧ TArg W (.slice x.ta x.tx.length x.tc) x.tx
theorem TbIn.up {W W' : World} {x : Tb} (h : TbIn W x) (u : Up W W') : TbIn W' x := ⟨h.1.up u, h.2.up u⟩
/-- block g is a tree of n blocks, each under its name, kept in the map mb -/
structure TreeAt (W : World) (g mb n : Nat) (T : ByteArray → Option Tb) : Prop where
  root : W.heap[g]? = some (.cells #[.map (some mb)] 62 (0, 0))
  map : TextMap Try.prog 9 W mb n (fun s => (T s).map fun x => .agg (tbA x))
  lists : ∀ s x, T s = some x → TbIn W x
  names : ∀ s x, T s = some x → x.P.size ≤ maxLen
theorem TreeAt.up {W W' : World} {g mb n : Nat} {T : ByteArray → Option Tb} (h : TreeAt W g mb n T) (u : Up W W') : TreeAt W' g mb n T :=
  ⟨(u.block g (lt_of_block h.root)).trans h.root, h.map.up u, fun s x hs => (h.lists s x hs).up u, h.names⟩
/-- the block of that name, or none -/
def atT (T : ByteArray → Option Tb) (s : ByteArray) : Tb := (T s).getD tb0
theorem atT_val (T : ByteArray → Option Tb) (s : ByteArray) : ((T s).map fun x => Value.agg (tbA x)).getD (.agg (tbA tb0)) = .agg (tbA (atT T s)) := by
  unfold atT
  cases T s <;> rfl
theorem atT_ok (T : ByteArray → Option Tb) (s : ByteArray) : ((T s).map fun x => Value.agg (tbA x)).isSome = (T s).isSome := by
  cases T s <;> rfl
theorem zero_tb (w : World) : (zeroValue 41).run Try.prog w = .ok (.agg (tbA tb0)) w := by kernel_rfl
section
variable {w : World} {ops : Array Oper} {rest : List Oper} {o : Oper} {a : Act} {Q : Exit → Act → World → Prop}
/-- 'b, ok := t.blocks[s]' -/
theorem wpList_treeAt (hg : o.guard = none) (m x : Operand) (hop : o.op = Op.lookup 60 m x true) {mb n : Nat} {T : ByteArray → Option Tb} (h : TextMap Try.prog 9 w mb n (fun s => (T s).map fun x => .agg (tbA x))) {s : ByteArray} (hs : s.size ≤ maxLen)
    (hm : a.eval m = .map (some mb)) (hx : a.eval x = .string s) (hK : wpList Try.prog ops Q rest (a.put o.dst (.tuple #[.agg (tbA (atT T s)), .bool (T s).isSome])) w) : wpList Try.prog ops Q (o :: rest) a w := by
  refine wpList_textAt hg m x _ _ hop Try.underlying9 Try.underlying60 (zero_tb w) h hs hm hx ?_
  rw [atT_val, atT_ok]; exact hK
/-- 't.blocks[s]' -/
theorem wpList_treeGet (hg : o.guard = none) (m x : Operand) (hop : o.op = Op.lookup 60 m x false) {mb n : Nat} {T : ByteArray → Option Tb} (h : TextMap Try.prog 9 w mb n (fun s => (T s).map fun x => .agg (tbA x))) {s : ByteArray} (hs : s.size ≤ maxLen)
    (hm : a.eval m = .map (some mb)) (hx : a.eval x = .string s) (hK : wpList Try.prog ops Q rest (a.put o.dst (.agg (tbA (atT T s)))) w) : wpList Try.prog ops Q (o :: rest) a w := by
  refine wpList_textGet hg m x _ _ hop Try.underlying9 Try.underlying60 (zero_tb w) h hs hm hx ?_
  rw [atT_val]; exact hK
end
theorem ex_fillTb {o : Oper} {x y : Operand} {ρ : Operand → Value} {W : World} {c0 : Array Value} {u : Tb} (hop : o.op = .store 41 x y) (hx : ρ x = .pointer (some ⟨W.heap.size, 0, none⟩)) (hy : ρ y = .agg (tbA u)) (h0 : c0.size = 9) :
    (execOp ρ o).run Try.prog (W.alloc (.cells c0 41)) = .ok .skip (W.alloc (.cells (tbA u) 41)) := by
  have h1 := ex_storerow (P := Try.prog) (g := W.heap.size) (c0 := c0) (c1 := tbA u) hop hx hy (W.alloc (.cells c0 41)) 41 (heap_alloc_new W _) info_bk h0 (tbA_one u)
  rwa [World.setRow_alloc_new] at h1

theorem kept_any (g : Nat) (m : Value) (w : World) (hg : w.heap[g]? = some (.cells #[m] 62 (0, 0))) :
    Calls Try.prog 42 #[.pointer (some ⟨g, 0, none⟩)] w fun e w' => e = .returned m ∧ w' = w := by
  have c0 := tx_cell hg 0 (v := m) rfl
  go_enter Try.func42, Try.ntmps42
  go_wp2
  go_ret
  exact ⟨rfl, rfl⟩
theorem map_neq (mb : Nat) (w : World) : (binOp .neq 60 (.map (some mb)) (.map none)).run Try.prog w = .ok (.bool true) w := by
  first | kernel_rfl | rfl | simp [go_sem]
theorem isMade_any (g mb : Nat) (w : World) (hg : w.heap[g]? = some (.cells #[.map (some mb)] 62 (0, 0))) :
    Calls Try.prog 27 #[.pointer (some ⟨g, 0, none⟩)] w fun e w' => e = .returned (.bool true) ∧ w' = w := by
  have H := Lib.hid (kept_any g _ w hg)
  have hne := map_neq mb
  go_enter Try.func27, Try.ntmps27
  go_wp2_with fail
  with_reducible refine Calls.mono H.out ?_
  rintro e w1 ⟨rfl, rfl⟩
  go_wp2
  go_ret
  exact ⟨rfl, rfl⟩
theorem treeLen_any {w : World} {g mb n : Nat} {T : ByteArray → Option Tb} (h : TreeAt w g mb n T) :
    Calls Try.prog 60 #[.pointer (some ⟨g, 0, none⟩)] w fun e w' => e = .returned (.int .i64 (n : Int)) ∧ w' = w := by
  have H := Lib.hid (kept_any g _ w h.root)
  have hl := h.map.len Try.underlying60 3
  go_enter Try.func60, Try.ntmps60
  go_wp2_with fail
  with_reducible refine Calls.mono H.out ?_
  rintro e w1 ⟨rfl, rfl⟩
  go_wp2
  go_ret
  exact ⟨rfl, rfl⟩
set_option maxHeartbeats 400000 in
theorem named_any (s : ByteArray) (x : Tb) (w : World) :
    Calls Try.prog 46 #[.string s, .agg (tbA x)] w fun e w' => e = .returned (.agg (mkC x.V x.H s)) ∧ Up w w' := by
  have HU0 := Lib.hid (Up.alloc (Up.alloc (Up.refl w) (.cells (tbA x) 41)) (.cells #[.int .i64 0, .int .i64 0, .string ⟨#[]⟩] 26))
  have hb0 := heap_alloc_new w (.cells (tbA x) 41)
  have hb1 := ((Up.alloc (Up.refl (w.alloc (.cells (tbA x) 41))) (.cells #[.int .i64 0, .int .i64 0, .string ⟨#[]⟩] 26)).block _ (lt_of_block hb0)).trans hb0
  have hc0 := tx_cell hb1 0 (show (tbA x)[0]? = some (.int .i64 x.V) from rfl)
  have hc1 := tx_cell hb1 1 (show (tbA x)[1]? = some (.int .i64 x.H) from rfl)
  have B1 := Lib.hid (heap_alloc_new (w.alloc (.cells (tbA x) 41)) (.cells #[.int .i64 0, .int .i64 0, .string ⟨#[]⟩] 26))
  generalize tbA x = cs at *
  clear hb0 hb1
  go_enter Try.func46, Try.ntmps46
  go_wp2_with (refine wpList_store_agg rfl 26 (.tmp 4) (.tmp 10) rfl (w.alloc (.cells cs 41)).heap.size _ #[.int .i64 x.V, .int .i64 x.H, .string s] (by simp; rfl) rfl 26 B1.out info_mk rfl (one_mk _ _ _) ?_; intro w12 hg12 hgr12)
  exact bodyPost_ret (results_mk rfl _ _ _ _ (by simp; rfl) hg12 rfl) rfl ⟨rfl, up_at HU0.out hgr12 (by simp)⟩
end
end Go.Proofs.Ytnipkhgaceicbaa
