import Derived.Test.YtnipkhgaceicbaaTrExt
import Derived.Test.YtnipkhgaceicbaaTrArg
import Derived.Test.YtnipkhgaceicbaaMsKit
/-
  guard: its state; Begin, Lock, Enter; the reference's Higher.
-/
namespace Go.Proofs.Ytnipkhgaceicbaa
set_option maxRecDepth 100000
section
set_option linter.unusedVariables false
open Go.RowKit Go.Sort Go.Lib

/-- a mark -/
structure Mk where
  V : Int
  H : Int
  B : ByteArray
/-- a state -/
structure Gs where
  V : Int
  a : Mk
  b : Mk
  c : Mk
  sp : Bool
def Mk.l (m : Mk) : List Value := [.int .i64 m.V, .int .i64 m.H, .string m.B]
def gsA (s : Gs) : Array Value := #[.int .i64 s.V, .int .i64 s.a.V, .int .i64 s.a.H, .string s.a.B, .int .i64 s.b.V, .int .i64 s.b.H, .string s.b.B, .int .i64 s.c.V, .int .i64 s.c.H, .string s.c.B, .bool s.sp]
theorem gsA_one (s : Gs) : (gsA s).all (·.oneCell') = true := by simp [gsA, Value.oneCell']
def mk0 : Mk := ⟨0, 0, ⟨#[]⟩⟩
/-- the state of the beginning -/
def gs0 : Gs := ⟨0, mk0, mk0, ⟨0, 0, strOfNums gen32⟩, false⟩
theorem info_gs : (Try.prog.info? 28).map (·.size) = some 11 := by kernel_rfl
theorem results_gs {fn : Func} {p : Tmp} (h : fn.results = #[.cell p 28]) (tmps : Array Value) (w : World) (B : Nat) (cs : Array Value) (hp : tmps.getD p undef = .pointer (some ⟨B, 0, none⟩))
    (hg : w.heap[B]? = some (.cells cs 28 (0, 0))) (hs : cs.size = 11) :
    (results fn tmps).run Try.prog w = .ok (.agg cs) w := by
  have hp' : tmps[p]?.getD undef = .pointer (some ⟨B, 0, none⟩) := by simpa using hp
  have hl := run_loadVar_row (P := Try.prog) w B 28 28 cs (0, 0) _ hg Try.underlying28 rfl (by rw [info_gs, hs])
  simp [results, h, hp', asAddr, hl]
theorem results_gs2 {fn : Func} {p q : Tmp} (h : fn.results = #[.cell p 28, .tmp q]) (tmps : Array Value) (w : World) (B : Nat) (cs : Array Value) (hp : tmps.getD p undef = .pointer (some ⟨B, 0, none⟩))
    (hg : w.heap[B]? = some (.cells cs 28 (0, 0))) (hs : cs.size = 11) :
    (results fn tmps).run Try.prog w = .ok (.tuple #[.agg cs, tmps.getD q undef]) w := by
  have hp' : tmps[p]?.getD undef = .pointer (some ⟨B, 0, none⟩) := by simpa using hp
  have hl := run_loadVar_row (P := Try.prog) w B 28 28 cs (0, 0) _ hg Try.underlying28 rfl (by rw [info_gs, hs])
  simp [results, h, hp', asAddr, hl]
set_option maxHeartbeats 400000 in
theorem begin_any (w : World) : Calls Try.prog 6 #[] w fun e w' => e = .returned (.agg (gsA gs0)) ∧ Up w w' := by
  have HF := Lib.hid (fun wx => first_any wx)
  have HM := Lib.hid (fun wx => mark_any 0 0 (strOfNums gen32) none 0 0 wx)
  show Calls Try.prog 6 #[] w fun e w' => e = .returned (.agg #[.int .i64 0, .int .i64 0, .int .i64 0, .string ⟨#[]⟩, .int .i64 0, .int .i64 0, .string ⟨#[]⟩, .int .i64 0, .int .i64 0, .string (strOfNums gen32), .bool false]) ∧ Up w w'
  generalize strOfNums gen32 = GS at HF HM ⊢
  have hone : (#[.int .i64 0, .int .i64 0, .int .i64 0, .string ⟨#[]⟩, .int .i64 0, .int .i64 0, .string ⟨#[]⟩, .int .i64 0, .int .i64 0, .string GS, .bool false] : Array Value).all (·.oneCell') = true := by simp [Value.oneCell']
  have HB0 := Lib.hid (heap_alloc_new w (.cells #[.int .i64 0, .int .i64 0, .int .i64 0, .string ⟨#[]⟩, .int .i64 0, .int .i64 0, .string ⟨#[]⟩, .int .i64 0, .int .i64 0, .string ⟨#[]⟩, .bool false] 28))
  have HU0 := Lib.hid (Up.alloc (Up.refl w) (.cells #[.int .i64 0, .int .i64 0, .int .i64 0, .string ⟨#[]⟩, .int .i64 0, .int .i64 0, .string ⟨#[]⟩, .int .i64 0, .int .i64 0, .string ⟨#[]⟩, .bool false] 28))
  go_enter Try.func6, Try.ntmps6
  go_wp2_with fail
  with_reducible refine Calls.mono (HF.out _) ?_
  rintro e w1 ⟨rfl, hU1⟩
  have HU1 := Lib.hid (Up.trans HU0.out hU1)
  have B1 := Lib.hid ((hU1.block _ (lt_of_block HB0.out)).trans HB0.out)
  clear hU1
  go_wp2_with fail
  with_reducible refine Calls.mono (HM.out _) ?_
  rintro e w2 ⟨rfl, hU2⟩
  have HU2 := Lib.hid (Up.trans HU1.out hU2)
  have B2 := Lib.hid ((hU2.block _ (lt_of_block B1.out)).trans B1.out)
  clear hU2
  go_wp2_with (refine wpList_store_agg rfl 28 (.tmp 0) (.tmp 3) rfl w.heap.size _ #[.int .i64 0, .int .i64 0, .int .i64 0, .string ⟨#[]⟩, .int .i64 0, .int .i64 0, .string ⟨#[]⟩, .int .i64 0, .int .i64 0, .string GS, .bool false] rfl rfl 28 B2.out info_gs rfl hone ?_; intro w12 hg12 hgr12)
  exact bodyPost_ret (results_gs rfl _ _ _ _ rfl hg12 rfl) rfl ⟨rfl, up_at HU2.out hgr12 (Nat.le_refl _)⟩
end
end Go.Proofs.Ytnipkhgaceicbaa
