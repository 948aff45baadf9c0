import Derived.Test.YtnipkhgaceicbaaTrFollow
/-
  tree.Extends, tree.Get.
-/
namespace Go.Proofs.Ytnipkhgaceicbaa
set_option maxRecDepth 100000
section
set_option linter.unusedVariables false
open Go.RowKit Go.Sort Go.Lib

/-- what Extends answers -/
def extT (T : ByteArray → Option Tb) (n : Nat) (name other : ByteArray) : Bool :=
  decide ((followL (walkL T n name) ((atT T name).V, (atT T name).H, name)).2 = ((0 : Int), (0 : Int), gName)) && foundL (decide (name = other)) other (followL (walkL T n name) ((atT T name).V, (atT T name).H, name)).1
set_option maxHeartbeats 1000000 in
theorem extends_any {w : World} {g mb n : Nat} {T : ByteArray → Option Tb} (h : TreeC w g mb n T) (hn : n ≤ 4611686018427387904) (name other : ByteArray) (hs : name.size ≤ maxLen) :
    Calls Try.prog 20 #[.pointer (some ⟨g, 0, none⟩), .string name, .string other] w fun e w' => e = .returned (.bool (extT T n name other)) ∧ Up w w' := by
  have hd : (name.toList == other.toList) = decide (name = other) := toList_dec
  obtain ⟨D, hD⟩ : ∃ D, decide (name = other) = D := ⟨_, rfl⟩
  unfold extT
  rw [hD] at hd ⊢
  have hu1 := Up.alloc (Up.refl w) (.cells #[.string other] 9)
  have ho := heap_alloc_new w (.cells #[.string other] 9)
  have hu2 := Up.alloc (Up.refl (w.alloc (.cells #[.string other] 9))) (.cells #[.bool D] 4)
  have hf := heap_alloc_new (w.alloc (.cells #[.string other] 9)) (.cells #[.bool D] 4)
  rw [World.size_alloc] at hf
  have ho2 := row_up ho hu2
  have hmw := h.map.lt
  have hgw := lt_of_block h.root
  have HF := Lib.hid (followE_any ((h.up hu1).up hu2) hn name hs (w.heap.size + 1) w.heap.size D other hf ho2 (by omega) (by omega) (by omega))
  have HU2 := Lib.hid (hu1.trans hu2)
  have HSZ : Hid (w.heap.size ≤ w.heap.size + 1) := Lib.hid (by omega)
  generalize decide ((followL (walkL T n name) ((atT T name).V, (atT T name).H, name)).2 = ((0 : Int), (0 : Int), gName)) = KN at HF ⊢
  generalize foundL D other (followL (walkL T n name) ((atT T name).V, (atT T name).H, name)).1 = FD at HF ⊢
  clear h hu1 ho hu2 hf ho2 hmw hgw hD
  go_enter Try.func20, Try.ntmps20
  go_wp2_with fail
  with_reducible refine Calls.mono HF.out ?_
  rintro e w3 ⟨rfl, r, hK⟩
  have cf := tx_cell r 0 (v := .bool FD) rfl
  have HU3 : Hid (Up w w3) := Lib.hid (up_kept HU2.out hK HSZ.out)
  clear r hK HF
  cases KN with
  | true =>
    go_wp2
    go_ret
    exact ⟨rfl, HU3.out⟩
  | false =>
    go_wp2
    go_ret
    exact ⟨rfl, HU3.out⟩
theorem tb0_in (W : World) : TbIn W tb0 := ⟨⟨none, 0, rfl, Nat.le_refl _, fun _ => rfl, .inl rfl⟩, ⟨none, 0, rfl, Nat.le_refl _, fun _ => rfl, .inl rfl⟩⟩
theorem TreeAt.at {w : World} {g mb n : Nat} {T : ByteArray → Option Tb} (h : TreeAt w g mb n T) (s : ByteArray) : TbIn w (atT T s) := by
  unfold atT
  cases hq : T s with
  | none => exact tb0_in w
  | some x => exact h.lists s x hq
theorem results_bk2 {fn : Func} {p q : Tmp} (h : fn.results = #[.cell p 41, .tmp q]) (tmps : Array Value) (w : World) (B : Nat) (cs : Array Value) (hp : tmps.getD p undef = .pointer (some ⟨B, 0, none⟩))
    (hg : w.heap[B]? = some (.cells cs 41 (0, 0))) (hs : cs.size = 9) :
    (results fn tmps).run Try.prog w = .ok (.tuple #[.agg cs, tmps.getD q undef]) w := by
  have hp' : tmps[p]?.getD undef = .pointer (some ⟨B, 0, none⟩) := by simpa using hp
  have hl := run_loadVar_row (P := Try.prog) w B 41 41 cs (0, 0) _ hg Try.underlying41 rfl (by rw [info_bk, hs])
  simp [results, h, hp', asAddr, hl]
set_option maxHeartbeats 1000000 in
/-- what Get answers -/
theorem treeGet_any {w : World} {g mb n : Nat} {T : ByteArray → Option Tb} (h : TreeAt w g mb n T) (hb : ∀ s x, T s = some x → x.vs.length * 72 ≤ 140737488355328 ∧ x.tx.length * 48 ≤ 140737488355328) (s : ByteArray) (hs : s.size ≤ maxLen) :
    Calls Try.prog 32 #[.pointer (some ⟨g, 0, none⟩), .string s] w fun e w' => ∃ ra rc rb rbc, e = .returned (.tuple #[.agg (tbA ((atT T s).at ra rc rb rbc)), .bool (T s).isSome]) ∧ TbIn w' ((atT T s).at ra rc rb rbc) ∧ Up w w' := by
  have hb' : (atT T s).vs.length * 72 ≤ 140737488355328 ∧ (atT T s).tx.length * 48 ≤ 140737488355328 := by
    unfold atT
    cases hq : T s with
    | none => exact ⟨by simp [tb0], by simp [tb0]⟩
    | some x => exact hb s x hq
  have hu1 := Up.alloc (Up.refl w) (.cells #[.int .i64 0, .int .i64 0, .string ⟨#[]⟩, .int .i64 0, .int .i64 0, .string ⟨#[]⟩, .slice none 0 0, .slice none 0 0, .string ⟨#[]⟩] 41)
  have hb1 := heap_alloc_new w (.cells #[.int .i64 0, .int .i64 0, .string ⟨#[]⟩, .int .i64 0, .int .i64 0, .string ⟨#[]⟩, .slice none 0 0, .slice none 0 0, .string ⟨#[]⟩] 41)
  have HK := Lib.hid (kept_any g _ _ (row_up h.root hu1))
  have HM := Lib.hid (h.map.up hu1)
  have HI := Lib.hid ((h.at s).up hu1)
  have HU1 := Lib.hid hu1
  have HB1 := Lib.hid hb1
  have HC := Lib.hid (fun wx hx => copied_any (atT T s) wx hx hb'.1 hb'.2)
  have hwlt : w.heap.size < (w.alloc (.cells #[.int .i64 0, .int .i64 0, .string ⟨#[]⟩, .int .i64 0, .int .i64 0, .string ⟨#[]⟩, .slice none 0 0, .slice none 0 0, .string ⟨#[]⟩] 41)).heap.size := by simp
  have HWL := Lib.hid hwlt
  clear h hb hb' hu1 hb1 hwlt
  go_enter Try.func32, Try.ntmps32
  go_wp2_with fail
  with_reducible refine Calls.mono HK.out ?_
  rintro e w1 ⟨rfl, hw1⟩
  rw [hw1]
  clear hw1
  generalize w.alloc (.cells #[.int .i64 0, .int .i64 0, .string ⟨#[]⟩, .int .i64 0, .int .i64 0, .string ⟨#[]⟩, .slice none 0 0, .slice none 0 0, .string ⟨#[]⟩] 41) = w2 at *
  have HU2 := Lib.hid (Up.alloc (Up.refl w2) (.cells (tbA (atT T s)) 41))
  have HB2 := Lib.hid (heap_alloc_new w2 (.cells (tbA (atT T s)) 41))
  go_wp2_with (first | (at_lookup; refine wpList_treeAt rfl _ _ rfl HM.out hs rfl rfl ?_) | (refine wpList_exs rfl _ (ex_fillTb (x := .tmp 6) (y := .tmp 13) (W := w2) rfl rfl rfl rfl) ?_) | (refine wpList_ex rfl (.agg (tbA (atT T s))) _ (ex_loadrow (x := .tmp 6) rfl rfl _ 41 HB2.out Try.underlying41 rfl info_bk) ?_))
  with_reducible refine Calls.mono (HC.out _ (HI.out.up HU2.out)) ?_
  rintro e w3 ⟨ra, rc, rb, rbc, rfl, hI, hU, hN⟩
  have HN3 : Hid (∀ b o, ra = some ⟨b, o, none⟩ ∨ rb = some ⟨b, o, none⟩ → w.heap.size < b) := Lib.hid fun b o e => Nat.lt_of_lt_of_le HWL.out (Nat.le_trans HU2.out.size (hN b o e))
  have HU3 := Lib.hid (HU2.out.trans hU)
  have HI3 := Lib.hid hI
  have HB3 := Lib.hid (row_up HB1.out HU3.out)
  clear hI hU hN
  go_wp2_with (refine wpList_store_agg rfl 41 (.tmp 4) (.tmp 16) rfl w.heap.size _ (tbA ((atT T s).at ra rc rb rbc)) rfl rfl 41 HB3.out info_bk rfl (tbA_one _) ?_; intro w4 hg4 hgr4)
  refine bodyPost_ret (results_bk2 rfl _ _ _ _ rfl hg4 rfl) rfl ⟨ra, rc, rb, rbc, rfl, ?_, up_at (HU1.out.trans HU3.out) hgr4 (Nat.le_refl _)⟩
  have hk : KeptBut (fun k => k = w.heap.size) w3 w4 := KeptBut.of_grown (S := fun k => k = w.heap.size) hgr4 (fun k e => by cases e; rfl)
  exact ⟨varg_but HI3.out.1 hk (fun b o e => by have := HN3.out b o (.inr e); omega), targ_but HI3.out.2 hk (fun b o e => by have := HN3.out b o (.inl e); omega)⟩
end
end Go.Proofs.Ytnipkhgaceicbaa
