import Derived.Test.YtacamknljicjmaaMsData
/-
  message: may a cert be, may statements be?
-/
namespace Go.Proofs.Ytacamknljicjmaa
set_option maxRecDepth 100000
section
set_option linter.unusedVariables false
open Go.RowKit Go.Sort Go.Lib

theorem msWithin_any (n least most : Int) (w : World) :
    Calls Try.prog 62 #[.int .i64 n, .int .i64 least, .int .i64 most] w fun e w' => e = .returned (.bool (decide (least ≤ n ∧ n ≤ most))) ∧ w = w' := by
  by_cases h1 : least ≤ n
  · by_cases h2 : n ≤ most
    · rw [decide_eq_true (show least ≤ n ∧ n ≤ most from ⟨h1, h2⟩)]
      go_enter Try.func62, Try.ntmps62
      go_wp2
      go_ret
      exact ⟨rfl, rfl⟩
    · rw [decide_eq_false (show ¬ (least ≤ n ∧ n ≤ most) from fun h => h2 h.2)]
      go_enter Try.func62, Try.ntmps62
      go_wp2
      go_ret
      exact ⟨rfl, rfl⟩
  · rw [decide_eq_false (show ¬ (least ≤ n ∧ n ≤ most) from fun h => h1 h.1)]
    go_enter Try.func62, Try.ntmps62
    go_wp2
    go_ret
    exact ⟨rfl, rfl⟩
theorem msWithin_yes {n least most : Int} (h : least ≤ n ∧ n ≤ most) (w : World) : Calls Try.prog 62 #[.int .i64 n, .int .i64 least, .int .i64 most] w fun e w' => e = .returned (.bool true) ∧ w = w' := by
  have := msWithin_any n least most w
  rwa [decide_eq_true h] at this
theorem msWithin_no {n least most : Int} (h : ¬ (least ≤ n ∧ n ≤ most)) (w : World) : Calls Try.prog 62 #[.int .i64 n, .int .i64 least, .int .i64 most] w fun e w' => e = .returned (.bool false) ∧ w = w' := by
  have := msWithin_any n least most w
  rwa [decide_eq_false h] at this


def vsE (x : Vs) : Int := vtE x.1 x.2
theorem vsNone_any (x : Vs) (w : World) : Calls Try.prog 66 #[.agg (vsA x)] w fun e w' => e = .returned (.bool (vsE x != 0)) ∧ Up w w' := by
  have HC := Lib.hid (fun wx => vtCheck_any x.1 x.2 wx)
  have HU := Lib.hid (Up.alloc (Up.refl w) (.cells (vsA x) 29))
  rw [vsA_eq] at *
  unfold vsE
  generalize vtE x.1 x.2 = E at HC ⊢
  obtain ⟨⟨K, V, H, B, T, G⟩, S⟩ := x
  simp only at HC HU ⊢
  unfold vtC at HC HU ⊢
  simp only at HC HU ⊢
  generalize strOfNums B = BS at HC HU ⊢
  go_enter Try.func66, Try.ntmps66
  go_wp2_with fail
  with_reducible refine Calls.mono (HC.out _) ?_
  rintro e w1 ⟨rfl, u1⟩
  have HU1 := Lib.hid (Up.trans HU.out u1)
  go_wp2
  go_ret
  exact ⟨rfl, HU1.out⟩

theorem vsIndex_nil (g : FuncId) (cb : Array Value) (a : Option Addr) (cap : Nat) (w : World) :
    Calls Try.prog 76 #[.slice a 0 cap, .func (.func g) #[] cb] w fun e w' => e = .returned (.int .i64 (-1)) ∧ Up w w' := by
  go_enter Try.func76, Try.ntmps76
  go_wp2
  go_loopw [8] (fun vi wr => vi = .int .i64 0 ∧ Hid (Up w wr)) (fun _ _ => 0)
  case atStart => exact ⟨rfl, Lib.hid (Up.refl _)⟩
  case round =>
    obtain ⟨rfl, HU⟩ := hrel
    go_wp2
    go_ret
    exact ⟨rfl, HU.out⟩
theorem vsContains_nil (g : FuncId) (cb : Array Value) (a : Option Addr) (cap : Nat) (w : World) :
    Calls Try.prog 67 #[.slice a 0 cap, .func (.func g) #[] cb] w fun e w' => e = .returned (.bool false) ∧ Up w w' := by
  have Hc := Lib.hid (fun wx => vsIndex_nil g cb a cap wx)
  go_enter Try.func67, Try.ntmps67
  go_wp2_with fail
  with_reducible refine Calls.mono (Hc.out _) ?_
  rintro e w1 ⟨rfl, u⟩
  have HU := Lib.hid u
  go_wp2
  go_ret
  exact ⟨rfl, HU.out⟩
/-- does one not meet it? of whatever slice of statements -/
theorem vsContains_of (g : FuncId) (cb : Array Value) (eg : ∀ args w, (callFunc g args).run Try.prog w = .ok (.enter g args) w) (p : Vs → Bool) (a : Option Addr) (n cap : Nat) (xs : List Vs) (hn : n < 4611686018427387904) (w : World) (ht : VArg w (.slice a n cap) xs)
    (hc : ∀ x W, x ∈ xs → Up w W → Calls Try.prog g (#[.agg (vsA x)] ++ cb) W fun e w' => e = .returned (.bool (p x)) ∧ Up w w') :
    Calls Try.prog 67 #[.slice a n cap, .func (.func g) #[] cb] w fun e w' => e = .returned (.bool (xs.any p)) ∧ Up w w' := by
  have hl := ht.len
  by_cases h0 : n = 0
  · subst h0
    have : xs = [] := List.eq_nil_of_length_eq_zero hl
    subst this
    exact vsContains_nil g cb a cap w
  · obtain ⟨b, off, rfl⟩ := ht.ptr (by omega)
    have hu : ∀ i, i < n → xs[i]? = some (xs[i]?.getD default) := fun i hi => by rw [List.getElem?_eq_getElem (by omega)]; rfl
    refine (contains_any g cb eg (fun _ W => Up w W) (fun i => xs[i]?.getD default) (fun i => p (xs[i]?.getD default)) b off n cap hn (fun i W hi u => (ht.up u).load (hu i hi))
      (fun i W hi u => hc _ W (List.mem_of_getElem? (hu i hi)) u) w (Up.refl w)).mono ?_
    rintro e w' ⟨k, h1, h2, h3, rfl, h5⟩
    refine ⟨?_, h5⟩
    congr 2
    by_cases hk : k < n
    · rw [decide_eq_true hk]
      symm
      rw [List.any_eq_true]
      exact ⟨_, List.mem_of_getElem? (hu k hk), h3 hk⟩
    · rw [decide_eq_false hk]
      symm
      rw [List.any_eq_false]
      intro x hx
      obtain ⟨j, hj⟩ := List.getElem?_of_mem hx
      have hj2 : j < k := by have := (List.getElem?_eq_some_iff.1 hj).1; omega
      have := h2 j hj2
      rw [hj] at this
      simpa using this


/-- so many statements that may be -/
def VsMay (l : List Vs) : Prop := l.length ≤ 7 ∧ ∀ x ∈ l, vsE x = 0
theorem votesMayBe_any (a : Option Addr) (n cap : Nat) (xs : List Vs) (w : World) (ht : VArg w (.slice a n cap) xs) :
    Calls Try.prog 44 #[.slice a n cap] w fun e w' => e = .returned (.bool (bD (VsMay xs))) ∧ Up w w' := by
  have hl := ht.len
  by_cases h4 : n ≤ 7
  · have hz : (n : Int) ≤ 7 := by omega
    have HC := Lib.hid (vsContains_of 66 #[] (enters_of Try.func66 (by kernel_rfl) rfl) (fun x => vsE x != 0) a n cap xs (by omega) w ht (fun x W hx u => (vsNone_any x W).mono fun e w' h => ⟨h.1, Up.trans u h.2⟩))
    have HE : Hid ((!xs.any fun x => vsE x != 0) = bD (VsMay xs)) := Lib.hid (by
      rw [Bool.eq_iff_iff, bD_iff, Bool.not_eq_true', List.any_eq_false]
      constructor
      · intro h
        exact ⟨by omega, fun x hx => by have := h x hx; simpa using this⟩
      · intro h x hx
        simp [h.2 x hx])
    generalize (xs.any fun x => vsE x != 0) = b at HC HE
    rw [← HE.out]
    clear HE ht hl
    go_enter Try.func44, Try.ntmps44
    go_wp2_with fail
    with_reducible refine Calls.mono HC.out ?_
    rintro e w1 ⟨rfl, u⟩
    have HU := Lib.hid u
    go_wp2
    go_ret
    exact ⟨rfl, HU.out⟩
  · have hz : ¬ (n : Int) ≤ 7 := by omega
    rw [bD_false (fun h => h4 (by have := h.1; omega))]
    clear ht hl
    go_enter Try.func44, Try.ntmps44
    go_wp2
    go_ret
    exact ⟨rfl, Up.refl _⟩

/-- a cert that goes about -/
def CtMay (V H : Int) (B : ByteArray) (xs : List Vs) : Prop := (0 ≤ V ∧ V ≤ 1048576) ∧ (0 ≤ H ∧ H ≤ 1048576) ∧ B.size = 32 ∧ VsMay xs
set_option maxHeartbeats 1000000 in
theorem certMayBe_any (V H : Int) (B : ByteArray) (a : Option Addr) (n cap : Nat) (xs : List Vs) (w : World) (ht : VArg w (.slice a n cap) xs) :
    Calls Try.prog 42 #[.agg #[.int .i64 V, .int .i64 H, .string B, .slice a n cap]] w fun e w' => e = .returned (.bool (bD (CtMay V H B xs))) ∧ Up w w' := by
  have hu := Up.alloc (Up.refl w) (.cells #[.int .i64 V, .int .i64 H, .string B, .slice a n cap] 24)
  have HC : Hid (Calls Try.prog 44 #[.slice a n cap] (w.alloc (.cells #[.int .i64 V, .int .i64 H, .string B, .slice a n cap] 24)) fun e w' => e = .returned (.bool (bD (VsMay xs))) ∧ Up (w.alloc (.cells #[.int .i64 V, .int .i64 H, .string B, .slice a n cap] 24)) w') := votesMayBe_any a n cap xs _ (ht.up hu)
  have HU := Lib.hid hu
  have F1 : Hid (¬ (0 ≤ V ∧ V ≤ 1048576) → bD (CtMay V H B xs) = false) := fun g => bD_false (fun h => g h.1)
  have F2 : Hid (¬ (0 ≤ H ∧ H ≤ 1048576) → bD (CtMay V H B xs) = false) := fun g => bD_false (fun h => g h.2.1)
  have F3 : Hid (¬ B.size = 32 → bD (CtMay V H B xs) = false) := fun g => bD_false (fun h => g h.2.2.1)
  have F4 : Hid ((0 ≤ V ∧ V ≤ 1048576) → (0 ≤ H ∧ H ≤ 1048576) → B.size = 32 → bD (CtMay V H B xs) = bD (VsMay xs)) := fun g1 g2 g3 => bD_congr ⟨fun h => h.2.2.2, fun h => ⟨g1, g2, g3, h⟩⟩
  generalize bD (CtMay V H B xs) = RES at F1 F2 F3 F4 ⊢
  generalize bD (VsMay xs) = EV at HC F4
  clear ht hu
  by_cases g1 : 0 ≤ V ∧ V ≤ 1048576
  · have W1 := Lib.hid (fun wx => msWithin_yes g1 wx)
    by_cases g2 : 0 ≤ H ∧ H ≤ 1048576
    · have W2 := Lib.hid (fun wx => msWithin_yes g2 wx)
      by_cases g3 : B.size = 32
      · have e3 : ((B.size : Int) == 32) = true := by rw [beq_iff_eq]; omega
        have hr := (F4.out g1 g2 g3).symm
        subst hr
        clear F1 F2 F3 F4 g1 g2 g3
        go_enter Try.func42, Try.ntmps42
        go_wp2_with fail
        with_reducible refine Calls.mono (W1.out _) ?_
        rintro e w1 ⟨rfl, rfl⟩
        go_wp2_with fail
        with_reducible refine Calls.mono (W2.out _) ?_
        rintro e w1 ⟨rfl, rfl⟩
        go_wp2_with fail
        with_reducible refine Calls.mono HC.out ?_
        rintro e w1 ⟨rfl, u1⟩
        have HU1 := Lib.hid (Up.trans HU.out u1)
        go_wp2
        go_ret
        exact ⟨rfl, HU1.out⟩
      · have e3 : ((B.size : Int) == 32) = false := by rw [beq_eq_false_iff_ne]; omega
        obtain rfl := F3.out g3
        clear F1 F2 F3 F4 g1 g2 g3
        go_enter Try.func42, Try.ntmps42
        go_wp2_with fail
        with_reducible refine Calls.mono (W1.out _) ?_
        rintro e w1 ⟨rfl, rfl⟩
        go_wp2_with fail
        with_reducible refine Calls.mono (W2.out _) ?_
        rintro e w1 ⟨rfl, rfl⟩
        go_wp2
        go_ret
        exact ⟨rfl, HU.out⟩
    · have W2 := Lib.hid (fun wx => msWithin_no g2 wx)
      obtain rfl := F2.out g2
      clear F1 F2 F3 F4 g1 g2
      go_enter Try.func42, Try.ntmps42
      go_wp2_with fail
      with_reducible refine Calls.mono (W1.out _) ?_
      rintro e w1 ⟨rfl, rfl⟩
      go_wp2_with fail
      with_reducible refine Calls.mono (W2.out _) ?_
      rintro e w1 ⟨rfl, rfl⟩
      go_wp2
      go_ret
      exact ⟨rfl, HU.out⟩
  · have W1 := Lib.hid (fun wx => msWithin_no g1 wx)
    obtain rfl := F1.out g1
    clear F1 F2 F3 F4 g1
    go_enter Try.func42, Try.ntmps42
    go_wp2_with fail
    with_reducible refine Calls.mono (W1.out _) ?_
    rintro e w1 ⟨rfl, rfl⟩
    go_wp2
    go_ret
    exact ⟨rfl, HU.out⟩
end
end Go.Proofs.Ytacamknljicjmaa
