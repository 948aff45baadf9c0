import Derived.Test.YtjjaefacfcjgiaaBits
/-
  SHA-256 in plain mathematics: words are integers from 0 to below 2^32.
-/
namespace Go.Proofs.Ytjjaefacfcjgiaa
set_option linter.unusedVariables false

/-- x turned right by n -/
def rotr (x : Int) (n : Nat) : Int := x / 2 ^ n + x % 2 ^ n * 2 ^ (32 - n)
/-- S0 and S1 -/
def big (x : Int) (i j k : Nat) : Int := bits .xor .u32 (bits .xor .u32 (rotr x i) (rotr x j)) (rotr x k)
/-- s0 and s1 -/
def sml (x : Int) (i j k : Nat) : Int := bits .xor .u32 (bits .xor .u32 (rotr x i) (rotr x j)) (x / 2 ^ k)
def chs (e f g : Int) : Int := bits .xor .u32 (bits .and .u32 e f) (bits .and .u32 (bits .xor .u32 4294967295 e) g)
def maj (a b c : Int) : Int := bits .xor .u32 (bits .xor .u32 (bits .and .u32 a b) (bits .and .u32 a c)) (bits .and .u32 b c)

/-- the eight words -/
structure St where
  a : Int
  b : Int
  c : Int
  d : Int
  e : Int
  f : Int
  g : Int
  h : Int

def t1 (s : St) (k w : Int) : Int := (s.h + big s.e 6 11 25 + chs s.e s.f s.g + k + w) % 4294967296
def t2 (s : St) : Int := (big s.a 2 13 22 + maj s.a s.b s.c) % 4294967296
def rnd (s : St) (k w : Int) : St := ⟨(t1 s k w + t2 s) % 4294967296, s.a, s.b, s.c, (s.d + t1 s k w) % 4294967296, s.e, s.f, s.g⟩
def comp (ws ks : List Int) (s : St) : Nat → St
  | 0 => s
  | k + 1 => rnd (comp ws ks s k) (ks[k]?.getD 0) (ws[k]?.getD 0)
def addSt (s t : St) : St := ⟨(s.a + t.a) % 4294967296, (s.b + t.b) % 4294967296, (s.c + t.c) % 4294967296, (s.d + t.d) % 4294967296, (s.e + t.e) % 4294967296, (s.f + t.f) % 4294967296, (s.g + t.g) % 4294967296, (s.h + t.h) % 4294967296⟩
def St.list (s : St) : List Int := [s.a, s.b, s.c, s.d, s.e, s.f, s.g, s.h]

/-- the word behind the first of them -/
def schedNext (l : List Int) : Int :=
  (sml (l[l.length - 2]?.getD 0) 17 19 10 + l[l.length - 7]?.getD 0 + sml (l[l.length - 15]?.getD 0) 7 18 3 + l[l.length - 16]?.getD 0) % 4294967296
def sched (b : List Int) : Nat → List Int
  | 0 => b
  | k + 1 => sched b k ++ [schedNext (sched b k)]
/-- the first k words of the block at a place -/
def blkWords (p : List Int) (q k : Nat) : List Int := (List.range k).map fun t => wordUp p (q + 4 * t) 4
/-- all 64 -/
def allWords (p : List Int) (q : Nat) : List Int := sched (blkWords p q 16) 48

def hSt : St := ⟨0x6a09e667, 0xbb67ae85, 0x3c6ef372, 0xa54ff53a, 0x510e527f, 0x9b05688c, 0x1f83d9ab, 0x5be0cd19⟩
def kL : List Int := [
  0x428a2f98, 0x71374491, 0xb5c0fbcf, 0xe9b5dba5, 0x3956c25b, 0x59f111f1, 0x923f82a4, 0xab1c5ed5,
  0xd807aa98, 0x12835b01, 0x243185be, 0x550c7dc3, 0x72be5d74, 0x80deb1fe, 0x9bdc06a7, 0xc19bf174,
  0xe49b69c1, 0xefbe4786, 0x0fc19dc6, 0x240ca1cc, 0x2de92c6f, 0x4a7484aa, 0x5cb0a9dc, 0x76f988da,
  0x983e5152, 0xa831c66d, 0xb00327c8, 0xbf597fc7, 0xc6e00bf3, 0xd5a79147, 0x06ca6351, 0x14292967,
  0x27b70a85, 0x2e1b2138, 0x4d2c6dfc, 0x53380d13, 0x650a7354, 0x766a0abb, 0x81c2c92e, 0x92722c85,
  0xa2bfe8a1, 0xa81a664b, 0xc24b8b70, 0xc76c51a3, 0xd192e819, 0xd6990624, 0xf40e3585, 0x106aa070,
  0x19a4c116, 0x1e376c08, 0x2748774c, 0x34b0bcb5, 0x391c0cb3, 0x4ed8aa4a, 0x5b9cca4f, 0x682e6ff3,
  0x748f82ee, 0x78a5636f, 0x84c87814, 0x8cc70208, 0x90befffa, 0xa4506ceb, 0xbef9a3f7, 0xc67178f2]

def blockSt (s : St) (p : List Int) (q : Nat) : St := addSt s (comp (allWords p q) kL s 64)
/-- the state behind the first blocks -/
def takeSt (s : St) (p : List Int) : Nat → St
  | 0 => s
  | i + 1 => blockSt (takeSt s p i) p (64 * i)

/-- how many zeros -/
def zerosOf (n : Nat) : Nat := (55 + 64 - n % 64) % 64
def padTail (n : Nat) : List Int := 128 :: (List.replicate (zerosOf n) 0 ++ octAll (8 * n) 8)
def padB (bs : List Int) : List Int := bs ++ padTail bs.length
def sumSt (bs : List Int) : St := takeSt hSt (padB bs) ((padB bs).length / 64)
/-- THE SUM. -/
def sumB (bs : List Int) : List Int := wordsB (sumSt bs).list

theorem padTail_length (n : Nat) : (padTail n).length = zerosOf n + 9 := by
  simp [padTail, octAll_length]
theorem padB_length (bs : List Int) : (padB bs).length = bs.length + zerosOf bs.length + 9 := by
  unfold padB; rw [List.length_append, padTail_length]; omega
theorem padB_64 (bs : List Int) : (padB bs).length % 64 = 0 := by
  rw [padB_length]; unfold zerosOf; omega
theorem sumB_length (bs : List Int) : (sumB bs).length = 32 := by
  unfold sumB; rw [wordsB_length]; rfl

/-- words so far, and zeros up to 64 -/
def fill64 (l : List Int) : List Int := l ++ List.replicate (64 - l.length) 0
theorem fill64_nil : fill64 [] = List.replicate 64 0 := rfl
theorem fill64_full (l : List Int) (h : l.length = 64) : fill64 l = l := by simp [fill64, h]
theorem fill64_length (l : List Int) (h : l.length ≤ 64) : (fill64 l).length = 64 := by simp [fill64]; omega
theorem fill64_at (l : List Int) (j : Nat) (h : j < l.length) : (fill64 l)[j]?.getD 0 = l[j]?.getD 0 := by
  unfold fill64; rw [List.getElem?_append_left h]
theorem fill64_set (l : List Int) (x : Int) (h : l.length < 64) : (fill64 l).set l.length x = fill64 (l ++ [x]) := by
  unfold fill64
  rw [List.set_append_right _ _ (Nat.le_refl _), Nat.sub_self, List.append_assoc]
  congr 1
  rw [show 64 - l.length = (64 - (l ++ [x]).length) + 1 from by simp; omega, List.replicate_succ, List.set_cons_zero]
  rfl
theorem blkWords_length (p : List Int) (q k : Nat) : (blkWords p q k).length = k := by simp [blkWords]
theorem blkWords_succ (p : List Int) (q k : Nat) : blkWords p q (k + 1) = blkWords p q k ++ [wordUp p (q + 4 * k) 4] := by simp [blkWords, List.range_succ]
theorem sched_length (b : List Int) (k : Nat) : (sched b k).length = b.length + k := by
  induction k with
  | zero => rfl
  | succ k ih => simp [sched, ih]; omega
theorem allWords_length (p : List Int) (q : Nat) : (allWords p q).length = 64 := by simp [allWords, sched_length, blkWords_length]

/-- all are words -/
def U32s (l : List Int) : Prop := ∀ j : Nat, 0 ≤ l[j]?.getD 0 ∧ l[j]?.getD 0 < 4294967296
theorem U32s.nil : U32s [] := fun j => by simp
theorem U32s.snoc {l : List Int} {x : Int} (h : U32s l) (hx : 0 ≤ x ∧ x < 4294967296) : U32s (l ++ [x]) := by
  intro j
  rcases Nat.lt_trichotomy j l.length with hj | hj | hj
  · rw [List.getElem?_append_left hj]; exact h j
  · subst hj; simpa using hx
  · rw [List.getElem?_eq_none (by simp; omega)]; decide
theorem wordUp_u32 (bs : List Int) (h : U8s bs) (p : Nat) : 0 ≤ wordUp bs p 4 ∧ wordUp bs p 4 < 4294967296 := by
  have := wordUp_range bs h p 4
  omega
theorem blkWords_u32 (p : List Int) (h : U8s p) (q k : Nat) : U32s (blkWords p q k) := by
  induction k with
  | zero => exact U32s.nil
  | succ k ih => rw [blkWords_succ]; exact ih.snoc (wordUp_u32 p h _)
theorem schedNext_u32 (l : List Int) : 0 ≤ schedNext l ∧ schedNext l < 4294967296 := by unfold schedNext; omega
theorem sched_u32 (b : List Int) (h : U32s b) (k : Nat) : U32s (sched b k) := by
  induction k with
  | zero => exact h
  | succ k ih => exact ih.snoc (schedNext_u32 _)
theorem bits_u32 (o : BinOp) (a b : Int) (h : o = .xor ∨ o = .and ∨ o = .or) : 0 ≤ bits o .u32 a b ∧ bits o .u32 a b < 4294967296 := by
  rcases h with rfl | rfl | rfl
  all_goals
    show 0 ≤ IntKind.u32.wrap _ ∧ IntKind.u32.wrap _ < _
    rw [IntKind.wrap_u32']; omega
theorem big_u32 (x : Int) (i j k : Nat) : 0 ≤ big x i j k ∧ big x i j k < 4294967296 := bits_u32 _ _ _ (.inl rfl)
theorem sml_u32 (x : Int) (i j k : Nat) : 0 ≤ sml x i j k ∧ sml x i j k < 4294967296 := bits_u32 _ _ _ (.inl rfl)

structure St.Ok (s : St) : Prop where
  a : 0 ≤ s.a ∧ s.a < 4294967296
  b : 0 ≤ s.b ∧ s.b < 4294967296
  c : 0 ≤ s.c ∧ s.c < 4294967296
  d : 0 ≤ s.d ∧ s.d < 4294967296
  e : 0 ≤ s.e ∧ s.e < 4294967296
  f : 0 ≤ s.f ∧ s.f < 4294967296
  g : 0 ≤ s.g ∧ s.g < 4294967296
  h : 0 ≤ s.h ∧ s.h < 4294967296
theorem rnd_ok {s : St} (h : s.Ok) (k w : Int) : (rnd s k w).Ok :=
  ⟨by show 0 ≤ _ % _ ∧ _ % _ < _; omega, h.a, h.b, h.c, by show 0 ≤ _ % _ ∧ _ % _ < _; omega, h.e, h.f, h.g⟩
theorem comp_ok {s : St} (h : s.Ok) (ws ks : List Int) (k : Nat) : (comp ws ks s k).Ok := by
  induction k with
  | zero => exact h
  | succ k ih => exact rnd_ok ih _ _
theorem addSt_ok (s t : St) : (addSt s t).Ok := by
  constructor <;> (show 0 ≤ _ % _ ∧ _ % _ < _; omega)
theorem blockSt_ok (s : St) (p : List Int) (q : Nat) : (blockSt s p q).Ok := addSt_ok _ _
theorem hSt_ok : hSt.Ok := by constructor <;> decide
theorem takeSt_ok {s : St} (h : s.Ok) (p : List Int) (i : Nat) : (takeSt s p i).Ok := by
  cases i with
  | zero => exact h
  | succ i => exact blockSt_ok _ _ _
theorem kL_u32 : U32s kL := by
  intro j
  by_cases h : j < 64
  · revert j; decide +kernel
  · rw [List.getElem?_eq_none (by show 64 ≤ j; omega)]; decide
theorem St.list_u32 {s : St} (h : s.Ok) : U32s s.list := by
  intro j
  match j with
  | 0 => exact h.a
  | 1 => exact h.b
  | 2 => exact h.c
  | 3 => exact h.d
  | 4 => exact h.e
  | 5 => exact h.f
  | 6 => exact h.g
  | 7 => exact h.h
  | j + 8 => rw [List.getElem?_eq_none (by show 8 ≤ j + 8; omega)]; decide

theorem addSt_at (s t : St) (k : Nat) (hk : k < 8) : (addSt s t).list[k]?.getD 0 = (s.list[k]?.getD 0 + t.list[k]?.getD 0) % 4294967296 := by
  have h : k = 0 ∨ k = 1 ∨ k = 2 ∨ k = 3 ∨ k = 4 ∨ k = 5 ∨ k = 6 ∨ k = 7 := by omega
  rcases h with rfl | rfl | rfl | rfl | rfl | rfl | rfl | rfl <;> rfl
theorem St.len (s : St) : s.list.length = 8 := rfl

/-- the octets of a block -/
def blockOf (p : List Int) (q : Nat) : List Int := (p.drop q).take 64
theorem blockOf_length (p : List Int) (q : Nat) (h : q + 64 ≤ p.length) : (blockOf p q).length = 64 := by simp [blockOf]; omega
theorem blockOf_at (p : List Int) (q j : Nat) (h : j < 64) : (blockOf p q)[j]?.getD 0 = p[q + j]?.getD 0 := by
  unfold blockOf; rw [List.getElem?_take, if_pos h, List.getElem?_drop]
theorem blockOf_u8s (p : List Int) (h : U8s p) (q : Nat) : U8s (blockOf p q) := by
  intro j hj
  have hj' : j < 64 := by simp [blockOf] at hj; omega
  rw [blockOf_at p q j hj']; exact h.at p (q + j)
theorem wordUp_congr (a b : List Int) (p q : Nat) : ∀ k, (∀ j, j < k → a[p + j]?.getD 0 = b[q + j]?.getD 0) → wordUp a p k = wordUp b q k
  | 0, _ => rfl
  | k + 1, h => by unfold wordUp; rw [wordUp_congr a b p q k (fun j hj => h j (by omega)), h k (by omega)]
theorem blkWords_congr (a b : List Int) (p q : Nat) (k : Nat) (h : ∀ j, j < 4 * k → a[p + j]?.getD 0 = b[q + j]?.getD 0) : blkWords a p k = blkWords b q k := by
  unfold blkWords
  apply List.map_congr_left
  intro t ht
  have ht' := List.mem_range.1 ht
  exact wordUp_congr a b _ _ 4 fun j hj => by rw [Nat.add_assoc, Nat.add_assoc]; exact h _ (by omega)
theorem blockSt_block (s : St) (p : List Int) (q : Nat) : blockSt s (blockOf p q) 0 = blockSt s p q := by
  unfold blockSt allWords
  rw [blkWords_congr (blockOf p q) p 0 q 16 fun j hj => by rw [Nat.zero_add]; exact blockOf_at p q j (by omega)]
theorem blockSt_congr (s : St) (a b : List Int) (p q : Nat) (h : ∀ j, j < 64 → a[p + j]?.getD 0 = b[q + j]?.getD 0) : blockSt s a p = blockSt s b q := by
  unfold blockSt allWords
  rw [blkWords_congr a b p q 16 h]
theorem takeSt_succ (s : St) (p : List Int) (i : Nat) : takeSt s p (i + 1) = blockSt (takeSt s p i) (blockOf p (64 * i)) 0 := by rw [blockSt_block]; rfl
theorem takeSt_congr (s : St) (a b : List Int) : ∀ i, (∀ j, j < 64 * i → a[j]?.getD 0 = b[j]?.getD 0) → takeSt s a i = takeSt s b i
  | 0, _ => rfl
  | i + 1, h => by
    unfold takeSt
    rw [takeSt_congr s a b i (fun j hj => h j (by omega))]
    exact blockSt_congr _ _ _ _ _ fun j hj => h _ (by omega)
/-- some blocks, then others -/
theorem takeSt_append (s : St) (a b : List Int) (n : Nat) (ha : a.length = 64 * n) : ∀ m, takeSt (takeSt s a n) b m = takeSt s (a ++ b) (n + m)
  | 0 => takeSt_congr s a (a ++ b) n fun j hj => by rw [List.getElem?_append_left (by omega)]
  | m + 1 => by
    show blockSt (takeSt (takeSt s a n) b m) b (64 * m) = blockSt (takeSt s (a ++ b) (n + m)) (a ++ b) (64 * (n + m))
    rw [takeSt_append s a b n ha m]
    exact blockSt_congr _ _ _ _ _ fun j hj => by
      rw [List.getElem?_append_right (by omega), show 64 * (n + m) + j - a.length = 64 * m + j from by omega]

theorem abc_a : (takeSt hSt (padB [97, 98, 99]) 1).a = 0xba7816bf := by decide +kernel
end Go.Proofs.Ytjjaefacfcjgiaa
