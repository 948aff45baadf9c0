package signer_test

import (
	"crypto/sha256"
	"encoding/hex"
	"math"
	"math/rand"
	"slices"
	"strings"
	"sync"
	"testing"

	"moot/api"
	"moot/signer"
)

// short is what the standard library's own SHA-256 begins with.
func short(s string) string {
	sum := sha256.Sum256([]byte(s))
	return string(sum[:8])
}

// steps is the text so many steps on.
func steps(s string, n int) string {
	for ; n > 0; n-- {
		s = short(s)
	}
	return s
}

// low is the lowest octets of n, so many, the highest first.
func low(n int, size int) string {
	var b []byte
	for i := size - 1; i >= 0; i-- {
		b = append(b, byte(uint64(n)>>(8*i)))
	}
	return string(b)
}

// secret is that of a seed, a leaf and a place.
func secret(seed string, leaf, place int) string {
	return short("wots" + low(len(seed), 2) + seed + low(leaf, 4) + low(place, 1))
}

// leavesOf are those that a key of a seed and a height has to have.
func leavesOf(seed string, height int) []string {
	var l []string
	for leaf := range 1 << height {
		ends := ""
		for place := range 11 {
			ends += steps(secret(seed, leaf, place), 3)
		}
		l = append(l, short(ends))
	}
	return l
}

// digits are those that a text has.
func digits(text string) []int {
	sum := sha256.Sum256([]byte(text))
	var l []int
	left := 0
	for i := range 8 {
		d := int(sum[i/4]) / []int{64, 16, 4, 1}[i%4] % 4
		left += 3 - d
		l = append(l, d)
	}
	return append(l, left/16, left/4%4, left%4)
}

// up is the row above one that has an even number of texts.
func up(l []string) []string {
	var row []string
	for ; len(l) > 0; l = l[2:] {
		row = append(row, short(l[0]+l[1]))
	}
	return row
}

// rootOf is the root of leaves of which there are 1, 2, 4 and so on.
func rootOf(l []string) string {
	for len(l) > 1 {
		l = up(l)
	}
	return l[0]
}

// pathOf is the neighbours that a leaf meets on its way up, one behind the other.
func pathOf(l []string, at int) string {
	path := ""
	for ; len(l) > 1; l = up(l) {
		path += l[at^1]
		at /= 2
	}
	return path
}

// signed is the signature that a key has to make.
func signed(k api.Key, text string) string {
	sig := low(k.Next, 2)
	for place, d := range digits(text) {
		sig += steps(secret(k.Seed, k.Next, place), d)
	}
	return sig + pathOf(k.Leaves, k.Next)
}

// opened is the root to which a signature leads, whoever made it.
func opened(text, sig string) string {
	ends := ""
	for place, d := range digits(text) {
		ends += steps(sig[2+8*place:][:8], 3-d)
	}
	top := short(ends)
	leaf := int(sig[0])*256 + int(sig[1])
	for path := sig[90:]; path != ""; path = path[8:] {
		if leaf%2 == 1 {
			top = short(path[:8] + top)
		} else {
			top = short(top + path[:8])
		}
		leaf /= 2
	}
	return top
}

// made is a key that New makes.
func made(t *testing.T, seed string, height int) api.Key {
	t.Helper()
	k, err := signer.New(seed, height)
	if err != api.OK {
		t.Fatalf("P5.1: New of a seed of %d octets, %d: %d", len(seed), height, err)
	}
	return k
}

// heights are those that a key may have.
func heights() []int {
	return []int{0, 1, 2, 3, 4}
}

// otherHeights are those that no key may have.
func otherHeights() []int {
	return []int{-1, -2, -4, -64, -1 << 32, math.MinInt, 5, 6, 7, 8, 16, 31, 32, 62, 63, 64, 65, 256, 1 << 32, math.MaxInt}
}

// seeds are those that a key may have: from none to 64 octets.
func seeds() []string {
	return []string{"", "a", "seed", "\x00", "\x00\x00", "\xff\xfe", "replica0", strings.Repeat("s", 63), strings.Repeat("s", 64), strings.Repeat("\u00e9", 32)}
}

// longSeeds are those that no key may have.
func longSeeds() []string {
	return []string{strings.Repeat("s", 65), strings.Repeat("\u00e9", 33), strings.Repeat("s", 128), strings.Repeat("s", 256), strings.Repeat("s", 1<<16), strings.Repeat("s", 1<<16+64), strings.Repeat("s", 1<<20)}
}

// texts are some to sign.
func texts() []string {
	return []string{"", "a", "abc", "\x00", strings.Repeat("t", 55), strings.Repeat("t", 64), strings.Repeat("text", 5000)}
}

// sums are so many texts of 8 octets, such as leaves are, the same at each run.
func sums(n int, seed int64) []string {
	r := rand.New(rand.NewSource(seed))
	l := make([]string, n)
	for i := range l {
		b := make([]byte, 8)
		r.Read(b)
		l[i] = string(b)
	}
	return l
}

// rightKeys are keys that may be, with leaves of their seed and without, Next from 0 to as many as there are.
func rightKeys() []api.Key {
	var l []api.Key
	for _, height := range heights() {
		for _, leaves := range [][]string{leavesOf("seed", height), sums(1<<height, int64(height)), slices.Repeat([]string{"the same"}, 1<<height)} {
			for next := range 1<<height + 1 {
				l = append(l, api.Key{Seed: "seed", Leaves: leaves, Next: next})
			}
		}
	}
	for _, seed := range seeds() {
		l = append(l, api.Key{Seed: seed, Leaves: sums(4, 1), Next: 3})
	}
	return l
}

// wrongKeys are keys that may not be.
func wrongKeys() []api.Key {
	var l []api.Key
	for _, seed := range longSeeds() {
		l = append(l, api.Key{Seed: seed, Leaves: sums(4, 1)}, api.Key{Seed: seed, Leaves: sums(4, 1), Next: 4})
	}
	l = append(l, api.Key{}, api.Key{Seed: "seed"}, api.Key{Seed: "seed", Leaves: []string{}}, api.Key{Leaves: nil, Next: -1}, api.Key{Next: 1})
	for _, n := range []int{3, 5, 6, 7, 9, 10, 11, 12, 13, 14, 15, 17, 18, 24, 31, 32, 33, 64, 128, 256, 1 << 16, 1<<16 + 1} {
		for _, next := range []int{0, 1, 3, n} {
			l = append(l, api.Key{Seed: "seed", Leaves: sums(n, 1), Next: next})
		}
	}
	for _, height := range heights() {
		n := 1 << height
		for _, next := range []int{-1, -2, -n, -n - 1, -1 << 32, math.MinInt, n + 1, n + 2, 2 * n, 16 + n, 1<<32 + 1, math.MaxInt} {
			l = append(l, api.Key{Seed: "seed", Leaves: sums(n, 2), Next: next})
		}
		for at := range n {
			for _, leaf := range []string{"", "1", "1234567", "123456789", "1234567812345678", strings.Repeat("leaf", 1000), "\u00e9\u00e9\u00e9\u00e9\u00e9\u00e9\u00e9\u00e9"} {
				leaves := sums(n, 3)
				leaves[at] = leaf
				l = append(l, api.Key{Seed: "seed", Leaves: leaves}, api.Key{Seed: "seed", Leaves: leaves, Next: n})
			}
		}
	}
	// As many octets as there should be, but shared out otherwise.
	return append(l, api.Key{Seed: "seed", Leaves: []string{"1234567", "123456789"}})
}

// same says if two keys are, nil and empty leaves being one (P5).
func same(a, b api.Key) bool {
	return a.Seed == b.Seed && slices.Equal(a.Leaves, b.Leaves) && a.Next == b.Next
}

// zero says if nothing is in a key.
func zero(k api.Key) bool {
	return same(k, api.Key{})
}

// ends calls f and says if it panicked (P1).
func ends(t *testing.T, what string, f func()) {
	t.Helper()
	defer func() {
		if x := recover(); x != nil {
			t.Errorf("P1: %s panicked: %v", what, x)
		}
	}()
	f()
}

func TestNew(t *testing.T) {
	for _, seed := range seeds() {
		for _, height := range heights() {
			ends(t, "New", func() {
				got, err := signer.New(seed, height)
				want := api.Key{Seed: seed, Leaves: leavesOf(seed, height)}
				if !same(got, want) || len(got.Leaves) != 1<<height || err != api.OK {
					t.Errorf("P5.1: New(%.20q, %d) = %x, %d, want %x", seed, height, got, err, want)
				}
			})
		}
	}
}

// The height's error goes ahead of the seed's.
func TestNewOfWrongArguments(t *testing.T) {
	for _, height := range otherHeights() {
		for _, seed := range append(seeds(), longSeeds()...) {
			ends(t, "New", func() {
				if got, err := signer.New(seed, height); !zero(got) || err != api.ErrRange {
					t.Errorf("P5.1: New of a seed of %d octets, %d = %x, %d, want nothing and ErrRange", len(seed), height, got, err)
				}
			})
		}
	}
	for _, height := range heights() {
		for _, seed := range longSeeds() {
			ends(t, "New", func() {
				if got, err := signer.New(seed, height); !zero(got) || err != api.ErrLong {
					t.Errorf("P5.1: New of a seed of %d octets, %d = %x, %d, want nothing and ErrLong", len(seed), height, got, err)
				}
			})
		}
	}
}

// Worked out once, apart from this program.
func TestKnownAnswers(t *testing.T) {
	roots := []struct {
		seed       string
		height     int
		leaf, root string
	}{
		{"seed", 0, "7aad654cd754c3e1", "7aad654cd754c3e1"},
		{"seed", 1, "7aad654cd754c3e1", "89ed329fc92cbe9c"},
		{"seed", 2, "7aad654cd754c3e1", "57e3f71f584f4ecc"},
		{"", 2, "74c1d3befd215edb", "a83561b116e52818"},
		{"", 4, "74c1d3befd215edb", "5bf022561818a08d"},
		{strings.Repeat("s", 64), 4, "323546f304d9571b", "89cea86445b9dba2"},
	}
	for _, r := range roots {
		k := made(t, r.seed, r.height)
		if got := hex.EncodeToString([]byte(k.Leaves[0])); got != r.leaf {
			t.Errorf("P5.1: New(%q, %d) has the leaf %s, want %s", r.seed, r.height, got, r.leaf)
		}
		if root, err := signer.Root(k); hex.EncodeToString([]byte(root)) != r.root || err != api.OK {
			t.Errorf("P5.1: Root of New(%q, %d) = %x, %d, want %s", r.seed, r.height, root, err, r.root)
		}
	}
	k := made(t, "seed", 2)
	k.Next = 2
	sig, _, err := signer.Sign(k, []byte("abc"))
	want := "0002" + "48cdcfc0f6f6889cdee191816ce7d23d8713fde35f0953638e8e1c8f9d8557419d4a8d166cbb3b3e649fae02444c72b015daf251c8927a8c047f54cca8ee721db8c6e854603b5fc1e83af2f5b444f97dc38ef29ecd37bb5f" + "ddb25a6dc00d7522" + "89ed329fc92cbe9c"
	if hex.EncodeToString([]byte(sig)) != want || err != api.OK {
		t.Errorf("P5.1: Sign with leaf 2 of New(seed, 2) = %x, %d, want %s", sig, err, want)
	}
	root, _ := hex.DecodeString("57e3f71f584f4ecc")
	if leaf, ok := signer.Verify(string(root), 2, []byte("abc"), sig); leaf != 2 || !ok {
		t.Errorf("P5.2: Verify of it = %d, %v, want 2, true", leaf, ok)
	}
}

func TestRightKeys(t *testing.T) {
	for _, k := range rightKeys() {
		ends(t, "a call with a right key", func() {
			if err := signer.Check(k); err != api.OK {
				t.Errorf("P5.1: Check of %d leaves, Next %d = %d, want OK", len(k.Leaves), k.Next, err)
			}
			if got, err := signer.Root(k); got != rootOf(k.Leaves) || err != api.OK {
				t.Errorf("P5.1: Root of %d leaves, Next %d = %x, %d, want %x", len(k.Leaves), k.Next, got, err, rootOf(k.Leaves))
			}
			if got := signer.Height(k); 1<<got != len(k.Leaves) {
				t.Errorf("P5.1: Height of %d leaves, Next %d = %d", len(k.Leaves), k.Next, got)
			}
		})
	}
}

func TestWrongKeys(t *testing.T) {
	for _, k := range wrongKeys() {
		ends(t, "a call with a wrong key", func() {
			if err := signer.Check(k); err != api.ErrState {
				t.Errorf("P5.1: Check of a seed of %d octets, %d leaves, Next %d = %d, want ErrState", len(k.Seed), len(k.Leaves), k.Next, err)
			}
			if got, err := signer.Root(k); got != "" || err != api.ErrState {
				t.Errorf("P5.1: Root of a seed of %d octets, %d leaves, Next %d = %x, %d, want nothing and ErrState", len(k.Seed), len(k.Leaves), k.Next, got, err)
			}
			if got := signer.Height(k); got != 0 {
				t.Errorf("P5.1: Height of a seed of %d octets, %d leaves, Next %d = %d, want 0", len(k.Seed), len(k.Leaves), k.Next, got)
			}
			for _, text := range [][]byte{nil, []byte("abc")} {
				if sig, used, err := signer.Sign(k, text); sig != "" || !zero(used) || err != api.ErrState {
					t.Errorf("P5.1: Sign with a seed of %d octets, %d leaves, Next %d = %x, %x, %d, want nothing and ErrState", len(k.Seed), len(k.Leaves), k.Next, sig, used, err)
				}
			}
		})
	}
}

func TestSign(t *testing.T) {
	for _, k := range rightKeys() {
		for _, text := range texts() {
			ends(t, "Sign", func() {
				sig, used, err := signer.Sign(k, []byte(text))
				if k.Next == len(k.Leaves) {
					if sig != "" || !zero(used) || err != api.ErrFull {
						t.Errorf("P5.1: Sign with %d leaves, Next %d = %x, %x, %d, want nothing and ErrFull", len(k.Leaves), k.Next, sig, used, err)
					}
					return
				}
				want := api.Key{Seed: k.Seed, Leaves: k.Leaves, Next: k.Next + 1}
				if sig != signed(k, text) || !same(used, want) || err != api.OK {
					t.Errorf("P5.1: Sign with %d leaves, Next %d, %.20q = %x, %x, %d, want %x, %x", len(k.Leaves), k.Next, text, sig, used, err, signed(k, text), want)
				}
			})
		}
	}
}

// signAll signs with all leaves of a key, the same text or one of its own each time, and then once more.
func signAll(t *testing.T, k api.Key, text func(leaf int) string) {
	t.Helper()
	root, height, count := rootOf(k.Leaves), signer.Height(k), len(k.Leaves)
	for at := range count {
		sig, used, err := signer.Sign(k, []byte(text(at)))
		if err != api.OK || sig != signed(k, text(at)) || used.Next != at+1 || len(sig) != signer.Size(height) {
			t.Fatalf("P5.1: Sign with leaf %d of %d = %x, Next %d, %d", at, count, sig, used.Next, err)
		}
		if leaf, ok := signer.Verify(root, height, []byte(text(at)), sig); leaf != at || !ok {
			t.Errorf("P5.2: Verify of leaf %d of %d = %d, %v", at, count, leaf, ok)
		}
		if top, err := signer.Root(used); top != root || err != api.OK {
			t.Errorf("P5.1: when leaf %d of %d is used, the root is %x, %d, want %x", at, count, top, err, root)
		}
		k = used
	}
	if sig, used, err := signer.Sign(k, []byte(text(0))); sig != "" || !zero(used) || err != api.ErrFull {
		t.Errorf("P5.1: Sign when %d leaves are used = %x, %x, %d, want nothing and ErrFull", count, sig, used, err)
	}
}

func TestSignTillFull(t *testing.T) {
	for _, seed := range seeds() {
		for _, height := range heights() {
			signAll(t, made(t, seed, height), func(leaf int) string { return seed + low(leaf, 1) })
			signAll(t, made(t, seed, height), func(int) string { return "the same" })
		}
	}
	for _, text := range texts() {
		signAll(t, made(t, "seed", 4), func(int) string { return text })
	}
}

func TestSize(t *testing.T) {
	for height, want := range []int{90, 98, 106, 114, 122} {
		if got := signer.Size(height); got != want {
			t.Errorf("P5.1: Size(%d) = %d, want %d", height, got, want)
		}
	}
	for _, height := range otherHeights() {
		ends(t, "Size", func() {
			if got := signer.Size(height); got != 0 {
				t.Errorf("P5.1: Size(%d) = %d, want 0", height, got)
			}
		})
	}
}

// refused says that nothing is verified.
func refused(t *testing.T, why, root string, height int, text, sig string) {
	t.Helper()
	ends(t, "Verify", func() {
		if leaf, ok := signer.Verify(root, height, []byte(text), sig); leaf != 0 || ok {
			t.Errorf("P5.1: Verify of %s, height %d, %d octets = %d, %v, want 0, false", why, height, len(sig), leaf, ok)
		}
	})
}

// each goes through signatures of "abc" with each leaf of keys of each height, leaf 0 last.
func each(t *testing.T, f func(root string, height, leaf int, sig string)) {
	for _, height := range heights() {
		k := made(t, "seed", height)
		for leaf := len(k.Leaves) - 1; leaf >= 0; leaf-- {
			k.Next = leaf
			sig := signed(k, "abc")
			if got, ok := signer.Verify(rootOf(k.Leaves), height, []byte("abc"), sig); got != leaf || !ok {
				t.Errorf("P5.2: Verify of leaf %d, height %d = %d, %v", leaf, height, got, ok)
			}
			f(rootOf(k.Leaves), height, leaf, sig)
		}
	}
}

func TestVerifyByAnotherRoot(t *testing.T) {
	each(t, func(root string, height, leaf int, sig string) {
		for _, other := range []string{"", "12345678", root[:7], root + "\x00", "\x00" + root, root + root, strings.Repeat("r", 5000),
			rootOf(leavesOf("seeds", height)), string([]byte{root[0] ^ 1}) + root[1:], root[:7] + string([]byte{root[7] ^ 128})} {
			refused(t, "another root", other, height, "abc", sig)
		}
	})
}

func TestVerifyByAnotherHeight(t *testing.T) {
	each(t, func(root string, height, leaf int, sig string) {
		for _, other := range append(heights(), otherHeights()...) {
			if other != height {
				refused(t, "another height", root, other, "abc", sig)
				refused(t, "no signature", root, other, "abc", "")
			}
		}
		// As many octets as that height's signatures have.
		for _, other := range heights() {
			if other > height {
				refused(t, "a longer path", root, other, "abc", sig+strings.Repeat("nobodys.", other-height))
			} else if other < height {
				refused(t, "a shorter path", root, other, "abc", sig[:signer.Size(other)])
			}
		}
	})
	k := made(t, "seed", 4)
	for _, height := range otherHeights() {
		for _, size := range []int{0, 1, 2, 74, 82, 90, 122, 130, 138} {
			refused(t, "a height that may not be", rootOf(k.Leaves), height, "abc", strings.Repeat("\x00", size))
		}
	}
}

// A path that is long enough for it leads to a root of height 5, which no key has.
func TestVerifyOfTooHighKeys(t *testing.T) {
	leaves := leavesOf("seed", 5)
	k := api.Key{Seed: "seed", Leaves: leaves, Next: 9}
	if opened("abc", signed(k, "abc")) != rootOf(leaves) {
		t.Fatal("the signature does not lead to the root")
	}
	refused(t, "height 5", rootOf(leaves), 5, "abc", signed(k, "abc"))
}

func TestVerifyOfAnotherText(t *testing.T) {
	each(t, func(root string, height, leaf int, sig string) {
		for _, other := range append(texts(), "abd", "ab", "abcd", "abc\x00", "ABC") {
			// Texts of the same digits have the same signatures.
			if !slices.Equal(digits(other), digits("abc")) {
				refused(t, "another text", root, height, other, sig)
			}
		}
	})
}

func TestVerifyOfOtherLengths(t *testing.T) {
	each(t, func(root string, height, leaf int, sig string) {
		for size := range sig {
			refused(t, "the beginning of a signature", root, height, "abc", sig[:size])
			refused(t, "the end of a signature", root, height, "abc", sig[len(sig)-size:])
		}
		for _, longer := range []string{sig + "\x00", "\x00" + sig, sig + "12345678", sig + sig, sig + strings.Repeat("s", 5000)} {
			refused(t, "a longer signature", root, height, "abc", longer)
		}
	})
}

func TestVerifyOfChangedOctets(t *testing.T) {
	each(t, func(root string, height, leaf int, sig string) {
		flips := []byte{1, 2, 4, 8, 16, 32, 64, 128, 255}
		for at := range len(sig) {
			for _, flip := range flips {
				changed := []byte(sig)
				changed[at] ^= flip
				refused(t, "a changed signature", root, height, "abc", string(changed))
			}
		}
	})
}

// Climbed, the bits of a number beyond the path would count for nothing.
func TestVerifyOfNoLeaf(t *testing.T) {
	each(t, func(root string, height, leaf int, sig string) {
		count := 1 << height
		for _, times := range []int{1, 2, 3, 4, 7, 8, 128, 256 / count, 1<<15/count + 1, 1<<16/count - 1} {
			refused(t, "a leaf not below 2^height", root, height, "abc", low(leaf+times*count, 2)+sig[2:])
		}
		for other := range count {
			if other != leaf {
				refused(t, "another leaf", root, height, "abc", low(other, 2)+sig[2:])
			}
		}
	})
}

// What nobody signed leads somewhere too.
func TestVerifyHangsOnWhatClimbs(t *testing.T) {
	r := rand.New(rand.NewSource(5))
	for _, text := range texts() {
		for _, height := range heights() {
			for leaf := range 1 << height {
				b := make([]byte, 88+8*height)
				r.Read(b)
				sig := low(leaf, 2) + string(b)
				if got, ok := signer.Verify(opened(text, sig), height, []byte(text), sig); got != leaf || !ok {
					t.Errorf("P5.1: Verify by the root that leaf %d, height %d climbs to = %d, %v", leaf, height, got, ok)
				}
				refused(t, "what does not climb", "12345678", height, text, sig)
			}
		}
	}
}

// An empty text and none are one (P5).
func TestNoText(t *testing.T) {
	k := made(t, "seed", 1)
	first, _, _ := signer.Sign(k, nil)
	second, _, _ := signer.Sign(k, []byte{})
	if first != second || first != signed(k, "") {
		t.Errorf("P5: Sign of none is %x, of an empty text %x", first, second)
	}
	for _, text := range [][]byte{nil, {}} {
		if leaf, ok := signer.Verify(rootOf(k.Leaves), 1, text, first); leaf != 0 || !ok {
			t.Errorf("P5: Verify of no text = %d, %v, want 0, true", leaf, ok)
		}
	}
}

// Lists and texts are laid into longer ones, of which nothing may change.
func TestArgumentsStay(t *testing.T) {
	for _, height := range heights() {
		n := 1 << height
		for next := -1; next <= n+1; next++ {
			whole := slices.Concat(leavesOf("seed", height), []string{"what", "stands", "behind", "it"})
			was := slices.Clone(whole)
			text := []byte("a text and what stands behind it")
			k := api.Key{Seed: "seed", Leaves: whole[:n], Next: next}
			signer.Check(k)
			signer.Root(k)
			signer.Height(k)
			sig, _, _ := signer.Sign(k, text[:6])
			signer.Verify(rootOf(was[:n]), height, text[:6], sig)
			signer.Verify(rootOf(was[:n]), height, text[:7], sig)
			if !slices.Equal(whole, was) || k.Seed != "seed" || len(k.Leaves) != n || k.Next != next {
				t.Errorf("P5.3: a key was changed: %q, were %q, Next %d", whole, was, k.Next)
			}
			if string(text) != "a text and what stands behind it" {
				t.Errorf("P5.3: a text was changed: %q", text)
			}
		}
	}
}

// overwrite fills a list and the room behind it.
func overwrite(l []string) {
	l = l[:cap(l)]
	for i := range l {
		l[i] = "overwritten"
	}
}

// Each answer is overwritten with the room behind it, and the same call asked again.
func TestAnswersAreNew(t *testing.T) {
	for _, height := range heights() {
		want := leavesOf("seed", height)
		first, second := made(t, "seed", height), made(t, "seed", height)
		overwrite(first.Leaves)
		if !slices.Equal(second.Leaves, want) || !slices.Equal(made(t, "seed", height).Leaves, want) {
			t.Errorf("P5.3: an answer of New of height %d shares memory", height)
		}
		sig, used, _ := signer.Sign(second, []byte("abc"))
		_, other, _ := signer.Sign(second, []byte("abc"))
		overwrite(used.Leaves)
		if !slices.Equal(second.Leaves, want) || !slices.Equal(other.Leaves, want) {
			t.Errorf("P5.3: an answer of Sign of height %d shares memory", height)
		}
		again, _, _ := signer.Sign(second, []byte("abc"))
		if sig != again || sig != signed(second, "abc") {
			t.Errorf("P5.3: Sign of height %d has another answer the second time", height)
		}
	}
}

// What was answered does not change when the arguments do.
func TestArgumentsAreNotKept(t *testing.T) {
	for _, height := range heights() {
		want := leavesOf("seed", height)
		k, text := api.Key{Seed: "seed", Leaves: slices.Clone(want)}, []byte("abc")
		root, _ := signer.Root(k)
		sig, used, _ := signer.Sign(k, text)
		copy(k.Leaves, slices.Repeat([]string{"another."}, len(k.Leaves)))
		copy(text, "xyz")
		if root != rootOf(want) || !slices.Equal(used.Leaves, want) || sig != signed(api.Key{Seed: "seed", Leaves: want}, "abc") {
			t.Errorf("P5.3: an answer of height %d changed with its arguments", height)
		}
		if got, _ := signer.Root(k); got != rootOf(k.Leaves) {
			t.Errorf("P5.3: old leaves of height %d were kept", height)
		}
		if got, _, _ := signer.Sign(k, text); got != signed(k, "xyz") {
			t.Errorf("P5.3: an old key or text of height %d was kept", height)
		}
	}
}

// Nobody remembers which leaf was used but the key.
func TestOldKeysSignAgain(t *testing.T) {
	k := made(t, "seed", 2)
	_, used, _ := signer.Sign(k, []byte("abc"))
	sig, _, err := signer.Sign(k, []byte("other"))
	if sig != signed(k, "other") || err != api.OK || k.Next != 0 || used.Next != 1 {
		t.Errorf("P3: Sign with a key that signed ahead = %x, %d", sig, err)
	}
	if root, err := signer.Root(used); root != rootOf(k.Leaves) || err != api.OK || signer.Height(used) != 2 {
		t.Errorf("P5.1: Root of a key that signed = %x, %d", root, err)
	}
}

func TestAnswersHangOnArgumentsAlone(t *testing.T) {
	var all sync.WaitGroup
	shared := api.Key{Seed: "seed", Leaves: leavesOf("seed", 4)}
	root := rootOf(shared.Leaves)
	for g := range 8 {
		all.Go(func() {
			for i := range 32 {
				text := low(1000*g+i, 2)
				k := shared
				k.Next = (g + i) % 16
				sig, used, err := signer.Sign(k, []byte(text))
				leaf, ok := signer.Verify(root, 4, []byte(text), sig)
				if sig != signed(k, text) || used.Next != k.Next+1 || err != api.OK || leaf != k.Next || !ok {
					t.Errorf("P3: text %d of %d has another answer beside other calls", i, g)
					return
				}
			}
		})
	}
	all.Wait()
}
