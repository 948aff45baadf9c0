package wots_test

import (
	"crypto/sha256"
	"encoding/hex"
	"math"
	"math/rand"
	"slices"
	"strings"
	"sync"
	"testing"

	"moot/wots"
)

// short is what the standard library's own SHA-256 begins with.
func short(s string) string {
	sum := sha256.Sum256([]byte(s))
	return string(sum[:8])
}

// steps is the text so many steps on.
func steps(s string, n int) string {
	for ; n > 0; n-- {
		s = short(s)
	}
	return s
}

// low is the lowest octets of n, so many, the highest first.
func low(n int, size int) string {
	var b []byte
	for i := size - 1; i >= 0; i-- {
		b = append(b, byte(uint64(n)>>(8*i)))
	}
	return string(b)
}

// secret is what Secret has to answer.
func secret(seed string, leaf, place int) string {
	return short("wots" + low(len(seed), 2) + seed + low(leaf, 4) + low(place, 1))
}

// leafOf is what Leaf has to answer.
func leafOf(seed string, leaf int) string {
	ends := ""
	for place := range 11 {
		ends += steps(secret(seed, leaf, place), 3)
	}
	return short(ends)
}

// digits are what Parts has to answer.
func digits(text string) []int {
	sum := sha256.Sum256([]byte(text))
	var l []int
	left := 0
	for i := range 8 {
		d := int(sum[i/4]) / []int{64, 16, 4, 1}[i%4] % 4
		left += 3 - d
		l = append(l, d)
	}
	return append(l, left/16, left/4%4, left%4)
}

// seeds are of many lengths; from 65536 on their length does not fit in two octets.
func seeds() []string {
	l := []string{"", "a", "seed", "\x00", "\x00\x00", "wots", "\xff\xfe", strings.Repeat("s", 64), strings.Repeat("long", 64)}
	for _, size := range []int{65535, 65536, 65537, 100000} {
		l = append(l, strings.Repeat("x", size))
	}
	return l
}

// numbers are leaves and places: ordinary, below 0, great.
func numbers() []int {
	return []int{0, 1, 2, 3, 10, 11, 15, 16, 127, 128, 255, 256, 257, 65535, 65536, 1<<31 - 1, 1 << 31, 1<<32 - 1, 1 << 32, 1<<32 + 1,
		math.MaxInt, -1, -2, -255, -256, -257, -1 << 31, -1 << 32, math.MinInt}
}

// texts are some to sign.
func texts() []string {
	l := []string{"", "a", "abc", "\x00", strings.Repeat("t", 55), strings.Repeat("t", 56), strings.Repeat("t", 64), strings.Repeat("text", 5000)}
	r := rand.New(rand.NewSource(3))
	for size := range 60 {
		b := make([]byte, size)
		r.Read(b)
		l = append(l, string(b))
	}
	return l
}

// ends calls f and says if it panicked (P1).
func ends(t *testing.T, what string, f func()) {
	t.Helper()
	defer func() {
		if x := recover(); x != nil {
			t.Errorf("P1: %s panicked: %v", what, x)
		}
	}()
	f()
}

// The sums of "abc" and of nothing begin with ba 78 and e3 b0.
func TestPartsByHand(t *testing.T) {
	cases := []struct {
		text string
		want []int
	}{
		{"abc", []int{2, 3, 2, 2, 1, 3, 2, 0, 0, 2, 1}},
		{"", []int{3, 2, 0, 3, 2, 3, 0, 0, 0, 2, 3}},
	}
	for _, c := range cases {
		if got := wots.Parts([]byte(c.text)); !slices.Equal(got, c.want) {
			t.Errorf("P3.1: Parts(%q) = %v, want %v", c.text, got, c.want)
		}
	}
	if got := wots.Parts(nil); !slices.Equal(got, cases[1].want) {
		t.Errorf("P3.1: Parts(nil) = %v, want %v", got, cases[1].want)
	}
}

func TestParts(t *testing.T) {
	for _, text := range texts() {
		ends(t, "Parts", func() {
			if got, want := wots.Parts([]byte(text)), digits(text); !slices.Equal(got, want) {
				t.Errorf("P3.1: Parts(%.20q) = %v, want %v", text, got, want)
			}
		})
	}
}

func TestPartsTellWhatIsLeft(t *testing.T) {
	seen := map[int]bool{}
	for i := range 5000 {
		l := wots.Parts([]byte(low(i, 3)))
		if len(l) != 11 || slices.Min(l) < 0 || slices.Max(l) > 3 {
			t.Fatalf("P3.1: Parts(%d) = %v, want 11 from 0 to 3", i, l)
		}
		left := 24
		for _, d := range l[:8] {
			left -= d
		}
		if told := 16*l[8] + 4*l[9] + l[10]; told != left {
			t.Errorf("P3.1: the last of %v tell %d, want %d", l, told, left)
		}
		seen[left] = true
	}
	// So that carries from digit to digit were seen.
	for left := 4; left <= 20; left++ {
		if !seen[left] {
			t.Errorf("no text left %d", left)
		}
	}
}

func TestChain(t *testing.T) {
	starts := []string{"12345678", "\x00\x00\x00\x00\x00\x00\x00\x00", "\xff\xfe\xfd\xfc\xfb\xfa\xf9\xf8",
		"", "1", "1234567", "123456789", strings.Repeat("c", 64), strings.Repeat("chain", 3000)}
	counts := []struct{ steps, want int }{
		{0, 0}, {1, 1}, {2, 2}, {3, 3},
		{-1, 0}, {-3, 0}, {-1 << 32, 0}, {math.MinInt, 0},
		{4, 3}, {5, 3}, {7, 3}, {256, 3}, {257, 3}, {1 << 32, 3}, {math.MaxInt, 3},
	}
	for _, s := range starts {
		for _, c := range counts {
			ends(t, "Chain", func() {
				if got, want := wots.Chain(s, c.steps), steps(s, c.want); got != want {
					t.Errorf("P3.1: Chain(%.20q, %d) = %x, want %x", s, c.steps, got, want)
				}
			})
		}
	}
}

// Steps are steps, however they are shared out.
func TestChainGoesOn(t *testing.T) {
	for _, s := range []string{"12345678", "", "other text"} {
		for a := range 4 {
			for b := range 4 - a {
				if got, want := wots.Chain(wots.Chain(s, a), b), wots.Chain(s, a+b); got != want {
					t.Errorf("P3.1: %d and %d steps from %q = %x, want %x", a, b, s, got, want)
				}
			}
		}
	}
}

func TestSecret(t *testing.T) {
	for _, seed := range seeds() {
		for _, n := range numbers() {
			for _, at := range [][2]int{{n, 0}, {0, n}, {n, n}, {n, 10}, {3, n}} {
				ends(t, "Secret", func() {
					if got, want := wots.Secret(seed, at[0], at[1]), secret(seed, at[0], at[1]); got != want {
						t.Errorf("P3.1: Secret of a seed of %d octets, %d, %d = %x, want %x", len(seed), at[0], at[1], got, want)
					}
				})
			}
		}
	}
}

// What octets.Put cuts off makes no difference, all else does.
func TestSecretsDiffer(t *testing.T) {
	same := [][2]string{
		{wots.Secret("s", 1, 2), wots.Secret("s", 1+1<<32, 2)},
		{wots.Secret("s", 1, 2), wots.Secret("s", 1, 258)},
		{wots.Secret("s", -1, 2), wots.Secret("s", 1<<32-1, 2)},
		{wots.Secret("s", 1, -1), wots.Secret("s", 1, 255)},
	}
	for i, p := range same {
		if p[0] != p[1] || len(p[0]) != 8 {
			t.Errorf("P3.1: the secrets of pair %d are %x and %x", i, p[0], p[1])
		}
	}
	seen := map[string]bool{}
	for _, seed := range []string{"", "s", "t", "ss", "s\x00"} {
		for leaf := range 20 {
			for place := range 11 {
				seen[wots.Secret(seed, leaf, place)] = true
			}
		}
	}
	if len(seen) != 5*20*11 {
		t.Errorf("P3.1: %d secrets of %d", len(seen), 5*20*11)
	}
}

func TestLeaf(t *testing.T) {
	for _, seed := range seeds() {
		for _, leaf := range numbers() {
			if len(seed) > 1000 && leaf > 1 {
				continue
			}
			ends(t, "Leaf", func() {
				if got, want := wots.Leaf(seed, leaf), leafOf(seed, leaf); got != want {
					t.Errorf("P3.1: Leaf of a seed of %d octets, %d = %x, want %x", len(seed), leaf, got, want)
				}
			})
		}
	}
}

// Worked out once, apart from this program.
func TestKnownAnswers(t *testing.T) {
	known := []struct{ what, got, want string }{
		{"Secret", wots.Secret("seed", 5, 7), "9a10012bdffbb6e8"},
		{"Leaf", wots.Leaf("seed", 5), "a3d8bddf59cc7e9a"},
		{"Leaf of the empty seed", wots.Leaf("", 0), "74c1d3befd215edb"},
		{"Sign", strings.Join(wots.Sign("seed", 5, []byte("abc")), ""), "d24f4c28d89d2bcf94d26ffe8b4e3c9a4110c0c8b6898541f4c74f4b3dc6493d545a8000a031f727c3cc32452578cbd6d803714297d755f39a10012bdffbb6e8488ae903b0678a7c4301ef82bab4601a63d8cfd60bea0f8e"},
	}
	for _, k := range known {
		if got := hex.EncodeToString([]byte(k.got)); got != k.want {
			t.Errorf("P3.1: %s = %s, want %s", k.what, got, k.want)
		}
	}
}

func TestSign(t *testing.T) {
	for _, seed := range seeds()[:9] {
		for _, leaf := range []int{0, 1, 15, -1, 1 << 32, math.MaxInt, math.MinInt} {
			for _, text := range texts()[:20] {
				ends(t, "Sign", func() {
					got := wots.Sign(seed, leaf, []byte(text))
					if len(got) != 11 {
						t.Fatalf("P3.1: Sign(%.20q, %d, %.20q) has %d parts", seed, leaf, text, len(got))
					}
					for place, d := range digits(text) {
						if want := steps(secret(seed, leaf, place), d); got[place] != want {
							t.Errorf("P3.1: part %d of Sign(%.20q, %d, %.20q) = %x, want %x", place, seed, leaf, text, got[place], want)
						}
					}
				})
			}
		}
	}
}

func TestSignedOpensToItsLeaf(t *testing.T) {
	for _, seed := range seeds() {
		for _, leaf := range numbers() {
			if len(seed) > 1000 && leaf > 0 {
				continue
			}
			want := wots.Leaf(seed, leaf)
			for i, text := range texts() {
				if len(seed) > 1000 && i > 3 || i > 12 && leaf > 2 {
					break
				}
				if got := wots.Open([]byte(text), wots.Sign(seed, leaf, []byte(text))); got != want || len(got) != 8 {
					t.Errorf("P3.2: Sign of a seed of %d octets, %d, %.20q opens to %x, want %x", len(seed), leaf, text, got, want)
				}
			}
		}
	}
	var nothing []byte
	if wots.Open(nothing, wots.Sign("seed", 2, []byte{})) != wots.Leaf("seed", 2) {
		t.Error("P3.2: what is signed of an empty text does not open of none")
	}
}

// Parts that nobody signed lead somewhere too, and a text of other digits leads elsewhere.
func TestOpenGoesOn(t *testing.T) {
	r := rand.New(rand.NewSource(4))
	for _, text := range texts() {
		var parts []string
		all := ""
		for _, d := range digits(text) {
			b := make([]byte, 8)
			r.Read(b)
			parts = append(parts, string(b))
			all += steps(string(b), 3-d)
		}
		if got := wots.Open([]byte(text), parts); got != short(all) {
			t.Errorf("P3.1: Open(%.20q, %x) = %x, want %x", text, parts, got, short(all))
		}
	}
}

func TestOtherTextsDoNotOpen(t *testing.T) {
	for _, text := range texts() {
		leaf := wots.Leaf("seed", 1)
		parts := wots.Sign("seed", 1, []byte(text))
		for _, other := range texts() {
			same := slices.Equal(digits(text), digits(other))
			if (wots.Open([]byte(other), parts) == leaf) != same {
				t.Errorf("P3.1: what is signed of %.20q opens %.20q: %v", text, other, !same)
			}
		}
	}
}

func TestChangedPartsDoNotOpen(t *testing.T) {
	text := []byte("abc")
	leaf := wots.Leaf("seed", 1)
	parts := wots.Sign("seed", 1, text)
	for place := range parts {
		changed := slices.Clone(parts)
		changed[place] = "12345678"
		swapped := slices.Clone(parts)
		next := (place + 1) % len(parts)
		swapped[place], swapped[next] = swapped[next], swapped[place]
		for _, l := range [][]string{changed, swapped} {
			if got := wots.Open(text, l); got == leaf || len(got) != 8 {
				t.Errorf("P3.1: with another part %d it opens to %x", place, got)
			}
		}
	}
	for _, other := range [][]string{wots.Sign("seed", 2, text), wots.Sign("seeds", 1, text), wots.Sign("", 1, text)} {
		if wots.Open(text, other) == leaf {
			t.Error("P3.1: another's parts open to the leaf")
		}
	}
}

func TestOpenOfWrongParts(t *testing.T) {
	for _, text := range [][]byte{nil, {}, []byte("abc")} {
		parts := wots.Sign("seed", 1, text)
		wrong := [][]string{nil, {}, {""}, {parts[0]}, parts[:1], parts[:8], parts[:10], parts[1:],
			slices.Concat(parts, parts[:1]), slices.Concat(parts, []string{""}), slices.Concat([]string{""}, parts),
			slices.Concat(parts, parts), make([]string, 11), make([]string, 10), make([]string, 12), make([]string, 1<<16),
			{strings.Join(parts, "")}, slices.Repeat([]string{"1234567"}, 11), slices.Repeat([]string{"123456789"}, 11)}
		for place := range parts {
			for _, p := range []string{"", "1", parts[place][:7], parts[place] + "\x00", parts[place] + parts[place], strings.Repeat("p", 1000)} {
				l := slices.Clone(parts)
				l[place] = p
				wrong = append(wrong, l)
			}
		}
		// As many octets as there should be, but shared out otherwise.
		uneven := slices.Clone(parts)
		uneven[0], uneven[1] = parts[0]+parts[1][:1], parts[1][1:]
		for _, l := range append(wrong, uneven) {
			ends(t, "Open", func() {
				if got := wots.Open(text, l); got != "" {
					t.Errorf("P3.1: Open(%q) of %d parts = %x, want nothing", text, len(l), got)
				}
			})
		}
	}
}

// Lists and texts are laid into longer ones, of which nothing may change.
func TestArgumentsStay(t *testing.T) {
	whole := []byte("a text and what stands behind it")
	text := whole[:6]
	behind := append(wots.Sign("seed", 1, text), "spare", "parts", "behind", "them")
	parts := behind[:11]
	was, wasParts := string(whole), slices.Clone(behind)
	wots.Parts(text)
	wots.Sign("seed", 1, text)
	wots.Open(text, parts)
	wots.Open(text, parts[:10])
	wots.Open(text, behind)
	if string(whole) != was || !slices.Equal(behind, wasParts) {
		t.Errorf("P3.3: an argument was changed: %q, %q", whole, behind)
	}
	seed := "seed"
	wots.Chain(seed, 2)
	wots.Secret(seed, 1, 2)
	wots.Leaf(seed, 1)
	if seed != "seed" {
		t.Errorf("P3.3: a text was changed: %q", seed)
	}
}

// Each answer is overwritten with the room behind it, and the same call asked again.
func TestAnswersAreNew(t *testing.T) {
	text := []byte("abc")
	for range 3 {
		first, second := wots.Parts(text), wots.Parts(text)
		first = first[:cap(first)]
		for i := range first {
			first[i] = 9
		}
		if !slices.Equal(second, digits("abc")) || !slices.Equal(wots.Parts(text), digits("abc")) {
			t.Error("P3.3: two answers of Parts share memory")
		}
		parts, others := wots.Sign("seed", 1, text), wots.Sign("seed", 1, text)
		want := slices.Clone(parts)
		parts = parts[:cap(parts)]
		for i := range parts {
			parts[i] = "z"
		}
		if !slices.Equal(others, want) || !slices.Equal(wots.Sign("seed", 1, text), want) {
			t.Error("P3.3: two answers of Sign share memory")
		}
	}
}

// What was answered does not change when the arguments do.
func TestArgumentsAreNotKept(t *testing.T) {
	text := []byte("abc")
	l, parts := wots.Parts(text), wots.Sign("seed", 1, text)
	given := slices.Clone(parts)
	leaf := wots.Open(text, given)
	text[0], given[0] = 'z', "zzzzzzzz"
	if !slices.Equal(l, digits("abc")) || !slices.Equal(parts, wots.Sign("seed", 1, []byte("abc"))) || leaf != wots.Leaf("seed", 1) {
		t.Error("P3.3: an answer changed with its arguments")
	}
	if !slices.Equal(wots.Parts(text), digits("zbc")) || wots.Open([]byte("abc"), given) == leaf {
		t.Error("P3.3: an old argument was kept")
	}
}

func TestAnswersHangOnArgumentsAlone(t *testing.T) {
	var all sync.WaitGroup
	for g := range 8 {
		all.Go(func() {
			for i := range 40 {
				text := []byte(low(1000*g+i, 2))
				parts := wots.Sign("seed", i, text)
				if !slices.Equal(wots.Parts(text), digits(string(text))) || wots.Open(text, parts) != leafOf("seed", i) || wots.Leaf("seed", i) != leafOf("seed", i) {
					t.Errorf("P3: text %d of %d has another answer beside other calls", i, g)
					return
				}
			}
		})
	}
	all.Wait()
}
