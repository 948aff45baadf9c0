package merkle_test

import (
	"crypto/sha256"
	"encoding/hex"
	"math"
	"math/rand"
	"slices"
	"strings"
	"sync"
	"testing"

	"moot/api"
	"moot/merkle"
)

// short is what the standard library's own SHA-256 of both begins with.
func short(left, right string) string {
	sum := sha256.Sum256([]byte(left + right))
	return string(sum[:8])
}

// up is what Up has to answer.
func up(l []string) []string {
	var row []string
	for len(l) >= 2 {
		row = append(row, short(l[0], l[1]))
		l = l[2:]
	}
	return append(row, l...)
}

// root is what Root has to answer.
func root(l []string) string {
	if len(l) == 0 {
		return ""
	}
	for len(l) > 1 {
		l = up(l)
	}
	return l[0]
}

// path is what Path has to answer for a place of a row that has paths.
func path(l []string, at int) []string {
	var out []string
	for ; len(l) > 1; l = up(l) {
		if at%2 == 1 {
			out = append(out, l[at-1])
		} else {
			out = append(out, l[at+1])
		}
		at /= 2
	}
	return out
}

// letters are so many leaves of one octet each.
func letters(n int) []string {
	return strings.Split("abcdefghijklmnopqrstuvwxyz"[:n], "")
}

// row is so many leaves of many lengths, some of them empty.
func row(n int, seed int64) []string {
	r := rand.New(rand.NewSource(seed))
	l := make([]string, n)
	for i := range l {
		size := []int{0, 1, 7, 8, 9, 55, 56, 64, 100}[r.Intn(9)]
		b := make([]byte, size)
		r.Read(b)
		l[i] = string(b)
	}
	return l
}

// rows are leaves to try: of no leaves on, of each number up to some, of many, and odd ones.
func rows() [][]string {
	l := [][]string{nil, {}, {""}, {"", ""}, {"", "", ""}, {"", "", "", "", ""}, {"a", ""}, {"", "a"}, {"a", "", "b"},
		{"same", "same", "same", "same"}, {strings.Repeat("long", 5000), "short"}, {"a", "b", strings.Repeat("long", 5000)}}
	for n := range 41 {
		l = append(l, row(n, int64(n)))
	}
	for _, n := range []int{63, 64, 65, 127, 128, 129, 255, 256, 257, 1000, 1023, 1024, 1025, 3000} {
		l = append(l, row(n, int64(n)))
	}
	return l
}

// lengths are those of rows that have paths.
func lengths() []int {
	return []int{1, 2, 4, 8, 16, 32, 64, 256}
}

// outside are places that a row of n leaves does not have.
func outside(n int) []int {
	return []int{n, n + 1, n + 2, 2 * n, 2*n + 1, n + 1<<31, n + 1<<32, 1 << 62, math.MaxInt - 1, math.MaxInt,
		-1, -2, -n - 1, -1 << 31, -1 << 32, math.MinInt + 1, math.MinInt}
}

// ends calls f and says if it panicked (P1).
func ends(t *testing.T, what string, f func()) {
	t.Helper()
	defer func() {
		if x := recover(); x != nil {
			t.Errorf("P1: %s panicked: %v", what, x)
		}
	}()
	f()
}

// text is a row in hexadecimal digits.
func text(l []string) string {
	return hex.EncodeToString([]byte(strings.Join(l, "")))
}

// Worked out once, apart from this program.
func TestKnownAnswers(t *testing.T) {
	known := []struct{ root, up string }{
		{"", ""},
		{"61", "61"},
		{"fb8e20fc2e4c3f24", "fb8e20fc2e4c3f24"},
		{"6c8895131eeadd85", "fb8e20fc2e4c3f24" + "63"},
		{"52c9a6bea8873a26", "fb8e20fc2e4c3f24" + "21e721c35a5823fd"},
		{"97f8ae6d8be060ff", "fb8e20fc2e4c3f24" + "21e721c35a5823fd" + "65"},
		{"7dbc0a5220d5d534", "fb8e20fc2e4c3f24" + "21e721c35a5823fd" + "4ca669ac3713d1f4"},
		{"6f0ac52b8a0695c4", "fb8e20fc2e4c3f24" + "21e721c35a5823fd" + "4ca669ac3713d1f4" + "67"},
		{"ccfa4e734db70609", "fb8e20fc2e4c3f24" + "21e721c35a5823fd" + "4ca669ac3713d1f4" + "fb2b7fce09401614"},
	}
	for n, k := range known {
		if got := hex.EncodeToString([]byte(merkle.Root(letters(n)))); got != k.root {
			t.Errorf("P4.1: Root of %d letters = %s, want %s", n, got, k.root)
		}
		if got := text(merkle.Up(letters(n))); got != k.up {
			t.Errorf("P4.1: Up of %d letters = %s, want %s", n, got, k.up)
		}
	}
	got, err := merkle.Path(letters(8), 5)
	if want := "65" + "fb2b7fce09401614" + "52c9a6bea8873a26"; len(got) != 3 || text(got) != want || err != api.OK {
		t.Errorf("P4.1: Path of 8 letters, 5 = %s, %d, want %s", text(got), err, want)
	}
	if got := hex.EncodeToString([]byte(merkle.Climb("f", 5, got))); got != known[8].root {
		t.Errorf("P4.2: f climbs to %s, want %s", got, known[8].root)
	}
}

func TestUp(t *testing.T) {
	for _, l := range rows() {
		ends(t, "Up", func() {
			if got, want := merkle.Up(l), up(l); !slices.Equal(got, want) {
				t.Errorf("P4.1: Up of %d leaves = %x, want %x", len(l), got, want)
			}
		})
	}
}

func TestRoot(t *testing.T) {
	for _, l := range rows() {
		ends(t, "Root", func() {
			if got, want := merkle.Root(l), root(l); got != want {
				t.Errorf("P4.1: Root of %d leaves = %x, want %x", len(l), got, want)
			}
		})
	}
}

// Whatever it holds, a last leaf goes up unsummed until it meets a neighbour.
func TestLastLeafGoesUpAsItIs(t *testing.T) {
	for _, last := range []string{"", "a", "\x00", "12345678", strings.Repeat("last", 300)} {
		for _, n := range []int{0, 2, 4, 6, 16, 30} {
			l := append(row(n, 7), last)
			got := merkle.Up(l)
			if len(got) != n/2+1 || got[n/2] != last {
				t.Errorf("P4.1: the last of %d leaves, %.20q, goes up as %.20q", n+1, last, got)
			}
		}
		for _, n := range []int{1, 2, 4, 16, 64} {
			l := row(n, 8)
			if got, want := merkle.Root(append(l, last)), short(merkle.Root(l), last); got != want {
				t.Errorf("P4.1: Root of %d leaves and %.20q = %x, want %x", n, last, got, want)
			}
		}
		if got := merkle.Root([]string{last}); got != last {
			t.Errorf("P4.1: Root of %.20q alone = %.20q", last, got)
		}
	}
}

func TestPath(t *testing.T) {
	for _, n := range lengths() {
		for _, l := range [][]string{row(n, int64(n)), make([]string, n)} {
			for at := range n {
				ends(t, "Path", func() {
					got, err := merkle.Path(l, at)
					if want := path(l, at); !slices.Equal(got, want) || err != api.OK {
						t.Errorf("P4.1: Path of %d leaves, %d = %x, %d, want %x", n, at, got, err, want)
					}
					if 1<<len(got) != n {
						t.Errorf("P4.1: Path of %d leaves, %d has %d texts", n, at, len(got))
					}
				})
			}
		}
	}
}

func TestPathOfNoSuchLeaf(t *testing.T) {
	// All numbers of leaves, so that ErrRange is seen to go ahead of ErrCount.
	for n := range 35 {
		for _, at := range outside(n) {
			ends(t, "Path", func() {
				if got, err := merkle.Path(row(n, 1), at); len(got) != 0 || err != api.ErrRange {
					t.Errorf("P4.1: Path of %d leaves, %d = %x, %d, want nothing and ErrRange", n, at, got, err)
				}
			})
		}
	}
	for _, l := range [][]string{nil, {}} {
		if got, err := merkle.Path(l, 0); len(got) != 0 || err != api.ErrRange {
			t.Errorf("P4.1: Path of no leaves, 0 = %x, %d, want nothing and ErrRange", got, err)
		}
	}
}

func TestPathOfOtherCounts(t *testing.T) {
	for n := range 140 {
		if n == 0 || n&(n-1) == 0 {
			continue
		}
		l := row(n, 2)
		for at := range n {
			ends(t, "Path", func() {
				if got, err := merkle.Path(l, at); len(got) != 0 || err != api.ErrCount {
					t.Errorf("P4.1: Path of %d leaves, %d = %x, %d, want nothing and ErrCount", n, at, got, err)
				}
			})
		}
	}
}

func TestLeavesClimbToTheRoot(t *testing.T) {
	for _, n := range lengths() {
		for seed := range int64(5) {
			l := row(n, seed)
			want := root(l)
			for at, leaf := range l {
				p, err := merkle.Path(l, at)
				if got := merkle.Climb(leaf, at, p); got != want || got != merkle.Root(l) || err != api.OK {
					t.Errorf("P4.2: leaf %d of %d climbs to %x, want %x", at, n, got, want)
				}
			}
		}
	}
}

func TestOthersDoNotClimb(t *testing.T) {
	for _, n := range []int{2, 4, 8, 16} {
		l := letters(n)
		want := root(l)
		for at, leaf := range l {
			p, _ := merkle.Path(l, at)
			for other := range n {
				if other != at && (merkle.Climb(leaf, other, p) == want || merkle.Climb(l[other], at, p) == want) {
					t.Errorf("P4.1: by the path of %d of %d another, %d, climbs to the root", at, n, other)
				}
			}
			for i := range p {
				changed := slices.Clone(p)
				changed[i] += "z"
				if merkle.Climb(leaf, at, changed) == want || merkle.Climb(leaf, at, p[:i]) == want {
					t.Errorf("P4.1: leaf %d of %d climbs by another path", at, n)
				}
			}
		}
	}
}

// climb is what Climb has to answer: the place is given by its bits, the lowest first.
func climb(leaf string, bits []bool, path []string) string {
	for i, s := range path {
		if i < len(bits) && bits[i] {
			leaf = short(s, leaf)
		} else {
			leaf = short(leaf, s)
		}
	}
	return leaf
}

// bits are those of a place, the lowest first; below 0 there is none.
func bits(at int) []bool {
	var l []bool
	for ; at > 0; at >>= 1 {
		l = append(l, at&1 != 0)
	}
	return l
}

func TestClimb(t *testing.T) {
	places := []int{0, 1, 2, 3, 4, 5, 7, 8, 10, 16, 255, 256, 1 << 31, 1<<31 - 1, 1 << 32, 1<<32 + 1, 1 << 62, math.MaxInt - 1, math.MaxInt,
		-1, -2, -3, -256, -1 << 31, -1 << 32, math.MinInt + 1, math.MinInt}
	paths := [][]string{nil, {}, {""}, {"", "", ""}, {"a"}, {"a", "b"}, {"a", "", "b", "c"}, {strings.Repeat("path", 4000), "x"}, row(5, 1), row(62, 2), row(63, 3), row(64, 4), row(65, 5), row(200, 6)}
	for _, leaf := range []string{"", "a", "\x00", "12345678", strings.Repeat("leaf", 4000)} {
		for _, at := range places {
			for _, p := range paths {
				ends(t, "Climb", func() {
					if got, want := merkle.Climb(leaf, at, p), climb(leaf, bits(at), p); got != want {
						t.Errorf("P4.1: Climb(%.20q, %d, %d texts) = %x, want %x", leaf, at, len(p), got, want)
					}
				})
			}
		}
	}
}

// A place below 0 is as 0; without a path the leaf stays where it is.
func TestClimbByHand(t *testing.T) {
	p := []string{"b", "c"}
	cases := []struct {
		at   int
		path []string
		want string
	}{
		{0, p, short(short("a", "b"), "c")},
		{1, p, short(short("b", "a"), "c")},
		{2, p, short("c", short("a", "b"))},
		{3, p, short("c", short("b", "a"))},
		{4, p, short(short("a", "b"), "c")},
		{5, p, short(short("b", "a"), "c")},
		{-1, p, short(short("a", "b"), "c")},
		{-2, p, short(short("a", "b"), "c")},
		{math.MinInt, p, short(short("a", "b"), "c")},
		{math.MaxInt, p, short("c", short("b", "a"))},
		{0, nil, "a"},
		{1, nil, "a"},
		{-1, []string{}, "a"},
		{math.MaxInt, []string{}, "a"},
	}
	for _, c := range cases {
		if got := merkle.Climb("a", c.at, c.path); got != c.want {
			t.Errorf("P4.1: Climb(a, %d, %q) = %x, want %x", c.at, c.path, got, c.want)
		}
	}
}

// Lists are laid into longer ones, of which nothing may change.
func TestArgumentsStay(t *testing.T) {
	for _, n := range []int{0, 1, 2, 3, 4, 5, 8, 16} {
		whole := slices.Concat(letters(n), []string{"what", "stands", "behind", "it"})
		was := slices.Clone(whole)
		l := whole[:n]
		merkle.Up(l)
		merkle.Root(l)
		for at := -1; at <= n; at++ {
			merkle.Path(l, at)
			merkle.Climb("leaf", at, l)
		}
		if !slices.Equal(whole, was) {
			t.Errorf("P4.3: the leaves were changed: %q, were %q", whole, was)
		}
	}
}

// overwrite fills a list and the room behind it.
func overwrite(l []string) {
	l = l[:cap(l)]
	for i := range l {
		l[i] = "overwritten"
	}
}

// Each answer is overwritten with the room behind it, and the same call asked again.
func TestAnswersAreNew(t *testing.T) {
	for _, n := range []int{1, 2, 3, 4, 5, 8, 16} {
		l := letters(n)
		first, second := merkle.Up(l), merkle.Up(l)
		overwrite(first)
		if !slices.Equal(l, letters(n)) || !slices.Equal(second, up(l)) || !slices.Equal(merkle.Up(l), up(l)) {
			t.Errorf("P4.3: an answer of Up of %d leaves shares memory", n)
		}
		for at := range n {
			first, err := merkle.Path(l, at)
			second, _ := merkle.Path(l, at)
			overwrite(first)
			third, _ := merkle.Path(l, at)
			if err != api.OK {
				continue
			}
			if !slices.Equal(l, letters(n)) || !slices.Equal(second, path(l, at)) || !slices.Equal(third, path(l, at)) {
				t.Errorf("P4.3: an answer of Path of %d leaves, %d shares memory", n, at)
			}
		}
	}
}

// What was answered does not change when the arguments do.
func TestArgumentsAreNotKept(t *testing.T) {
	for _, n := range []int{1, 2, 3, 4, 8} {
		l := letters(n)
		top, above := merkle.Root(l), merkle.Up(l)
		p, err := merkle.Path(l, 0)
		end := merkle.Climb("leaf", 1, l)
		overwrite(l)
		was := letters(n)
		if top != root(was) || !slices.Equal(above, up(was)) || end != climb("leaf", bits(1), was) {
			t.Errorf("P4.3: an answer of %d leaves changed with them", n)
		}
		if err == api.OK && !slices.Equal(p, path(was, 0)) {
			t.Errorf("P4.3: a path of %d leaves changed with them", n)
		}
		if merkle.Root(l) != root(l) || !slices.Equal(merkle.Up(l), up(l)) {
			t.Errorf("P4.3: old leaves were kept, %d of them", n)
		}
	}
}

func TestAnswersHangOnArgumentsAlone(t *testing.T) {
	var all sync.WaitGroup
	shared := row(16, 9)
	for g := range 8 {
		all.Go(func() {
			for i := range 40 {
				l := row(g+i, int64(i))
				at := (g + i) % 16
				p, err := merkle.Path(shared, at)
				if merkle.Root(l) != root(l) || !slices.Equal(merkle.Up(l), up(l)) || !slices.Equal(p, path(shared, at)) || err != api.OK {
					t.Errorf("P3: %d leaves have another answer beside other calls", g+i)
					return
				}
			}
		})
	}
	all.Wait()
}
