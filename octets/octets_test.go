package octets_test

import (
	"bytes"
	"math"
	"math/big"
	"math/rand"
	"slices"
	"sync"
	"testing"

	"moot/octets"
)

// numbers are those at the edges of what an int and Get's modulus hold.
func numbers() []int {
	l := []int{0, 1, 2, 127, 128, 255, 256, 258, 65535, 65536, 0x010203, 0x0102030405060708,
		1<<62 - 1, 1 << 62, 1<<62 + 1, math.MaxInt, -1, -2, -128, -255, -256, -257, -1 << 62, math.MinInt}
	for i := range 63 {
		l = append(l, 1<<i, 1<<i-1, -1<<i)
	}
	return l
}

// lists are octets of many lengths, the same at each run.
func lists() [][]byte {
	r := rand.New(rand.NewSource(1))
	l := [][]byte{nil, {}, {0}, {255}, bytes.Repeat([]byte{255}, 7), bytes.Repeat([]byte{255}, 8), bytes.Repeat([]byte{255}, 9)}
	for size := range 40 {
		for range 5 {
			b := make([]byte, size)
			r.Read(b)
			l = append(l, b)
		}
	}
	return l
}

// ends calls f and says if it panicked (P1).
func ends(t *testing.T, what string, f func()) {
	t.Helper()
	defer func() {
		if x := recover(); x != nil {
			t.Errorf("P1: %s panicked: %v", what, x)
		}
	}()
	f()
}

func TestPut(t *testing.T) {
	cases := []struct {
		n, size int
		want    string
	}{
		{258, 3, "\x00\x01\x02"},
		{0, 1, "\x00"},
		{0, 8, "\x00\x00\x00\x00\x00\x00\x00\x00"},
		{0x0102030405060708, 8, "\x01\x02\x03\x04\x05\x06\x07\x08"},
		{0x0102030405060708, 7, "\x02\x03\x04\x05\x06\x07\x08"},
		{0x0102030405060708, 1, "\x08"},
		{256, 1, "\x00"},
		{0xabcdef, 2, "\xcd\xef"},
		{1, 2, "\x00\x01"},
		{-1, 1, "\xff"},
		{-1, 3, "\xff\xff\xff"},
		{-1, 8, "\xff\xff\xff\xff\xff\xff\xff\xff"},
		{-2, 2, "\xff\xfe"},
		{-256, 2, "\xff\x00"},
		{-256, 1, "\x00"},
		{math.MaxInt, 8, "\x7f\xff\xff\xff\xff\xff\xff\xff"},
		{math.MinInt, 8, "\x80\x00\x00\x00\x00\x00\x00\x00"},
		{math.MinInt, 7, "\x00\x00\x00\x00\x00\x00\x00"},
	}
	for _, c := range cases {
		if b := octets.Put(c.n, c.size); string(b) != c.want {
			t.Errorf("P1.1: Put(%d, %d) = %x, want %x", c.n, c.size, b, c.want)
		}
	}
}

func TestPutSizeNearest(t *testing.T) {
	for _, n := range numbers() {
		for _, size := range []int{0, -1, -8, -9, -256, math.MinInt} {
			ends(t, "Put", func() {
				if b := octets.Put(n, size); len(b) != 0 {
					t.Errorf("P1.1: Put(%d, %d) = %x, want nothing", n, size, b)
				}
			})
		}
		want := octets.Put(n, 8)
		for _, size := range []int{9, 10, 16, 256, 1 << 32, math.MaxInt} {
			ends(t, "Put", func() {
				if b := octets.Put(n, size); len(b) != 8 || !bytes.Equal(b, want) {
					t.Errorf("P1.1: Put(%d, %d) = %x, want %x", n, size, b, want)
				}
			})
		}
	}
}

func TestPutIsLowestBits(t *testing.T) {
	for _, n := range numbers() {
		for size := range 9 {
			modulus := new(big.Int).Lsh(big.NewInt(1), uint(8*size))
			want := new(big.Int).Mod(big.NewInt(int64(n)), modulus)
			b := octets.Put(n, size)
			if len(b) != size || new(big.Int).SetBytes(b).Cmp(want) != 0 {
				t.Errorf("P1.1: Put(%d, %d) = %x, want %x in %d octets", n, size, b, want, size)
			}
		}
	}
}

func TestGet(t *testing.T) {
	cases := []struct {
		b    string
		want int
	}{
		{"", 0},
		{"\x00", 0},
		{"\x07", 7},
		{"\xff", 255},
		{"\x01\x02", 258},
		{"\x00\x00\x01\x02", 258},
		{"\x02\x01\x00", 0x020100},
		{"\xff\xff\xff\xff", math.MaxUint32},
		{"\x3f\xff\xff\xff\xff\xff\xff\xff", 1<<62 - 1},
		{"\x40\x00\x00\x00\x00\x00\x00\x00", 0},
		{"\x40\x00\x00\x00\x00\x00\x00\x05", 5},
		{"\x80\x00\x00\x00\x00\x00\x00\x00", 0},
		{"\xff\xff\xff\xff\xff\xff\xff\xff", 1<<62 - 1},
		{"\x01\x00\x00\x00\x00\x00\x00\x00\x00", 0},
		{"\x09\x01\x02\x03\x04\x05\x06\x07\x08", 0x0102030405060708},
		{"\xff\xff\xff\xff\xff\xff\xff\xff\xff\xff\xff\xff", 1<<62 - 1},
	}
	for _, c := range cases {
		if n := octets.Get([]byte(c.b)); n != c.want {
			t.Errorf("P1.1: Get(%x) = %d, want %d", c.b, n, c.want)
		}
	}
	if n := octets.Get(nil); n != 0 {
		t.Errorf("P1.1: Get(nil) = %d, want 0", n)
	}
}

func TestGetIsModulo(t *testing.T) {
	modulus := new(big.Int).Lsh(big.NewInt(1), 62)
	l := append(lists(), bytes.Repeat([]byte{1, 2, 255}, 100000))
	for _, b := range l {
		want := new(big.Int).SetBytes(b)
		want.Mod(want, modulus)
		if n := octets.Get(b); n < 0 || want.Cmp(big.NewInt(int64(n))) != 0 {
			t.Errorf("P1.1: Get of %d octets = %d, want %d", len(b), n, want)
		}
	}
}

func TestWord(t *testing.T) {
	b := []byte{0x81, 0x02, 0x03, 0x04, 0x05, 0xf6}
	cases := []struct {
		at   int
		want uint32
	}{
		{math.MinInt, 0}, {-5, 0}, {-4, 0}, {-3, 0}, {-1, 0},
		{0, 0x81020304}, {1, 0x02030405}, {2, 0x030405f6},
		{3, 0x0405f600}, {4, 0x05f60000}, {5, 0xf6000000},
		{6, 0}, {7, 0}, {100, 0}, {math.MaxInt - 3, 0}, {math.MaxInt, 0},
	}
	for _, c := range cases {
		ends(t, "Word", func() {
			if w := octets.Word(b, c.at); w != c.want {
				t.Errorf("P1.1: Word(%x, %d) = %x, want %x", b, c.at, w, c.want)
			}
		})
		ends(t, "Word", func() {
			if octets.Word(nil, c.at) != 0 || octets.Word([]byte{}, c.at) != 0 {
				t.Errorf("P1.1: Word of nothing at %d is not 0", c.at)
			}
		})
	}
}

// What lies behind a list, in the same memory, is not the list's.
func TestWordEndsWithItsList(t *testing.T) {
	b := []byte{1, 2, 3, 4, 5, 6, 7, 8}
	if w := octets.Word(b[:2], 0); w != 0x01020000 {
		t.Errorf("P1.1: Word read past the end: %x", w)
	}
	if w := octets.Word(b[:2], 2); w != 0 {
		t.Errorf("P1.1: Word read past the end: %x", w)
	}
}

func TestWords(t *testing.T) {
	cases := []struct {
		l    []uint32
		want string
	}{
		{nil, ""},
		{[]uint32{}, ""},
		{[]uint32{0}, "\x00\x00\x00\x00"},
		{[]uint32{1}, "\x00\x00\x00\x01"},
		{[]uint32{0x01020304}, "\x01\x02\x03\x04"},
		{[]uint32{math.MaxUint32, 0x80000000}, "\xff\xff\xff\xff\x80\x00\x00\x00"},
		{[]uint32{3, 2, 1}, "\x00\x00\x00\x03\x00\x00\x00\x02\x00\x00\x00\x01"},
	}
	for _, c := range cases {
		if b := octets.Words(c.l...); string(b) != c.want {
			t.Errorf("P1.1: Words(%x) = %x, want %x", c.l, b, c.want)
		}
	}
	if b := octets.Words(0xa, 0xb); string(b) != "\x00\x00\x00\x0a\x00\x00\x00\x0b" {
		t.Errorf("P1.1: Words(a, b) = %x", b)
	}
	if b := octets.Words(); len(b) != 0 {
		t.Errorf("P1.1: Words() = %x, want nothing", b)
	}
}

func TestJoin(t *testing.T) {
	cases := []struct {
		l    [][]byte
		want string
	}{
		{nil, ""},
		{[][]byte{}, ""},
		{[][]byte{nil}, ""},
		{[][]byte{nil, {}, nil}, ""},
		{[][]byte{[]byte("ab")}, "ab"},
		{[][]byte{[]byte("ab"), []byte("c")}, "abc"},
		{[][]byte{[]byte("c"), []byte("ab")}, "cab"},
		{[][]byte{nil, []byte("ab"), {}, []byte("cd"), nil, []byte("e"), nil}, "abcde"},
		{[][]byte{{0}, {0, 0}, {255}}, "\x00\x00\x00\xff"},
	}
	for _, c := range cases {
		if b := octets.Join(c.l...); string(b) != c.want {
			t.Errorf("P1.1: Join(%q) = %q, want %q", c.l, b, c.want)
		}
	}
	if b := octets.Join(); len(b) != 0 {
		t.Errorf("P1.1: Join() = %x, want nothing", b)
	}
	all := lists()
	if !bytes.Equal(octets.Join(all...), bytes.Join(all, nil)) {
		t.Error("P1.1: Join of many parts")
	}
}

func TestNumbersComeBack(t *testing.T) {
	for _, n := range numbers() {
		for size := range 9 {
			fits := n >= 0 && n < 1<<62 && (size == 8 || n < 1<<(8*size))
			if got := octets.Get(octets.Put(n, size)); fits && got != n {
				t.Errorf("P1.2: Get(Put(%d, %d)) = %d", n, size, got)
			}
		}
	}
	for _, b := range lists() {
		if len(b) > 7 {
			continue
		}
		if back := octets.Put(octets.Get(b), len(b)); !bytes.Equal(back, b) {
			t.Errorf("P1.2: Put(Get(%x)) = %x", b, back)
		}
	}
}

func TestWordsComeBack(t *testing.T) {
	l := []uint32{0, 1, 0x01020304, 0x80000000, math.MaxUint32, 0xfffefdfc}
	b := octets.Words(l...)
	for i, w := range l {
		if got := octets.Word(b, 4*i); got != w {
			t.Errorf("P1.2: Word(Words(..), %d) = %x, want %x", 4*i, got, w)
		}
		if got := octets.Get(octets.Words(w)); got != int(w) {
			t.Errorf("P1.2: Get(Words(%x)) = %x", w, got)
		}
	}
}

// spare is b with room behind it, of which every octet is told.
func spare(b string) (part []byte, whole []byte) {
	whole = append([]byte(b), "spare octets"...)
	return whole[:len(b)], whole
}

func TestArgumentsStay(t *testing.T) {
	part, whole := spare("\x01\x02\x03\x04\x05")
	was := bytes.Clone(whole)
	other := []byte("xyz")
	parts := [][]byte{part, other, nil}
	words := []uint32{1, 0x01020304, 3}
	octets.Get(part)
	octets.Word(part, 0)
	octets.Word(part, 3)
	octets.Words(words...)
	octets.Join(parts...)
	octets.Join(part)
	octets.Join(nil, part, other)
	if !bytes.Equal(whole, was) || string(other) != "xyz" {
		t.Errorf("P1.3: an argument was changed: %x, %q", whole, other)
	}
	if !slices.Equal(words, []uint32{1, 0x01020304, 3}) {
		t.Errorf("P1.3: Words changed its argument: %x", words)
	}
	if len(parts) != 3 || &parts[0][0] != &part[0] || &parts[1][0] != &other[0] || parts[2] != nil {
		t.Error("P1.3: Join changed its list of parts")
	}
}

// overwrite fills b, and the room behind it, with an octet.
func overwrite(b []byte, o byte) {
	b = b[:cap(b)]
	for i := range b {
		b[i] = o
	}
}

func TestJoinSharesNothing(t *testing.T) {
	part, whole := spare("ab")
	was := bytes.Clone(whole)
	lists := [][][]byte{{part}, {nil, part}, {part, nil}, {{}, part, {}}, {part, part}, {part, []byte("cd")}, {part[:0]}}
	for _, l := range lists {
		got := octets.Join(l...)
		overwrite(got, 'z')
		if !bytes.Equal(whole, was) {
			t.Fatalf("P1.3: what Join(%q) answers is its part", l)
		}
		again := octets.Join(l...)
		want := string(again)
		overwrite(part[:len(part):len(part)], 'q')
		if string(again) != want {
			t.Errorf("P1.3: what Join answers changes with its part: %q, want %q", again, want)
		}
		copy(whole, was)
	}
}

// Each answer is overwritten, and the same call asked again.
func TestAnswersAreNew(t *testing.T) {
	calls := map[string]func() []byte{
		"Put":         func() []byte { return octets.Put(258, 3) },
		"Put of 8":    func() []byte { return octets.Put(-1, 8) },
		"Put of none": func() []byte { return octets.Put(1, 0) },
		"Words":       func() []byte { return octets.Words(1, 2) },
		"Words, none": func() []byte { return octets.Words() },
		"Join":        func() []byte { return octets.Join([]byte("ab"), []byte("c")) },
		"Join, none":  func() []byte { return octets.Join() },
	}
	for name, call := range calls {
		first, second := call(), call()
		want := string(first)
		overwrite(first, 'z')
		if string(second) != want || string(call()) != want {
			t.Errorf("P1.3: two answers of %s share memory", name)
		}
		overwrite(second, 'y')
		if len(first) > 0 && first[0] != 'z' {
			t.Errorf("P1.3: two answers of %s share memory", name)
		}
	}
}

func TestAnswersHangOnArgumentsAlone(t *testing.T) {
	var all sync.WaitGroup
	for g := range 8 {
		all.Add(1)
		go func() {
			defer all.Done()
			for i := range 500 {
				n := g*1000 + i
				b := octets.Join(octets.Put(n, 4), octets.Words(uint32(n)))
				if octets.Get(b[:4]) != n || octets.Word(b, 4) != uint32(n) {
					t.Errorf("P3: %d came back as %x", n, b)
					return
				}
			}
		}()
	}
	all.Wait()
}
