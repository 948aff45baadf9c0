package sha_test

import (
	"bytes"
	"crypto/sha256"
	"encoding/hex"
	"math/rand"
	"strings"
	"sync"
	"testing"

	"moot/sha"
)

// text is so many octets, the same at each run.
func text(size int) []byte {
	b := make([]byte, size)
	rand.New(rand.NewSource(int64(size) + 1)).Read(b)
	return b
}

// sizes are all lengths over some blocks, and some long ones round the edges of a block.
func sizes() []int {
	var l []int
	for size := range 4*64 + 2 {
		l = append(l, size)
	}
	for _, edge := range []int{1 << 10, 1 << 14, 1 << 16, 1000 * 64} {
		for _, off := range []int{-9, -8, -1, 0, 1, 55, 56, 57, 63} {
			l = append(l, edge+off)
		}
	}
	return l
}

// want is what the standard library's own SHA-256 answers.
func want(b []byte) []byte {
	s := sha256.Sum256(b)
	return s[:]
}

// ends calls f and says if it panicked (P1).
func ends(t *testing.T, what string, f func()) {
	t.Helper()
	defer func() {
		if x := recover(); x != nil {
			t.Errorf("P1: %s panicked: %v", what, x)
		}
	}()
	f()
}

func TestSumOfTheStandard(t *testing.T) {
	cases := []struct{ text, want string }{
		{"", "e3b0c44298fc1c149afbf4c8996fb92427ae41e4649b934ca495991b7852b855"},
		{"a", "ca978112ca1bbdcafac231b39a23dc4da786eff8147c4e72b9807785afee48bb"},
		{"abc", "ba7816bf8f01cfea414140de5dae2223b00361a396177a9cb410ff61f20015ad"},
		{"message digest", "f7846f55cf23e14eebeab5b4e1550cad5b509e3348fbc4efa3a1413d393cb650"},
		{"abcdefghijklmnopqrstuvwxyz", "71c480df93d6ae2f1efad1447c66c9525e316218cf51fc8d9ed832f2daf18b73"},
		{
			"abcdbcdecdefdefgefghfghighijhijkijkljklmklmnlmnomnopnopq",
			"248d6a61d20638b8e5c026930c3e6039a33ce45964ff2167f6ecedd419db06c1",
		},
		{
			"abcdefghbcdefghicdefghijdefghijkefghijklfghijklmghijklmn" +
				"hijklmnoijklmnopjklmnopqklmnopqrlmnopqrsmnopqrstnopqrstu",
			"cf5b16a778af8380036ce59e7b0492370b249b11e8f07a51afac45037afee9d1",
		},
		{strings.Repeat("a", 1000000), "cdc76e5c9914fb9281a1c7e284d73e67f1809a48a497200e046d39ccc7112cd0"},
	}
	for _, c := range cases {
		if got := hex.EncodeToString(sha.Sum([]byte(c.text))); got != c.want {
			t.Errorf("P2.1: Sum of %d octets %.20q = %s, want %s", len(c.text), c.text, got, c.want)
		}
	}
}

func TestSumOfNothing(t *testing.T) {
	for _, b := range [][]byte{nil, {}, []byte("abc")[:0]} {
		ends(t, "Sum", func() {
			if got := sha.Sum(b); !bytes.Equal(got, want(nil)) {
				t.Errorf("P2.1: Sum of nothing = %x", got)
			}
		})
	}
}

func TestSumOfAllLengths(t *testing.T) {
	for _, size := range sizes() {
		ends(t, "Sum", func() {
			for _, b := range [][]byte{text(size), make([]byte, size), bytes.Repeat([]byte{255}, size), bytes.Repeat([]byte{128}, size)} {
				got := sha.Sum(b)
				if len(got) != 32 || !bytes.Equal(got, want(b)) {
					t.Errorf("P2.1: Sum of %d octets = %x, want %x", size, got, want(b))
				}
			}
		})
	}
}

// What lies behind a text, in the same memory, is not the text's.
func TestSumEndsWithItsText(t *testing.T) {
	b := text(300)
	for size := range len(b) {
		if got := sha.Sum(b[:size]); !bytes.Equal(got, want(b[:size])) {
			t.Errorf("P2.1: Sum of the first %d octets of a list = %x", size, got)
		}
		if got := sha.Sum(b[size:]); !bytes.Equal(got, want(b[size:])) {
			t.Errorf("P2.1: Sum of what stands behind %d octets = %x", size, got)
		}
	}
}

// parted are lists of parts, some with nothing in them.
func parted() [][][]byte {
	l := [][][]byte{
		nil,
		{},
		{nil},
		{{}},
		{nil, {}, nil},
		{[]byte("abc")},
		{[]byte("a"), []byte("bc")},
		{[]byte("bc"), []byte("a")},
		{[]byte("a"), nil, []byte("b"), {}, []byte("c")},
		{nil, []byte("abc"), nil},
		{text(55), text(1)},
		{text(63), text(1)},
		{text(64), text(64)},
		{text(56), nil, text(8), {}, text(200)},
	}
	var many [][]byte
	for size := range 130 {
		many = append(many, text(size))
	}
	return append(l, many)
}

func TestLongAndShortOfParts(t *testing.T) {
	for i, l := range parted() {
		sum := string(want(bytes.Join(l, nil)))
		ends(t, "Long", func() {
			if got := sha.Long(l...); got != sum {
				t.Errorf("P2.1: Long of list %d = %x, want %x", i, got, sum)
			}
		})
		ends(t, "Short", func() {
			if got := sha.Short(l...); got != sum[:8] {
				t.Errorf("P2.1: Short of list %d = %x, want %x", i, got, sum[:8])
			}
		})
	}
}

func TestLongAndShortOfNone(t *testing.T) {
	sum := string(want(nil))
	if got := sha.Long(); got != sum {
		t.Errorf("P2.1: Long() = %x", got)
	}
	if got := sha.Short(); got != sum[:8] {
		t.Errorf("P2.1: Short() = %x", got)
	}
}

func TestShortBeginsLong(t *testing.T) {
	for _, size := range sizes() {
		b := text(size)
		long, short := sha.Long(b), sha.Short(b)
		if len(long) != 32 || len(short) != 8 || !strings.HasPrefix(long, short) {
			t.Errorf("P2.1: of %d octets Short = %x, Long = %x", size, short, long)
		}
		if long != string(sha.Sum(b)) {
			t.Errorf("P2.1: Long of %d octets is not its Sum", size)
		}
	}
}

// Where a text is cut into parts does not count; their order does.
func TestPartsAreJoined(t *testing.T) {
	b := text(150)
	long, short := sha.Long(b), sha.Short(b)
	for at := range len(b) + 1 {
		if sha.Long(b[:at], b[at:]) != long || sha.Short(b[:at], b[at:]) != short {
			t.Errorf("P2.1: cut at %d it has another sum", at)
		}
		if at%len(b) != 0 && sha.Long(b[at:], b[:at]) == long {
			t.Errorf("P2.1: turned round at %d it has the same sum", at)
		}
	}
}

// padded is what Pad has to answer, octet by octet.
func padded(b []byte) []byte {
	out := append(bytes.Clone(b), 128)
	for len(out)%64 != 56 {
		out = append(out, 0)
	}
	for shift := 56; shift >= 0; shift -= 8 {
		out = append(out, byte(uint64(len(b))*8>>shift))
	}
	return out
}

func TestPad(t *testing.T) {
	for _, size := range sizes() {
		ends(t, "Pad", func() {
			b := text(size)
			if got := sha.Pad(b); !bytes.Equal(got, padded(b)) {
				t.Errorf("P2.1: Pad of %d octets ends with %x", size, got[min(size, len(got)):])
			}
		})
	}
}

func TestPadAtTheEdges(t *testing.T) {
	cases := []struct {
		size, want int
		end        string
	}{
		{0, 64, "\x00\x00"}, {1, 64, "\x00\x08"}, {54, 64, "\x01\xb0"}, {55, 64, "\x01\xb8"},
		{56, 128, "\x01\xc0"}, {57, 128, "\x01\xc8"}, {63, 128, "\x01\xf8"}, {64, 128, "\x02\x00"},
		{65, 128, "\x02\x08"}, {119, 128, "\x03\xb8"}, {120, 192, "\x03\xc0"}, {128, 192, "\x04\x00"},
	}
	for _, c := range cases {
		got := sha.Pad(text(c.size))
		if len(got) != c.want || !bytes.HasSuffix(got, []byte(c.end)) || got[c.size] != 128 {
			t.Errorf("P2.1: Pad of %d octets = %x, want %d octets with %x at the end", c.size, got, c.want, c.end)
		}
	}
	for _, b := range [][]byte{nil, {}} {
		if got := sha.Pad(b); !bytes.Equal(got, append([]byte{128}, make([]byte, 63)...)) {
			t.Errorf("P2.1: Pad of nothing = %x", got)
		}
	}
}

// spare is a text with room behind it, of which every octet is told.
func spare(size int) (part []byte, whole []byte) {
	whole = append(text(size), bytes.Repeat([]byte("spare"), 40)...)
	return whole[:size], whole
}

func TestArgumentsStay(t *testing.T) {
	for _, size := range []int{0, 1, 55, 56, 63, 64, 65, 128, 200} {
		part, whole := spare(size)
		other := []byte("xyz")
		parts := [][]byte{part, nil, other, part}
		was := bytes.Clone(whole)
		sha.Sum(part)
		sha.Pad(part)
		sha.Long(part)
		sha.Short(part)
		sha.Long(parts...)
		sha.Short(parts...)
		if !bytes.Equal(whole, was) || string(other) != "xyz" {
			t.Errorf("P2.2: a text of %d octets was changed, or what stands behind it", size)
		}
		if len(parts) != 4 || len(parts[0]) != size || parts[1] != nil || &parts[2][0] != &other[0] || len(parts[3]) != size {
			t.Errorf("P2.2: a list of parts was changed: %q", parts)
		}
	}
}

// overwrite changes each octet of b, and of the room behind it.
func overwrite(b []byte) {
	b = b[:cap(b)]
	for i := range b {
		b[i] ^= 255
	}
}

func TestPadSharesNothingWithItsText(t *testing.T) {
	for _, size := range []int{0, 1, 55, 56, 63, 64, 65, 128, 200} {
		part, whole := spare(size)
		was := bytes.Clone(whole)
		got := sha.Pad(part)
		overwrite(got)
		if !bytes.Equal(whole, was) {
			t.Errorf("P2.2: who changes Pad's answer changes its text of %d octets", size)
		}
		got = sha.Pad(part)
		wanted := bytes.Clone(got)
		overwrite(part)
		if !bytes.Equal(got, wanted) {
			t.Errorf("P2.2: who changes the text of %d octets changes Pad's answer", size)
		}
	}
}

// A text that was padded already is a text like others.
func TestPadOfPadded(t *testing.T) {
	b := sha.Pad([]byte("abc"))
	if got := sha.Pad(b); !bytes.Equal(got, padded(b)) || len(got) != 128 {
		t.Errorf("P2.1: Pad of a padded text = %x", got)
	}
}

// Each answer is overwritten, and the same call asked again.
func TestAnswersAreNew(t *testing.T) {
	calls := map[string]func([]byte) []byte{"Sum": sha.Sum, "Pad": sha.Pad}
	for name, call := range calls {
		for _, size := range []int{0, 3, 55, 56, 64, 130} {
			first, second := call(text(size)), call(text(size))
			wanted := bytes.Clone(first)
			overwrite(first)
			if !bytes.Equal(second, wanted) || !bytes.Equal(call(text(size)), wanted) {
				t.Errorf("P2.2: two answers of %s share memory (%d octets)", name, size)
			}
		}
	}
}

// A sum does not change when its text does.
func TestTextsAreNotKept(t *testing.T) {
	b := text(100)
	sum, long, short := sha.Sum(b), sha.Long(b), sha.Short(b)
	wanted := want(b)
	overwrite(b)
	if !bytes.Equal(sum, wanted) || long != string(wanted) || short != string(wanted[:8]) {
		t.Error("P2.2: a sum changed with its text")
	}
	if bytes.Equal(sha.Sum(b), wanted) || !bytes.Equal(sha.Sum(b), want(b)) {
		t.Error("P2.2: the sum of a changed text is the old one's")
	}
}

func TestAnswersHangOnArgumentsAlone(t *testing.T) {
	var all sync.WaitGroup
	for g := range 8 {
		all.Go(func() {
			for i := range 200 {
				b := text(g*200 + i)
				sum := string(want(b))
				if string(sha.Sum(b)) != sum || sha.Long(b) != sum || sha.Short(b) != sum[:8] || !bytes.Equal(sha.Pad(b), padded(b)) {
					t.Errorf("P3: %d octets have another sum beside other calls", len(b))
					return
				}
			}
		})
	}
	all.Wait()
}
