package journal_test

import (
	"math/rand"
	"slices"
	"strings"
	"testing"

	"moot/api"
	"moot/journal"
)

const (
	maxOctets = 1 << 14
	maxDisk   = 1 << 18
)

// ends calls f and says if it panicked (P1).
func ends(t *testing.T, what string, f func()) {
	t.Helper()
	defer func() {
		if x := recover(); x != nil {
			t.Errorf("P1: %s panicked: %v", what, x)
		}
	}()
	f()
}

// frame is the frame that a record has to have.
func frame(s string) string {
	return string([]byte{byte(len(s) >> 16), byte(len(s) >> 8), byte(len(s))}) + s
}

// frames are those that records have to have, one behind the other.
func frames(l ...string) string {
	out := ""
	for _, s := range l {
		out += frame(s)
	}
	return out
}

// page is what Scan has to find in octets, reckoned octet by octet.
func page(s string) ([]string, int) {
	var l []string
	at := 0
	for at+3 <= len(s) {
		size := 65536*int(s[at]) + 256*int(s[at+1]) + int(s[at+2])
		if size > maxOctets || at+3+size > len(s) {
			break
		}
		l = append(l, s[at+3:at+3+size])
		at += 3 + size
	}
	return l, at
}

// texts are records as texts.
func texts(l [][]byte) []string {
	var out []string
	for _, b := range l {
		out = append(out, string(b))
	}
	return out
}

// lists are records as octets.
func lists(l []string) [][]byte {
	var out [][]byte
	for _, s := range l {
		out = append(out, []byte(s))
	}
	return out
}

// drawn is a text of so many drawn octets.
func drawn(r *rand.Rand, size int) string {
	b := make([]byte, size)
	r.Read(b)
	return string(b)
}

// rows are lists of records.
func rows() [][]string {
	r := rand.New(rand.NewSource(13))
	return [][]string{
		nil,
		{""},
		{"a"},
		{"", ""},
		{"a", ""},
		{"", "a"},
		{"", "", "", "", ""},
		{"one", "two", "three"},
		{"\x00", "\x00\x00", "\x00\x00\x00", "\x00\x00\x01", "\xff\xff\xff"},
		{frame("a"), frames("a", "b"), frame(frame(""))},
		{drawn(r, 254), drawn(r, 255), drawn(r, 256), drawn(r, 257)},
		{strings.Repeat("x", 300), "", strings.Repeat("y", 700), "z"},
		{drawn(r, maxOctets)},
		{"ahead", drawn(r, maxOctets), drawn(r, maxOctets-1), "behind"},
	}
}

// isFramed says if Frame tells this of a record.
func isFramed(t *testing.T, b []byte, want string, wantErr api.Errno) {
	t.Helper()
	ends(t, "Frame", func() {
		got, err := journal.Frame(b)
		if string(got) != want || err != wantErr {
			t.Errorf("P13.1: Frame of %d octets = %.20x (%d octets), %d, want %.20x (%d octets), %d", len(b), got, len(got), err, want, len(want), wantErr)
		}
		if wantErr != api.OK && got != nil {
			t.Errorf("P4: Frame of %d octets tells octets beside an error", len(b))
		}
	})
}

// isScanned says if Scan finds these records, and so many octets of frames.
func isScanned(t *testing.T, what, s string, want []string, wantSize int) {
	t.Helper()
	ends(t, "Scan of "+what, func() {
		got, size := journal.Scan([]byte(s))
		if !slices.Equal(texts(got), want) || size != wantSize {
			t.Errorf("P13.1: Scan of %s (%d octets) = %d records, %d octets, want %d records, %d octets", what, len(s), len(got), size, len(want), wantSize)
		}
		again := ""
		for _, b := range got {
			f, err := journal.Frame(b)
			if err != api.OK {
				t.Errorf("P13.1: Scan of %s tells a record without a frame: %d octets", what, len(b))
			}
			again += string(f)
		}
		if size < 0 || size > len(s) || again != s[:size] {
			t.Errorf("P13.1: Scan of %s counts %d octets, which are not the frames of what it tells", what, size)
		}
	})
}

func TestExample(t *testing.T) {
	isFramed(t, []byte("a"), "\x00\x00\x01\x61", api.OK)
}

func TestFrame(t *testing.T) {
	isFramed(t, nil, "\x00\x00\x00", api.OK)
	isFramed(t, []byte{}, "\x00\x00\x00", api.OK)
	isFramed(t, make([]byte, 0, 9), "\x00\x00\x00", api.OK)
	heads := []struct {
		size int
		head string
	}{
		{0, "\x00\x00\x00"}, {1, "\x00\x00\x01"}, {2, "\x00\x00\x02"}, {3, "\x00\x00\x03"}, {254, "\x00\x00\xfe"},
		{255, "\x00\x00\xff"}, {256, "\x00\x01\x00"}, {257, "\x00\x01\x01"}, {0x1234, "\x00\x12\x34"},
		{maxOctets - 1, "\x00\x3f\xff"}, {maxOctets, "\x00\x40\x00"},
	}
	r := rand.New(rand.NewSource(1))
	for _, h := range heads {
		for _, s := range []string{drawn(r, h.size), strings.Repeat("\x00", h.size), strings.Repeat("\xff", h.size)} {
			isFramed(t, []byte(s), h.head+s, api.OK)
		}
	}
}

// A length that three octets can tell, or whose lowest octets look short, is too long all the same.
func TestFrameOfTooMany(t *testing.T) {
	for _, size := range []int{maxOctets + 1, maxOctets + 2, 2 * maxOctets, 1<<16 - 1, 1 << 16, 1<<16 + 1, maxDisk, 1<<24 - 1, 1 << 24, 1<<24 + 1, 1<<24 + maxOctets} {
		isFramed(t, make([]byte, size), "", api.ErrLong)
	}
}

func TestScan(t *testing.T) {
	for _, l := range rows() {
		isScanned(t, "frames", frames(l...), l, len(frames(l...)))
	}
	isScanned(t, "the example", "\x00\x00\x01a", []string{"a"}, 4)
	isScanned(t, "two frames", "\x00\x00\x00\x00\x00\x02ab", []string{"", "ab"}, 8)
}

func TestScanOfNoFrame(t *testing.T) {
	for _, b := range [][]byte{nil, {}, make([]byte, 0, 9), {0}, {1}, {255}, {0, 0}, {0, 1}, {255, 255}, {0, 0, 1}, {0, 1, 0}, {1, 0, 0}, {0, 0, 2, 7}, {255, 255, 255}} {
		ends(t, "Scan", func() {
			if l, size := journal.Scan(b); len(l) != 0 || size != 0 {
				t.Errorf("P13.1: Scan of %v = %d records, %d octets, want nothing, 0", b, len(l), size)
			}
		})
	}
}

// The octets behind those that are handed in are none of them.
func TestScanLooksAtNoOctetBehind(t *testing.T) {
	whole := []byte(frames("one", "two"))
	for size := range len(whole) {
		want, wantSize := page(string(whole[:size]))
		if got, counted := journal.Scan(whole[:size]); !slices.Equal(texts(got), want) || counted != wantSize {
			t.Errorf("P13.1: Scan of the first %d octets of two frames = %q, %d, want %q, %d", size, got, counted, want, wantSize)
		}
	}
}

// Behind whole frames each beginning of another one counts for nothing.
func TestScanOfABeginning(t *testing.T) {
	for _, l := range rows() {
		whole := frames(l...)
		for _, next := range []string{"a", "some octets", strings.Repeat("b", 256), frames("c", "d")} {
			f := frame(next)
			for size := range len(f) {
				isScanned(t, "frames and a beginning of one", whole+f[:size], l, len(whole))
			}
			isScanned(t, "frames and one more", whole+f, append(slices.Clone(l), next), len(whole)+len(f))
		}
	}
}

func TestScanOfLengths(t *testing.T) {
	octets := strings.Repeat("e", 1<<24+9)
	for _, ahead := range [][]string{nil, {""}, {"ahead"}, {"a", "", "head"}} {
		whole := frames(ahead...)
		for _, size := range []int{1, 2, 255, 256, 257, maxOctets - 1, maxOctets} {
			head := frame(octets[:size])[:3]
			isScanned(t, "a length of one octet more than there are", whole+head+octets[:size-1], ahead, len(whole))
			isScanned(t, "a length of as many octets as there are", whole+head+octets[:size], append(slices.Clone(ahead), octets[:size]), len(whole)+3+size)
			isScanned(t, "a length of one octet less than there are", whole+head+octets[:size+1], append(slices.Clone(ahead), octets[:size]), len(whole)+3+size)
		}
		for _, size := range []int{maxOctets + 1, maxOctets + 2, 1<<16 - 1, 1 << 16, 1<<16 + 1, 1 << 23, 1<<24 - 1} {
			head := frame(octets[:size])[:3]
			for _, behind := range []int{0, 1, size - 1, size, size + 9} {
				isScanned(t, "a length of too many octets", whole+head+octets[:behind], ahead, len(whole))
			}
		}
	}
}

// What stands behind a frame that is too long, or not whole, isn't looked at.
func TestScanEndsAtTheFirstThatIsNone(t *testing.T) {
	good := frames("good", "", "more")
	for _, bad := range []string{"\xff\xff\xff", "\x00\x40\x01" + strings.Repeat("f", maxOctets+1), "\x01\x00\x00", "\x40\x00\x00", "\x00\xff\x00"} {
		isScanned(t, "what is none, and frames", bad+good, nil, 0)
		isScanned(t, "a frame, what is none, and frames", frame("first")+bad+good, []string{"first"}, 8)
	}
}

// likely is drawn octets of which some are frames.
func likely(r *rand.Rand, size int) string {
	b := make([]byte, size)
	for i := range b {
		b[i] = []byte{0, 0, 0, 0, 0, 1, 2, 3, 5, 64, 65, 255}[r.Intn(12)]
	}
	return string(b)
}

func TestScanOfDrawnOctets(t *testing.T) {
	r := rand.New(rand.NewSource(2))
	most := 0
	for i := range 20000 {
		s := likely(r, r.Intn(60))
		if i%100 == 0 {
			s = likely(r, 2*maxOctets)
		} else if i%100 == 1 {
			s = drawn(r, r.Intn(2*maxOctets))
		}
		l, size := page(s)
		most = max(most, len(l))
		isScanned(t, "drawn octets", s, l, size)
	}
	if most < 5 {
		t.Errorf("only %d records in drawn octets", most)
	}
}

// A frame that is changed at one octet is what the page says of it.
func TestScanOfChangedFrames(t *testing.T) {
	whole := frames("one", "", "three", strings.Repeat("g", 260), "five")
	for at := range whole {
		for _, o := range []byte{0, 1, 2, 64, 65, 128, 255} {
			s := whole[:at] + string([]byte{o}) + whole[at+1:]
			l, size := page(s)
			isScanned(t, "frames with one octet changed", s, l, size)
		}
	}
}
