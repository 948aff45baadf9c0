package pack_test

import (
	"bytes"
	"math"
	"math/rand"
	"slices"
	"strings"
	"sync"
	"testing"

	"moot/api"
	"moot/pack"
)

const (
	maxAmount = 1 << 40
	maxField  = 1 << 12
	maxOctets = 1 << 14
)

// low is the lowest octets of n, so many, the highest first.
func low(n int, size int) string {
	var b []byte
	for i := size - 1; i >= 0; i-- {
		b = append(b, byte(uint64(n)>>(8*i)))
	}
	return string(b)
}

// field is one to write: a number, or a text.
type field struct {
	isText bool
	n      int
	s      string
}

// num is a field with a number.
func num(n int) field {
	return field{n: n}
}

// text is a field with a text.
func text(s string) field {
	return field{isText: true, s: s}
}

// octets are those that a field has to have.
func (f field) octets() string {
	if f.isText {
		return low(len(f.s), 2) + f.s
	}
	return low(f.n, 6)
}

// err is the error that a field has to have.
func (f field) err() api.Errno {
	if f.isText && len(f.s) > maxField {
		return api.ErrLong
	}
	if !f.isText && (f.n < 0 || f.n > maxAmount) {
		return api.ErrRange
	}
	return api.OK
}

// write writes fields.
func write(w *pack.Writer, fields ...field) {
	for _, f := range fields {
		if f.isText {
			w.Text(f.s)
		} else {
			w.Num(f.n)
		}
	}
}

// wanted is what Done has to tell behind fields.
func wanted(fields ...field) (string, api.Errno) {
	out := ""
	for _, f := range fields {
		if f.err() != api.OK {
			return "", f.err()
		}
	}
	for _, f := range fields {
		out += f.octets()
	}
	if len(out) > maxOctets {
		return "", api.ErrLong
	}
	return out, api.OK
}

// ends calls f and says if it panicked (P1).
func ends(t *testing.T, what string, f func()) {
	t.Helper()
	defer func() {
		if x := recover(); x != nil {
			t.Errorf("P1: %s panicked: %v", what, x)
		}
	}()
	f()
}

// isWritten says if a writer of the fields tells what it has to.
func isWritten(t *testing.T, what string, fields ...field) {
	t.Helper()
	ends(t, what, func() {
		w := pack.New()
		write(w, fields...)
		got, err := w.Done()
		want, wantErr := wanted(fields...)
		if string(got) != want || err != wantErr {
			t.Errorf("P6.1: Done behind %s = %.40x (%d octets), %d, want %.40x (%d octets), %d", what, got, len(got), err, want, len(want), wantErr)
		}
	})
}

// tells says if a writer tells this, however often it is asked.
func tells(t *testing.T, what string, w *pack.Writer, want string, wantErr api.Errno) {
	t.Helper()
	for range 2 {
		if got, err := w.Done(); string(got) != want || err != wantErr {
			t.Errorf("P6.1: Done behind %s = %.40x (%d octets), %d, want %.40x (%d octets), %d", what, got, len(got), err, want, len(want), wantErr)
		}
	}
}

// rightNumbers are those that can be written.
func rightNumbers() []int {
	l := []int{0, 1, 2, 127, 128, 255, 256, 257, 65535, 65536, 1 << 24, 1<<32 - 1, 1 << 32, 0x010203040506 % maxAmount, 0x8899aabbcc, maxAmount - 1, maxAmount}
	for bit := range 41 {
		l = append(l, 1<<bit)
	}
	return l
}

// lowNumbers are below all that can be written.
func lowNumbers() []int {
	return []int{-1, -2, -255, -256, -maxAmount, -maxAmount - 1, -1 << 48, -1<<48 + 1, math.MinInt, math.MinInt + 1}
}

// greatNumbers are above all that can be written.
func greatNumbers() []int {
	return []int{maxAmount + 1, maxAmount + 2, 2 * maxAmount, 1<<48 - 1, 1 << 48, 1<<48 + 1, 1 << 62, math.MaxInt - 1, math.MaxInt}
}

// rightTexts are those that can be written.
func rightTexts() []string {
	return []string{"", "a", "\x00", "\xff", "ab", "\x00\x00\x00", "a text", "\u00e9\xff\xfe", strings.Repeat("b", 255), strings.Repeat("c", 256), strings.Repeat("d", 257), strings.Repeat("e", maxField-1), strings.Repeat("f", maxField)}
}

// longTexts are those that are too long.
func longTexts() []string {
	return []string{strings.Repeat("g", maxField+1), strings.Repeat("h", maxField+2), strings.Repeat("\u00e9", maxField/2+1), strings.Repeat("i", 1<<16-1), strings.Repeat("j", 1<<16), strings.Repeat("k", 1<<16+1), strings.Repeat("l", 1<<20)}
}

func TestNum(t *testing.T) {
	known := []struct {
		n    int
		want string
	}{
		{0, "\x00\x00\x00\x00\x00\x00"},
		{1, "\x00\x00\x00\x00\x00\x01"},
		{258, "\x00\x00\x00\x00\x01\x02"},
		{0x0102030405, "\x00\x01\x02\x03\x04\x05"},
		{maxAmount - 1, "\x00\xff\xff\xff\xff\xff"},
		{maxAmount, "\x01\x00\x00\x00\x00\x00"},
	}
	for _, k := range known {
		w := pack.New()
		w.Num(k.n)
		tells(t, "a known number", w, k.want, api.OK)
	}
	for _, n := range rightNumbers() {
		isWritten(t, "a number", num(n))
		isWritten(t, "a number twice", num(n), num(n))
	}
}

func TestNumOfOthers(t *testing.T) {
	for _, n := range slices.Concat(lowNumbers(), greatNumbers()) {
		w := pack.New()
		ends(t, "Num", func() { w.Num(n) })
		tells(t, "a number that may not be", w, "", api.ErrRange)
	}
}

func TestText(t *testing.T) {
	for s, want := range map[string]string{"": "\x00\x00", "a": "\x00\x01a", "a text": "\x00\x06a text", strings.Repeat("x", maxField): "\x10\x00" + strings.Repeat("x", maxField)} {
		w := pack.New()
		w.Text(s)
		tells(t, "a known text", w, want, api.OK)
	}
	for _, s := range rightTexts() {
		isWritten(t, "a text", text(s))
		isWritten(t, "a text twice", text(s), text(s))
	}
}

func TestTextOfTooMany(t *testing.T) {
	for _, s := range longTexts() {
		w := pack.New()
		ends(t, "Text", func() { w.Text(s) })
		tells(t, "a text that is too long", w, "", api.ErrLong)
	}
}

func TestNothingWritten(t *testing.T) {
	tells(t, "nothing", pack.New(), "", api.OK)
}

func TestFieldsStandInTheirOrder(t *testing.T) {
	isWritten(t, "a number, a text", num(1), text("a"))
	isWritten(t, "a text, a number", text("a"), num(1))
	isWritten(t, "two texts", text("a"), text("bc"))
	isWritten(t, "two other texts", text("ab"), text("c"))
	isWritten(t, "empty texts", text(""), text(""), text(""))
}

// some are fields of all kinds, right and wrong.
func some() []field {
	return []field{num(7), num(0), num(maxAmount), text(""), text("behind"), text(strings.Repeat("m", maxField)), num(-1), num(maxAmount + 1), text(strings.Repeat("n", maxField+1))}
}

func TestFirstErrorStays(t *testing.T) {
	for _, wrong := range []field{num(-1), num(maxAmount + 1), num(math.MinInt), num(math.MaxInt), text(strings.Repeat("o", maxField+1))} {
		for _, ahead := range [][]field{nil, {num(1)}, {text("ahead")}, {num(1), text("")}} {
			for _, behind := range some() {
				for _, last := range some() {
					isWritten(t, "an error", slices.Concat(ahead, []field{wrong, behind, last})...)
				}
			}
		}
		// As many octets as are too many, and one more.
		isWritten(t, "an error and much", slices.Concat([]field{wrong}, slices.Repeat([]field{text(strings.Repeat("p", maxField))}, 5))...)
	}
}

// filled are fields of so many octets.
func filled(size int) []field {
	var l []field
	for size >= maxField+4 {
		l = append(l, text(strings.Repeat("q", maxField)))
		size -= maxField + 2
	}
	return append(l, text(strings.Repeat("r", size-2)))
}

func TestDoneOfManyOctets(t *testing.T) {
	for _, size := range []int{2, 6, maxField, maxField + 2, maxOctets - 8, maxOctets - 7, maxOctets - 6, maxOctets - 2, maxOctets - 1, maxOctets, maxOctets + 1, maxOctets + 2, maxOctets + 3, maxOctets + maxField, 2 * maxOctets, 5 * maxOctets} {
		isWritten(t, "many octets", filled(size)...)
		isWritten(t, "many octets and an empty text", append(filled(size), text(""))...)
		isWritten(t, "many octets and a number", append(filled(size), num(1))...)
		isWritten(t, "many octets and a text", append(filled(size), text("and a text"))...)
	}
	for _, count := range []int{maxOctets / 6, maxOctets/6 + 1, maxOctets, 2 * maxOctets} {
		isWritten(t, "many numbers", slices.Repeat([]field{num(5)}, count)...)
	}
	for _, count := range []int{maxOctets / 2, maxOctets/2 + 1, maxOctets} {
		isWritten(t, "many empty texts", slices.Repeat([]field{text("")}, count)...)
	}
}

// Done tells the error of a field ahead of ErrLong, wherever the field stood.
func TestErrorBehindTooManyOctets(t *testing.T) {
	for _, size := range []int{maxOctets - 1, maxOctets, maxOctets + 1, 2 * maxOctets} {
		for _, wrong := range []field{num(-1), num(maxAmount + 1), text(strings.Repeat("s", maxField+1))} {
			isWritten(t, "many octets and an error", append(filled(size), wrong)...)
			isWritten(t, "many octets, an error and more", append(filled(size), wrong, num(1), num(-1), text(strings.Repeat("s", maxField+1)))...)
		}
	}
}

func TestWritingGoesOnBehindDone(t *testing.T) {
	w := pack.New()
	var written []field
	var answers [][]byte
	var wants []string
	for _, f := range append(some()[:6], filled(maxOctets)...) {
		write(w, f)
		written = append(written, f)
		want, wantErr := wanted(written...)
		got, err := w.Done()
		if string(got) != want || err != wantErr {
			t.Errorf("P6.1: Done behind %d fields = %d octets, %d, want %d octets, %d", len(written), len(got), err, len(want), wantErr)
		}
		answers, wants = append(answers, got), append(wants, want)
	}
	write(w, num(-1))
	tells(t, "an error behind Done", w, "", api.ErrRange)
	for i := range answers {
		if string(answers[i]) != wants[i] {
			t.Errorf("P6.4: what Done told first as %.40x is %.40x when more was written", wants[i], answers[i])
		}
	}
}

// An error that comes behind Done is told from then on.
func TestErrorBehindDone(t *testing.T) {
	for _, wrong := range some()[6:] {
		w := pack.New()
		write(w, num(1))
		tells(t, "a number", w, low(1, 6), api.OK)
		write(w, wrong)
		tells(t, "a number, Done and an error", w, "", wrong.err())
		write(w, num(2), num(-1), text(strings.Repeat("t", maxField+1)))
		tells(t, "an error and more", w, "", wrong.err())
	}
}

func TestWriterThatNobodyMade(t *testing.T) {
	var none *pack.Writer
	for _, w := range []*pack.Writer{none, {}, new(pack.Writer)} {
		ends(t, "a writer that nobody made", func() {
			tells(t, "no New", w, "", api.ErrState)
			for _, f := range slices.Concat(some(), filled(2*maxOctets)) {
				write(w, f)
				tells(t, "no New and a field", w, "", api.ErrState)
			}
			if got, _ := w.Done(); got != nil {
				t.Errorf("P6.1: Done of a writer that nobody made = %x, want nothing", got)
			}
		})
	}
}

// state says if a reader has this error, and so many octets left.
func state(t *testing.T, what string, r *pack.Reader, left int, err api.Errno) {
	t.Helper()
	ends(t, what, func() {
		if r.Left() != left || r.Err() != err {
			t.Errorf("P6.2: behind %s Left is %d, Err %d, want %d, %d", what, r.Left(), r.Err(), left, err)
		}
	})
}

// stays says if a reader has this error, whatever is read behind it.
func stays(t *testing.T, what string, r *pack.Reader, err api.Errno) {
	t.Helper()
	ends(t, what, func() {
		state(t, what, r, 0, err)
		for _, most := range []int{maxAmount, maxField, math.MaxInt, 0, -1, math.MinInt} {
			if got := r.Num(most); got != 0 {
				t.Errorf("P6.2: Num(%d) behind %s = %d, want 0", most, what, got)
			}
			if got := r.Text(most); got != "" {
				t.Errorf("P6.2: Text(%d) behind %s = %q, want nothing", most, what, got)
			}
			state(t, what, r, 0, err)
		}
	})
}

// behind are octets that may stand behind a field: none, numbers, texts that could be read.
func behind() []string {
	return []string{"", "x", low(1, 6), low(2, 6) + low(3, 6), low(1, 2) + "y", strings.Repeat("\x00", 100)}
}

// mosts are bounds of all sizes.
func mosts() []int {
	return []int{math.MinInt, -maxAmount, -2, -1, 0, 1, 2, 5, 6, 254, 255, 256, 1000, maxField - 1, maxField, maxField + 1, 1<<16 - 1, 1 << 16, 1 << 32, maxAmount - 1, maxAmount, maxAmount + 1, 1<<48 - 1, 1 << 48, math.MaxInt}
}

func TestReaderNum(t *testing.T) {
	for _, n := range append(rightNumbers(), greatNumbers()[:4]...) {
		for _, most := range append(mosts(), n-1, n, n+1) {
			for _, more := range behind() {
				ends(t, "Num", func() {
					r := pack.Open([]byte(low(n, 6) + more))
					got := r.Num(most)
					if n > maxAmount || n > most {
						if got != 0 {
							t.Errorf("P6.2: Num(%d) of %d = %d, want 0", most, n, got)
						}
						stays(t, "a number that is too great", r, api.ErrRange)
						return
					}
					if got != n {
						t.Errorf("P6.2: Num(%d) of %d = %d", most, n, got)
					}
					state(t, "a number", r, len(more), api.OK)
				})
			}
		}
	}
}

// Too few octets go ahead of any bound.
func TestReaderNumOfTooFewOctets(t *testing.T) {
	for size := range 6 {
		for _, b := range []string{strings.Repeat("\x00", size), strings.Repeat("\xff", size)} {
			for _, most := range mosts() {
				ends(t, "Num", func() {
					r := pack.Open([]byte(b))
					if got := r.Num(most); got != 0 {
						t.Errorf("P6.2: Num(%d) of %d octets = %d, want 0", most, size, got)
					}
					stays(t, "a number of too few octets", r, api.ErrShort)
				})
			}
		}
	}
}

func TestReaderText(t *testing.T) {
	for _, s := range append(rightTexts(), longTexts()[:4]...) {
		for _, most := range append(mosts(), len(s)-1, len(s), len(s)+1) {
			for _, more := range behind() {
				ends(t, "Text", func() {
					r := pack.Open([]byte(low(len(s), 2) + s + more))
					got := r.Text(most)
					if len(s) > maxField || len(s) > most {
						if got != "" {
							t.Errorf("P6.2: Text(%d) of %d octets = %.20q, want nothing", most, len(s), got)
						}
						stays(t, "a text that is too long", r, api.ErrLong)
						return
					}
					if got != s {
						t.Errorf("P6.2: Text(%d) of %.20q = %.20q", most, s, got)
					}
					state(t, "a text", r, len(more), api.OK)
				})
			}
		}
	}
}

func TestReaderTextWithoutLength(t *testing.T) {
	for _, b := range []string{"", "\x00", "\x01", "\xff"} {
		for _, most := range mosts() {
			ends(t, "Text", func() {
				r := pack.Open([]byte(b))
				if got := r.Text(most); got != "" {
					t.Errorf("P6.2: Text(%d) of %x = %q, want nothing", most, b, got)
				}
				stays(t, "a text without a length", r, api.ErrShort)
			})
		}
	}
}

// A length that is too great is told though its octets are not there; then that they are too few.
func TestReaderTextOfTooFewOctets(t *testing.T) {
	for _, length := range []int{1, 2, 3, 255, 256, 257, maxField - 1, maxField, maxField + 1, 1<<16 - 1} {
		for _, there := range []int{0, 1, 2, length / 2, length - 1} {
			if there >= length {
				continue
			}
			for _, most := range append(mosts(), length-1, length, length+1) {
				ends(t, "Text", func() {
					r := pack.Open([]byte(low(length, 2) + strings.Repeat("u", there)))
					want := api.ErrShort
					if length > maxField || length > most {
						want = api.ErrLong
					}
					if got := r.Text(most); got != "" {
						t.Errorf("P6.2: Text(%d) of %d octets of %d = %.20q, want nothing", most, there, length, got)
					}
					stays(t, "a text of too few octets", r, want)
				})
			}
		}
	}
}

// What stands behind the wrong field could be read.
func TestReaderFirstErrorStays(t *testing.T) {
	rest := low(1, 6) + low(2, 2) + "ab"
	r := pack.Open([]byte(low(9, 6) + low(8, 6) + rest))
	if r.Num(9) != 9 || r.Num(7) != 0 {
		t.Error("P6.2: Num of 9 and of 8 above 7 are not 9 and 0")
	}
	stays(t, "a right number and a wrong one", r, api.ErrRange)
	r = pack.Open([]byte(low(9, 6) + low(3, 2) + "abc" + rest))
	if r.Num(9) != 9 || r.Text(2) != "" {
		t.Error("P6.2: Num of 9 and Text of abc above 2 are not 9 and nothing")
	}
	stays(t, "a right number and a wrong text", r, api.ErrLong)
	r = pack.Open([]byte(low(3, 2) + "abc" + low(3, 2) + "ab"))
	if r.Text(3) != "abc" || r.Text(3) != "" {
		t.Error("P6.2: Text of abc and of two octets of three are not abc and nothing")
	}
	stays(t, "a right text and a wrong one", r, api.ErrShort)
}

func TestReaderThatNobodyMade(t *testing.T) {
	var none *pack.Reader
	for _, r := range []*pack.Reader{none, {}, new(pack.Reader)} {
		stays(t, "no Open", r, api.ErrState)
	}
}

func TestOpenOfNothing(t *testing.T) {
	for _, b := range [][]byte{nil, {}} {
		r := pack.Open(b)
		state(t, "Open of nothing", r, 0, api.OK)
		r.Num(maxAmount)
		stays(t, "a number of nothing", r, api.ErrShort)
	}
}

// Only what is written is bounded, not what is read.
func TestOpenOfManyOctets(t *testing.T) {
	for _, size := range []int{maxOctets, maxOctets + 6, 6 * maxOctets} {
		r := pack.Open([]byte(strings.Repeat(low(7, 6), size/6)))
		for left := size / 6; left > 0; left-- {
			state(t, "many octets", r, 6*left, api.OK)
			if got := r.Num(7); got != 7 {
				t.Fatalf("P6.2: Num(7) with %d numbers left = %d, want 7", left, got)
			}
		}
		state(t, "all of many octets", r, 0, api.OK)
	}
}

// readAgain reads fields from what they were written to.
func readAgain(t *testing.T, b []byte, fields ...field) {
	t.Helper()
	r := pack.Open(b)
	left := len(b)
	for _, f := range fields {
		state(t, "fields that were written", r, left, api.OK)
		if f.isText {
			if got := r.Text(maxField); got != f.s {
				t.Errorf("P6.3: what was written as %.20q is read as %.20q", f.s, got)
			}
		} else if got := r.Num(maxAmount); got != f.n {
			t.Errorf("P6.3: what was written as %d is read as %d", f.n, got)
		}
		left -= len(f.octets())
	}
	state(t, "all fields that were written", r, 0, api.OK)
	r.Text(0)
	stays(t, "one field more than was written", r, api.ErrShort)
}

// randomFields are right fields of at most MaxOctets octets, the same at each run.
func randomFields(r *rand.Rand) []field {
	var l []field
	for left := maxOctets; ; {
		f := num(r.Intn(maxAmount + 1))
		if r.Intn(2) == 0 {
			b := make([]byte, r.Intn(1<<r.Intn(13)))
			r.Read(b)
			f = text(string(b))
		}
		left -= len(f.octets())
		if left < 0 || r.Intn(100) == 0 {
			return l
		}
		l = append(l, f)
	}
}

func TestWhatIsWrittenIsRead(t *testing.T) {
	lists := [][]field{nil, {num(0)}, {text("")}, {num(1), text("a")}, some()[:6], filled(maxOctets)}
	r := rand.New(rand.NewSource(6))
	for range 200 {
		lists = append(lists, randomFields(r))
	}
	for _, l := range lists {
		w := pack.New()
		write(w, l...)
		b, err := w.Done()
		want, _ := wanted(l...)
		if string(b) != want || err != api.OK {
			t.Errorf("P6.1: Done behind %d fields = %d octets, %d, want %d octets", len(l), len(b), err, len(want))
		}
		readAgain(t, b, l...)
	}
}

// overwrite fills octets and the room behind them.
func overwrite(b []byte) {
	b = b[:cap(b)]
	for i := range b {
		b[i] = 0xee
	}
}

func TestDoneIsNewMemory(t *testing.T) {
	w := pack.New()
	write(w, num(1), text("a text"))
	want, _ := wanted(num(1), text("a text"))
	first, _ := w.Done()
	second, _ := w.Done()
	overwrite(first)
	if string(second) != want {
		t.Errorf("P6.4: two answers of Done share memory: %x, want %x", second, want)
	}
	tells(t, "overwritten answers", w, want, api.OK)
	write(w, num(2))
	tells(t, "overwritten answers and a number", w, want+low(2, 6), api.OK)
	if string(second) != want || !bytes.Equal(first, bytes.Repeat([]byte{0xee}, len(want))) {
		t.Errorf("P6.4: writing on changed what Done told: %x, %x", first, second)
	}
}

func TestOctetsOfOpenStayAndAreNotKept(t *testing.T) {
	inside := low(5, 6) + low(3, 2) + "abc" + low(6, 6)
	whole := []byte(inside + "what stands behind them")
	was := slices.Clone(whole)
	r := pack.Open(whole[:len(inside)])
	other := pack.Open(whole[:len(inside)])
	if r.Num(5) != 5 || r.Text(3) != "abc" || r.Num(6) != 6 || r.Left() != 0 || r.Num(6) != 0 {
		t.Error("P6.2: a part of octets is not read")
	}
	if !bytes.Equal(whole, was) {
		t.Errorf("P6.4: Open or a reader changed octets: %x, were %x", whole, was)
	}
	first := other.Num(5)
	overwrite(whole)
	if first != 5 || other.Text(3) != "abc" || other.Num(6) != 6 || other.Left() != 0 || other.Err() != api.OK {
		t.Error("P6.4: a reader kept the octets that were handed in")
	}
}

// What Done told is read, whatever becomes of it and of the writer.
func TestReaderOfWhatAWriterTold(t *testing.T) {
	w := pack.New()
	write(w, text("first"), num(2))
	b, _ := w.Done()
	r := pack.Open(b)
	write(w, text("more"))
	overwrite(b)
	if r.Text(5) != "first" || r.Num(2) != 2 || r.Left() != 0 || r.Err() != api.OK {
		t.Error("P6.4: a reader, a writer and an answer share memory")
	}
}

// Text and Num of one reader or writer have nothing to do with another one's.
func TestObjectsAreApart(t *testing.T) {
	first, second := pack.New(), pack.New()
	write(first, num(1))
	write(second, num(-1))
	write(first, text("a"))
	tells(t, "another writer's error", first, low(1, 6)+low(1, 2)+"a", api.OK)
	tells(t, "its own error", second, "", api.ErrRange)
	b := []byte(low(1, 6) + low(2, 6))
	one, two := pack.Open(b), pack.Open(b)
	one.Num(0)
	if got := two.Num(1); got != 1 {
		t.Errorf("P6.4: Num behind another reader's error = %d, want 1", got)
	}
	stays(t, "its own error", one, api.ErrRange)
	state(t, "another reader's error", two, 6, api.OK)
}

func TestAnswersHangOnArgumentsAlone(t *testing.T) {
	var all sync.WaitGroup
	shared := []byte(low(1, 6) + low(3, 2) + "abc")
	for g := range 8 {
		all.Go(func() {
			for i := range 200 {
				l := []field{num(1000*g + i), text(strings.Repeat("v", i))}
				w := pack.New()
				write(w, l...)
				b, err := w.Done()
				want, _ := wanted(l...)
				r := pack.Open(shared)
				if string(b) != want || err != api.OK || r.Num(1) != 1 || r.Text(3) != "abc" || r.Left() != 0 {
					t.Errorf("P3: field %d of %d has another answer beside other calls", i, g)
					return
				}
			}
		})
	}
	all.Wait()
}
