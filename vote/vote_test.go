package vote_test

import (
	"bytes"
	"encoding/hex"
	"math"
	"math/rand"
	"slices"
	"strings"
	"sync"
	"testing"

	"moot/api"
	"moot/pack"
	"moot/signer"
	"moot/vote"
)

// The limits and the kinds, as the document tells them.
const (
	maxAmount = 1 << 40
	maxField  = 1 << 12
	maxHeight = 1 << 20
	maxView   = 1 << 20
	maxTicks  = 1 << 20
	plain     = 1
	commit    = 2
	held      = 3
	blame     = 4
	name      = "the block's name, 32 octets long"
)

// low is the lowest octets of n, so many, the highest first.
func low(n int, size int) string {
	var b []byte
	for i := size - 1; i >= 0; i-- {
		b = append(b, byte(uint64(n)>>(8*i)))
	}
	return string(b)
}

// numbersOf is the text that a statement has to have, behind its word.
func numbersOf(v api.Vote) string {
	return low(v.Kind, 6) + low(v.View, 6) + low(v.Height, 6) + low(len(v.Block), 2) + v.Block + low(v.Ticks, 6) + low(v.Signer, 6)
}

// textOf is the text that a statement has to have.
func textOf(v api.Vote) string {
	return "\x00\x04vote" + numbersOf(v)
}

// octetsOf are the octets that a statement has to have.
func octetsOf(v api.Vote) string {
	return textOf(v) + low(len(v.Sig), 2) + v.Sig
}

// unhex is the text that these digits tell.
func unhex(t *testing.T, s string) string {
	t.Helper()
	b, err := hex.DecodeString(s)
	if err != nil {
		t.Fatal(err)
	}
	return string(b)
}

// ofKind is a statement of that kind that may be, unsigned.
func ofKind(kind int) api.Vote {
	switch kind {
	case held:
		return api.Vote{Kind: held, View: 7, Height: 9, Block: name, Ticks: 64, Signer: 5}
	case blame:
		return api.Vote{Kind: blame, View: 7, Signer: 5}
	}
	return api.Vote{Kind: kind, View: 7, Height: 9, Block: name, Signer: 5}
}

// with is a statement as change leaves it.
func with(v api.Vote, change func(v *api.Vote)) api.Vote {
	change(&v)
	return v
}

// rights are statements that may be: of each kind, with every edge of each of their fields.
func rights() []api.Vote {
	var l []api.Vote
	for kind := 1; kind <= 4; kind++ {
		v := ofKind(kind)
		l = append(l, v)
		for _, n := range []int{0, 1, 255, 256, 65536, maxView - 1, maxView} {
			l = append(l, with(v, func(v *api.Vote) { v.View = n }))
			if kind != blame {
				l = append(l, with(v, func(v *api.Vote) { v.Height = n }), with(v, func(v *api.Vote) { v.View, v.Height = maxView-n, n }))
			}
			if kind == held && n > 0 {
				l = append(l, with(v, func(v *api.Vote) { v.Ticks = n }))
			}
		}
		for signer := range 7 {
			l = append(l, with(v, func(v *api.Vote) { v.Signer = signer }))
		}
		for _, size := range []int{0, 1, 121, 122, 123, 255, 256, maxField - 1, maxField} {
			l = append(l, with(v, func(v *api.Vote) { v.Sig = strings.Repeat("s", size) }))
		}
		if kind != blame {
			l = append(l, with(v, func(v *api.Vote) { v.Block = strings.Repeat("\x00", 32) }), with(v, func(v *api.Vote) { v.Block = strings.Repeat("\xff", 32) }))
		}
	}
	return l
}

// writable are statements that may not be, though pack can write all their fields.
func writable() []api.Vote {
	l := []api.Vote{{}, {Kind: 0, Block: name}, {Kind: held}, {Kind: blame, Block: name, Ticks: 1, Height: 1}}
	for kind := 1; kind <= 4; kind++ {
		v := ofKind(kind)
		for _, n := range []int{0, 5, 6, 256 + kind, 1<<32 + kind, maxAmount} {
			l = append(l, with(v, func(v *api.Vote) { v.Kind = n }))
		}
		for _, n := range []int{maxView + 1, 2 * maxView, 1<<32 + 7, maxAmount - 1, maxAmount} {
			l = append(l, with(v, func(v *api.Vote) { v.View = n }), with(v, func(v *api.Vote) { v.Height = n }), with(v, func(v *api.Vote) { v.Ticks = n }))
		}
		for _, n := range []int{7, 8, 256, 261, 1<<32 + 5, maxAmount} {
			l = append(l, with(v, func(v *api.Vote) { v.Signer = n }))
		}
		for _, size := range []int{1, 8, 31, 33, 64, 256, 288, maxField} {
			l = append(l, with(v, func(v *api.Vote) { v.Block = strings.Repeat("b", size) }))
		}
		if kind == held {
			l = append(l, with(v, func(v *api.Vote) { v.Ticks = 0 }))
		} else {
			l = append(l, with(v, func(v *api.Vote) { v.Ticks = 1 }), with(v, func(v *api.Vote) { v.Ticks = maxTicks }))
		}
		if kind == blame {
			l = append(l, with(v, func(v *api.Vote) { v.Height = 1 }), with(v, func(v *api.Vote) { v.Height = maxHeight }), with(v, func(v *api.Vote) { v.Block = name }))
		} else {
			l = append(l, with(v, func(v *api.Vote) { v.Block = "" }))
		}
	}
	return l
}

// beyondPack are statements that may not be, for a field that pack can't write, by the error that it tells.
func beyondPack() map[api.Vote]api.Errno {
	l := map[api.Vote]api.Errno{}
	for kind := 1; kind <= 4; kind++ {
		v := ofKind(kind)
		for _, n := range []int{-1, -2, -4, -7, -1 << 32, -1 << 62, math.MinInt, maxAmount + 1, 1<<48 + 1, 1<<62 + 1, math.MaxInt} {
			for _, change := range []func(v *api.Vote){func(v *api.Vote) { v.Kind = n }, func(v *api.Vote) { v.View = n }, func(v *api.Vote) { v.Height = n }, func(v *api.Vote) { v.Ticks = n }, func(v *api.Vote) { v.Signer = n }} {
				l[with(v, change)] = api.ErrRange
			}
		}
		for _, size := range []int{maxField + 1, maxField + 2, 1<<16 - 1, 1 << 16, 1<<16 + 1, 1<<16 + 32} {
			l[with(v, func(v *api.Vote) { v.Sig = strings.Repeat("s", size) })] = api.ErrLong
			l[with(v, func(v *api.Vote) { v.Block = strings.Repeat("b", size) })] = api.ErrLong
		}
	}
	return l
}

// wrongs are all statements that may not be.
func wrongs() []api.Vote {
	l := writable()
	for v := range beyondPack() {
		l = append(l, v)
	}
	return l
}

// roots are those of all replicas' keys.
func roots(t *testing.T) []string {
	t.Helper()
	var l []string
	for replica := range 7 {
		root, err := signer.Root(vote.Key(replica))
		if err != api.OK {
			t.Fatalf("P8.1: Key(%d) may not be: %d", replica, err)
		}
		l = append(l, root)
	}
	return l
}

// signed is a statement that Sign signs, and the key behind it.
func signed(t *testing.T, k api.Key, v api.Vote) (api.Vote, api.Key) {
	t.Helper()
	one, used, err := vote.Sign(k, v)
	if err != api.OK {
		t.Fatalf("P8.1: Sign of %.200v with Next %d: %d", v, k.Next, err)
	}
	return one, used
}

// same says if two keys are, nil and empty leaves being one (P5).
func same(a, b api.Key) bool {
	return a.Seed == b.Seed && slices.Equal(a.Leaves, b.Leaves) && a.Next == b.Next
}

// ends calls f and says if it panicked (P1).
func ends(t *testing.T, what string, f func()) {
	t.Helper()
	defer func() {
		if x := recover(); x != nil {
			t.Errorf("P1: %s panicked: %v", what, x)
		}
	}()
	f()
}

func TestCheck(t *testing.T) {
	for _, right := range rights() {
		if err := vote.Check(right); err != api.OK {
			t.Errorf("P8.1: Check of %.200v = %d, want OK", right, err)
		}
	}
	for _, wrong := range wrongs() {
		ends(t, "Check", func() {
			if err := vote.Check(wrong); err != api.ErrState {
				t.Errorf("P8.1: Check of %.200v = %d, want ErrState", wrong, err)
			}
		})
	}
	// The chapter's example.
	if err := vote.Check(api.Vote{Kind: 4, View: 3}); err != api.OK {
		t.Errorf("P8.1: Check of a blame of view 3 = %d, want OK", err)
	}
}

// edge is a statement at an edge or beyond it, and if it may be.
type edge struct {
	v    api.Vote
	isOK bool
}

// holds says if Check tells what is wanted of each.
func holds(t *testing.T, l []edge) {
	t.Helper()
	for _, e := range l {
		want := api.ErrState
		if e.isOK {
			want = api.OK
		}
		if err := vote.Check(e.v); err != want {
			t.Errorf("P8.1: Check of %.200v = %d, want %d", e.v, err, want)
		}
	}
}

// The edges that all kinds have, each by itself, all other fields being right.
func TestCheckAtTheEdgesOfAllKinds(t *testing.T) {
	holds(t, []edge{
		{api.Vote{Kind: -1, Block: name}, false},
		{api.Vote{Kind: 0, Block: name}, false},
		{api.Vote{Kind: 1, Block: name}, true},
		{api.Vote{Kind: 2, Block: name}, true},
		{api.Vote{Kind: 3, Block: name, Ticks: 1}, true},
		{api.Vote{Kind: 4}, true},
		{api.Vote{Kind: 5}, false},
		{api.Vote{Kind: 5, Block: name}, false},
		{api.Vote{Kind: 5, Block: name, Ticks: 1}, false},
	})
	for kind := 1; kind <= 4; kind++ {
		v := ofKind(kind)
		holds(t, []edge{
			{with(v, func(v *api.Vote) { v.View = -1 }), false},
			{with(v, func(v *api.Vote) { v.View = 0 }), true},
			{with(v, func(v *api.Vote) { v.View = 1048576 }), true},
			{with(v, func(v *api.Vote) { v.View = 1048577 }), false},
			{with(v, func(v *api.Vote) { v.Height = -1 }), false},
			{with(v, func(v *api.Vote) { v.Height = 0 }), true},
			{with(v, func(v *api.Vote) { v.Height = 1 }), kind != 4},
			{with(v, func(v *api.Vote) { v.Height = 1048576 }), kind != 4},
			{with(v, func(v *api.Vote) { v.Height = 1048577 }), false},
			{with(v, func(v *api.Vote) { v.Signer = -1 }), false},
			{with(v, func(v *api.Vote) { v.Signer = 0 }), true},
			{with(v, func(v *api.Vote) { v.Signer = 6 }), true},
			{with(v, func(v *api.Vote) { v.Signer = 7 }), false},
			{with(v, func(v *api.Vote) { v.Sig = strings.Repeat("s", 4096) }), true},
			{with(v, func(v *api.Vote) { v.Sig = strings.Repeat("s", 4097) }), false},
		})
	}
}

// The edges at which kinds are apart.
func TestCheckAtTheEdgesOfAKind(t *testing.T) {
	for kind := 1; kind <= 4; kind++ {
		v := ofKind(kind)
		holds(t, []edge{
			{with(v, func(v *api.Vote) { v.Block = "" }), kind == 4},
			{with(v, func(v *api.Vote) { v.Block = "b" }), false},
			{with(v, func(v *api.Vote) { v.Block = name[:31] }), false},
			{with(v, func(v *api.Vote) { v.Block = name }), kind != 4},
			{with(v, func(v *api.Vote) { v.Block = name + "b" }), false},
			{with(v, func(v *api.Vote) { v.Ticks = -1 }), false},
			{with(v, func(v *api.Vote) { v.Ticks = 0 }), kind != 3},
			{with(v, func(v *api.Vote) { v.Ticks = 1 }), kind == 3},
			{with(v, func(v *api.Vote) { v.Ticks = 1048576 }), kind == 3},
			{with(v, func(v *api.Vote) { v.Ticks = 1048577 }), false},
		})
	}
}

// A statement of one kind is none of another, but for votes and commit-votes.
func TestKindsAreApart(t *testing.T) {
	for kind := 1; kind <= 4; kind++ {
		for other := 1; other <= 4; other++ {
			v := ofKind(kind)
			v.Kind = other
			isAlike := kind == other || kind <= 2 && other <= 2
			holds(t, []edge{{v, isAlike}})
		}
	}
}

func TestText(t *testing.T) {
	for _, right := range rights() {
		if got := vote.Text(right); string(got) != textOf(right) {
			t.Errorf("P8.1: Text of %.200v = %x, want %x", right, got, textOf(right))
		}
	}
	for _, wrong := range wrongs() {
		ends(t, "Text", func() {
			if got := vote.Text(wrong); len(got) != 0 {
				t.Errorf("P8.1: Text of %.200v = %x, want nothing", wrong, got)
			}
		})
	}
}

// spelt are statements of each kind, and their texts octet by octet.
func spelt() map[api.Vote]string {
	block := strings.Repeat("ab", 32)
	b := strings.Repeat("\xab", 32)
	return map[api.Vote]string{
		{Kind: 1, View: 0x010203, Height: 0x040506, Block: b, Signer: 6}:               "0004766f7465" + "000000000001" + "000000010203" + "000000040506" + "0020" + block + "000000000000" + "000000000006",
		{Kind: 2, View: 5, Height: 4, Block: b, Signer: 3}:                             "0004766f7465" + "000000000002" + "000000000005" + "000000000004" + "0020" + block + "000000000000" + "000000000003",
		{Kind: 3, View: 2, Height: 258, Block: b, Ticks: 0x070809, Signer: 1}:          "0004766f7465" + "000000000003" + "000000000002" + "000000000102" + "0020" + block + "000000070809" + "000000000001",
		{Kind: 4, View: 3, Signer: 2}:                                                  "0004766f7465" + "000000000004" + "000000000003" + "000000000000" + "0000" + "000000000000" + "000000000002",
		{Kind: 3, View: 1 << 20, Height: 1 << 20, Block: b, Ticks: 1 << 20, Signer: 0}: "0004766f7465" + "000000000003" + "000000100000" + "000000100000" + "0020" + block + "000000100000" + "000000000000",
	}
}

func TestTextAndPutOctetByOctet(t *testing.T) {
	for v, digits := range spelt() {
		want := unhex(t, digits)
		v.Sig = "sig"
		if got := vote.Text(v); string(got) != want {
			t.Errorf("P8.1: Text of %v = %x, want %x", v, got, want)
		}
		want = "\x00\x05ahead" + want + "\x00\x03sig" + low(9, 6)
		if got, err := put(t, v); got != want || err != api.OK {
			t.Errorf("P8.1: Put of %v: %x, %d, want %x", v, got, err, want)
		}
	}
}

// put is what a writer tells behind Put, other fields standing around it.
func put(t *testing.T, v api.Vote) (string, api.Errno) {
	t.Helper()
	w := pack.New()
	w.Text("ahead")
	ends(t, "Put", func() { vote.Put(w, v) })
	w.Num(9)
	b, err := w.Done()
	return string(b), err
}

func TestPut(t *testing.T) {
	for _, right := range rights() {
		want := "\x00\x05ahead" + octetsOf(right) + low(9, 6)
		if got, err := put(t, right); got != want || err != api.OK {
			t.Errorf("P8.1: Put of %.200v: %.200x, %d, want %.200x", right, got, err, want)
		}
	}
}

// Of what may not be the fields are put all the same: the writer tells of those that it can't write.
func TestPutOfWhatMayNotBe(t *testing.T) {
	for _, wrong := range writable() {
		want := "\x00\x05ahead" + octetsOf(wrong) + low(9, 6)
		if got, err := put(t, wrong); got != want || err != api.OK {
			t.Errorf("P8.1: Put of %.200v: %.200x, %d, want %.200x", wrong, got, err, want)
		}
	}
	for wrong, want := range beyondPack() {
		if got, err := put(t, wrong); got != "" || err != want {
			t.Errorf("P8.1: Put of %.200v: %.100x, %d, want nothing and %d", wrong, got, err, want)
		}
	}
}

func TestPutToAWriterWithAnError(t *testing.T) {
	var none *pack.Writer
	failed := pack.New()
	failed.Num(-1)
	writers := map[*pack.Writer]api.Errno{none: api.ErrState, new(pack.Writer): api.ErrState, failed: api.ErrRange}
	for w, want := range writers {
		for _, one := range append(rights(), wrongs()...) {
			ends(t, "Put", func() { vote.Put(w, one) })
			if b, err := w.Done(); len(b) != 0 || err != want {
				t.Errorf("P8.1: Put of %.200v to a writer with error %d: %x, %d", one, want, b, err)
			}
		}
	}
}

func TestRead(t *testing.T) {
	for _, right := range rights() {
		for _, more := range []string{"", "x", low(1, 6), octetsOf(right)} {
			ends(t, "Read", func() {
				r := pack.Open([]byte(octetsOf(right) + more))
				if got := vote.Read(r); got != right {
					t.Errorf("P8.1: Read of %.200v = %.200v", right, got)
				}
				if r.Err() != api.OK || r.Left() != len(more) {
					t.Errorf("P8.1: behind Read of %.200v Err is %d, Left %d, want OK, %d", right, r.Err(), r.Left(), len(more))
				}
			})
		}
	}
}

// Several stand one behind the other, and are read in turn.
func TestPutIsRead(t *testing.T) {
	for l := range slices.Chunk(rights(), 3) {
		w := pack.New()
		for _, one := range l {
			vote.Put(w, one)
		}
		b, err := w.Done()
		if err != api.OK {
			t.Fatalf("P8.1: Put of %d statements: %d", len(l), err)
		}
		r := pack.Open(b)
		for _, one := range l {
			if got := vote.Read(r); got != one {
				t.Errorf("P8.1: what was put as %.200v is read as %.200v", one, got)
			}
		}
		if r.Left() != 0 || r.Err() != api.OK {
			t.Errorf("P8.1: behind all that was put Left is %d, Err %d", r.Left(), r.Err())
		}
		if got := vote.Read(r); got != (api.Vote{}) || r.Err() != api.ErrShort {
			t.Errorf("P8.1: Read of nothing = %v, Err %d, want zero and ErrShort", got, r.Err())
		}
	}
}

// none says that these octets are read as the zero statement.
func none(t *testing.T, what string, b string) {
	t.Helper()
	ends(t, what, func() {
		if got := vote.Read(pack.Open([]byte(b))); got != (api.Vote{}) {
			t.Errorf("P8.1: Read of %s = %.200v, want zero", what, got)
		}
	})
}

func TestReadOfTooFewOctets(t *testing.T) {
	for kind := 1; kind <= 4; kind++ {
		for _, sig := range []string{"", "s", "sig"} {
			one := octetsOf(with(ofKind(kind), func(v *api.Vote) { v.Sig = sig }))
			for size := range len(one) {
				none(t, "too few octets", one[:size])
				r := pack.Open([]byte(one[:size]))
				vote.Read(r)
				if r.Err() != api.ErrShort || r.Left() != 0 {
					t.Errorf("P8.1: behind Read of %d octets of %d Err is %d, want ErrShort", size, len(one), r.Err())
				}
			}
		}
	}
}

func TestReadOfAnotherWord(t *testing.T) {
	for kind := 1; kind <= 4; kind++ {
		right := with(ofKind(kind), func(v *api.Vote) { v.Sig = "sig" })
		rest := numbersOf(right) + "\x00\x03sig"
		for _, word := range []string{"", "v", "vot", "ote", "votes", "vota", "Vote", "VOTE", "vote\x00", "\x00vote", "votevote", "tx", "block", "etov", strings.Repeat("vote", maxField/4), strings.Repeat("v", maxField+1)} {
			none(t, "another word", low(len(word), 2)+word+rest)
		}
		if got := vote.Read(pack.Open([]byte("\x00\x04vote" + rest))); got != right {
			t.Errorf("P8.1: Read of the right word = %v, want %v", got, right)
		}
	}
}

func TestReadOfWhatMayNotBe(t *testing.T) {
	for _, wrong := range writable() {
		none(t, "what may not be", octetsOf(wrong))
	}
	for kind := 1; kind <= 4; kind++ {
		v := ofKind(kind)
		for _, n := range []int{maxAmount + 1, 1<<48 - 1} {
			none(t, "a Kind beyond pack", octetsOf(with(v, func(v *api.Vote) { v.Kind = n })))
			none(t, "a View beyond pack", octetsOf(with(v, func(v *api.Vote) { v.View = n })))
			none(t, "a Height beyond pack", octetsOf(with(v, func(v *api.Vote) { v.Height = n })))
			none(t, "Ticks beyond pack", octetsOf(with(v, func(v *api.Vote) { v.Ticks = n })))
			none(t, "a Signer beyond pack", octetsOf(with(v, func(v *api.Vote) { v.Signer = n })))
		}
		for _, size := range []int{maxField + 1, 1<<16 - 1} {
			none(t, "a Block that is too long", octetsOf(with(v, func(v *api.Vote) { v.Block = strings.Repeat("b", size) })))
			none(t, "a Sig that is too long", octetsOf(with(v, func(v *api.Vote) { v.Sig = strings.Repeat("s", size) })))
		}
	}
}

// What may not be is no error of the reader: the next one is read behind it.
func TestReadBehindWhatMayNotBe(t *testing.T) {
	right := with(ofKind(held), func(v *api.Vote) { v.Sig = "sig" })
	for _, wrong := range writable() {
		r := pack.Open([]byte(octetsOf(wrong) + octetsOf(right)))
		if got := vote.Read(r); got != (api.Vote{}) {
			t.Errorf("P8.1: Read of %.200v = %.200v, want zero", wrong, got)
		}
		if got := vote.Read(r); got != right || r.Err() != api.OK || r.Left() != 0 {
			t.Errorf("P8.1: Read behind %.200v = %v, Err %d, want %v", wrong, got, r.Err(), right)
		}
	}
}

func TestReadOfAReaderWithAnError(t *testing.T) {
	right := octetsOf(with(ofKind(plain), func(v *api.Vote) { v.Sig = "sig" }))
	tooGreat := pack.Open([]byte(low(5, 6) + right))
	tooGreat.Num(4)
	tooLong := pack.Open([]byte(low(1, 2) + "a" + right))
	tooLong.Text(0)
	tooShort := pack.Open([]byte(low(len(right)+1, 2) + right))
	tooShort.Text(maxField)
	var nobody *pack.Reader
	readers := map[*pack.Reader]api.Errno{tooGreat: api.ErrRange, tooLong: api.ErrLong, tooShort: api.ErrShort, nobody: api.ErrState, new(pack.Reader): api.ErrState}
	for r, want := range readers {
		for range 2 {
			ends(t, "Read", func() {
				if got := vote.Read(r); got != (api.Vote{}) || r.Err() != want {
					t.Errorf("P8.1: Read of a reader with error %d = %v, Err %d, want zero", want, got, r.Err())
				}
			})
		}
	}
}

func TestReadOfAnyOctets(t *testing.T) {
	r := rand.New(rand.NewSource(8))
	for i := range 20000 {
		b := []byte(octetsOf(with(ofKind(1+i%4), func(v *api.Vote) { v.Sig = strings.Repeat("s", 20) })))
		for range 1 + r.Intn(3) {
			b[r.Intn(len(b))] = byte(r.Intn(256))
		}
		b = b[:r.Intn(len(b)+1)]
		ends(t, "Read", func() {
			got := vote.Read(pack.Open(b))
			if got != (api.Vote{}) && (vote.Check(got) != api.OK || !strings.HasPrefix(string(b), octetsOf(got))) {
				t.Errorf("P8.1: Read of %x = %v", b, got)
			}
		})
	}
}

// Worked out once, apart from this program: the first leaf, and the roots.
func TestKey(t *testing.T) {
	want := []string{"a28eec33c552076d", "d800e246fd38a2d4", "456309219da90f5e", "12b9b41868310423", "77588580ceecb20a", "75833f1aa7af88ac", "3a108d27220d5ca5"}
	for replica, w := range want {
		k := vote.Key(replica)
		if k.Seed != "replica"+string("0123456"[replica]) || k.Next != 0 || len(k.Leaves) != 16 {
			t.Errorf("P8.1: Key(%d) = %x", replica, k)
		}
		if root, err := signer.Root(k); root != unhex(t, w) || err != api.OK {
			t.Errorf("P8.1: Root of Key(%d) = %x, %d, want %s", replica, root, err, w)
		}
	}
	if leaf := vote.Key(5).Leaves[0]; leaf != unhex(t, "21fc206da8a492d1") {
		t.Errorf("P8.1: the first leaf of Key(5) = %x", leaf)
	}
	for _, replica := range []int{-1, -2, -48, 7, 8, 9, 10, 256, 257, 1<<32 + 1, math.MinInt, math.MaxInt} {
		ends(t, "Key", func() {
			if k := vote.Key(replica); !same(k, api.Key{}) {
				t.Errorf("P8.1: Key(%d) = %x, want nothing", replica, k)
			}
		})
	}
}

// Worked out once, apart from this program.
func TestSignKnownAnswers(t *testing.T) {
	want := []string{
		"000014f6a17144a93067c5f67ac2ab3545897c9f645d463b98a68bd90839e0246be3fd95b16e897dfb0ba2ace3e6b070a141d92005ea50fd1ed93e83f259ba3ecb61ecaf23f774f71d9fab623be0ee8459a52c859dd1ee87ebe1e7a9d0697957a6b114a6223ddeda1ef8c80a9f1293f31324ef1bc1d124df00bc",
		"0001d7c5c0f8b0eb30ba9cec69985462d1a6c78b53dced8279edde707fbb8308c5162d5ccdb861e999dafd1f0a77dbc3778bee4c7a1e0d5b4c91a83a33a3b6314a05e6d65d0f43cda84ceec1af226eeb4832d6fc1a51ea4f238b21fc206da8a492d114a6223ddeda1ef8c80a9f1293f31324ef1bc1d124df00bc",
		"0002fae9b4939f623f45adb2f1cc7df420e8d6d48c910e0a58267be173b44f18d0cbdef1162ad4707adcbd185ec5a49d36fcb7dff4769955479428d9a19001de5c17787c277c750cdb6c112375110909b72a4b3c0e0b9834172f9ddedee2c66c3f4dabd1dd151f4a025bc80a9f1293f31324ef1bc1d124df00bc",
		"000354ae9dcb0463b507c2ca7b8fa82406bc0f63bb0734512c3b87e569fa2d0ac88a01a30c793a7e6656385342cfb3172bba54e3c0c066899d8abb4c24156354499130d54a3498e9a0fe7e0c985d958453b0e2724ba0281d6a72453ac2e808e5a7c0abd1dd151f4a025bc80a9f1293f31324ef1bc1d124df00bc",
	}
	k := vote.Key(5)
	for leaf, w := range want {
		unsigned := with(ofKind(1+leaf), func(v *api.Vote) { v.Sig = "what stood here goes" })
		one, used, err := vote.Sign(k, unsigned)
		if one != with(unsigned, func(v *api.Vote) { v.Sig = unhex(t, w) }) || err != api.OK {
			t.Errorf("P8.1: Sign with leaf %d = %x, %d, want %s", leaf, one, err, w)
		}
		if !same(used, api.Key{Seed: "replica5", Leaves: vote.Key(5).Leaves, Next: leaf + 1}) {
			t.Errorf("P8.1: Sign with leaf %d answers the key %x", leaf, used)
		}
		if !vote.Valid(one, roots(t)) {
			t.Errorf("P8.2: what is signed with leaf %d is not valid", leaf)
		}
		k = used
	}
	k.Next = 15
	last, _ := signed(t, k, ofKind(plain))
	if last.Sig != unhex(t, "000f768005717ccced5ee0943b29ca9852bc63c6787badc4f66ed141d6bbcb9c5bce65ce7cecbe613b712df0ca7e5bf71ac14c5e203b9dfc751a2ddbd51bdb79ebe8f75649a588c14107770141ccdec9df782bce88e86119c4c5fa0fe30ec11645b264d9351a2f91dc8751fb363cbfed0bd463ece42cea48858d") {
		t.Errorf("P8.1: Sign with the last leaf = %x", last.Sig)
	}
}

// nothingSigned says that Sign answers this error, and nothing beside it.
func nothingSigned(t *testing.T, what string, k api.Key, v api.Vote, want api.Errno) {
	t.Helper()
	ends(t, what, func() {
		one, used, err := vote.Sign(k, v)
		if one != (api.Vote{}) || !same(used, api.Key{}) || err != want {
			t.Errorf("P8.1: Sign of %s = %.200v, %x, %d, want nothing and %d", what, one, used, err, want)
		}
	})
}

// wrongKeys are keys that may not be.
func wrongKeys() []api.Key {
	leaves := vote.Key(0).Leaves
	return []api.Key{{}, {Seed: "replica0"}, {Seed: strings.Repeat("s", 65), Leaves: leaves}, {Seed: "replica0", Leaves: leaves[:15]},
		{Seed: "replica0", Leaves: leaves, Next: -1}, {Seed: "replica0", Leaves: leaves, Next: 17}, {Seed: "replica0", Leaves: leaves, Next: math.MaxInt},
		{Seed: "replica0", Leaves: leaves, Next: math.MinInt}, {Seed: "replica0", Leaves: []string{"short"}}, {Leaves: slices.Repeat(leaves, 2)}, vote.Key(-1), vote.Key(7)}
}

func TestSignWithoutAnAnswer(t *testing.T) {
	full := vote.Key(5)
	full.Next = 16
	for kind := 1; kind <= 4; kind++ {
		right := with(ofKind(kind), func(v *api.Vote) { v.Sig = "sig" })
		nothingSigned(t, "a key without a leaf left", full, right, api.ErrFull)
		for _, k := range wrongKeys() {
			nothingSigned(t, "a key that may not be", k, right, api.ErrState)
		}
	}
	for _, wrong := range wrongs() {
		nothingSigned(t, "what may not be", vote.Key(5), wrong, api.ErrState)
		nothingSigned(t, "what may not be, with a key without a leaf left", full, wrong, api.ErrState)
		nothingSigned(t, "what may not be, with a key that may not be", api.Key{}, wrong, api.ErrState)
	}
}

// Sign signs with whatever key may be; only the replica's own makes the statement valid.
func TestSignWithOtherKeys(t *testing.T) {
	unsigned := ofKind(held)
	for height := range 5 {
		k, _ := signer.New("another", height)
		k.Next = 1<<height - 1
		want, used, _ := signer.Sign(k, []byte(textOf(unsigned)))
		one, behind := signed(t, k, unsigned)
		if one != with(unsigned, func(v *api.Vote) { v.Sig = want }) || !same(behind, used) {
			t.Errorf("P8.1: Sign with a key of height %d = %x, %x", height, one, behind)
		}
		top, _ := signer.Root(k)
		if vote.Valid(one, roots(t)) {
			t.Errorf("P8.1: what another key of height %d signed is valid by the replica's root", height)
		}
		// Only keys of the replicas' height are looked for.
		if got := vote.Valid(one, slices.Repeat([]string{top}, 7)); got != (height == 4) {
			t.Errorf("P8.1: what a key of height %d signed is valid by its root: %v", height, got)
		}
	}
}

func TestWhatIsSignedIsValid(t *testing.T) {
	all := roots(t)
	for replica := range 7 {
		k := vote.Key(replica)
		for leaf := range 16 {
			unsigned := ofKind(1 + (leaf+replica)%4)
			unsigned.View, unsigned.Signer = maxView-leaf, replica
			one, used := signed(t, k, unsigned)
			if at, ok := signer.Verify(all[replica], 4, []byte(textOf(unsigned)), one.Sig); at != leaf || !ok || used.Next != leaf+1 {
				t.Errorf("P8.2: replica %d signed with leaf %d, %v, Next %d, want %d", replica, at, ok, used.Next, leaf)
			}
			if !vote.Valid(one, all) || !vote.Valid(one, all[:replica+1]) || !vote.Valid(one, append(slices.Clone(all), "more")) {
				t.Errorf("P8.2: what replica %d signed with leaf %d is not valid", replica, leaf)
			}
			got, err := put(t, one)
			if got != "\x00\x05ahead"+octetsOf(one)+low(9, 6) || err != api.OK {
				t.Errorf("P8.1: Put of what replica %d signed: %x, %d", replica, got, err)
			}
			back := vote.Read(pack.Open([]byte(octetsOf(one))))
			if back != one || !vote.Valid(back, all) {
				t.Errorf("P8.2: what replica %d signed comes back as %v", replica, back)
			}
			k = used
		}
		nothingSigned(t, "one more than there are leaves", k, with(ofKind(plain), func(v *api.Vote) { v.Signer = replica }), api.ErrFull)
	}
}

func TestSignAgainOfWhatWasSigned(t *testing.T) {
	k := vote.Key(5)
	first, used := signed(t, k, ofKind(commit))
	again, _ := signed(t, used, first)
	if again == first || again.Sig[:2] != "\x00\x01" || !vote.Valid(first, roots(t)) || !vote.Valid(again, roots(t)) {
		t.Errorf("P8.1: Sign of what was signed = %x", again)
	}
	other, _ := signed(t, k, first)
	if other != first {
		t.Errorf("P3: Sign with the same key = %x, then %x", first, other)
	}
}

// invalid says that a statement is not valid by these roots.
func invalid(t *testing.T, what string, v api.Vote, by []string) {
	t.Helper()
	ends(t, what, func() {
		if vote.Valid(v, by) {
			t.Errorf("P8.1: %s is valid: %.200v", what, v)
		}
	})
}

func TestValidOfWhatMayNotBe(t *testing.T) {
	all := roots(t)
	many := slices.Repeat(all[5:6], 300)
	for _, wrong := range wrongs() {
		invalid(t, "what may not be", wrong, all)
		invalid(t, "what may not be", wrong, nil)
		// Signed as a text of it would be, had it one: its fields, or nothing.
		for _, text := range []string{textOf(wrong), ""} {
			sig, _, _ := signer.Sign(vote.Key(5), []byte(text))
			forged := with(wrong, func(v *api.Vote) { v.Sig = sig })
			if vote.Check(forged) != api.OK {
				invalid(t, "what may not be, signed", forged, all)
				invalid(t, "what may not be, signed", forged, many)
			}
		}
	}
	one, _ := signed(t, vote.Key(5), ofKind(plain))
	one.Sig += strings.Repeat("s", maxField)
	invalid(t, "a Sig that is too long", one, all)
}

func TestValidByTheRootOfItsSigner(t *testing.T) {
	all := roots(t)
	for replica := range 7 {
		one, _ := signed(t, vote.Key(replica), with(ofKind(1+replica%4), func(v *api.Vote) { v.Signer = replica }))
		invalid(t, "one without roots", one, nil)
		invalid(t, "one without roots", one, []string{})
		invalid(t, "one without a root of its Signer", one, all[:replica])
		for at := range 7 {
			by := slices.Clone(all)
			for _, other := range []string{"", all[(replica+1)%7], all[replica][:7], all[replica] + "\x00", "12345678", strings.Repeat("r", 5000)} {
				by[at] = other
				if got := vote.Valid(one, by); got != (at != replica) {
					t.Errorf("P8.1: with root %d another one, what replica %d signed is valid: %v", at, replica, got)
				}
			}
		}
		by := slices.Repeat([]string{""}, 7)
		by[replica] = all[replica]
		if !vote.Valid(one, by) {
			t.Errorf("P8.1: what replica %d signed is not valid by its root alone", replica)
		}
	}
}

func TestValidOfAnotherSig(t *testing.T) {
	all := roots(t)
	k := vote.Key(5)
	for leaf := range 4 {
		k.Next = 5 * leaf
		one, _ := signed(t, k, ofKind(1+leaf))
		for at := range len(one.Sig) {
			for _, bit := range []byte{1, 16, 128, 255} {
				b := []byte(one.Sig)
				b[at] ^= bit
				invalid(t, "one with an octet of Sig changed", with(one, func(v *api.Vote) { v.Sig = string(b) }), all)
			}
		}
		for _, sig := range []string{"", one.Sig[1:], one.Sig[:len(one.Sig)-1], one.Sig[:106], one.Sig + "\x00", one.Sig + "12345678", strings.Repeat("\x00", 122)} {
			invalid(t, "one with another Sig", with(one, func(v *api.Vote) { v.Sig = sig }), all)
		}
	}
}

// Each field is signed.
func TestValidOfAnotherField(t *testing.T) {
	all := roots(t)
	for kind := 1; kind <= 4; kind++ {
		one, _ := signed(t, vote.Key(5), ofKind(kind))
		changes := []func(v *api.Vote){
			func(v *api.Vote) { v.View++ }, func(v *api.Vote) { v.View = 0 }, func(v *api.Vote) { v.Signer = 4 }, func(v *api.Vote) { v.Height = 8 },
			func(v *api.Vote) { v.Ticks = 32 }, func(v *api.Vote) { v.Block = name[:31] + "." }, func(v *api.Vote) { v.Block = strings.Repeat("\x00", 32) },
		}
		for other := 1; other <= 4; other++ {
			if other != kind {
				changes = append(changes, func(v *api.Vote) { *v = with(ofKind(other), func(o *api.Vote) { o.Sig = v.Sig }) })
			}
		}
		for _, change := range changes {
			invalid(t, "one with another field", with(one, change), all)
			invalid(t, "one with another field", with(one, change), slices.Repeat(all[5:6], 7))
		}
	}
}

func TestAbout(t *testing.T) {
	for _, v := range slices.Concat(rights(), wrongs()) {
		ends(t, "About", func() {
			if got := vote.About(v); got != (api.Mark{View: v.View, Height: v.Height, Block: v.Block}) {
				t.Errorf("P8.1: About of %.200v = %.200v", v, got)
			}
		})
	}
	if got := vote.About(api.Vote{Kind: 3, View: 4, Height: 5, Block: name, Ticks: 6, Signer: 2, Sig: "sig"}); got != (api.Mark{View: 4, Height: 5, Block: name}) {
		t.Errorf("P8.1: About of a report = %v", got)
	}
	if got := vote.About(api.Vote{Kind: 4, View: 3, Signer: 2}); got != (api.Mark{View: 3}) {
		t.Errorf("P8.1: About of a blame = %v", got)
	}
	if got := vote.About(api.Vote{}); got != (api.Mark{}) {
		t.Errorf("P8.1: About of the zero statement = %v", got)
	}
}

func TestArgumentsStay(t *testing.T) {
	k := vote.Key(5)
	leaves := slices.Clone(k.Leaves)
	all := roots(t)
	was := slices.Clone(all)
	v := with(ofKind(held), func(v *api.Vote) { v.Sig = "sig" })
	b := []byte(octetsOf(v) + "behind it")
	r := pack.Open(b[:len(b)-9])
	one, used := signed(t, k, v)
	vote.Valid(one, all)
	vote.Read(r)
	if !same(k, api.Key{Seed: "replica5", Leaves: leaves}) || !slices.Equal(all, was) || string(b) != octetsOf(v)+"behind it" {
		t.Errorf("P8.3: what was handed in was changed: %x, %x, %x", k, all, b)
	}
	// Neither key hangs on the other's leaves.
	used.Leaves[0] = "changed!"
	if !slices.Equal(k.Leaves, leaves) {
		t.Error("P8.3: the key that Sign answers shares its leaves with the one handed in")
	}
	_, used = signed(t, k, v)
	k.Leaves[1] = "changed!"
	if !slices.Equal(used.Leaves, leaves) {
		t.Error("P8.3: the key that Sign answered changes with the one handed in")
	}
}

func TestAnswersAreNew(t *testing.T) {
	v := with(ofKind(commit), func(v *api.Vote) { v.Sig = "sig" })
	first, second := vote.Text(v), vote.Text(v)
	first = first[:cap(first)]
	for i := range first {
		first[i] = 0xee
	}
	if string(second) != textOf(v) || string(vote.Text(v)) != textOf(v) {
		t.Errorf("P8.3: two answers of Text share memory: %x", second)
	}
	key, other := vote.Key(0), vote.Key(0)
	key.Leaves[0] = "changed!"
	if other.Leaves[0] == "changed!" || vote.Key(0).Leaves[0] == "changed!" {
		t.Error("P8.3: two answers of Key share memory")
	}
	one, used := signed(t, vote.Key(5), v)
	again, behind := signed(t, vote.Key(5), v)
	used.Leaves[0] = "changed!"
	if one != again || behind.Leaves[0] == "changed!" {
		t.Error("P8.3: two answers of Sign share memory")
	}
}

// What was read stays, whatever becomes of the octets and of the reader; what a writer told, whatever is put.
func TestReadIsNewMemory(t *testing.T) {
	one := with(ofKind(plain), func(v *api.Vote) { v.Sig = "sig" })
	other := with(ofKind(blame), func(v *api.Vote) { v.Sig = "gis" })
	b := []byte(octetsOf(one) + octetsOf(other))
	r := pack.Open(b)
	got := vote.Read(r)
	copy(b, bytes.Repeat([]byte{0xee}, len(b)))
	if next := vote.Read(r); next != other || got != one {
		t.Errorf("P8.3: Read = %v, then %v, want %v, %v", got, next, one, other)
	}
	w := pack.New()
	vote.Put(w, one)
	told, _ := w.Done()
	vote.Put(w, other)
	if string(told) != octetsOf(one) {
		t.Errorf("P8.3: Put changed what the writer told before: %x", told)
	}
	if all, err := w.Done(); string(all) != octetsOf(one)+octetsOf(other) || err != api.OK {
		t.Errorf("P8.3: Put of two statements: %x, %d", all, err)
	}
}

func TestAnswersHangOnArgumentsAlone(t *testing.T) {
	all := roots(t)
	k := vote.Key(5)
	want, _ := signed(t, k, ofKind(held))
	var group sync.WaitGroup
	for range 8 {
		group.Go(func() {
			for range 20 {
				one, used, err := vote.Sign(k, ofKind(held))
				if one != want || used.Next != 1 || err != api.OK || !vote.Valid(one, all) || !same(vote.Key(5), k) {
					t.Error("P3: Sign, Valid or Key has another answer beside other calls")
					return
				}
			}
		})
	}
	group.Wait()
}
