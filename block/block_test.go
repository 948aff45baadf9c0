package block_test

import (
	"bytes"
	"crypto/sha256"
	"encoding/hex"
	"math"
	"slices"
	"strings"
	"testing"

	"moot/api"
	"moot/block"
	"moot/cert"
)

// The limits, and names of blocks, as the document tells them.
const (
	maxAmount = 1 << 40
	maxField  = 1 << 12
	maxOctets = 1 << 14
	maxHeight = 1 << 20
	maxView   = 1 << 20
	parent    = "the parent's name: 32 octets ..."
	zeros     = "\x00\x00\x00\x00\x00\x00\x00\x00\x00\x00\x00\x00\x00\x00\x00\x00\x00\x00\x00\x00\x00\x00\x00\x00\x00\x00\x00\x00\x00\x00\x00\x00"
)

// low is the lowest octets of n, so many, the highest first.
func low(n int, size int) string {
	var b []byte
	for i := size - 1; i >= 0; i-- {
		b = append(b, byte(uint64(n)>>(8*i)))
	}
	return string(b)
}

// field is a text's octets.
func field(s string) string {
	return low(len(s), 2) + s
}

// txOctets are the octets that a transaction has to have.
func txOctets(t api.Tx) string {
	return field("tx") + low(t.From, 6) + low(t.To, 6) + low(t.Amount, 6) + low(t.Nonce, 6) + field(t.Sig)
}

// textOf is the text that a block has to have.
func textOf(b api.Block) string {
	all := field("block") + low(b.View, 6) + low(b.Height, 6) + field(b.Parent) + low(b.Justify.View, 6) + low(len(b.Txs), 6)
	for _, t := range b.Txs {
		all += txOctets(t)
	}
	return all
}

// certOctets are the octets that a cert has to have.
func certOctets(c api.Cert) string {
	all := low(c.View, 6) + low(c.Height, 6) + field(c.Block) + low(len(c.Votes), 6)
	for _, v := range c.Votes {
		all += field("vote") + low(v.Kind, 6) + low(v.View, 6) + low(v.Height, 6) + field(v.Block) + low(v.Ticks, 6) + low(v.Signer, 6) + field(v.Sig)
	}
	return all
}

// octetsOf are the octets that a block has to have.
func octetsOf(b api.Block) string {
	return textOf(b) + certOctets(b.Justify) + field(b.Sig)
}

// sum is the SHA-256 of a text, not by the program's own.
func sum(s string) string {
	h := sha256.Sum256([]byte(s))
	return string(h[:])
}

// unhex is the text that these digits tell.
func unhex(t *testing.T, s string) string {
	t.Helper()
	b, err := hex.DecodeString(s)
	if err != nil {
		t.Fatal(err)
	}
	return string(b)
}

// ends calls f and says if it panicked (P1).
func ends(t *testing.T, what string, f func()) {
	t.Helper()
	defer func() {
		if x := recover(); x != nil {
			t.Errorf("P1: %s panicked: %v", what, x)
		}
	}()
	f()
}

// copied is a block that shares no list with another one.
func copied(b api.Block) api.Block {
	b.Txs, b.Justify.Votes = slices.Clone(b.Txs), slices.Clone(b.Justify.Votes)
	return b
}

// with is a block as change leaves it.
func with(b api.Block, change func(b *api.Block)) api.Block {
	b = copied(b)
	change(&b)
	return b
}

// same says if two blocks are, nil and empty lists being one (P5).
func same(a, b api.Block) bool {
	return a.View == b.View && a.Height == b.Height && a.Parent == b.Parent && a.Sig == b.Sig && slices.Equal(a.Txs, b.Txs) &&
		cert.Mark(a.Justify) == cert.Mark(b.Justify) && slices.Equal(a.Justify.Votes, b.Justify.Votes)
}

// pay is a transaction that may be, unsigned.
func pay(nonce int) api.Tx {
	return api.Tx{From: 1, To: 3, Amount: 250, Nonce: nonce}
}

// by is an unsigned vote of that replica for what the cert is about.
func by(replica int, c api.Cert) api.Vote {
	return api.Vote{Kind: 1, View: c.View, Height: c.Height, Block: c.Block, Signer: replica, Sig: "a vote's"}
}

// some is a block that may be, unlike the zero one in every field.
func some() api.Block {
	c := api.Cert{View: 6, Height: 8, Block: parent}
	c.Votes = []api.Vote{by(0, c), by(2, c)}
	return api.Block{View: 7, Height: 9, Parent: parent, Justify: c, Txs: []api.Tx{pay(0), pay(1)}, Sig: "sig"}
}

// first is the first block's child, of no transactions.
func first() api.Block {
	return api.Block{Height: 1, Parent: zeros, Justify: api.Cert{Block: zeros}}
}

// at is a block of that height whose Justify is of the height below.
func at(height int) api.Block {
	return with(some(), func(b *api.Block) { b.Height, b.Justify.Height = height, height-1 })
}

// behind is a block with so many transactions.
func behind(count int) api.Block {
	return with(some(), func(b *api.Block) {
		b.Txs = nil
		for i := range count {
			b.Txs = append(b.Txs, pay(i))
		}
	})
}

// rights are blocks that may be, with every edge of each of their fields.
func rights() []api.Block {
	l := []api.Block{first(), some()}
	for _, n := range []int{1, 2, 255, 256, 65536, maxView - 1, maxView} {
		l = append(l, at(n),
			with(some(), func(b *api.Block) { b.View, b.Justify.View = n, 0 }),
			with(some(), func(b *api.Block) { b.View, b.Justify.View = n, n-1 }),
			with(some(), func(b *api.Block) { b.View, b.Justify.View = n, n }))
	}
	l = append(l, with(some(), func(b *api.Block) { b.View, b.Justify.View = 0, 0 }))
	for count := range 5 {
		l = append(l, behind(count))
	}
	for _, size := range []int{0, 1, 121, 122, 123, 255, 256, maxField - 1, maxField} {
		l = append(l, with(some(), func(b *api.Block) { b.Sig = strings.Repeat("s", size) }))
	}
	for _, name := range []string{zeros, strings.Repeat("\xff", 32), strings.Repeat("\x00", 31) + "\x01"} {
		l = append(l, with(some(), func(b *api.Block) { b.Parent, b.Justify.Block = name, name }))
	}
	l = append(l, with(some(), func(b *api.Block) {
		b.Txs[0] = api.Tx{From: 3, To: 0, Amount: 1000, Nonce: maxAmount, Sig: strings.Repeat("s", maxField)}
	}))
	// What Justify's Votes are is not asked.
	for _, votes := range [][]api.Vote{nil, {{}}, {{Kind: -1, View: -1, Signer: -9, Sig: strings.Repeat("s", maxField+1)}}, make([]api.Vote, 9)} {
		l = append(l, with(some(), func(b *api.Block) { b.Justify.Votes = votes }))
	}
	return l
}

// wrongs are blocks that may not be, by what is wrong with them.
func wrongs() map[string]api.Block {
	l := map[string]api.Block{"the zero block": {}, "a block of the first one's height": at(0), "a block of a height below 0": at(-1), "a block of the least height": at(math.MinInt), "a block of a height above the most": at(maxHeight + 1), "a block of the greatest number's height": at(math.MaxInt)}
	one := func(what string, change func(b *api.Block)) {
		l[what] = with(some(), change)
	}
	one("a View below 0", func(b *api.Block) { b.View, b.Justify.View = -1, -1 })
	one("a View below 0, of Justify not", func(b *api.Block) { b.View, b.Justify.View = -1, 0 })
	one("the least View", func(b *api.Block) { b.View, b.Justify.View = math.MinInt, math.MinInt })
	one("a View above the most", func(b *api.Block) { b.View = maxView + 1 })
	one("the greatest number's View", func(b *api.Block) { b.View = math.MaxInt })
	one("a Height of 0 alone", func(b *api.Block) { b.Height = 0 })
	one("the least Height, whose Justify is of the greatest", func(b *api.Block) { b.Height, b.Justify.Height = math.MinInt, math.MaxInt })
	for _, name := range []string{"", "p", parent[:31], parent + "p", parent + parent, strings.Repeat("p", maxField+1)} {
		one("a Parent of "+low(len(name), 2)+" octets", func(b *api.Block) { b.Parent, b.Justify.Block = name, name })
	}
	for _, name := range []string{"", zeros, parent[:31] + ",", parent[:31], parent + "p"} {
		one("Justify about the block "+name, func(b *api.Block) { b.Justify.Block = name })
		one("the Parent "+name+", which is not Justify's", func(b *api.Block) { b.Parent = name })
	}
	for _, n := range []int{math.MinInt, -8, 0, 7, 9, 10, 1<<32 + 8, math.MaxInt} {
		one("Justify of the height "+low(n, 8), func(b *api.Block) { b.Justify.Height = n })
	}
	for _, n := range []int{math.MinInt, -1, 8, maxView, maxView + 1, 1<<32 + 6, math.MaxInt} {
		one("Justify of the view "+low(n, 8), func(b *api.Block) { b.Justify.View = n })
	}
	one("five Txs", func(b *api.Block) { *b = behind(5) })
	one("many Txs", func(b *api.Block) { *b = behind(300) })
	for place := range 4 {
		for what, wrong := range map[string]api.Tx{"a zero": {}, "a wrong": {From: 4, To: 1, Amount: 1}, "a too great": {From: 1, To: 2, Amount: 1001}, "a too long": {From: 1, To: 2, Amount: 1, Sig: strings.Repeat("s", maxField+1)}} {
			one(what+" transaction at "+low(place, 1), func(b *api.Block) { *b = behind(4); b.Txs[place] = wrong })
		}
	}
	one("a Sig that is too long", func(b *api.Block) { b.Sig = strings.Repeat("s", maxField+1) })
	one("a Sig that is far too long", func(b *api.Block) { b.Sig = strings.Repeat("s", 1<<16+1) })
	return l
}

func TestGenesis(t *testing.T) {
	if got := block.Genesis(); got != zeros || len(got) != 32 {
		t.Errorf("P10.1: Genesis = %x", got)
	}
	if got := block.Genesis(); got != cert.First().Block {
		t.Errorf("P10.1: Genesis = %x, the first cert's is %x", got, cert.First().Block)
	}
}

func TestLeader(t *testing.T) {
	// The chapter's example.
	if got := block.Leader(5, 4); got != 1 {
		t.Errorf("P10.1: Leader(5, 4) = %d, want 1", got)
	}
	for replicas := 1; replicas <= 9; replicas++ {
		want := 0
		for view := range 40 {
			if got := block.Leader(view, replicas); got != want {
				t.Errorf("P10.1: Leader(%d, %d) = %d, want %d", view, replicas, got, want)
			}
			want++
			if want == replicas {
				want = 0
			}
		}
	}
	for _, one := range [][3]int{{maxView, 7, 4}, {maxView, 1, 0}, {maxView + 1, 7, 5}, {math.MaxInt, 2, 1}, {math.MaxInt, math.MaxInt, 0}, {math.MaxInt - 1, math.MaxInt, math.MaxInt - 1}, {3, math.MaxInt, 3}} {
		if got := block.Leader(one[0], one[1]); got != one[2] {
			t.Errorf("P10.1: Leader(%d, %d) = %d, want %d", one[0], one[1], got, one[2])
		}
	}
	for _, one := range [][2]int{{-1, 4}, {-2, 4}, {-3, 1}, {-7, 5}, {math.MinInt, 3}, {0, 0}, {5, 0}, {5, -1}, {5, -4}, {3, math.MinInt}, {math.MaxInt, -1}, {math.MinInt, -1}, {-5, -3}, {-5, 0}, {math.MinInt, math.MinInt}} {
		ends(t, "Leader", func() {
			if got := block.Leader(one[0], one[1]); got != 0 {
				t.Errorf("P10.1: Leader(%d, %d) = %d, want 0", one[0], one[1], got)
			}
		})
	}
}

func TestCheck(t *testing.T) {
	for _, right := range rights() {
		if err := block.Check(right); err != api.OK {
			t.Errorf("P10.1: Check of %.300v = %d, want OK", right, err)
		}
	}
	for what, wrong := range wrongs() {
		ends(t, "Check", func() {
			if err := block.Check(wrong); err != api.ErrState {
				t.Errorf("P10.1: Check of %q = %d, want ErrState", what, err)
			}
		})
	}
}

// The edges each by itself, with the numbers as the document tells them.
func TestCheckAtTheEdges(t *testing.T) {
	edges := []struct {
		what string
		b    api.Block
		want api.Errno
	}{
		{"View -1", with(some(), func(b *api.Block) { b.View, b.Justify.View = -1, 0 }), api.ErrState},
		{"View 0", with(some(), func(b *api.Block) { b.View, b.Justify.View = 0, 0 }), api.OK},
		{"View 2^20", with(some(), func(b *api.Block) { b.View = 1048576 }), api.OK},
		{"View 2^20 + 1", with(some(), func(b *api.Block) { b.View = 1048577 }), api.ErrState},
		{"Height 0", at(0), api.ErrState},
		{"Height 1", at(1), api.OK},
		{"Height 2^20", at(1048576), api.OK},
		{"Height 2^20 + 1", at(1048577), api.ErrState},
		{"Justify's View its own", with(some(), func(b *api.Block) { b.Justify.View = 7 }), api.OK},
		{"Justify's View above its own", with(some(), func(b *api.Block) { b.Justify.View = 8 }), api.ErrState},
		{"Justify's Height its own", with(some(), func(b *api.Block) { b.Justify.Height = 9 }), api.ErrState},
		{"Justify's Height two below", with(some(), func(b *api.Block) { b.Justify.Height = 7 }), api.ErrState},
		{"four Txs", behind(4), api.OK},
		{"five Txs", behind(5), api.ErrState},
		{"Sig of 2^12", with(some(), func(b *api.Block) { b.Sig = strings.Repeat("s", 4096) }), api.OK},
		{"Sig of 2^12 + 1", with(some(), func(b *api.Block) { b.Sig = strings.Repeat("s", 4097) }), api.ErrState},
	}
	for _, e := range edges {
		if err := block.Check(e.b); err != e.want {
			t.Errorf("P10.1: Check of %s = %d, want %d", e.what, err, e.want)
		}
	}
}

func TestTextAndName(t *testing.T) {
	for _, right := range rights() {
		want := textOf(right)
		if got := block.Text(right); string(got) != want {
			t.Errorf("P10.1: Text of %.300v = %x, want %x", right, got, want)
		}
		if got := block.Name(right); got != sum(want) {
			t.Errorf("P10.1: Name of %.300v = %x, want %x", right, got, sum(want))
		}
	}
	for what, wrong := range wrongs() {
		ends(t, "Text and Name", func() {
			if got := block.Text(wrong); len(got) != 0 {
				t.Errorf("P10.1: Text of %q = %x, want nothing", what, got)
			}
			if got := block.Name(wrong); got != "" {
				t.Errorf("P10.1: Name of %q = %x, want nothing", what, got)
			}
		})
	}
}

func TestTextOctetByOctet(t *testing.T) {
	name := strings.Repeat("ab", 32)
	b := api.Block{View: 0x010203, Height: 0x040506, Parent: unhex(t, name), Justify: api.Cert{View: 0x000709, Height: 0x040505, Block: unhex(t, name)}}
	head := "0005626c6f636b" + "000000010203" + "000000040506" + "0020" + name
	spelt := func(what string, b api.Block, digits string) {
		t.Helper()
		want := unhex(t, digits)
		if got := block.Text(b); string(got) != want {
			t.Errorf("P10.1: Text with %s = %x, want %s", what, got, digits)
		}
		if got := block.Name(b); got != sum(want) {
			t.Errorf("P10.1: Name with %s = %x, want %x", what, got, sum(want))
		}
	}
	spelt("no Txs", b, head+"000000000709"+"000000000000")
	spelt("no view of Justify", with(b, func(b *api.Block) { b.Justify.View = 0 }), head+"000000000000"+"000000000000")
	txs, digits := []api.Tx{}, ""
	l := []api.Tx{{From: 0, To: 1, Amount: 1}, {From: 3, To: 2, Amount: 1000, Nonce: 0x010000000000, Sig: "abc"}, {From: 1, To: 0, Amount: 258, Nonce: 7, Sig: "\x00"}, {From: 2, To: 3, Amount: 5, Nonce: 65536}}
	spellings := []string{
		"00027478" + "000000000000" + "000000000001" + "000000000001" + "000000000000" + "0000",
		"00027478" + "000000000003" + "000000000002" + "0000000003e8" + "010000000000" + "0003616263",
		"00027478" + "000000000001" + "000000000000" + "000000000102" + "000000000007" + "000100",
		"00027478" + "000000000002" + "000000000003" + "000000000005" + "000000010000" + "0000",
	}
	for i, one := range l {
		txs, digits = append(txs, one), digits+spellings[i]
		spelt("Txs", with(b, func(b *api.Block) { b.Txs = txs }), head+"000000000709"+"00000000000"+string("1234"[i])+digits)
	}
	spelt("the first block's child", first(), "0005626c6f636b"+"000000000000"+"000000000001"+"0020"+strings.Repeat("00", 32)+"000000000000"+"000000000000")
}

// A name by the words alone, told by no code.
func TestNameOfTheFirstBlocksChild(t *testing.T) {
	want := unhex(t, "fe23453438fb58d472ebf55bf783b795737d0a3bb9b0de18079b784b8b9c1a11")
	if got := block.Name(first()); got != want {
		t.Errorf("P10.1: Name of the first block's child = %x, want %x", got, want)
	}
}

// What a block's text does not hold changes neither it nor the name; what it holds changes both.
func TestWhatTheNameHangsOn(t *testing.T) {
	text, name := block.Text(some()), block.Name(some())
	without := map[string]func(b *api.Block){
		"no Sig":                 func(b *api.Block) { b.Sig = "" },
		"another Sig":            func(b *api.Block) { b.Sig = "another" },
		"a long Sig":             func(b *api.Block) { b.Sig = strings.Repeat("s", maxField) },
		"no Votes":               func(b *api.Block) { b.Justify.Votes = nil },
		"other Votes":            func(b *api.Block) { b.Justify.Votes[0].Sig = "another" },
		"more Votes":             func(b *api.Block) { b.Justify.Votes = append(b.Justify.Votes, by(5, b.Justify)) },
		"Votes about no block":   func(b *api.Block) { b.Justify.Votes = make([]api.Vote, 9) },
		"Votes that may not be":  func(b *api.Block) { b.Justify.Votes[1].Signer = -1 },
		"Votes in another order": func(b *api.Block) { slices.Reverse(b.Justify.Votes) },
	}
	for what, change := range without {
		b := with(some(), change)
		if !bytes.Equal(block.Text(b), text) || block.Name(b) != name {
			t.Errorf("P10.1: Text or Name is another with %s", what)
		}
	}
	of := map[string]func(b *api.Block){
		"another View":        func(b *api.Block) { b.View = 8 },
		"another Height":      func(b *api.Block) { *b = at(10) },
		"another Parent":      func(b *api.Block) { b.Parent, b.Justify.Block = zeros, zeros },
		"Justify's View":      func(b *api.Block) { b.Justify.View = 5 },
		"a transaction less":  func(b *api.Block) { b.Txs = b.Txs[:1] },
		"no transactions":     func(b *api.Block) { b.Txs = nil },
		"a transaction more":  func(b *api.Block) { b.Txs = append(b.Txs, pay(2)) },
		"another order":       func(b *api.Block) { slices.Reverse(b.Txs) },
		"another From":        func(b *api.Block) { b.Txs[0].From = 0 },
		"another To":          func(b *api.Block) { b.Txs[0].To = 0 },
		"another Amount":      func(b *api.Block) { b.Txs[1].Amount++ },
		"another Nonce":       func(b *api.Block) { b.Txs[1].Nonce++ },
		"a transaction's Sig": func(b *api.Block) { b.Txs[1].Sig = "another" },
	}
	met := map[string]string{name: "itself"}
	for what, change := range of {
		b := with(some(), change)
		if bytes.Equal(block.Text(b), text) {
			t.Errorf("P10.1: Text is the same with %s", what)
		}
		if other, ok := met[block.Name(b)]; ok {
			t.Errorf("P10.1: Name with %s is that with %s", what, other)
		}
		met[block.Name(b)] = what
	}
}

// Four transactions that may be can be more than one of pack's writers takes: such a block has a text and a name too.
func TestTextOfTheLongestTransactions(t *testing.T) {
	b := with(behind(4), func(b *api.Block) {
		for i := range b.Txs {
			b.Txs[i].Sig = strings.Repeat("s", maxField)
		}
	})
	if len(textOf(b)) <= maxOctets || block.Check(b) != api.OK {
		t.Fatalf("of %d octets, Check %d", len(textOf(b)), block.Check(b))
	}
	other := with(b, func(b *api.Block) { b.Txs[3].Sig = b.Txs[3].Sig[1:] + "t" })
	for _, one := range []api.Block{b, other} {
		if string(block.Text(one)) != textOf(one) || block.Name(one) != sum(textOf(one)) {
			t.Errorf("P10.1: Text of the longest transactions has %d octets, want %d", len(block.Text(one)), len(textOf(one)))
		}
	}
}

func TestMark(t *testing.T) {
	for _, right := range rights() {
		want := api.Mark{View: right.View, Height: right.Height, Block: sum(textOf(right))}
		if got := block.Mark(right); got != want {
			t.Errorf("P10.1: Mark of %.300v = %v, want %v", right, got, want)
		}
	}
	// Of one that may not be the name is nothing; its other numbers are its.
	for what, wrong := range wrongs() {
		ends(t, "Mark", func() {
			if got := block.Mark(wrong); got != (api.Mark{View: wrong.View, Height: wrong.Height}) {
				t.Errorf("P10.1: Mark of %q = %v", what, got)
			}
		})
	}
}
