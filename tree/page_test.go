package tree_test

import (
	"crypto/sha256"
	"slices"
	"testing"

	"moot/api"
	"moot/tree"
)

// The limits, and the first block's name, as the document tells them.
const (
	maxField  = 1 << 12
	maxHeight = 1 << 20
	maxView   = 1 << 20
	zeros     = "\x00\x00\x00\x00\x00\x00\x00\x00\x00\x00\x00\x00\x00\x00\x00\x00\x00\x00\x00\x00\x00\x00\x00\x00\x00\x00\x00\x00\x00\x00\x00\x00"
	stranger  = "the name of what nobody ever put"
)

// low is the lowest octets of n, so many, the highest first.
func low(n int, size int) string {
	var b []byte
	for i := size - 1; i >= 0; i-- {
		b = append(b, byte(uint64(n)>>(8*i)))
	}
	return string(b)
}

// field is a text's octets.
func field(s string) string {
	return low(len(s), 2) + s
}

// nameOf is the name that a block has to have, reckoned not by the program's own.
func nameOf(b api.Block) string {
	text := field("block") + low(b.View, 6) + low(b.Height, 6) + field(b.Parent) + low(b.Justify.View, 6) + low(len(b.Txs), 6)
	for _, x := range b.Txs {
		text += field("tx") + low(x.From, 6) + low(x.To, 6) + low(x.Amount, 6) + low(x.Nonce, 6) + field(x.Sig)
	}
	sum := sha256.Sum256([]byte(text))
	return string(sum[:])
}

// copied is a block that shares no list with another one.
func copied(b api.Block) api.Block {
	b.Txs, b.Justify.Votes = slices.Clone(b.Txs), slices.Clone(b.Justify.Votes)
	return b
}

// with is a block as change leaves it.
func with(b api.Block, change func(b *api.Block)) api.Block {
	b = copied(b)
	change(&b)
	return b
}

// same says if two blocks are, in all fields, nil and empty lists being one (P5).
func same(a, b api.Block) bool {
	if a.View != b.View || a.Height != b.Height || a.Parent != b.Parent || a.Sig != b.Sig || !slices.Equal(a.Txs, b.Txs) {
		return false
	}
	return a.Justify.View == b.Justify.View && a.Justify.Height == b.Justify.Height && a.Justify.Block == b.Justify.Block &&
		slices.Equal(a.Justify.Votes, b.Justify.Votes)
}

// behind is a block that may be, behind that parent, of that amount, so that it is unlike its siblings.
func behind(parent string, view, height, justify, amount int) api.Block {
	c := api.Cert{View: justify, Height: height - 1, Block: parent}
	for signer := range 2 {
		c.Votes = append(c.Votes, api.Vote{Kind: 1, View: justify, Height: height - 1, Block: parent, Signer: signer, Sig: "a vote's"})
	}
	l := []api.Tx{{From: 1, To: 3, Amount: amount, Sig: "a client's"}, {From: 2, To: 0, Amount: 1}}
	return api.Block{View: view, Height: height, Parent: parent, Justify: c, Txs: l, Sig: "a leader's"}
}

// first is a child of the first block.
func first(view, amount int) api.Block {
	return behind(zeros, view, 1, 0, amount)
}

// child is a block that stands on another one, as it should.
func child(b api.Block, view, amount int) api.Block {
	return behind(nameOf(b), view, b.Height+1, b.View, amount)
}

// row is so many blocks, the first a child of the first block, each other one of the one ahead.
func row(count, amount int) []api.Block {
	l := []api.Block{first(0, amount)}
	for len(l) < count {
		l = append(l, child(l[len(l)-1], len(l)/2, amount))
	}
	return l[:count]
}

// entry is a block that was put, and its name.
type entry struct {
	name string
	b    api.Block
}

// page is what a tree has to have: its blocks, as the chapter tells them.
type page []entry

// paged is the page of blocks.
func paged(l ...api.Block) page {
	var p page
	for _, b := range l {
		p = append(p, entry{nameOf(b), b})
	}
	return p
}

// find is the block of that name.
func (p page) find(name string) (api.Block, bool) {
	for _, e := range p {
		if e.name == name {
			return e.b, true
		}
	}
	return api.Block{}, false
}

// known says if a block's chain is, word by word.
func (p page) known(name string) bool {
	if name == zeros {
		return true
	}
	b, ok := p.find(name)
	if !ok || !p.known(b.Parent) {
		return false
	}
	// Of the first block no more is known: it has Height and View 0, as the zero block.
	parent, _ := p.find(b.Parent)
	return parent.Height == b.Height-1 && parent.View == b.Justify.View
}

// chain is the names of a known chain's blocks, from Height 1 on.
func (p page) chain(name string) []string {
	if name == zeros {
		return nil
	}
	b, _ := p.find(name)
	return append(p.chain(b.Parent), name)
}

// extends says if a block's chain is known, and it extends the other one.
func (p page) extends(name, other string) bool {
	return p.known(name) && (name == other || other == zeros || slices.Contains(p.chain(name), other))
}

// conflict says if two known chains go apart.
func (p page) conflict(a, b string) bool {
	return p.known(a) && p.known(b) && !p.extends(a, b) && !p.extends(b, a)
}

// missing is the first block on the way that lacks.
func (p page) missing(name string) string {
	if name == zeros {
		return ""
	}
	b, ok := p.find(name)
	if !ok {
		return name
	}
	return p.missing(b.Parent)
}

// names are those of a page's blocks, the first block's, and others.
func (p page) names() []string {
	l := []string{zeros, stranger, "", "short", zeros[1:], zeros + "\x00"}
	for _, e := range p {
		l = append(l, e.name)
		if !slices.Contains(l, e.b.Parent) {
			l = append(l, e.b.Parent)
		}
	}
	return l
}

// put puts blocks, each of which is new and may be.
func put(t *testing.T, x *tree.Tree, l ...api.Block) {
	t.Helper()
	for _, b := range l {
		if !x.Put(b) {
			t.Errorf("P14.1: Put of a block of Height %d that is new and may be = false", b.Height)
		}
	}
}

// planted is a tree with these blocks.
func planted(t *testing.T, l ...api.Block) *tree.Tree {
	t.Helper()
	x := tree.New()
	put(t, x, l...)
	return x
}

// ends calls f and says if it panicked (P1).
func ends(t *testing.T, what string, f func()) {
	t.Helper()
	defer func() {
		if x := recover(); x != nil {
			t.Errorf("P1: %s panicked: %v", what, x)
		}
	}()
	f()
}

// gets says if Get tells what it has to, of one name.
func gets(t *testing.T, what string, x *tree.Tree, p page, name string) {
	t.Helper()
	want, isThere := p.find(name)
	if got, ok := x.Get(name); ok != isThere || !same(got, want) {
		t.Errorf("P14.1: behind %s, Get of %x = a block of Height %d, %v, want the one of Height %d, %v", what, name, got.Height, ok, want.Height, isThere)
	}
}

// chains says if Chain tells what it has to, of one name.
func chains(t *testing.T, what string, x *tree.Tree, p page, name string) {
	t.Helper()
	got, ok := x.Chain(name)
	if ok != p.known(name) {
		t.Errorf("P14.1: behind %s, Chain of %x is known = %v, want %v", what, name, ok, p.known(name))
		return
	}
	var want []string
	if ok {
		want = p.chain(name)
	}
	if len(got) != len(want) {
		t.Errorf("P14.1: behind %s, Chain of %x has %d blocks, want %d", what, name, len(got), len(want))
		return
	}
	for i, b := range got {
		if block, _ := p.find(want[i]); !same(b, block) || b.Height != i+1 {
			t.Errorf("P14.1: behind %s, block %d of the Chain of %x is not that of Height %d that was put", what, i, name, block.Height)
		}
	}
}

// isAs says if a tree tells of all names, and of all two of them, what the page does.
func isAs(t *testing.T, what string, x *tree.Tree, p page) {
	t.Helper()
	if got := x.Len(); got != len(p) {
		t.Errorf("P14.1: behind %s, Len = %d, want %d", what, got, len(p))
	}
	for _, a := range p.names() {
		gets(t, what, x, p, a)
		chains(t, what, x, p, a)
		if got := x.Missing(a); got != p.missing(a) {
			t.Errorf("P14.1: behind %s, Missing of %x = %x, want %x", what, a, got, p.missing(a))
		}
		for _, b := range p.names() {
			if got := x.Extends(a, b); got != p.extends(a, b) {
				t.Errorf("P14.1: behind %s, Extends of %x and %x = %v, want %v", what, a, b, got, !got)
			}
			if got := x.Conflict(a, b); got != p.conflict(a, b) {
				t.Errorf("P14.1: behind %s, Conflict of %x and %x = %v, want %v", what, a, b, got, !got)
			}
		}
	}
}
