package guard_test

import (
	"crypto/sha256"
	"math"
	"slices"
	"testing"

	"moot/api"
	"moot/guard"
	"moot/tree"
)

// The limits, the first block's name, and a view, as the document tells them.
const (
	maxHeight = 1 << 20
	maxView   = 1 << 20
	zeros     = "\x00\x00\x00\x00\x00\x00\x00\x00\x00\x00\x00\x00\x00\x00\x00\x00\x00\x00\x00\x00\x00\x00\x00\x00\x00\x00\x00\x00\x00\x00\x00\x00"
	stranger  = "the name of what nobody ever put"
	now       = 5
)

// sizes are numbers at the edges of what may be, and far from it.
var sizes = []int{math.MinInt, math.MinInt + 1, -1 << 32, -1, 0, 1, 2, 3, 5, maxView - 1, maxView, maxView + 1, 1 << 32, 5 + 1<<32, math.MaxInt - 1, math.MaxInt}

// low is the lowest octets of n, so many, the highest first.
func low(n int, size int) string {
	var b []byte
	for i := size - 1; i >= 0; i-- {
		b = append(b, byte(uint64(n)>>(8*i)))
	}
	return string(b)
}

// field is a text's octets.
func field(s string) string {
	return low(len(s), 2) + s
}

// nameOf is the name that a block has to have, reckoned not by the program's own.
func nameOf(b api.Block) string {
	text := field("block") + low(b.View, 6) + low(b.Height, 6) + field(b.Parent) + low(b.Justify.View, 6) + low(len(b.Txs), 6)
	for _, x := range b.Txs {
		text += field("tx") + low(x.From, 6) + low(x.To, 6) + low(x.Amount, 6) + low(x.Nonce, 6) + field(x.Sig)
	}
	sum := sha256.Sum256([]byte(text))
	return string(sum[:])
}

// markOf is a block's mark.
func markOf(b api.Block) api.Mark {
	return api.Mark{View: b.View, Height: b.Height, Block: nameOf(b)}
}

// copied is a block that shares no list with another one.
func copied(b api.Block) api.Block {
	b.Txs, b.Justify.Votes = slices.Clone(b.Txs), slices.Clone(b.Justify.Votes)
	return b
}

// with is a block as change leaves it.
func with(b api.Block, change func(b *api.Block)) api.Block {
	b = copied(b)
	change(&b)
	return b
}

// same says if two blocks are, in all fields, nil and empty lists being one (P5).
func same(a, b api.Block) bool {
	if a.View != b.View || a.Height != b.Height || a.Parent != b.Parent || a.Sig != b.Sig || !slices.Equal(a.Txs, b.Txs) {
		return false
	}
	return a.Justify.View == b.Justify.View && a.Justify.Height == b.Justify.Height && a.Justify.Block == b.Justify.Block &&
		slices.Equal(a.Justify.Votes, b.Justify.Votes)
}

// behind is a block that may be, behind that parent, of that amount, so that it is unlike its siblings.
func behind(parent string, view, height, justify, amount int) api.Block {
	c := api.Cert{View: justify, Height: height - 1, Block: parent}
	for signer := range 2 {
		c.Votes = append(c.Votes, api.Vote{Kind: 1, View: justify, Height: height - 1, Block: parent, Signer: signer, Sig: "a vote's"})
	}
	l := []api.Tx{{From: 1, To: 3, Amount: amount, Sig: "a client's"}, {From: 2, To: 0, Amount: 1}}
	return api.Block{View: view, Height: height, Parent: parent, Justify: c, Txs: l, Sig: "a leader's"}
}

// first is a child of the first block.
func first(view, amount int) api.Block {
	return behind(zeros, view, 1, 0, amount)
}

// child is a block that stands on another one, as it should.
func child(b api.Block, view, amount int) api.Block {
	return behind(nameOf(b), view, b.Height+1, b.View, amount)
}

// page is the blocks of a tree, each with its name.
type page []entry

// entry is a block and its name.
type entry struct {
	name string
	b    api.Block
}

// paged is the page of blocks.
func paged(l ...api.Block) page {
	var p page
	for _, b := range l {
		p = append(p, entry{nameOf(b), b})
	}
	return p
}

// find is the block of that name.
func (p page) find(name string) (api.Block, bool) {
	for _, e := range p {
		if e.name == name {
			return e.b, true
		}
	}
	return api.Block{}, false
}

// known says if a block's chain is, as chapter 14 tells it.
func (p page) known(name string) bool {
	if name == zeros {
		return true
	}
	b, ok := p.find(name)
	if !ok || !p.known(b.Parent) {
		return false
	}
	// Of the first block no more is known: it has Height and View 0, as the zero block.
	parent, _ := p.find(b.Parent)
	return parent.Height == b.Height-1 && parent.View == b.Justify.View
}

// chain is a known block's name, and those of its ancestors down to the first block.
func (p page) chain(name string) []string {
	if name == zeros {
		return []string{zeros}
	}
	b, _ := p.find(name)
	return append(p.chain(b.Parent), name)
}

// extends says if a block's chain is known, and it extends the other one.
func (p page) extends(name, other string) bool {
	return p.known(name) && slices.Contains(p.chain(name), other)
}

// conflict says if two known chains go apart.
func (p page) conflict(a, b string) bool {
	return p.known(a) && p.known(b) && !p.extends(a, b) && !p.extends(b, a)
}

// above says if a rank is above another one, as chapter 9 tells it.
func above(view, height int, m api.Mark) bool {
	if view == m.View {
		return height > m.Height
	}
	return view > m.View
}

// isOne says if a mark tells of a block of the state's view.
func isOne(s guard.State, m api.Mark) bool {
	return len(m.Block) > 0 && s.View == m.View
}

// mayVote is what MayVote has to tell of a block that may be, word by word.
func (p page) mayVote(s guard.State, b api.Block) bool {
	name := nameOf(b)
	may := b.View == s.View && !s.Spoilt && p.known(name) && name != zeros
	may = may && !above(s.Lock.View, s.Lock.Height, api.Mark{View: b.Justify.View, Height: b.Justify.Height})
	if isOne(s, s.Voted) && s.Voted.Height > 0 {
		may = may && p.extends(name, s.Voted.Block) && b.Height > s.Voted.Height
	}
	if isOne(s, s.Commit) && s.Commit.Height > 0 {
		may = may && p.extends(name, s.Commit.Block)
	}
	if isOne(s, s.Lock) && s.Lock.Height > 0 {
		may = may && p.extends(name, s.Lock.Block)
	}
	return may
}

// mayCommit is what MayCommit has to tell, word by word.
func (p page) mayCommit(s guard.State, m api.Mark) bool {
	b, isThere := p.find(m.Block)
	may := m.View == s.View && !s.Spoilt && isThere && b.View == m.View && b.Height == m.Height && p.known(m.Block)
	if isOne(s, s.Commit) {
		may = may && p.extends(m.Block, s.Commit.Block) && m.Height > s.Commit.Height
	}
	if isOne(s, s.Voted) {
		may = may && (p.extends(m.Block, s.Voted.Block) || p.extends(s.Voted.Block, m.Block))
	}
	return may
}

// planted is a tree with a page's blocks.
func planted(t *testing.T, p page) *tree.Tree {
	t.Helper()
	x := tree.New()
	for _, e := range p {
		if !x.Put(e.b) {
			t.Fatalf("P14.1: Put of a block of Height %d that is new and may be = false", e.b.Height)
		}
	}
	return x
}

// isPlanted says if a tree has a page's blocks, and no other ones.
func isPlanted(t *testing.T, what string, x *tree.Tree, p page) {
	t.Helper()
	if x.Len() != len(p) {
		t.Errorf("P17.4: %s: the tree has %d blocks, had %d", what, x.Len(), len(p))
	}
	for _, e := range p {
		if b, ok := x.Get(e.name); !ok || !same(b, e.b) {
			t.Errorf("P17.4: %s: the block of Height %d was changed", what, e.b.Height)
		}
	}
}

// ends calls f and says if it panicked (P1).
func ends(t *testing.T, what string, f func()) {
	t.Helper()
	defer func() {
		if x := recover(); x != nil {
			t.Errorf("P1: %s panicked: %v", what, x)
		}
	}()
	f()
}

// votes says if MayVote tells what it has to, and answers that.
func votes(t *testing.T, what string, s guard.State, x *tree.Tree, p page, b api.Block) bool {
	t.Helper()
	got := guard.MayVote(s, x, b)
	if want := p.mayVote(s, b); got != want {
		t.Errorf("P17.1: %s: MayVote of a block of View %d, Height %d in %+v = %v", what, b.View, b.Height, s, got)
	}
	return got
}

// commits says if MayCommit tells what it has to, and answers that.
func commits(t *testing.T, what string, s guard.State, x *tree.Tree, p page, m api.Mark) bool {
	t.Helper()
	got := guard.MayCommit(s, x, m)
	if want := p.mayCommit(s, m); got != want {
		t.Errorf("P17.1: %s: MayCommit of %+v in %+v = %v", what, m, s, got)
	}
	return got
}

// wood is blocks of several chains of view now and earlier ones, by short names; those that no tree should have are not in its page.
type wood struct {
	a1, a2, a3, a4, a5, a6 api.Block // views 0, 2, 5, 5, 5, 5
	b3, b4                 api.Block // of view 5, behind a2
	c1, c2                 api.Block // of view 5, behind the first block
	e3                     api.Block // of view 4, behind a2
	late                   api.Block // of view 6, behind a4
	away                   api.Block // of view 5, behind a6, not put
	lost                   api.Block // of view 5, behind away
	orphan                 api.Block // of view 5, behind a stranger
	wrong                  api.Block // of view 5, behind a2, of another View of Justify than that one's
	high                   api.Block // of view 5, behind a2, two above it
}

// grown is a wood.
func grown() wood {
	var w wood
	w.a1 = first(0, 1)
	w.a2 = child(w.a1, 2, 2)
	w.a3, w.b3, w.e3 = child(w.a2, now, 3), child(w.a2, now, 4), child(w.a2, 4, 5)
	w.a4, w.b4 = child(w.a3, now, 6), child(w.b3, now, 7)
	w.a5, w.late = child(w.a4, now, 8), child(w.a4, now+1, 9)
	w.a6 = child(w.a5, now, 10)
	w.c1 = first(now, 11)
	w.c2 = child(w.c1, now, 12)
	w.away = child(w.a6, now, 13)
	w.lost = child(w.away, now, 14)
	w.orphan = behind(stranger, now, 4, now, 15)
	w.wrong = behind(nameOf(w.a2), now, 3, 3, 16)
	w.high = behind(nameOf(w.a2), now, 4, 2, 17)
	return w
}

// page is the blocks of a wood that a tree has.
func (w wood) page() page {
	return paged(w.a1, w.a2, w.a3, w.a4, w.a5, w.a6, w.b3, w.b4, w.c1, w.c2, w.e3, w.late, w.lost, w.orphan, w.wrong, w.high)
}

// all is all blocks of a wood.
func (w wood) all() []api.Block {
	l := []api.Block{w.away}
	for _, e := range w.page() {
		l = append(l, e.b)
	}
	return l
}

// begun is the state of a replica in view now that signed nothing.
func begun() guard.State {
	return guard.State{View: now, Lock: api.Mark{Block: zeros}}
}

// as is a state as change leaves it.
func as(s guard.State, change func(s *guard.State)) guard.State {
	change(&s)
	return s
}
