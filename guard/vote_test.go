package guard_test

import (
	"math"
	"strings"
	"testing"

	"moot/api"
	"moot/guard"
	"moot/tree"
)

// tells says if MayVote tells that.
func tells(t *testing.T, what string, s guard.State, x *tree.Tree, b api.Block, want bool) {
	t.Helper()
	if got := guard.MayVote(s, x, b); got != want {
		t.Errorf("P17.1: MayVote %s, of a block of View %d, Height %d in %+v = %v, want %v", what, b.View, b.Height, s, got, want)
	}
}

// Without a mark, each block of the view whose chain is known may be voted for, and no other one.
func TestMayVote(t *testing.T) {
	w := grown()
	x := planted(t, w.page())
	for what, b := range map[string]api.Block{"a3": w.a3, "a4": w.a4, "a5": w.a5, "a6": w.a6, "b3": w.b3, "b4": w.b4, "c1": w.c1, "c2": w.c2} {
		tells(t, "of "+what, begun(), x, b, true)
		tells(t, "of "+what+", with the zero Lock", guard.State{View: now}, x, b, true)
	}
	for what, b := range map[string]api.Block{"an earlier view": w.a2, "the view before": w.e3, "the first view": w.a1, "a later view": w.late} {
		tells(t, "of "+what, begun(), x, b, false)
		tells(t, "of "+what+", there", as(begun(), func(s *guard.State) { s.View = b.View }), x, b, true)
	}
	for what, b := range map[string]api.Block{"one that is not there": w.away, "one whose parent is not there": w.lost, "a stranger's child": w.orphan, "one whose Justify is of another View": w.wrong, "one two above its parent": w.high} {
		tells(t, "of "+what, begun(), x, b, false)
	}
}

func TestMayVoteOfAnotherView(t *testing.T) {
	w := grown()
	x := planted(t, w.page())
	for _, view := range append(sizes, 4, 6, 7) {
		s := as(begun(), func(s *guard.State) { s.View = view })
		tells(t, "in any view", s, x, w.a3, view == now)
		tells(t, "in any view", s, x, w.late, view == now+1)
		tells(t, "in any view", s, x, w.a1, view == 0)
	}
}

func TestMayVoteInASpoiltView(t *testing.T) {
	w := grown()
	x := planted(t, w.page())
	for _, b := range w.all() {
		for _, view := range []int{0, 2, 4, now, now + 1} {
			s := guard.State{View: view, Lock: api.Mark{Block: zeros}, Spoilt: true}
			tells(t, "in a view that is spoilt", s, x, b, false)
			s.Voted, s.Commit, s.Lock = markOf(w.a2), markOf(w.a1), markOf(w.a2)
			tells(t, "in a view that is spoilt", s, x, b, false)
		}
	}
}

// What may not be has no name, and is nowhere: not under that of one that is there.
func TestMayVoteOfWhatMayNotBe(t *testing.T) {
	w := grown()
	x := planted(t, w.page())
	l := map[string]api.Block{"nothing": {}, "nothing of this view": {View: now}}
	for _, some := range []api.Block{w.a3, w.a4, w.c1} {
		one := func(what string, change func(b *api.Block)) {
			l[what] = with(some, change)
		}
		one("Sig too long", func(b *api.Block) { b.Sig = strings.Repeat("s", 1<<12+1) })
		one("Justify of a stranger", func(b *api.Block) { b.Justify.Block = stranger })
		one("Justify of no block", func(b *api.Block) { b.Justify.Block = "" })
		one("Justify of its own Height", func(b *api.Block) { b.Justify.Height = b.Height })
		one("Justify of the greatest Height", func(b *api.Block) { b.Justify.Height = math.MaxInt })
		one("Justify of a later View", func(b *api.Block) { b.Justify.View = now + 1 })
		one("Justify of a View below 0", func(b *api.Block) { b.Justify.View = -1 })
		one("Height 0", func(b *api.Block) { b.Height, b.Justify.Height = 0, -1 })
		one("the greatest Height", func(b *api.Block) { b.Height, b.Justify.Height = math.MaxInt, math.MaxInt-1 })
		one("a Parent too short", func(b *api.Block) { b.Parent, b.Justify.Block = "short", "short" })
		one("five Txs", func(b *api.Block) { b.Txs = make([]api.Tx, 5) })
		one("a zero transaction", func(b *api.Block) { b.Txs[0] = api.Tx{} })
		for what, b := range l {
			ends(t, "MayVote", func() {
				tells(t, "of what may not be ("+what+")", begun(), x, b, false)
				tells(t, "of what may not be ("+what+"), of its own view", guard.State{View: b.View}, x, b, false)
				tells(t, "of what may not be ("+what+"), without a tree", begun(), nil, b, false)
			})
		}
	}
}

// A block's Sig and its Justify's Votes are not looked at: its name is there.
func TestMayVoteLooksAtNoSig(t *testing.T) {
	w := grown()
	x := planted(t, w.page())
	for _, sig := range []string{"", "x", strings.Repeat("s", 1<<12)} {
		for _, votes := range [][]api.Vote{nil, {}, make([]api.Vote, 9)} {
			b := with(w.a4, func(b *api.Block) { b.Sig, b.Justify.Votes = sig, votes })
			tells(t, "of another Sig", begun(), x, b, true)
			tells(t, "of another Sig, with a Lock", as(begun(), func(s *guard.State) { s.Lock = markOf(w.a3) }), x, b, true)
			tells(t, "of another Sig, with a Lock above", as(begun(), func(s *guard.State) { s.Lock = markOf(w.a4) }), x, b, false)
		}
	}
}

func TestMayVoteWithoutATree(t *testing.T) {
	w := grown()
	for _, x := range []*tree.Tree{nil, {}, tree.New()} {
		for _, b := range append(w.all(), api.Block{}) {
			ends(t, "MayVote", func() {
				tells(t, "of a tree without blocks", guard.State{View: b.View}, x, b, false)
				tells(t, "of a tree without blocks", begun(), x, b, false)
			})
		}
	}
}

// The Lock's rank may not be above that of the block's Justify, of whatever view and block it is.
func TestMayVoteByTheLocksRank(t *testing.T) {
	w := grown()
	x := planted(t, w.page())
	for _, c := range []struct {
		b            api.Block
		view, height int
		want         bool
	}{
		// a3's Justify is of View 2, Height 2.
		{w.a3, 0, 0, true}, {w.a3, 0, 1, true}, {w.a3, 0, maxHeight, true}, {w.a3, 0, math.MaxInt, true},
		{w.a3, 1, 1, true}, {w.a3, 1, 3, true}, {w.a3, 1, math.MaxInt, true},
		{w.a3, 2, math.MinInt, true}, {w.a3, 2, -1, true}, {w.a3, 2, 0, true}, {w.a3, 2, 1, true}, {w.a3, 2, 2, true},
		{w.a3, 2, 3, false}, {w.a3, 2, 4, false}, {w.a3, 2, math.MaxInt, false},
		{w.a3, 3, 2, false}, {w.a3, 3, 1, false}, {w.a3, 3, 0, false}, {w.a3, 3, -1, false}, {w.a3, 3, math.MinInt, false},
		{w.a3, 4, 2, false}, {w.a3, now, 0, false}, {w.a3, now, math.MinInt, false}, {w.a3, now + 1, 2, false},
		{w.a3, -1, 9, true}, {w.a3, math.MinInt, math.MaxInt, true}, {w.a3, math.MaxInt, 0, false}, {w.a3, math.MaxInt, math.MinInt, false},
		// a4's is of View 5, Height 3.
		{w.a4, 4, 9, true}, {w.a4, 0, 0, true}, {w.a4, now, -1, true}, {w.a4, now, 0, true},
		{w.a4, now, 4, false}, {w.a4, now, math.MaxInt, false}, {w.a4, now + 1, 3, false}, {w.a4, now + 1, 0, false}, {w.a4, now + 1, math.MinInt, false},
		// c1's is the first cert.
		{w.c1, 0, 0, true}, {w.c1, 0, -1, true}, {w.c1, 0, 1, false}, {w.c1, 1, 0, false}, {w.c1, 1, -1, false}, {w.c1, -1, 9, true}, {w.c1, math.MinInt, 0, true},
	} {
		for _, name := range []string{zeros, "", stranger, nameOf(w.a1), nameOf(w.b3), nameOf(w.a3)} {
			s := guard.State{View: now, Lock: api.Mark{View: c.view, Height: c.height, Block: name}}
			tells(t, "by the Lock's rank", s, x, c.b, c.want)
		}
	}
}

// Of this view, and above Height 0, a block has to extend what was locked.
func TestMayVoteByTheLock(t *testing.T) {
	w := grown()
	x := planted(t, w.page())
	for _, c := range []struct {
		what string
		lock api.Mark
		b    api.Block
		want bool
	}{
		{"the parent", markOf(w.a3), w.a4, true},
		{"an uncle of the parent's rank", markOf(w.b3), w.a4, false},
		{"an ancestor", markOf(w.a3), w.a5, true},
		{"another chain's, below", markOf(w.b3), w.a5, false},
		{"another chain's, far below", markOf(w.c1), w.a5, false},
		{"a nephew's", markOf(w.b4), w.a4, false},
		{"itself", markOf(w.a4), w.a4, false},
		{"one that is not there", api.Mark{View: now, Height: 3, Block: stranger}, w.a5, false},
		{"one whose chain is not known", api.Mark{View: now, Height: 3, Block: nameOf(w.wrong)}, w.a5, false},
		{"the first block, as if above it", api.Mark{View: now, Height: 1, Block: zeros}, w.a5, true},
		{"an ancestor, as if of this view", api.Mark{View: now, Height: 2, Block: nameOf(w.a2)}, w.a5, true},
		{"an ancestor, as if of another Height", api.Mark{View: now, Height: 1, Block: nameOf(w.a4)}, w.a5, true},
		{"itself, as if below", api.Mark{View: now, Height: 1, Block: nameOf(w.a5)}, w.a5, true},
		{"a child, as if below", api.Mark{View: now, Height: 1, Block: nameOf(w.a6)}, w.a5, false},
		{"another chain's of the view before", markOf(w.e3), w.a5, true},
		{"another chain's, as if of the view before", api.Mark{View: now - 1, Height: 9, Block: nameOf(w.b3)}, w.a5, true},
		{"none", api.Mark{View: now, Height: 3}, w.a5, true},
		{"another chain's, of Height 0", api.Mark{View: now, Height: 0, Block: nameOf(w.b3)}, w.a5, true},
		{"another chain's, of Height 1", api.Mark{View: now, Height: 1, Block: nameOf(w.b3)}, w.a5, false},
		{"another chain's, below Height 0", api.Mark{View: now, Height: -1, Block: nameOf(w.b3)}, w.a5, true},
		{"another chain's, of the least Height", api.Mark{View: now, Height: math.MinInt, Block: nameOf(w.b3)}, w.a5, true},
	} {
		tells(t, "with a Lock of "+c.what, guard.State{View: now, Lock: c.lock}, x, c.b, c.want)
	}
}

// Of this view, and above Height 0, a block has to extend what was voted, and be above it.
func TestMayVoteBehindAVote(t *testing.T) {
	w := grown()
	x := planted(t, w.page())
	for _, c := range []struct {
		what  string
		voted api.Mark
		b     api.Block
		want  bool
	}{
		{"the parent", markOf(w.a3), w.a4, true},
		{"an ancestor", markOf(w.a3), w.a6, true},
		{"itself", markOf(w.a4), w.a4, false},
		{"itself, as if below", api.Mark{View: now, Height: 3, Block: nameOf(w.a4)}, w.a4, true},
		{"a child", markOf(w.a5), w.a4, false},
		{"a brother", markOf(w.b3), w.a3, false},
		{"an uncle", markOf(w.b3), w.a4, false},
		{"another chain's, below", markOf(w.c2), w.a4, false},
		{"another chain's, above", markOf(w.a4), w.c1, false},
		{"an ancestor, as if of its Height", api.Mark{View: now, Height: 5, Block: nameOf(w.a4)}, w.a5, false},
		{"an ancestor, as if above", api.Mark{View: now, Height: 6, Block: nameOf(w.a4)}, w.a5, false},
		{"an ancestor, as if right below", api.Mark{View: now, Height: 4, Block: nameOf(w.a3)}, w.a5, true},
		{"an ancestor, as if of the greatest Height", api.Mark{View: now, Height: math.MaxInt, Block: nameOf(w.a4)}, w.a5, false},
		{"the first block, as if above it", api.Mark{View: now, Height: 1, Block: zeros}, w.a3, true},
		{"the first block, as if as high", api.Mark{View: now, Height: 3, Block: zeros}, w.a3, false},
		{"one that is not there", api.Mark{View: now, Height: 1, Block: stranger}, w.a4, false},
		{"one of no name that may be", api.Mark{View: now, Height: 1, Block: "x"}, w.a4, false},
		{"one whose chain is not known", api.Mark{View: now, Height: 1, Block: nameOf(w.orphan)}, w.a4, false},
		{"another chain's, of Height 0", api.Mark{View: now, Height: 0, Block: nameOf(w.b3)}, w.a4, true},
		{"another chain's, below Height 0", api.Mark{View: now, Height: -1, Block: nameOf(w.b3)}, w.a4, true},
		{"another chain's, of the least Height", api.Mark{View: now, Height: math.MinInt, Block: stranger}, w.a4, true},
		{"another chain's, of Height 1", api.Mark{View: now, Height: 1, Block: nameOf(w.b3)}, w.a4, false},
		{"none", api.Mark{View: now, Height: 1}, w.a4, true},
		{"none, as if of its Height", api.Mark{View: now, Height: 4}, w.a4, true},
		{"none, as if above", api.Mark{View: now, Height: math.MaxInt}, w.a4, true},
		{"the zero mark", api.Mark{}, w.a4, true},
		{"an ancestor of another view", markOf(w.a2), w.a4, true},
		{"another chain's of the view before", markOf(w.e3), w.a4, true},
		{"another chain's, as if of the view before", api.Mark{View: now - 1, Height: 9, Block: nameOf(w.b3)}, w.a4, true},
		{"one of a later view", markOf(w.late), w.a4, true},
		{"itself, as if of another view", api.Mark{View: 0, Height: 4, Block: nameOf(w.a4)}, w.a4, true},
		{"another chain's, as if of view 5 + 2^32", api.Mark{View: now + 1<<32, Height: 9, Block: nameOf(w.b3)}, w.a4, true},
	} {
		tells(t, "behind a vote for "+c.what, as(begun(), func(s *guard.State) { s.Voted = c.voted }), x, c.b, c.want)
	}
}

// Of this view, and above Height 0, a block has to extend what was commit-voted, be its Height what it may.
func TestMayVoteBehindACommit(t *testing.T) {
	w := grown()
	x := planted(t, w.page())
	for _, c := range []struct {
		what   string
		commit api.Mark
		b      api.Block
		want   bool
	}{
		{"the parent", markOf(w.a3), w.a4, true},
		{"an ancestor", markOf(w.a3), w.a6, true},
		{"itself", markOf(w.a4), w.a4, true},
		{"itself, as if above", api.Mark{View: now, Height: 9, Block: nameOf(w.a4)}, w.a4, true},
		{"an ancestor, as if above", api.Mark{View: now, Height: 9, Block: nameOf(w.a3)}, w.a4, true},
		{"the first block, as if above it", api.Mark{View: now, Height: 9, Block: zeros}, w.a4, true},
		{"a child", markOf(w.a5), w.a4, false},
		{"a brother", markOf(w.b3), w.a3, false},
		{"an uncle", markOf(w.b3), w.a4, false},
		{"another chain's, below", markOf(w.c1), w.a4, false},
		{"one that is not there", api.Mark{View: now, Height: 1, Block: stranger}, w.a4, false},
		{"one whose chain is not known", api.Mark{View: now, Height: 1, Block: nameOf(w.high)}, w.a4, false},
		{"another chain's, of Height 0", api.Mark{View: now, Height: 0, Block: nameOf(w.b3)}, w.a4, true},
		{"another chain's, below Height 0", api.Mark{View: now, Height: -1, Block: nameOf(w.b3)}, w.a4, true},
		{"another chain's, of Height 1", api.Mark{View: now, Height: 1, Block: nameOf(w.b3)}, w.a4, false},
		{"none", api.Mark{View: now, Height: 1}, w.a4, true},
		{"none, as if above", api.Mark{View: now, Height: math.MaxInt}, w.a4, true},
		{"the zero mark", api.Mark{}, w.a4, true},
		{"another chain's of the view before", markOf(w.e3), w.a4, true},
		{"another chain's, as if of the view before", api.Mark{View: now - 1, Height: 9, Block: nameOf(w.b3)}, w.a4, true},
		{"one of a later view", markOf(w.late), w.a4, true},
		{"another chain's, as if of view 5 + 2^32", api.Mark{View: now + 1<<32, Height: 9, Block: nameOf(w.b3)}, w.a4, true},
	} {
		tells(t, "behind a commit-vote for "+c.what, as(begun(), func(s *guard.State) { s.Commit = c.commit }), x, c.b, c.want)
	}
}

// one is a mark of a block, or of none, and whether a5 may be voted for behind it.
type one struct {
	m                  api.Mark
	voted, commit, may bool
}

// kinds are marks of each kind, of which a5 extends some.
func (w wood) kinds() []one {
	of := func(b api.Block, view, height int) api.Mark {
		return api.Mark{View: view, Height: height, Block: nameOf(b)}
	}
	return []one{
		{api.Mark{}, true, true, true},
		{api.Mark{View: now, Height: 3}, true, true, true},
		{api.Mark{View: now - 1, Height: 3}, true, true, true},
		{of(w.a3, now, 3), true, true, true},
		{of(w.a4, now, 4), true, true, true},
		{of(w.a3, now-1, 3), true, true, true},
		{of(w.a3, now, 0), true, true, true},
		{of(w.a3, now, -1), true, true, true},
		{of(w.b3, now, 3), false, false, false},
		{of(w.b3, now-1, 3), true, true, true},
		{of(w.b3, now, 0), true, true, true},
		{of(w.b3, now, -1), true, true, true},
		{of(w.c1, now, 1), false, false, false},
		{api.Mark{View: now, Height: 2, Block: stranger}, false, false, false},
		{api.Mark{View: now - 1, Height: 2, Block: stranger}, true, true, true},
		// Above the block's parent, it is a Lock that is above Justify.
		{of(w.a5, now, 5), false, true, false},
		{of(w.a4, now, 5), false, true, false},
		{of(w.a5, now, 4), true, true, true},
		{of(w.a6, now, 6), false, false, false},
		{api.Mark{View: now, Height: 5}, true, true, false},
	}
}

// Each of the three marks has to let the block be, together as alone.
func TestMayVoteByAllMarks(t *testing.T) {
	w := grown()
	p := w.page()
	x := planted(t, p)
	may := 0
	for _, voted := range w.kinds() {
		for _, commit := range w.kinds() {
			for _, lock := range w.kinds() {
				s := guard.State{View: now, Voted: voted.m, Commit: commit.m, Lock: lock.m}
				tells(t, "by all marks", s, x, w.a5, voted.voted && commit.commit && lock.may)
				for _, b := range []api.Block{w.a4, w.b4, w.a3, w.c1} {
					if votes(t, "by all marks", s, x, p, b) {
						may++
					}
				}
			}
		}
	}
	if may < 1000 {
		t.Errorf("only %d times one may vote", may)
	}
}
