package guard_test

import (
	"math"
	"testing"

	"moot/api"
	"moot/guard"
	"moot/tree"
)

// allows says if MayCommit tells that.
func allows(t *testing.T, what string, s guard.State, x *tree.Tree, m api.Mark, want bool) {
	t.Helper()
	if got := guard.MayCommit(s, x, m); got != want {
		t.Errorf("P17.1: MayCommit %s, of %+v in %+v = %v, want %v", what, m, s, got, want)
	}
}

// Without a mark, each block of the view whose chain is known may be commit-voted, whatever the Lock is.
func TestMayCommit(t *testing.T) {
	w := grown()
	x := planted(t, w.page())
	for _, lock := range []api.Mark{{}, {Block: zeros}, markOf(w.b3), markOf(w.a6), markOf(w.late), {View: math.MaxInt, Height: math.MaxInt, Block: stranger}} {
		s := guard.State{View: now, Lock: lock}
		for what, b := range map[string]api.Block{"a3": w.a3, "a4": w.a4, "a5": w.a5, "a6": w.a6, "b3": w.b3, "b4": w.b4, "c1": w.c1, "c2": w.c2} {
			allows(t, "of "+what, s, x, markOf(b), true)
		}
		for what, b := range map[string]api.Block{"an earlier view": w.a2, "the view before": w.e3, "the first view": w.a1, "a later view": w.late} {
			allows(t, "of "+what, s, x, markOf(b), false)
			allows(t, "of "+what+", there", as(s, func(s *guard.State) { s.View = b.View }), x, markOf(b), true)
		}
		for what, b := range map[string]api.Block{"one that is not there": w.away, "one whose parent is not there": w.lost, "a stranger's child": w.orphan, "one whose Justify is of another View": w.wrong, "one two above its parent": w.high} {
			allows(t, "of "+what, s, x, markOf(b), false)
		}
	}
}

func TestMayCommitOfAnotherView(t *testing.T) {
	w := grown()
	x := planted(t, w.page())
	for _, view := range append(sizes, 4, 6, 7) {
		s := as(begun(), func(s *guard.State) { s.View = view })
		allows(t, "in any view", s, x, markOf(w.a3), view == now)
		allows(t, "in any view", s, x, markOf(w.late), view == now+1)
		allows(t, "in any view", s, x, markOf(w.a1), view == 0)
		// A mark that says the state's view of a block of another one is none's.
		for _, b := range w.all() {
			allows(t, "in any view, as if of it", s, x, api.Mark{View: view, Height: b.Height, Block: nameOf(b)}, view == b.View && w.page().known(nameOf(b)))
		}
	}
}

func TestMayCommitInASpoiltView(t *testing.T) {
	w := grown()
	x := planted(t, w.page())
	for _, b := range w.all() {
		s := guard.State{View: b.View, Lock: api.Mark{Block: zeros}, Spoilt: true}
		allows(t, "in a view that is spoilt", s, x, markOf(b), false)
		s.Voted, s.Commit = markOf(b), markOf(w.a1)
		allows(t, "in a view that is spoilt", s, x, markOf(b), false)
	}
}

// A mark has to tell of its block's own View and Height.
func TestMayCommitOfAnotherMark(t *testing.T) {
	w := grown()
	x := planted(t, w.page())
	for _, n := range append(sizes, 4, 6) {
		for _, view := range []int{now, n} {
			s := as(begun(), func(s *guard.State) { s.View = view })
			allows(t, "of any View", s, x, api.Mark{View: n, Height: 4, Block: nameOf(w.a4)}, n == now)
			allows(t, "of any Height", s, x, api.Mark{View: now, Height: n, Block: nameOf(w.a4)}, n == 4 && view == now)
			allows(t, "of any Height", s, x, api.Mark{View: now, Height: n, Block: nameOf(w.c1)}, n == 1 && view == now)
			for _, name := range []string{"", "x", zeros, zeros[1:], zeros + "\x00", stranger, nameOf(w.a4)[1:], nameOf(w.away)} {
				for _, height := range []int{n, 0, 1, 4} {
					allows(t, "of no block", s, x, api.Mark{View: view, Height: height, Block: name}, false)
				}
			}
		}
	}
}

// The first block is no block of a tree: nobody commit-votes it.
func TestMayCommitOfTheFirstBlock(t *testing.T) {
	w := grown()
	m := api.Mark{Block: zeros}
	for _, x := range []*tree.Tree{nil, {}, tree.New(), planted(t, w.page())} {
		allows(t, "of the first block", guard.Begin(), x, m, false)
		allows(t, "of the first block", guard.State{}, x, m, false)
		allows(t, "of the first block behind itself", guard.State{Voted: m, Lock: m}, x, m, false)
		allows(t, "of the first block behind itself", guard.State{Commit: api.Mark{Height: -1, Block: zeros}}, x, m, false)
		allows(t, "of the first block, later", begun(), x, m, false)
	}
}

func TestMayCommitWithoutATree(t *testing.T) {
	w := grown()
	for _, x := range []*tree.Tree{nil, {}, tree.New()} {
		for _, b := range append(w.all(), api.Block{}) {
			ends(t, "MayCommit", func() {
				allows(t, "of a tree without blocks", guard.State{View: b.View}, x, markOf(b), false)
				allows(t, "of a tree without blocks", guard.State{View: b.View, Voted: markOf(b)}, x, markOf(b), false)
				allows(t, "of a tree without blocks", begun(), x, api.Mark{}, false)
			})
		}
	}
}

// Of this view, a mark has to extend what was commit-voted, and be above it.
func TestMayCommitBehindACommit(t *testing.T) {
	w := grown()
	x := planted(t, w.page())
	for _, c := range []struct {
		what   string
		commit api.Mark
		b      api.Block
		want   bool
	}{
		{"the parent", markOf(w.a3), w.a4, true},
		{"an ancestor", markOf(w.a3), w.a6, true},
		{"itself", markOf(w.a4), w.a4, false},
		{"itself, as if below", api.Mark{View: now, Height: 3, Block: nameOf(w.a4)}, w.a4, true},
		{"a child", markOf(w.a5), w.a4, false},
		{"a brother", markOf(w.b3), w.a3, false},
		{"an uncle", markOf(w.b3), w.a4, false},
		{"another chain's, below", markOf(w.c1), w.a4, false},
		{"another chain's, above", markOf(w.a4), w.c2, false},
		{"an ancestor, as if right below", api.Mark{View: now, Height: 4, Block: nameOf(w.a3)}, w.a5, true},
		{"an ancestor, as if of its Height", api.Mark{View: now, Height: 5, Block: nameOf(w.a3)}, w.a5, false},
		{"an ancestor, as if above", api.Mark{View: now, Height: 6, Block: nameOf(w.a3)}, w.a5, false},
		{"an ancestor, as if of the greatest Height", api.Mark{View: now, Height: math.MaxInt, Block: nameOf(w.a3)}, w.a5, false},
		{"an ancestor, as if of Height 0", api.Mark{View: now, Height: 0, Block: nameOf(w.a3)}, w.a5, true},
		{"an ancestor, as if of the least Height", api.Mark{View: now, Height: math.MinInt, Block: nameOf(w.a3)}, w.a5, true},
		{"the first block, of this view", api.Mark{View: now, Block: zeros}, w.a5, true},
		{"the first block, as if as high", api.Mark{View: now, Height: 5, Block: zeros}, w.a5, false},
		// A Height of 0 or below frees nobody here.
		{"another chain's, of Height 0", api.Mark{View: now, Height: 0, Block: nameOf(w.b3)}, w.a4, false},
		{"another chain's, below Height 0", api.Mark{View: now, Height: -1, Block: nameOf(w.b3)}, w.a4, false},
		{"one that is not there", api.Mark{View: now, Height: 1, Block: stranger}, w.a4, false},
		{"one of no name that may be", api.Mark{View: now, Height: -7, Block: "x"}, w.a4, false},
		{"one whose chain is not known", api.Mark{View: now, Height: 1, Block: nameOf(w.high)}, w.a4, false},
		{"none", api.Mark{View: now, Height: 1}, w.a4, true},
		{"none, as if as high", api.Mark{View: now, Height: 4}, w.a4, true},
		{"none, as if above", api.Mark{View: now, Height: math.MaxInt}, w.a4, true},
		{"the zero mark", api.Mark{}, w.a4, true},
		{"an ancestor of another view", markOf(w.a2), w.a4, true},
		{"another chain's of the view before", markOf(w.e3), w.a4, true},
		{"another chain's, as if of the view before", api.Mark{View: now - 1, Height: 9, Block: nameOf(w.b3)}, w.a4, true},
		{"itself, as if of the view before", api.Mark{View: now - 1, Height: 4, Block: nameOf(w.a4)}, w.a4, true},
		{"one of a later view", markOf(w.late), w.a4, true},
		{"another chain's, as if of view 5 + 2^32", api.Mark{View: now + 1<<32, Height: 9, Block: nameOf(w.b3)}, w.a4, true},
	} {
		allows(t, "behind a commit-vote for "+c.what, as(begun(), func(s *guard.State) { s.Commit = c.commit }), x, markOf(c.b), c.want)
	}
}

// Of this view, a mark has to extend what was voted, or what was voted it.
func TestMayCommitBesideAVote(t *testing.T) {
	w := grown()
	x := planted(t, w.page())
	for _, c := range []struct {
		what  string
		voted api.Mark
		b     api.Block
		want  bool
	}{
		{"the parent", markOf(w.a3), w.a4, true},
		{"an ancestor", markOf(w.a3), w.a6, true},
		{"itself", markOf(w.a4), w.a4, true},
		{"a child", markOf(w.a5), w.a4, true},
		{"a far child", markOf(w.a6), w.a3, true},
		{"a brother", markOf(w.b3), w.a3, false},
		{"a nephew", markOf(w.b4), w.a3, false},
		{"an uncle", markOf(w.b3), w.a4, false},
		{"another chain's, below", markOf(w.c1), w.a4, false},
		{"another chain's, above", markOf(w.a4), w.c2, false},
		{"itself, as if of another Height", api.Mark{View: now, Height: 9, Block: nameOf(w.a4)}, w.a4, true},
		{"an ancestor, as if of Height 0", api.Mark{View: now, Height: 0, Block: nameOf(w.a3)}, w.a4, true},
		{"a child, as if of the least Height", api.Mark{View: now, Height: math.MinInt, Block: nameOf(w.a5)}, w.a4, true},
		{"a later view's child, as if of this one", api.Mark{View: now, Height: 5, Block: nameOf(w.late)}, w.a4, true},
		{"the first block, of this view", api.Mark{View: now, Block: zeros}, w.a4, true},
		// A Height of 0 or below frees nobody here.
		{"another chain's, of Height 0", api.Mark{View: now, Height: 0, Block: nameOf(w.b3)}, w.a4, false},
		{"another chain's, below Height 0", api.Mark{View: now, Height: -1, Block: nameOf(w.b3)}, w.a4, false},
		{"one that is not there", api.Mark{View: now, Height: 1, Block: stranger}, w.a4, false},
		{"one of no name that may be", api.Mark{View: now, Height: 1, Block: "x"}, w.a4, false},
		{"a child that is not there", markOf(w.away), w.a6, false},
		{"one whose chain is not known", markOf(w.lost), w.a6, false},
		{"none", api.Mark{View: now, Height: 1}, w.a4, true},
		{"none, as if above", api.Mark{View: now, Height: math.MaxInt}, w.a4, true},
		{"the zero mark", api.Mark{}, w.a4, true},
		{"another chain's of the view before", markOf(w.e3), w.a4, true},
		{"another chain's, as if of the view before", api.Mark{View: now - 1, Height: 3, Block: nameOf(w.b3)}, w.a4, true},
		{"one of a later view", markOf(w.late), w.a5, true},
		{"another chain's, as if of view 5 + 2^32", api.Mark{View: now + 1<<32, Height: 3, Block: nameOf(w.b3)}, w.a4, true},
	} {
		allows(t, "beside a vote for "+c.what, as(begun(), func(s *guard.State) { s.Voted = c.voted }), x, markOf(c.b), c.want)
	}
}

// In the first view the zero mark, of that view as it is, binds nobody.
func TestMayCommitBesideNoVoteInTheFirstView(t *testing.T) {
	a, b := first(0, 1), first(0, 2)
	x := planted(t, paged(a, b))
	for height := -1; height < 3; height++ {
		none := api.Mark{Height: height}
		s := guard.State{Voted: none, Commit: none, Lock: none}
		allows(t, "beside none", s, x, markOf(a), true)
		allows(t, "beside another one", as(s, func(s *guard.State) { s.Voted = markOf(b) }), x, markOf(a), false)
		allows(t, "behind another one", as(s, func(s *guard.State) { s.Commit = markOf(b) }), x, markOf(a), false)
	}
}

// Both marks have to let it be, together as alone; the Lock has nothing to say.
func TestMayCommitByAllMarks(t *testing.T) {
	w := grown()
	p := w.page()
	x := planted(t, p)
	may := map[bool]int{}
	for _, voted := range w.kinds() {
		for _, commit := range w.kinds() {
			for _, lock := range w.kinds() {
				s := guard.State{View: now, Voted: voted.m, Commit: commit.m, Lock: lock.m}
				for _, b := range []api.Block{w.a3, w.a4, w.a5, w.a6, w.b4, w.c1} {
					got := commits(t, "by all marks", s, x, p, markOf(b))
					may[got]++
					free := as(s, func(s *guard.State) { s.Lock = api.Mark{} })
					alone := as(free, func(s *guard.State) { s.Voted = api.Mark{} })
					other := as(free, func(s *guard.State) { s.Commit = api.Mark{} })
					if both := guard.MayCommit(alone, x, markOf(b)) && guard.MayCommit(other, x, markOf(b)); got != both {
						t.Errorf("P17.1: MayCommit by all marks of %+v = %v, by each alone %v", s, got, both)
					}
				}
			}
		}
	}
	if may[true] < 1000 || may[false] < 1000 {
		t.Errorf("only so many times each: %v", may)
	}
}
