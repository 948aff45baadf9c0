package guard_test

import (
	"math/rand"
	"slices"
	"sync"
	"testing"

	"moot/api"
	"moot/guard"
	"moot/tree"
)

// size is one of the numbers at the edges.
func size(r *rand.Rand) int {
	return sizes[r.Intn(len(sizes))]
}

// drawn is a drawn block behind one of those that are there, the first block or a stranger; it stands on most as it should.
func drawn(r *rand.Rand, p page) api.Block {
	if len(p) == 0 || r.Intn(8) == 0 {
		return first(r.Intn(3), 1+r.Intn(1000))
	}
	// The later ones have more children, and most are of their parent's view, so that some chains of one view are long.
	on := p[max(r.Intn(len(p)), r.Intn(len(p)))].b
	b := child(on, on.View+r.Intn(4)/3, 1+r.Intn(1000))
	switch r.Intn(40) {
	case 0:
		return with(b, func(b *api.Block) { b.Parent, b.Justify.Block = stranger, stranger })
	case 1:
		return with(b, func(b *api.Block) { b.Height, b.Justify.Height = b.Height+1, b.Justify.Height+1 })
	case 2:
		return with(b, func(b *api.Block) { b.View, b.Justify.View = b.View+1, b.Justify.View+1 })
	}
	return b
}

// grove is so many drawn blocks, no two of one name.
func grove(r *rand.Rand, count int) page {
	var p page
	for len(p) < count {
		b := drawn(r, p)
		if _, ok := p.find(nameOf(b)); !ok {
			p = append(p, entry{nameOf(b), b})
		}
	}
	return p
}

// drawnMark is a mark, most often of a page's block; some say another View or Height than that one's.
func drawnMark(r *rand.Rand, p page) api.Mark {
	m := markOf(p[r.Intn(len(p))].b)
	switch r.Intn(16) {
	case 0:
		m.View = size(r)
	case 1:
		m.Height = size(r)
	case 2:
		m.Block = []string{"", zeros, stranger, "x"}[r.Intn(4)]
	case 3:
		return api.Mark{}
	case 4:
		m.View, m.Height = r.Intn(4), r.Intn(5)-1
	}
	return m
}

// drawnState is a state, most often of a block's view, with marks that bind it or not.
func drawnState(r *rand.Rand, p page) guard.State {
	s := guard.State{View: p[r.Intn(len(p))].b.View, Voted: drawnMark(r, p), Commit: drawnMark(r, p), Lock: drawnMark(r, p), Spoilt: r.Intn(20) == 0}
	for _, m := range []*api.Mark{&s.Voted, &s.Commit, &s.Lock} {
		if r.Intn(3) == 0 {
			*m = api.Mark{}
		}
	}
	if r.Intn(20) == 0 {
		s.View = size(r)
	}
	return s
}

// Whatever is handed in, MayVote and MayCommit tell what the page does.
func TestDrawn(t *testing.T) {
	r := rand.New(rand.NewSource(17))
	voted, committed := map[bool]int{}, map[bool]int{}
	for range 400 {
		p := grove(r, 1+r.Intn(14))
		x := planted(t, p)
		for range 60 {
			s, m := drawnState(r, p), drawnMark(r, p)
			b := drawn(r, p)
			if r.Intn(8) > 0 {
				b = p[r.Intn(len(p))].b
			}
			if r.Intn(2) == 0 {
				s.View, m = b.View, markOf(b)
			}
			voted[votes(t, "of drawn ones", s, x, p, b)]++
			committed[commits(t, "of drawn ones", s, x, p, m)]++
		}
		isPlanted(t, "MayVote and MayCommit", x, p)
		if t.Failed() {
			return
		}
	}
	for _, yes := range []bool{true, false} {
		if voted[yes] < 2000 || committed[yes] < 2000 {
			t.Errorf("%v: told only %d and %d times", yes, voted[yes], committed[yes])
		}
	}
}

// signed is the blocks that were voted and commit-voted in one view, as far as the guard allowed it, in their order.
type signed struct {
	votes, commits []api.Mark
}

// try has a replica vote or commit-vote a block, if it may, and answers its state behind it.
func (l *signed) try(r *rand.Rand, s guard.State, x *tree.Tree, b api.Block) guard.State {
	if r.Intn(2) == 0 {
		if guard.MayVote(s, x, b) {
			s = guard.Vote(s, markOf(b))
			l.votes = append(l.votes, markOf(b))
		}
	} else if guard.MayCommit(s, x, markOf(b)) {
		s = guard.Commit(s, markOf(b))
		l.commits = append(l.commits, markOf(b))
	}
	return s
}

// isOneChain says if what was signed in one view lies on one chain, and rises.
func (l *signed) isOneChain(t *testing.T, x *tree.Tree, p page, view int) {
	t.Helper()
	all := slices.Concat(l.votes, l.commits)
	for _, a := range all {
		for _, b := range all {
			if a.View != view || p.conflict(a.Block, b.Block) || x.Conflict(a.Block, b.Block) {
				t.Fatalf("P17.3: %+v and %+v are signed in view %d", a, b, view)
			}
		}
	}
	for what, marks := range map[string][]api.Mark{"voted": l.votes, "commit-voted": l.commits} {
		for i := 1; i < len(marks); i++ {
			if marks[i].Height <= marks[i-1].Height || !p.extends(marks[i].Block, marks[i-1].Block) {
				t.Fatalf("P17.3: %+v is %s behind %+v", marks[i], what, marks[i-1])
			}
		}
	}
}

// What is voted and commit-voted in one view lies on one chain, in whatever order it is tried.
func TestOneChainAView(t *testing.T) {
	r := rand.New(rand.NewSource(171))
	times := map[string]int{}
	for range 400 {
		p := grove(r, 30)
		x := planted(t, p)
		s := guard.Begin()
		for view := range 4 {
			if view > 0 {
				s, _ = guard.Enter(s, view)
			}
			var l signed
			for i := range 120 {
				// The early ones are tried first, most often: else high ones keep all others out.
				b := p[r.Intn(min(len(p), 1+i/2))].b
				if r.Intn(20) == 0 && b.View <= view {
					s, _ = guard.Lock(s, api.Mark{View: b.Justify.View, Height: b.Justify.Height, Block: b.Parent})
				}
				if b.View == view || r.Intn(4) == 0 {
					s = l.try(r, s, x, b)
				}
			}
			l.isOneChain(t, x, p, view)
			times["votes"] += len(l.votes)
			times["commit-votes"] += len(l.commits)
			if len(l.votes) > 1 && len(l.commits) > 1 {
				times["several of both"]++
			}
		}
	}
	for _, what := range []string{"votes", "commit-votes", "several of both"} {
		if times[what] < 300 {
			t.Errorf("%s: only %d times", what, times[what])
		}
	}
}

// A chain that comes as it should is voted and commit-voted whole, whatever else is tried between.
func TestAChainIsSignedWhole(t *testing.T) {
	w := grown()
	x := planted(t, w.page())
	s := begun()
	for _, b := range []api.Block{w.a3, w.a4, w.a5, w.a6} {
		tells(t, "of a chain, one behind the other", s, x, b, true)
		s = guard.Vote(s, markOf(b))
		tells(t, "of one twice", s, x, b, false)
		tells(t, "of another chain's", s, x, w.b4, false)
		allows(t, "of another chain's", s, x, markOf(w.b4), false)
		allows(t, "of a chain, one behind the other", s, x, markOf(b), true)
		s = guard.Commit(s, markOf(b))
		allows(t, "of one twice", s, x, markOf(b), false)
		s, _ = guard.Lock(s, markOf(b))
		if s != (guard.State{View: now, Voted: markOf(b), Commit: markOf(b), Lock: markOf(b)}) {
			t.Errorf("P17.2: behind a block of Height %d, the state is %+v", b.Height, s)
		}
	}
	// In the next view all of them bind by the Lock's rank alone.
	s, _ = guard.Enter(s, now+1)
	tells(t, "of one whose Justify is below the Lock", s, x, w.late, false)
	allows(t, "of another chain's, in the next view", s, x, markOf(w.late), true)
}

// Locks and views only rise, whatever comes.
func TestLocksAndViewsRise(t *testing.T) {
	r := rand.New(rand.NewSource(172))
	rose, stood := 0, 0
	for range 300 {
		p := grove(r, 6)
		s := drawnState(r, p)
		for range 30 {
			m, view := drawnMark(r, p), r.Intn(4)
			if r.Intn(6) == 0 {
				view = size(r)
			}
			locked, isHigher := guard.Lock(s, m)
			entered, isLater := guard.Enter(s, view)
			if isHigher != above(m.View, m.Height, s.Lock) || isHigher != above(locked.Lock.View, locked.Lock.Height, s.Lock) || !isHigher && locked != s {
				t.Fatalf("P17.3: Lock of %+v by %+v = %+v, %v", s, m, locked, isHigher)
			}
			if above(s.Lock.View, s.Lock.Height, locked.Lock) || entered.View < s.View || isLater != (entered.View > s.View) || !isLater && entered != s {
				t.Fatalf("P17.3: from %+v, Lock tells %+v and Enter %+v", s, locked, entered)
			}
			if isHigher || isLater {
				rose++
			} else {
				stood++
			}
			if r.Intn(2) == 0 {
				s = locked
			} else {
				s = entered
			}
		}
	}
	if rose < 500 || stood < 500 {
		t.Errorf("rose only %d times, stood only %d times", rose, stood)
	}
}

// Whatever is handed in, each call ends.
func TestNothingPanics(t *testing.T) {
	w := grown()
	full := planted(t, w.page())
	names := []string{"", "x", zeros, stranger, nameOf(w.a4)}
	for _, n := range sizes {
		for _, m := range sizes {
			for _, name := range names {
				mark := api.Mark{View: n, Height: m, Block: name}
				s := guard.State{View: n, Voted: mark, Commit: api.Mark{View: n, Height: n, Block: name}, Lock: api.Mark{View: m, Height: n, Block: name}}
				b := api.Block{View: n, Height: m, Parent: name, Justify: api.Cert{View: m, Height: m - 1, Block: name}}
				for _, x := range []*tree.Tree{nil, {}, tree.New(), full} {
					ends(t, "MayVote", func() { guard.MayVote(s, x, b) })
					ends(t, "MayVote", func() { guard.MayVote(s, x, w.a4) })
					ends(t, "MayCommit", func() { guard.MayCommit(s, x, mark) })
					ends(t, "MayCommit", func() { guard.MayCommit(s, x, markOf(w.a4)) })
				}
				ends(t, "Lock", func() { guard.Lock(s, mark) })
				ends(t, "Enter", func() { guard.Enter(s, m) })
				ends(t, "Vote", func() { guard.Vote(s, mark) })
				ends(t, "Commit", func() { guard.Commit(s, mark) })
			}
		}
	}
}

// A long chain is gone through as a short one is.
func TestLongChain(t *testing.T) {
	l := []api.Block{first(now, 1)}
	x := tree.New()
	for len(l) < 3000 {
		l = append(l, child(l[len(l)-1], now, 1))
	}
	for _, b := range l {
		x.Put(b)
	}
	last, other := l[len(l)-1], child(l[1000], now, 2)
	x.Put(other)
	tells(t, "of a long chain", begun(), x, last, true)
	for what, m := range map[string]api.Mark{"the first of them": markOf(l[0]), "one in the middle": markOf(l[1500]), "the parent": markOf(l[len(l)-2])} {
		s := guard.State{View: now, Voted: m, Commit: m, Lock: m}
		tells(t, "of a long chain, behind "+what, s, x, last, true)
		allows(t, "of a long chain, behind "+what, s, x, markOf(last), true)
		allows(t, "of a long chain, ahead of a vote", as(s, func(s *guard.State) { s.Voted = markOf(last) }), x, markOf(last), true)
	}
	s := guard.State{View: now, Voted: markOf(other), Lock: api.Mark{Block: zeros}}
	tells(t, "of a long chain, behind another one's", s, x, last, false)
	allows(t, "of a long chain, behind another one's", s, x, markOf(last), false)
	allows(t, "of a long chain, behind what both have", as(s, func(s *guard.State) { s.Voted = markOf(l[1000]) }), x, markOf(last), true)
	if x.Len() != 3001 {
		t.Errorf("P17.4: the tree has %d blocks", x.Len())
	}
}

// Answers hang on arguments alone: not on what was asked ahead, nor on what is asked beside.
func TestAnswersHangOnArguments(t *testing.T) {
	r := rand.New(rand.NewSource(173))
	p := grove(r, 14)
	x := planted(t, p)
	var states []guard.State
	for range 60 {
		states = append(states, drawnState(r, p))
	}
	var all sync.WaitGroup
	for range 8 {
		all.Go(func() {
			for _, s := range states {
				for _, e := range p {
					votes(t, "beside others", s, x, p, e.b)
					commits(t, "beside others", s, x, p, markOf(e.b))
				}
			}
		})
	}
	all.Wait()
	isPlanted(t, "calls beside others", x, p)
}
