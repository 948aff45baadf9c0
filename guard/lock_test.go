package guard_test

import (
	"math"
	"testing"

	"moot/api"
	"moot/guard"
)

// held is a state no part of which is another's, nor zero.
func held() guard.State {
	return guard.State{
		View:   7,
		Voted:  api.Mark{View: 7, Height: 4, Block: "voted"},
		Commit: api.Mark{View: 6, Height: 3, Block: "commit"},
		Lock:   api.Mark{View: 5, Height: 9, Block: "lock"},
		Spoilt: true,
	}
}

func TestLock(t *testing.T) {
	for _, c := range []struct {
		view, height int
		want         bool
	}{
		{5, 9, false}, {5, 8, false}, {5, 0, false}, {5, -1, false}, {5, math.MinInt, false},
		{5, 10, true}, {5, maxHeight, true}, {5, maxHeight + 1, true}, {5, math.MaxInt, true}, {5, 9 + 1<<32, true},
		{4, 9, false}, {4, 10, false}, {4, math.MaxInt, false}, {0, 10, false}, {-1, 10, false}, {math.MinInt, math.MaxInt, false},
		{6, 9, true}, {6, 10, true}, {6, 0, true}, {6, -1, true}, {6, math.MinInt, true},
		{7, 0, true}, {8, 1, true}, {maxView, 1, true}, {maxView + 1, 1, true}, {5 + 1<<32, 9, true}, {math.MaxInt, math.MinInt, true},
	} {
		// Neither the block that a mark tells of, nor any other part of the state has to do with it.
		for _, name := range []string{"", "lock", "another", zeros} {
			for _, s := range []guard.State{held(), {Lock: held().Lock}, {View: 5, Lock: held().Lock}} {
				m := api.Mark{View: c.view, Height: c.height, Block: name}
				want := s
				if c.want {
					want.Lock = m
				}
				if got, ok := guard.Lock(s, m); got != want || ok != c.want {
					t.Errorf("P17.2: Lock of %+v by %+v = %+v, %v", s, m, got, ok)
				}
			}
		}
	}
}

func TestLockOfTheFirst(t *testing.T) {
	for _, c := range []struct {
		m    api.Mark
		want bool
	}{
		{api.Mark{Block: zeros}, false}, {api.Mark{}, false}, {api.Mark{Height: -1, Block: "x"}, false}, {api.Mark{View: -1, Height: 9, Block: "x"}, false},
		{api.Mark{Height: 1, Block: "x"}, true}, {api.Mark{View: 1, Block: "x"}, true}, {api.Mark{View: 1, Height: -9}, true},
	} {
		got, ok := guard.Lock(guard.Begin(), c.m)
		want := guard.Begin()
		if c.want {
			want.Lock = c.m
		}
		if got != want || ok != c.want {
			t.Errorf("P17.2: Lock of the beginning by %+v = %+v, %v", c.m, got, ok)
		}
	}
}

func TestEnter(t *testing.T) {
	// The chapter's example.
	if got, ok := guard.Enter(guard.Begin(), 0); ok || got != guard.Begin() {
		t.Errorf("P17.2: Enter of view 0 from view 0 = %+v, %v", got, ok)
	}
	for _, at := range append(sizes, 7) {
		for _, to := range append(sizes, 6, 7, 8) {
			for _, spoilt := range []bool{true, false} {
				s := held()
				s.View, s.Spoilt = at, spoilt
				want := s
				if to > at {
					want.View, want.Spoilt = to, false
				}
				if got, ok := guard.Enter(s, to); got != want || ok != (to > at) {
					t.Errorf("P17.2: Enter of view %d from %+v = %+v, %v", to, s, got, ok)
				}
			}
		}
	}
}

// What a mark is has nothing to do with it: it is the last one.
func TestVoteAndCommit(t *testing.T) {
	l := []api.Mark{{}, {Block: zeros}, {View: 7, Height: 5, Block: "next"}, {View: 7, Height: 1, Block: "below"}, held().Voted, held().Commit, held().Lock}
	for _, n := range sizes {
		l = append(l, api.Mark{View: n, Height: n, Block: "x"}, api.Mark{View: n}, api.Mark{Height: n, Block: zeros})
	}
	for _, m := range l {
		for _, s := range []guard.State{held(), guard.Begin(), {}, {Spoilt: true}} {
			want := s
			want.Voted = m
			if got := guard.Vote(s, m); got != want {
				t.Errorf("P17.2: Vote of %+v in %+v = %+v", m, s, got)
			}
			want = s
			want.Commit = m
			if got := guard.Commit(s, m); got != want {
				t.Errorf("P17.2: Commit of %+v in %+v = %+v", m, s, got)
			}
		}
	}
}
