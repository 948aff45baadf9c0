package guard_test

import (
	"testing"

	"moot/api"
	"moot/guard"
)

func TestBegin(t *testing.T) {
	want := guard.State{View: 0, Lock: api.Mark{View: 0, Height: 0, Block: zeros}}
	if got := guard.Begin(); got != want {
		t.Errorf("P17.1: Begin = %+v", got)
	}
}

// A change of what Begin told changes no later answer.
func TestBeginIsNew(t *testing.T) {
	one, two := guard.Begin(), guard.Begin()
	one.View, one.Spoilt, one.Voted.View, one.Commit.Height, one.Lock = 7, true, 8, 9, api.Mark{View: 1, Height: 2, Block: stranger}
	want := guard.State{Lock: api.Mark{Block: zeros}}
	if two != want || guard.Begin() != want {
		t.Error("P17.4: a change of what Begin told changes another answer")
	}
}

// In the first view, what was not signed yet binds nobody.
func TestBeginBindsNobody(t *testing.T) {
	a, b := first(0, 1), first(0, 2)
	c := child(a, 0, 3)
	p := paged(a, b, c)
	x := planted(t, p)
	for _, b := range []api.Block{a, b, c} {
		if !guard.MayVote(guard.Begin(), x, b) {
			t.Errorf("P17.1: MayVote, at the beginning, of a block of Height %d = false", b.Height)
		}
		if !guard.MayCommit(guard.Begin(), x, markOf(b)) {
			t.Errorf("P17.1: MayCommit, at the beginning, of a block of Height %d = false", b.Height)
		}
	}
	if guard.MayCommit(guard.Begin(), x, api.Mark{Block: zeros}) {
		t.Error("P17.1: MayCommit, at the beginning, of the first block = true")
	}
}
