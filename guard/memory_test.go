package guard_test

import (
	"slices"
	"testing"

	"moot/api"
	"moot/guard"
)

// roomy is a block with room behind its lists, which has to stay as it is.
func roomy(b api.Block) api.Block {
	votes, txs := len(b.Justify.Votes), len(b.Txs)
	b.Justify.Votes = slices.Concat(b.Justify.Votes, []api.Vote{{Kind: 77}, {Kind: 78}})[:votes]
	b.Txs = slices.Concat(b.Txs, []api.Tx{{Amount: 77}, {Amount: 78}})[:txs]
	return b
}

// isRoomy says if a block, and what stands behind its lists, is as it was.
func isRoomy(t *testing.T, what string, got, want api.Block) {
	t.Helper()
	votes, txs := got.Justify.Votes, got.Txs
	if !same(got, want) || votes[:len(votes)+2][len(votes)+1].Kind != 78 || txs[:len(txs)+2][len(txs)].Amount != 77 {
		t.Errorf("P17.4: %s changed what was handed in", what)
	}
}

// overwrite changes a block's lists, and the room behind them.
func overwrite(b api.Block) {
	votes, txs := b.Justify.Votes[:cap(b.Justify.Votes)], b.Txs[:cap(b.Txs)]
	for i := range votes {
		votes[i] = api.Vote{Kind: -9, Sig: "overwritten"}
	}
	for i := range txs {
		txs[i] = api.Tx{Amount: -9, Sig: "overwritten"}
	}
}

// What is handed in is neither changed nor kept, whether a block may be voted for or not.
func TestBlocksOfMayVote(t *testing.T) {
	w := grown()
	p := w.page()
	x := planted(t, p)
	for _, b := range w.all() {
		for _, s := range []guard.State{begun(), {View: b.View}, {View: b.View, Spoilt: true}, {View: b.View, Voted: markOf(w.a3), Commit: markOf(w.a3), Lock: markOf(w.a3)}} {
			handed, had := roomy(b), s
			want := votes(t, "of one with room behind its lists", s, x, p, handed)
			isRoomy(t, "MayVote", handed, b)
			overwrite(handed)
			isPlanted(t, "a change of what was handed in", x, p)
			if guard.MayVote(s, x, b) != want || s != had {
				t.Error("P17.4: a change of what was handed in changes another answer")
			}
		}
	}
}

// Neither what is asked nor what is told changes the tree.
func TestTheTreeStays(t *testing.T) {
	w := grown()
	p := w.page()
	x := planted(t, p)
	for _, b := range w.all() {
		s := guard.State{View: b.View}
		for range 2 {
			votes(t, "asked again", s, x, p, b)
			commits(t, "asked again", s, x, p, markOf(b))
			isPlanted(t, "MayVote and MayCommit", x, p)
			s = guard.Commit(guard.Vote(s, markOf(b)), markOf(b))
		}
	}
}

// What comes into the tree later is seen then: an answer hangs on the tree as it is.
func TestTheTreeGrows(t *testing.T) {
	w := grown()
	p := w.page()
	x := planted(t, p)
	for _, b := range []api.Block{w.away, w.lost} {
		tells(t, "of one whose chain is not known yet", begun(), x, b, false)
		allows(t, "of one whose chain is not known yet", begun(), x, markOf(b), false)
	}
	if !x.Put(w.away) {
		t.Fatal("P14.1: Put of a block that is new and may be = false")
	}
	for _, b := range []api.Block{w.away, w.lost} {
		tells(t, "of one whose chain is known now", begun(), x, b, true)
		allows(t, "of one whose chain is known now", begun(), x, markOf(b), true)
	}
}

// A change of one state changes no other one: neither the one that it was made of, nor one that was told beside.
func TestStatesAreApart(t *testing.T) {
	s, m := held(), api.Mark{View: 9, Height: 9, Block: "next"}
	locked, _ := guard.Lock(s, m)
	entered, _ := guard.Enter(s, 9)
	same, _ := guard.Enter(s, 7)
	as, _ := guard.Lock(s, api.Mark{})
	voted, committed := guard.Vote(s, m), guard.Commit(s, m)
	for _, told := range []*guard.State{&locked, &entered, &same, &as, &voted, &committed} {
		*told = guard.State{View: -1, Voted: api.Mark{Block: "overwritten"}, Lock: api.Mark{View: 1 << 30}}
		told.Commit.Block = "overwritten"
	}
	if s != held() || m != (api.Mark{View: 9, Height: 9, Block: "next"}) {
		t.Error("P17.4: a change of what was told changes what was handed in")
	}
	if again, ok := guard.Lock(s, m); !ok || again.Lock != m || again.View != 7 {
		t.Error("P17.4: a change of what was told changes another answer")
	}
}
