package replica_test

import (
	"testing"

	"moot/api"
	"moot/block"
	"moot/cert"
	"moot/guard"
	"moot/held"
)

// with is a block as change leaves it, signed by its view's leader.
func (l lab) with(b api.Block, change func(b *api.Block)) api.Block {
	l.t.Helper()
	change(&b)
	b, _, err := block.Sign(at(keys[b.View%len(l.c.Roots)], 6), b)
	if err != api.OK {
		l.t.Fatalf("P10.1: Sign = %d", err)
	}
	return b
}

func TestHearOfABlock(t *testing.T) {
	l := labOf(t, 4, 3)
	r := l.new(1)
	b := l.first(0, 5)
	l.hear("a block of its view", r, ofBlock(b), 1, ofBlock(b), l.its(1, 0, about(voted, markOf(b), 1)))
	s := guard.State{Voted: markOf(b), Lock: api.Mark{Block: zeros}}
	stands(t, "a block of its view", r, false, s, 1, held.Held{})
	l.hear("a block that came already", r, ofBlock(b), 1)
	other := b
	other.Sig = l.proposed(0, 3, 0, cert.First(), b.Txs...).Sig
	l.hear("a block that came already, with another Sig", r, ofBlock(other), 1)
	l.hear("a block that it has, asked for", r, ofAsked(nameOf(b)), 1, ofBlock(b))
	for _, name := range []string{zeros, stranger} {
		l.hear("a block that it has not, asked for", r, ofAsked(name), 1)
	}
	stands(t, "blocks that came already", r, false, s, 1, held.Held{})
}

// isNothing says if nothing is said of a block, and nothing known of it.
func (l lab) isNothing(what string, b api.Block) {
	l.t.Helper()
	r := l.new(1)
	l.hear(what, r, ofBlock(b), 1)
	l.hear(what+", asked for", r, ofAsked(nameOf(b)), 1)
	stands(l.t, what, r, false, atFirst(), 0, held.Held{})
}

func TestHearOfABlockThatIsNotValid(t *testing.T) {
	l := labOf(t, 4, 3)
	good := l.first(0, 5)
	later := l.child(good, 0, l.pay(1, 5, 0))
	byOther, wrongTx, fewer := good, l.pay(0, 5, 0), later
	byOther.Sig = l.proposed(1, 3, 0, cert.First(), good.Txs...).Sig
	wrongTx.Amount = 6
	fewer.Justify.Votes = fewer.Justify.Votes[:2]
	l.isNothing("a block of another one than the leader", byOther)
	l.isNothing("a block of a forged transaction", l.proposed(0, 3, 0, cert.First(), wrongTx))
	l.isNothing("a block whose Justify is not right", fewer)
	forged := good
	forged.Sig = "forged"
	l.isNothing("a block with another Sig", forged)
}

func TestHearOfABlockOfAnotherView(t *testing.T) {
	l := labOf(t, 4, 3)
	r := l.new(2)
	above := l.first(1, 5)
	l.hear("a block of a view above", r, ofBlock(above), 1)
	stands(t, "a block of a view above", r, false, atFirst(), 0, held.Held{})
	l.hear("a block of a view above, asked for", r, ofAsked(nameOf(above)), 1, ofBlock(above))
	// It votes for it as soon as it is there, where two more come which blame.
	l.hear("a blame", r, ofVote(l.blame(0, 0)), 2)
	all := []api.Vote{l.blame(0, 0), l.blame(0, 1), l.blame(0, 3)}
	l.hear("as many blames as a quorum", r, ofBlames(all...), 2, ofBlames(all...), ofCert(cert.First()), ofBlock(above), l.its(2, 0, about(voted, markOf(above), 2)))
	below := l.first(0, 5)
	l.hear("a block of a view below", r, ofBlock(below), 3)
	s := guard.State{View: 1, Voted: markOf(above), Lock: api.Mark{Block: zeros}}
	stands(t, "a block of a view below", r, false, s, 1, held.Held{})
}

// Where the parent is not known it is asked for, and no block behind it is voted before it comes.
func TestHearOfABlockWithoutItsParent(t *testing.T) {
	l := labOf(t, 4, 3)
	row := l.row(0, 4)
	marks := []api.Mark{markOf(row[0]), markOf(row[1]), markOf(row[2]), markOf(row[3])}
	r := l.new(3)
	l.hear("the third block", r, ofBlock(row[2]), 1, ofCert(row[2].Justify), ofAsked(marks[1].Block))
	l.hear("the fourth block", r, ofBlock(row[3]), 1, ofCert(row[3].Justify), ofAsked(marks[1].Block))
	l.hear("the third block again", r, ofBlock(row[2]), 1)
	l.hear("the second block", r, ofBlock(row[1]), 2, ofAsked(marks[0].Block))
	stands(t, "blocks without the first one", r, false, guard.State{Lock: marks[2]}, 0, held.Held{})
	// The highest cert, of the third one, came ahead: that one is commit-voted now, and the fourth one voted.
	l.hear("the first block", r, ofBlock(row[0]), 3, l.its(3, 0, about(committed, marks[2], 3)), ofBlock(row[3]), l.its(3, 1, about(voted, marks[3], 3)))
	s := guard.State{Voted: marks[3], Commit: marks[2], Lock: marks[2]}
	stands(t, "all four blocks", r, false, s, 2, held.Held{Mark: marks[2], Since: 3}, row[:3]...)
}

// They are voted one behind the other, as they came.
func TestVotesAsTheyCame(t *testing.T) {
	l := labOf(t, 4, 3)
	row := l.row(1, 2)
	first, second := row[0], row[1]
	ahead := l.cert(markOf(first))
	r := l.new(3)
	l.hear("the first block of a view above", r, ofBlock(first), 1)
	// Justify of the second one is a cert of the view above: it enters that, and both are voted no more but the second.
	l.hear("the second block of a view above", r, ofBlock(second), 1, ofCert(ahead), l.its(3, 0, about(committed, markOf(first), 3)), ofBlock(second), l.its(3, 1, about(voted, markOf(second), 3)))
	s := guard.State{View: 1, Voted: markOf(second), Commit: markOf(first), Lock: markOf(first)}
	stands(t, "two blocks", r, false, s, 2, held.Held{Mark: markOf(first), Since: 1}, first)
}

// What can't be done is not voted: but one without funds can.
func TestHearOfABlockWhoseTransactionsCantBeDone(t *testing.T) {
	l := labOf(t, 4, 3)
	for what, txs := range map[string][]api.Tx{
		"a Nonce that is not next":    {l.pay(0, 5, 1)},
		"a Nonce twice":               {l.pay(0, 5, 0), l.pay(0, 6, 0)},
		"a Nonce that comes too soon": {l.pay(0, 5, 0), l.pay(1, 5, 1)},
	} {
		r := l.new(2)
		b := l.behind(cert.First(), 0, 1, txs...)
		l.hear("a block of "+what, r, ofBlock(b), 1)
		l.hear("a block that it has, asked for", r, ofAsked(nameOf(b)), 1, ofBlock(b))
		stands(t, what, r, false, atFirst(), 0, held.Held{})
	}
	for what, txs := range map[string][]api.Tx{
		"nothing":                      nil,
		"what there are no funds for":  {l.pay(0, 1000, 0)},
		"two of one client's":          {l.pay(0, 5, 0), l.pay(0, 6, 1)},
		"four of two clients'":         {l.pay(0, 5, 0), l.pay(1, 5, 0), l.pay(0, 6, 1), l.pay(1, 6, 1)},
		"all that the other one moved": {l.pay(0, 250, 0), l.pay(1, 500, 0)},
	} {
		r := l.new(2)
		b := l.behind(cert.First(), 0, 1, txs...)
		l.hear("a block of "+what, r, ofBlock(b), 1, ofBlock(b), l.its(2, 0, about(voted, markOf(b), 2)))
	}
}

// The accounts are those behind the parent's chain.
func TestAccountsOfTheParent(t *testing.T) {
	l := labOf(t, 4, 3)
	one := l.behind(cert.First(), 0, 1, l.pay(0, 5, 0))
	for _, x := range []struct {
		nonce int
		may   bool
	}{{0, false}, {1, true}, {2, false}} {
		r := l.new(2)
		l.hear("the parent", r, ofBlock(one), 1, ofBlock(one), l.its(2, 0, about(voted, markOf(one), 2)))
		two := l.child(one, 0, l.pay(0, 6, x.nonce))
		want := []api.Message{ofCert(two.Justify), l.its(2, 1, about(committed, markOf(one), 2))}
		if x.may {
			want = append(want, ofBlock(two), l.its(2, 2, about(voted, markOf(two), 2)))
		}
		l.hear("a child", r, ofBlock(two), 1, want...)
	}
}

// A block below the lock, or beside what was voted, is not voted.
func TestHearOfABlockThatMayNotBeVoted(t *testing.T) {
	l := labOf(t, 4, 3)
	a := l.first(0, 5)
	r := l.new(1)
	l.hear("a cert", r, ofCert(l.cert(markOf(a))), 1, ofCert(l.cert(markOf(a))))
	l.hear("the block that is certified", r, ofBlock(a), 1, l.its(1, 0, about(committed, markOf(a), 1)))
	all := []api.Vote{l.blame(0, 0), l.blame(0, 2), l.blame(0, 3)}
	l.hear("blames", r, ofBlames(all...), 2, ofBlames(all...), ofCert(l.cert(markOf(a))))
	below, above := l.first(1, 6), l.child(a, 1, l.pay(1, 5, 0))
	l.hear("a block below the lock", r, ofBlock(below), 2)
	s := guard.State{View: 1, Commit: markOf(a), Lock: markOf(a)}
	stands(t, "a block below the lock", r, false, s, 1, held.Held{}, a)
	// Two first ones of the view: it is spoilt, whatever may be voted.
	l.hear("a block behind the lock, beside another one", r, ofBlock(above), 2, ofBlock(below), ofBlock(above), l.its(1, 1, api.Vote{Kind: blamed, View: 1}))
	s.Spoilt = true
	stands(t, "two first ones", r, false, s, 2, held.Held{}, a)
}

// spoils says if two blocks of view v, one of which came ahead, spoil it.
func (l lab) spoils(what string, one, other api.Block, ahead ...api.Message) {
	l.t.Helper()
	r := l.new(3)
	for _, m := range ahead {
		r.Hear(l.octets(m), 1)
	}
	r.Hear(l.octets(ofBlock(one)), 1)
	if r.State().Spoilt {
		l.t.Errorf("P20.1: %s: spoilt by one", what)
	}
	next := r.Next()
	got := r.Hear(l.octets(ofBlock(other)), 2)
	if len(got) < 3 {
		l.t.Errorf("P20.1: %s: it says [%s]", what, kindsOf(got))
		return
	}
	l.says(what, got[:3], ofBlock(one), ofBlock(other), l.its(3, next, api.Vote{Kind: blamed, View: other.View}))
	if !r.State().Spoilt || r.Holds() != (held.Held{}) || r.Next() != next+1 {
		l.t.Errorf("P20.1: %s: State %+v, Holds %+v, Next %d", what, r.State(), r.Holds(), r.Next())
	}
	// Said and blamed once: a third one changes nothing.
	third := l.with(other, func(b *api.Block) { b.Txs = []api.Tx{l.pay(3, 77, 0)} })
	if got := kindsOf(r.Hear(l.octets(ofBlock(third)), 3)); got != "" && got != "asked" {
		l.t.Errorf("P20.1: %s, and a third one: it says [%s]", what, got)
	}
}

func TestSpoiltViews(t *testing.T) {
	l := labOf(t, 4, 3)
	a := l.first(0, 5)
	b := l.with(a, func(b *api.Block) { b.Txs = nil })
	l.spoils("two of one view and Height", a, b)
	l.spoils("two of one view and Height", b, a)
	a2 := l.child(a, 0, l.pay(1, 5, 0))
	l.spoils("two of one view and Height 2, behind one", a2, l.with(a2, func(b *api.Block) { b.Txs = nil }), ofBlock(a))
	b2 := l.child(b, 0, l.pay(1, 5, 0))
	l.spoils("two of one view and Height 2, behind unlike ones that are not there", a2, b2)
	// Two first ones of a view above, of unlike Heights.
	in1 := ofBlames(l.blame(0, 0), l.blame(0, 1), l.blame(0, 2))
	l.spoils("two first ones of a view", l.first(1, 5), l.child(a, 1, l.pay(1, 5, 0)), in1)
	l.spoils("two first ones of a view", l.child(a, 1, l.pay(1, 5, 0)), l.first(1, 5), in1)
	l.spoils("two first ones of a view, of Heights 1 and 3", l.first(1, 5), l.child(a2, 1, l.pay(2, 5, 0)), in1)
}

func TestViewsThatAreNotSpoilt(t *testing.T) {
	l := labOf(t, 4, 3)
	a := l.first(0, 5)
	a2 := l.child(a, 0, l.pay(1, 5, 0))
	f := l.first(1, 5)
	f2 := l.child(f, 1, l.pay(1, 5, 0))
	for what, pair := range map[string][2]api.Block{
		"one behind the other, of one view":          {a, a2},
		"one behind the other, the later one first":  {a2, a},
		"a first one and one behind it":              {f, f2},
		"one of a view, ahead of its first one":      {f2, f},
		"two of one Height, of unlike views":         {a, f},
		"one of view 1, and one of view 0":           {f, a},
		"one of view 0 and Height 2, a first one, 1": {a2, f},
	} {
		r := l.new(3)
		for _, b := range pair {
			r.Hear(l.octets(ofBlock(b)), 1)
		}
		if r.State().Spoilt {
			t.Errorf("P20.1: %s: the view is spoilt", what)
		}
		for _, text := range r.Signed() {
			if text == textOf(api.Vote{Kind: blamed, View: r.State().View, Signer: 3}) {
				t.Errorf("P20.1: %s: it blames", what)
			}
		}
	}
}

// Two of a view above say nothing now; who enters that view finds it spoilt.
func TestSpoiltAheadOfTime(t *testing.T) {
	l := labOf(t, 4, 3)
	a, b := l.first(1, 5), l.first(1, 6)
	r := l.new(3)
	l.hear("a block of a view above", r, ofBlock(a), 1)
	l.hear("another one of it", r, ofBlock(b), 1)
	stands(t, "two of a view above", r, false, atFirst(), 0, held.Held{})
	all := []api.Vote{l.blame(0, 0), l.blame(0, 1), l.blame(0, 2)}
	l.hear("blames", r, ofBlames(all...), 2, ofBlames(all...), ofCert(cert.First()), ofBlock(a), ofBlock(b), l.its(3, 0, api.Vote{Kind: blamed, View: 1}))
	stands(t, "a spoilt view", r, false, guard.State{View: 1, Spoilt: true, Lock: api.Mark{Block: zeros}}, 1, held.Held{})
	// And two of a view below spoil nothing.
	l.hear("a block of a view below", r, ofBlock(l.first(0, 5)), 3)
	l.hear("another one of it", r, ofBlock(l.first(0, 6)), 3)
	// The next view is not spoilt.
	all = []api.Vote{l.blame(1, 0), l.blame(1, 1), l.blame(1, 2)}
	l.hear("blames of the spoilt view", r, ofBlames(all[:2]...), 3, ofBlames(all[0], all[1], l.state(0, api.Vote{Kind: blamed, View: 1, Signer: 3})), ofCert(cert.First()))
	stands(t, "the view behind a spoilt one", r, false, guard.State{View: 2, Lock: api.Mark{Block: zeros}}, 1, held.Held{})
}

// Who holds a block holds it no more when the view is spoilt.
func TestSpoiltWhereABlockIsHeld(t *testing.T) {
	l := labOf(t, 4, 3)
	a, other := l.first(0, 5), l.first(0, 6)
	r := l.new(3)
	r.Hear(l.octets(ofBlock(a)), 1)
	l.hear("a cert", r, ofCert(l.cert(markOf(a))), 1, ofCert(l.cert(markOf(a))), l.its(3, 1, about(committed, markOf(a), 3)))
	s := guard.State{Voted: markOf(a), Commit: markOf(a), Lock: markOf(a)}
	stands(t, "a commit-vote", r, false, s, 2, held.Held{Mark: markOf(a), Since: 1}, a)
	l.hear("another block", r, ofBlock(other), 2, ofBlock(a), ofBlock(other), l.its(3, 2, api.Vote{Kind: blamed, View: 0}))
	s.Spoilt = true
	stands(t, "a spoilt view", r, false, s, 3, held.Held{}, a)
	l.tick("when nothing is held any more", r, 50)
	// What was blamed is not blamed again, late or not.
	r.Hear(l.octets(ofTx(l.pay(3, 5, 0))), 50)
	l.tick("late, in a view that was blamed", r, 99)
}
