package replica_test

import (
	"testing"

	"moot/api"
	"moot/cert"
	"moot/guard"
	"moot/held"
	"moot/replica"
)

// proposes says if a replica signs a block, and votes for it, behind these messages.
func (l lab) proposes(what string, got [][]byte, id, leaf, view int, justify api.Cert, txs []api.Tx, ahead ...api.Message) api.Block {
	l.t.Helper()
	b := l.proposed(id, leaf, view, justify, txs...)
	l.says(what, got, append(ahead, ofBlock(b), l.its(id, leaf+1, about(voted, markOf(b), id)))...)
	return b
}

func TestLeader(t *testing.T) {
	l := labOf(t, 4, 3)
	x := l.pay(1, 5, 0)
	for id := range 4 {
		r := l.new(id)
		l.tick("where nothing waits", r, 1)
		l.hear("a transaction", r, ofTx(x), 1)
		if id > 0 {
			l.tick("of one that does not lead", r, 2)
			continue
		}
		b := l.proposes("Tick of the leader", r.Tick(2), 0, 0, 0, cert.First(), []api.Tx{x})
		stands(t, "a leader", r, false, guard.State{Voted: markOf(b), Lock: api.Mark{Block: zeros}}, 2, held.Held{})
		signs(t, "a leader", r, nameOf(b), textOf(about(voted, markOf(b), 0)))
		l.hear("another transaction", r, ofTx(l.pay(2, 5, 0)), 2)
		l.tick("of a leader that voted", r, 3)
		l.hear("its own block", r, ofBlock(b), 3)
		l.hear("its own block, asked for", r, ofAsked(nameOf(b)), 3, ofBlock(b))
	}
}

// leading is a replica that leads view id, and entered it by blames at tick 1.
func (l lab) leading(id int) *replica.Replica {
	l.t.Helper()
	r := l.new(id)
	var all []api.Vote
	for i := range l.c.Quorum {
		all = append(all, l.blame(id-1, i))
	}
	l.hear("blames", r, ofBlames(all...), 1, ofBlames(all...), ofCert(cert.First()))
	return r
}

func TestLeaderOfALaterView(t *testing.T) {
	l := labOf(t, 4, 3)
	x := l.pay(1, 5, 0)
	r := l.leading(2)
	l.hear("a transaction", r, ofTx(x), 1)
	b := l.proposes("Tick of the leader", r.Tick(2), 2, 0, 2, cert.First(), []api.Tx{x})
	// Behind its own block, when it is certified: what waits, at once.
	l.hear("another transaction", r, ofTx(l.pay(0, 6, 0)), 2)
	c := l.cert(markOf(b))
	got := r.Hear(l.octets(ofCert(c)), 3)
	l.proposes("a cert that is new", got, 2, 3, 2, c, []api.Tx{l.pay(0, 6, 0)}, ofCert(c), l.its(2, 2, about(committed, markOf(b), 2)))
	if chain := r.Chain(); len(chain) != 1 || !same(chain[0], b) {
		t.Errorf("P20.1: Chain of a leader: %d blocks", len(chain))
	}
	// Whoever's view it was entered by, other leaders' blocks are voted no more.
	l.hear("a block of a view below", r, ofBlock(l.first(0, 5)), 3)
}

// A cert of a view above is entered, and is one that is new: the leader of that view proposes at once.
func TestLeaderByACert(t *testing.T) {
	l := labOf(t, 4, 3)
	x := l.pay(1, 6, 0)
	a := l.first(1, 5)
	r := l.new(1)
	l.hear("a transaction", r, ofTx(x), 1)
	l.hear("a block of its own", r, ofBlock(a), 1)
	c := l.cert(markOf(a))
	got := r.Hear(l.octets(ofCert(c)), 2)
	l.proposes("a cert of a view above", got, 1, 1, 1, c, []api.Tx{x}, ofCert(c), l.its(1, 0, about(committed, markOf(a), 1)))
}

// What is taken is what comes next behind the highest cert, at most four.
func TestWhatIsProposed(t *testing.T) {
	l := labOf(t, 4, 3)
	a := l.behind(cert.First(), 1, 7, l.pay(0, 5, 0), l.pay(1, 5, 0))
	r := l.leading(2)
	for _, x := range []api.Tx{l.pay(0, 5, 0), l.pay(1, 7, 1), l.pay(0, 7, 2), l.pay(0, 7, 1), l.pay(2, 7, 1)} {
		l.hear("a transaction", r, ofTx(x), 1)
	}
	c := l.cert(markOf(a))
	l.hear("a cert of a block that is not known", r, ofCert(c), 2, ofCert(c))
	l.tick("where the chain is not known", r, 2)
	l.hear("the block", r, ofBlock(a), 2)
	// Behind the block, of which it learnt no cert that is new: at the next tick. One that is not next is left.
	l.proposes("Tick of the leader", r.Tick(3), 2, 0, 2, c, []api.Tx{l.pay(1, 7, 1), l.pay(0, 7, 1), l.pay(0, 7, 2)})
	r = l.leading(2)
	l.hear("a transaction that is not next", r, ofTx(l.pay(2, 7, 1)), 1)
	l.tick("where what waits is not next", r, 2)
	for _, x := range []api.Tx{l.pay(2, 7, 0), l.pay(3, 7, 0), l.pay(2, 7, 2), l.pay(2, 7, 3)} {
		l.hear("a transaction", r, ofTx(x), 2)
	}
	l.proposes("Tick of the leader", r.Tick(3), 2, 0, 2, cert.First(), []api.Tx{l.pay(2, 7, 0), l.pay(2, 7, 1), l.pay(3, 7, 0), l.pay(2, 7, 2)})
}

// A leader that voted something of its view waits for the cert of that; one of a block below that is none.
func TestLeaderThatVoted(t *testing.T) {
	l := labOf(t, 4, 3)
	r := l.leading(2)
	row := []api.Block{l.behind(cert.First(), 2, 9, l.pay(0, 5, 0))}
	row = append(row, l.behind(l.cert(markOf(row[0])), 2, 9, l.pay(1, 5, 0)))
	// Blocks of its own that it signed ahead of a crash, and hears from others.
	l.hear("its first block", r, ofBlock(row[0]), 1, ofBlock(row[0]), l.its(2, 0, about(voted, markOf(row[0]), 2)))
	c := l.cert(markOf(row[0]))
	l.hear("its second block", r, ofBlock(row[1]), 1, ofCert(c), l.its(2, 1, about(committed, markOf(row[0]), 2)), ofBlock(row[1]), l.its(2, 2, about(voted, markOf(row[1]), 2)))
	l.hear("a transaction", r, ofTx(l.pay(3, 5, 0)), 2)
	l.tick("of a leader whose highest cert is below what it voted", r, 2)
	top := l.cert(markOf(row[1]))
	got := r.Hear(l.octets(ofCert(top)), 2)
	l.proposes("the cert of what it voted", got, 2, 4, 2, top, []api.Tx{l.pay(3, 5, 0)}, ofCert(top), l.its(2, 3, about(committed, markOf(row[1]), 2)))
}

// In a view that is spoilt, and in one of which it signed a block that may not be voted, a leader proposes no more.
func TestLeaderOfASpoiltView(t *testing.T) {
	l := labOf(t, 4, 3)
	r := l.leading(2)
	a, b := l.first(2, 5), l.first(2, 6)
	l.hear("a transaction", r, ofTx(l.pay(3, 5, 0)), 1)
	r.Hear(l.octets(ofBlock(a)), 1)
	r.Hear(l.octets(ofBlock(b)), 1)
	if !r.State().Spoilt {
		t.Fatal("P20.1: two first ones of a view: it is not spoilt")
	}
	l.tick("of the leader of a spoilt view", r, 2)
	r.Hear(l.octets(ofCert(l.cert(markOf(a)))), 2)
	l.tick("of the leader of a spoilt view, behind a cert", r, 2)
	r = l.leading(2)
	l.hear("a transaction", r, ofTx(l.pay(3, 5, 0)), 1)
	l.hear("a block of its own that can't be done", r, ofBlock(l.behind(cert.First(), 2, 7, l.pay(0, 5, 1))), 1)
	l.tick("of a leader that signed what may not be voted", r, 2)
	stands(t, "a leader that signed what may not be voted", r, false, entered(2), 0, held.Held{})
}

// A cert of the first block, or of another mark than its block's, lets a leader sign one block, and no second one of that view.
func TestLeaderBehindACertOfAWrongMark(t *testing.T) {
	l := labOf(t, 4, 3)
	r := l.new(2)
	x, y := l.pay(3, 5, 0), l.pay(1, 5, 0)
	l.hear("a transaction", r, ofTx(x), 1)
	c := l.cert(api.Mark{View: 6, Height: 0, Block: zeros})
	b := l.proposed(2, 0, 6, c, x)
	l.hear("a cert of the first block, of a view above", r, ofCert(c), 1, ofCert(c), ofBlock(b))
	l.hear("another transaction", r, ofTx(y), 1)
	l.tick("of a leader that proposed", r, 2)
	signs(t, "a leader that proposed", r, nameOf(b))
}

// Whose root is not its key's signs no block: nobody would take it, not even itself.
func TestLeaderOfAnotherRoot(t *testing.T) {
	l := labOf(t, 4, 3)
	l.c.Roots[0] = l.c.Roots[1]
	r := l.new(0)
	for _, x := range []api.Tx{l.pay(3, 5, 0), l.pay(1, 5, 0)} {
		l.hear("a transaction", r, ofTx(x), 1)
		l.tick("of a leader whose root is another one's", r, 2)
	}
	signs(t, "a leader whose root is another one's", r)
}

// A leader that is late blames itself; in a view of its own it goes on.
func TestLeaderThatIsLate(t *testing.T) {
	l := labOf(t, 2, 1)
	r := l.new(0)
	x := l.pay(3, 5, 0)
	l.hear("a transaction", r, ofTx(x), 9)
	own := l.its(0, 0, api.Vote{Kind: blamed, View: 0})
	// One blame is a quorum: the next view is the other one's.
	l.tick("of a leader that is late", r, 9, own, ofBlames(own.Vote), ofCert(cert.First()))
	for tick := 9; tick < 9+isDue(1); tick++ {
		l.tick("of one that leads no more", r, tick)
	}
	second := l.its(0, 1, api.Vote{Kind: blamed, View: 1})
	got := r.Tick(9 + isDue(1))
	if len(got) < 3 {
		t.Fatalf("P20.1: Tick of one that is late = [%s]", kindsOf(got))
	}
	l.says("Tick of one that is late, and leads then", got[:3], second, ofBlames(second.Vote), ofCert(cert.First()))
	b := l.proposed(0, 2, 2, cert.First(), x)
	l.says("Tick of one that is late, and leads then", got[3:4], ofBlock(b))
	if kindsOf(got) != "blame blames cert block vote cert commit-vote" {
		t.Errorf("P20.1: Tick of one that is late, and leads then = [%s]", kindsOf(got))
	}
}

// Some blocks one behind the other, of one of one.
func TestSomeBlocks(t *testing.T) {
	l := labOf(t, 1, 1)
	r := l.new(0)
	var chain []api.Block
	justify, leaf := cert.First(), 0
	for i := range 4 {
		x := l.pay(i%4, 10+i, 0)
		l.hear("a transaction", r, ofTx(x), 10*i)
		b := l.proposed(0, leaf, 0, justify, x)
		yes := l.state(leaf+1, about(voted, markOf(b), 0))
		justify = api.Cert{View: 0, Height: i + 1, Block: nameOf(b), Votes: []api.Vote{yes}}
		got := r.Tick(1 + i)
		l.says("Tick", got, ofBlock(b), ofVote(yes), ofCert(justify), l.its(0, leaf+2, about(committed, markOf(b), 0)))
		chain, leaf = append(chain, b), leaf+3
		stands(t, "some blocks", r, false, guard.State{Voted: markOf(b), Commit: markOf(b), Lock: markOf(b)}, leaf, held.Held{Mark: markOf(b), Since: 1 + i}, chain...)
	}
}
