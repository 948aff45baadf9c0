package replica_test

import (
	"fmt"
	"math"
	"slices"
	"testing"

	"moot/api"
	"moot/block"
	"moot/cert"
	"moot/guard"
	"moot/held"
	"moot/replica"
)

// stands says if a replica is as these tell, however often it is asked.
func stands(t *testing.T, what string, r *replica.Replica, down bool, s guard.State, next int, h held.Held, chain ...api.Block) {
	t.Helper()
	for range 2 {
		if r.Down() != down {
			t.Errorf("P20.1: %s: Down = %v", what, !down)
		}
		if r.State() != s {
			t.Errorf("P20.1: %s: State = %+v, want %+v", what, r.State(), s)
		}
		if r.Next() != next {
			t.Errorf("P20.1: %s: Next = %d, want %d", what, r.Next(), next)
		}
		if r.Holds() != h {
			t.Errorf("P20.1: %s: Holds = %+v, want %+v", what, r.Holds(), h)
		}
		if got := r.Chain(); !slices.EqualFunc(got, chain, same) {
			t.Errorf("P20.1: %s: Chain = %d blocks, want these %d", what, len(got), len(chain))
		}
	}
}

// signs says if a replica signed these, in that order.
func signs(t *testing.T, what string, r *replica.Replica, want ...string) {
	t.Helper()
	for range 2 {
		if got := r.Signed(); !slices.Equal(got, want) {
			t.Errorf("P20.1: %s: Signed = %q, want %q", what, got, want)
		}
	}
}

// textOf is a statement's text.
func textOf(v api.Vote) string {
	return field("vote") + low(v.Kind, 6) + low(v.View, 6) + low(v.Height, 6) + field(v.Block) + low(v.Ticks, 6) + low(v.Signer, 6)
}

// same says if two blocks are, in all fields, nil and empty lists being one (P5).
func same(a, b api.Block) bool {
	if a.View != b.View || a.Height != b.Height || a.Parent != b.Parent || a.Sig != b.Sig || !slices.Equal(a.Txs, b.Txs) {
		return false
	}
	return a.Justify.View == b.Justify.View && a.Justify.Height == b.Justify.Height && a.Justify.Block == b.Justify.Block &&
		slices.Equal(a.Justify.Votes, b.Justify.Votes)
}

// atFirst is the state of a replica that signed and met nothing yet.
func atFirst() guard.State {
	return guard.State{Lock: api.Mark{Block: zeros}}
}

// proposed is the block that a replica signs with that leaf.
func (l lab) proposed(id, leaf, view int, justify api.Cert, txs ...api.Tx) api.Block {
	l.t.Helper()
	b, _, err := block.Sign(at(keys[id], leaf), api.Block{View: view, Height: justify.Height + 1, Parent: justify.Block, Justify: justify, Txs: txs})
	if err != api.OK {
		l.t.Fatalf("P10.1: Sign = %d", err)
	}
	return b
}

func TestExample(t *testing.T) {
	l := labOf(t, 1, 1)
	r := l.new(0)
	pay := l.pay(0, 5, 0)
	l.hear("a transaction", r, ofTx(pay), 0)
	b := l.proposed(0, 0, 0, cert.First(), pay)
	m := markOf(b)
	yes := l.state(1, about(voted, m, 0))
	enough := api.Cert{View: 0, Height: 1, Block: m.Block, Votes: []api.Vote{yes}}
	commit := l.state(2, about(committed, m, 0))
	l.tick("of one of one, with a transaction", r, 1, ofBlock(b), ofVote(yes), ofCert(enough), ofVote(commit))
	stands(t, "one of one", r, false, guard.State{Voted: m, Commit: m, Lock: m}, 3, held.Held{Mark: m, Since: 1}, b)
	signs(t, "one of one", r, m.Block, textOf(yes), textOf(commit))
	l.tick("of one of one, with nothing more", r, 2)
}

func TestNew(t *testing.T) {
	full := labOf(t, maxReplicas, 1).c
	for n := range maxReplicas + 3 {
		c := full
		c.Roots = make([]string, n)
		copy(c.Roots, full.Roots)
		for _, id := range []int{math.MinInt, -1, 0, 1, n - 2, n - 1, n, n + 1, maxReplicas, 1 << 32, math.MaxInt} {
			for _, quorum := range []int{math.MinInt, -1, 0, 1, n - 1, n, n + 1, maxReplicas, 1 << 32, 1 + 1<<32, math.MaxInt} {
				c.Quorum = quorum
				what := fmt.Sprintf("New of %d Roots, number %d, Quorum %d", n, id, quorum)
				isOne := n >= 1 && n <= maxReplicas && id >= 0 && id < n && quorum >= 1 && quorum <= n
				ends(t, what, func() {
					r, err := replica.New(c, id, room, 0)
					if isOne != (err == api.OK) || isOne != (r != nil) || !isOne && err != api.ErrCount {
						t.Errorf("P20.1: %s = %v, %d", what, r != nil, err)
					}
					if r != nil && err == api.OK {
						stands(t, what, r, false, atFirst(), 0, held.Held{})
						signs(t, what, r)
					}
				})
			}
		}
	}
	if r, err := replica.New(api.Config{}, 0, 9, 0); r != nil || err != api.ErrCount {
		t.Errorf("P20.1: New of nothing = %v, %d", r != nil, err)
	}
}

// A replica that is up at first is so whatever its room, its patience and the time.
func TestNewOfAllSizes(t *testing.T) {
	l := labOf(t, 4, 3)
	for _, n := range sizes {
		for _, other := range sizes {
			l.c.Base, l.c.Cap = n, other
			ends(t, "New", func() {
				r, err := replica.New(l.c, 2, other, n)
				if err != api.OK {
					t.Fatalf("P20.1: New of room %d, at %d, Base %d, Cap %d = %d", other, n, n, other, err)
				}
				stands(t, "a new one", r, false, atFirst(), 0, held.Held{})
				l.says("of nothing", r.Tick(other))
				stands(t, "a new one that was ticked", r, false, atFirst(), 0, held.Held{})
				if r.Up(n) != api.ErrState {
					t.Error("P20.1: Up of one that is not down")
				}
			})
		}
	}
}

// nobodys are replicas that nobody made.
func nobodys() []*replica.Replica {
	return []*replica.Replica{nil, {}, new(replica.Replica)}
}

func TestNobodyMadeIt(t *testing.T) {
	l := labOf(t, 1, 1)
	for _, r := range nobodys() {
		for _, m := range []api.Message{ofBlock(l.first(0, 1)), ofTx(l.pay(0, 5, 0)), ofVote(l.blame(0, 0)), ofAsked(zeros)} {
			l.hear("anything, of one that nobody made", r, m, 1)
			for _, keep := range []int{-1, 0, 1, 1 << 20} {
				ends(t, "Fail", func() { r.Fail(l.octets(m), 1, keep) })
			}
		}
		l.tick("of one that nobody made", r, 1000)
		ends(t, "the others", func() {
			for range 2 {
				if got := r.Up(0); got != api.ErrState {
					t.Errorf("P20.1: Up of one that nobody made = %d", got)
				}
			}
			stands(t, "one that nobody made", r, true, guard.State{}, 0, held.Held{})
			signs(t, "one that nobody made", r)
		})
	}
}

// Of octets that are no message's nothing is heard: not even that somebody is there.
func TestHearOfNoMessage(t *testing.T) {
	l := labOf(t, 4, 3)
	r := l.new(1)
	pay := l.octets(ofTx(l.pay(0, 5, 0)))
	for _, b := range [][]byte{nil, {}, {0}, []byte("no message's"), pay[1:], pay[:len(pay)-1], append(slices.Clone(pay), 0), make([]byte, 1<<14), make([]byte, 1<<15)} {
		ends(t, "Hear", func() { l.says("octets that are no message's", r.Hear(b, 3)) })
		stands(t, "octets that are no message's", r, false, atFirst(), 0, held.Held{})
	}
	l.tick("when nothing was heard", r, 1000)
}

func TestHearOfTransactions(t *testing.T) {
	l := labOf(t, 1, 1)
	forged := l.pay(1, 5, 0)
	forged.Amount = 6
	other := l.pay(1, 5, 0)
	other.Sig = other.Sig[1:]
	r := l.new(0)
	for _, x := range []api.Tx{forged, other} {
		l.hear("a transaction that is not valid", r, ofTx(x), 0)
	}
	l.tick("when what came was not valid", r, 1)
	pays := []api.Tx{l.pay(2, 5, 1), l.pay(2, 6, 0), l.pay(3, 7, 0), l.pay(2, 8, 0), l.pay(3, 7, 0), l.pay(0, 1, 3)}
	for _, x := range pays {
		l.hear("a transaction", r, ofTx(x), 0)
	}
	// The second one of client 2's first Nonce, and one that is not next, are not taken.
	b := l.proposed(0, 0, 0, cert.First(), pays[1], pays[0], pays[2])
	got := r.Tick(1)
	if len(got) != 4 {
		t.Fatalf("P20.1: Tick with transactions = [%s]", kindsOf(got))
	}
	l.says("the block of what waits", got[:1], ofBlock(b))
	stands(t, "transactions", r, false, r.State(), 3, r.Holds(), b)
}

// Of more than wait there is no more room, and of those that are done there is room again at the next tick.
func TestPool(t *testing.T) {
	l := labOf(t, 1, 1)
	r := l.new(0)
	var l0 []api.Tx
	for nonce := range 4 {
		for from := range 4 {
			l0 = append(l0, l.pay(from, 1, nonce))
		}
	}
	for _, x := range l0 {
		l.hear("a transaction", r, ofTx(x), 0)
	}
	l.hear("one more than wait", r, ofTx(l.pay(0, 9, 4)), 0)
	got := r.Tick(1)
	// Blocks of four, one behind the other, till the key's 16 leaves are used: a block, a vote, a commit-vote each.
	if want := "block vote cert commit-vote"; kindsOf(got) != want+" "+want+" "+want+" "+want {
		t.Errorf("P20.1: Tick with 16 transactions = [%s]", kindsOf(got))
	}
	chain := r.Chain()
	if len(chain) != 4 {
		t.Fatalf("P20.1: Chain behind 16 transactions: %d blocks", len(chain))
	}
	for i, b := range chain {
		if !slices.Equal(b.Txs, l0[4*i:4*i+4]) || b.Height != i+1 || b.View != 0 {
			t.Errorf("P20.1: block %d has not the transactions that come next", i+1)
		}
	}
	l.hear("a transaction where 16 wait that are done", r, ofTx(l.pay(0, 9, 4)), 1)
	l.tick("that drops what is done", r, 2)
	l.hear("a transaction where none waits any more", r, ofTx(l.pay(1, 9, 4)), 2)
	if got := kindsOf(r.Tick(3)); got != "report block vote cert commit-vote" {
		t.Errorf("P20.1: Tick with one more transaction = [%s]", got)
	}
}
