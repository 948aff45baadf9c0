package learner_test

import (
	"math/rand"
	"slices"
	"testing"

	"moot/api"
	"moot/learner"
	"moot/message"
	"moot/replica"
)

// run is replicas of which the first so many hear one another, and all that they said.
type run struct {
	l    lab
	up   []*replica.Replica
	said [][]byte
	now  int
}

// runOf is a run of replicas of a lab, the first so many of which are up.
func (l lab) runOf(up int) *run {
	l.t.Helper()
	x := &run{l: l}
	for id := range up {
		r, err := replica.New(l.c, id, 1<<16, 0)
		if err != api.OK {
			l.t.Fatalf("P20.1: New of replica %d = %d", id, err)
		}
		x.up = append(x.up, r)
	}
	return x
}

// spread tells all replicas what was said, and what they say then, until nobody says anything.
func (x *run) spread(l [][]byte) {
	for len(l) > 0 {
		b := l[0]
		l = l[1:]
		x.said = append(x.said, b)
		for _, r := range x.up {
			l = append(l, r.Hear(b, x.now)...)
		}
	}
}

// tick ticks all replicas, so often, and spreads what they say.
func (x *run) tick(times int) {
	for range times {
		x.now++
		for _, r := range x.up {
			x.spread(r.Tick(x.now))
		}
	}
}

// pays lets a client's transaction be known to all.
func (x *run) pays(from, amount int) {
	x.l.t.Helper()
	x.spread([][]byte{x.l.octets(api.Message{Kind: aTx, Tx: x.l.pay(from, amount)})})
}

// chain is what the replicas have certified.
func (x *run) chain() []api.Block {
	return x.up[0].Chain()
}

// hears tells a learner all that was said.
func (x *run) hears(y *learner.Learner) *learner.Learner {
	for _, b := range x.said {
		y.Hear(b)
	}
	return y
}

// TestRunOfAll: what replicas certify and nobody disturbs comes into all learners' ledgers, by whatever rules.
func TestRunOfAll(t *testing.T) {
	l := labOf(t, 4, 3)
	x := l.runOf(4)
	x.pays(0, 1)
	x.tick(1)
	isLedger(t, "a rule of 3, at once", x.hears(l.new(byQuorum, 3)), api.OK, x.chain()...)
	isLedger(t, "a delay of 1, at once", x.hears(l.new(byDelay, 1)), api.OK)
	x.pays(1, 2)
	x.tick(10)
	chain := x.chain()
	if len(chain) != 2 {
		t.Fatalf("the replicas have certified %d blocks, want 2", len(chain))
	}
	// The second block is held in place of the first one, so nobody reports the first one's ticks any more; who stands on it stands.
	for rule, n := range map[api.Rule]int{{Kind: byQuorum, N: 3}: 2, {Kind: byQuorum, N: 4}: 2, {Kind: byDelay, N: 1}: 2, {Kind: byDelay, N: 2}: 2, {Kind: byDelay, N: 4}: 2, {Kind: byDelay, N: 5}: 0, {Kind: byDelay, N: 32}: 0} {
		isLedger(t, "a run of all", x.hears(l.new(rule.Kind, rule.N)), api.OK, chain[:n]...)
	}
}

// TestRunOfThree: of four replicas of which one never says anything, a learner of three commit-votes has a ledger, one of four waits for all.
func TestRunOfThree(t *testing.T) {
	l := labOf(t, 4, 3)
	x := l.runOf(3)
	x.pays(0, 1)
	x.tick(6)
	chain := x.chain()
	if len(chain) != 1 {
		t.Fatalf("the replicas have certified %d blocks, want 1", len(chain))
	}
	for rule, n := range map[api.Rule]int{{Kind: byQuorum, N: 3}: 1, {Kind: byQuorum, N: 4}: 0, {Kind: byDelay, N: 2}: 1, {Kind: byDelay, N: 3}: 0} {
		y := x.hears(l.new(rule.Kind, rule.N))
		isLedger(t, "a run of three", y, api.OK, chain[:n]...)
		if y.Blocks() != 1 || len(y.Statements()) != 3*4 {
			t.Errorf("P22.1: of a run of three it has %d blocks and %d statements, want 1 and 12", y.Blocks(), len(y.Statements()))
		}
	}
}

// TestRunInAnyOrder: P22.2: what was said in a run, heard in another order, and often, makes the same ledger.
func TestRunInAnyOrder(t *testing.T) {
	l := labOf(t, 4, 3)
	x := l.runOf(4)
	for from := range 3 {
		x.pays(from, 1+from)
		x.tick(2)
	}
	x.tick(8)
	chain := x.chain()
	if len(chain) < 2 {
		t.Fatalf("the replicas have certified %d blocks", len(chain))
	}
	for seed := range 5 {
		r := rand.New(rand.NewSource(int64(seed)))
		said := slices.Repeat(x.said, 2)
		r.Shuffle(len(said), func(i, j int) { said[i], said[j] = said[j], said[i] })
		for _, kind := range []int{byQuorum, byDelay} {
			y, p := l.new(kind, 3), l.pageOf(kind, 3)
			for _, b := range said {
				m, err := message.Read(b)
				l.hears("what replicas said", y, b, err == api.OK && p.take(m))
			}
			isLedger(t, "a run in another order", y, api.OK, chain...)
			// Some blocks may have come with other votes, of which the first stay.
			l.stands("a run in another order", y, p)
		}
	}
}
