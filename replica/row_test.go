package replica_test

import (
	"math/rand"
	"slices"
	"strings"
	"testing"

	"moot/api"
	"moot/cert"
	"moot/replica"
)

// drawing is one row of calls that are drawn: blocks, certs and names that were met in it.
type drawing struct {
	l      lab
	d      *rand.Rand
	k      *book
	r      *replica.Replica
	blocks []api.Block
	now    int
	counts map[string]int
}

// pick is one of l, mostly one of the last.
func pick[T any](d *rand.Rand, l []T) T {
	if d.Intn(3) > 0 && len(l) > 3 {
		l = l[len(l)-3:]
	}
	return l[d.Intn(len(l))]
}

// some are so many replicas, rising.
func (x *drawing) some(n int) []int {
	l := x.d.Perm(len(x.l.c.Roots))[:n]
	slices.Sort(l)
	return l
}

// justify is a cert of a block that was met, or the first one, or now and then one of another mark.
func (x *drawing) justify() api.Cert {
	if len(x.blocks) == 0 || x.d.Intn(12) == 0 {
		return cert.First()
	}
	m := markOf(pick(x.d, x.blocks))
	switch x.d.Intn(60) {
	case 0:
		m.View += x.d.Intn(3)
	case 1:
		m.Height += x.d.Intn(3)
	case 2:
		m.Block = stranger
	case 3:
		m.Block, m.Height = zeros, 0
	}
	return x.l.certBy(m, x.some(x.l.c.Quorum)...)
}

// pays are transactions that come next behind a block, or such as do not.
func (x *drawing) pays(parent string) []api.Tx {
	a, ok := x.k.accounts(parent)
	if !ok || x.d.Intn(8) == 0 {
		return []api.Tx{x.l.pay(x.d.Intn(4), 1+x.d.Intn(300), x.d.Intn(3))}
	}
	var l []api.Tx
	for from := range a {
		if x.d.Intn(3) == 0 {
			l = append(l, x.l.pay(from, 1+x.d.Intn(300), a[from].Nonce))
		}
	}
	return l
}

// block is a new one behind a cert, of its view, or of the replica's, or of one above.
func (x *drawing) block() api.Block {
	c := x.justify()
	view := max(c.View, []int{c.View, x.k.state.View, x.k.state.View, x.k.state.View + 1, x.k.state.View + 1 + x.d.Intn(2)}[x.d.Intn(5)])
	if view%len(x.l.c.Roots) == x.k.id && x.d.Intn(4) > 0 {
		view++
	}
	b := x.l.behind(c, view, x.d.Intn(leaves), x.pays(c.Block)...)
	x.blocks = append(x.blocks, b)
	return b
}

// message is a message that is drawn.
func (x *drawing) message() api.Message {
	view := x.k.state.View + x.d.Intn(4)/2 - x.d.Intn(5)/4
	switch n := x.d.Intn(20); {
	case n < 4:
		return ofBlock(x.block())
	case n < 6 && len(x.blocks) > 0:
		return ofBlock(pick(x.d, x.blocks))
	case n < 11 && len(x.blocks) > 0:
		v := about(voted, markOf(pick(x.d, x.blocks)), x.d.Intn(len(x.l.c.Roots)))
		if x.d.Intn(12) == 0 {
			v.Kind = committed
		}
		return ofVote(x.l.state(x.d.Intn(leaves), v))
	case n < 13:
		return ofCert(x.justify())
	case n < 15 && view >= 0:
		return ofVote(x.l.blame(view, x.d.Intn(len(x.l.c.Roots))))
	case n < 16 && view >= 0:
		var l []api.Vote
		for _, i := range x.some(1 + x.d.Intn(len(x.l.c.Roots))) {
			l = append(l, x.l.blame(view, i))
		}
		return ofBlames(l...)
	case n < 17 && len(x.blocks) > 0:
		return ofAsked(nameOf(pick(x.d, x.blocks)))
	}
	return ofTx(x.l.pay(x.d.Intn(4), 1+x.d.Intn(300), x.d.Intn(3)))
}

// spoilt is now and then a message that is not valid any more.
func (x *drawing) spoilt(m api.Message) api.Message {
	if x.d.Intn(12) > 0 {
		return m
	}
	break1 := func(sig string) string { return sig[1:] + sig[:1] }
	switch m.Kind {
	case aBlock:
		m.Block.Sig = break1(m.Block.Sig)
	case aVote:
		m.Vote.Sig = break1(m.Vote.Sig)
	case aCert:
		if len(m.Cert.Votes) > 0 {
			m.Cert.Votes = slices.Clone(m.Cert.Votes)
			m.Cert.Votes[0].Sig = break1(m.Cert.Votes[0].Sig)
		}
	case aTx:
		m.Tx.Sig = break1(m.Tx.Sig)
	}
	return m
}

// step does one call, and says if the replica and the book do alike.
func (x *drawing) step(what string) {
	m := x.spoilt(x.message())
	x.now += x.d.Intn(3) * x.d.Intn(2)
	switch n := x.d.Intn(24); {
	case n == 0 && !x.k.down:
		all := x.d.Intn(2) == 0
		x.r.Fail(x.l.octets(m), x.now, map[bool]int{true: 1 << 20}[all])
		x.k.fail(m, x.now, all)
		x.counts["crash"]++
	case n < 3 || x.k.down && n < 12:
		if got, want := x.r.Up(x.now), x.k.up(x.now); got != want {
			x.l.t.Errorf("P20.1: %s: Up = %d, want %d", what, got, want)
		}
	case n < 9:
		x.now += x.d.Intn(8) / 7 * x.d.Intn(20)
		x.alike(what+": Tick", x.r.Tick(x.now), x.k.tick(x.now))
	default:
		x.alike(what+": Hear", x.r.Hear(x.l.octets(m), x.now), x.k.hear(m, x.now))
	}
	stands(x.l.t, what, x.r, x.k.down, x.k.state, x.k.next, x.k.held, x.chain()...)
	signs(x.l.t, what, x.r, x.k.signed...)
	x.count()
}

// chain is the highest cert's.
func (x *drawing) chain() []api.Block {
	l, _ := x.k.wood().Chain(x.k.high.Block)
	return l
}

// alike says if the same was said, and takes the blocks among it for met.
func (x *drawing) alike(what string, got [][]byte, want []api.Message) {
	x.l.says(what, got, want...)
	for _, m := range want {
		isMet := func(b api.Block) bool { return m.Kind == aBlock && nameOf(b) == nameOf(m.Block) }
		if m.Kind == aBlock && !slices.ContainsFunc(x.blocks, isMet) {
			x.blocks = append(x.blocks, m.Block)
			x.counts["proposal"]++
		}
		if m.Kind == aBlock {
			x.counts["block"]++
		}
	}
	for _, name := range strings.Fields(kindsOf(got)) {
		x.counts[name]++
	}
}

// count counts what became of a step.
func (x *drawing) count() {
	for name, is := range map[string]bool{
		"spoilt": x.k.state.Spoilt, "a key used up": x.k.next == leaves, "held": x.k.held.Mark.Block != "", "a chain": len(x.chain()) > 2,
		"a later view": x.k.state.View > 4, "down": x.k.down, "what waits": len(x.k.pool) > 1,
	} {
		if is {
			x.counts[name]++
		}
	}
}

// TestRows: whatever is heard, in whatever order, a replica does as the chapter says.
func TestRows(t *testing.T) {
	t.Parallel()
	counts := make(chan map[string]int)
	const workers, rows, steps = 8, 32, 70
	for w := range workers {
		go func() {
			sum := map[string]int{}
			defer func() { counts <- sum }()
			d := rand.New(rand.NewSource(int64(2000 + w)))
			for range rows {
				replicas := 1 + d.Intn(5)
				l := labOf(t, replicas, 1+d.Intn(replicas))
				id := d.Intn(replicas)
				x := &drawing{l: l, d: d, k: l.bookOf(id), r: l.new(id), counts: sum}
				for range steps {
					if x.step("a row"); t.Failed() {
						return
					}
				}
			}
		}()
	}
	sum := map[string]int{}
	for range workers {
		for name, n := range <-counts {
			sum[name] += n
		}
	}
	t.Log(sum)
	for _, name := range []string{
		"block", "vote", "commit-vote", "report", "blame", "cert", "blames", "asked", "proposal", "crash",
		"spoilt", "a key used up", "held", "a chain", "a later view", "down", "what waits",
	} {
		if sum[name] < 100 && !t.Failed() {
			t.Errorf("the rows have %s %d times", name, sum[name])
		}
	}
}
