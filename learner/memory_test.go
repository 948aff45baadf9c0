package learner_test

import (
	"bytes"
	"fmt"
	"math/rand"
	"slices"
	"sync"
	"testing"

	"moot/api"
	"moot/learner"
)

// roomy are the same octets, with room behind them.
func roomy(b []byte) []byte {
	return append(append(make([]byte, 0, len(b)+40), b...), "the room behind them"...)[:len(b)]
}

// spoil writes over octets, and over the room behind them.
func spoil(b []byte) {
	b = b[:cap(b)]
	for i := range b {
		b[i] ^= 0x5a
	}
}

// fill writes over a list, and over the room behind it.
func fill[T any](l []T, x T) {
	l = l[:cap(l)]
	for i := range l {
		l[i] = x
	}
}

// spoilBlocks writes over blocks, their lists, and the room behind these.
func spoilBlocks(l []api.Block) {
	for _, b := range l[:cap(l)] {
		fill(b.Justify.Votes, api.Vote{Kind: 99})
		fill(b.Txs, api.Tx{From: 99})
	}
	fill(l, api.Block{View: 99})
}

// all is all that a learner tells; where spoils is set its answers are written over then.
func all(x *learner.Learner, names []string, spoils bool) string {
	tips, votes := x.Tips(), x.Statements()
	ledger, err := x.Ledger()
	called, other := x.Names()
	out := fmt.Sprintf("%+v %+v %+v %d %q %d %d\n", tips, votes, ledger, err, called, other, x.Blocks())
	chains := [][]api.Block{ledger}
	for _, name := range names {
		chain, ok := x.Chain(name)
		out += fmt.Sprintf("%x %v %+v\n", name, ok, chain)
		chains = append(chains, chain)
	}
	if spoils {
		fill(tips, api.Mark{View: 99})
		fill(votes, api.Vote{Kind: 99})
		fill(called, "spoilt")
		for _, l := range chains {
			spoilBlocks(l)
		}
	}
	return out
}

// history is all that a learner tells in the course of a drawing; where spoils is set all lists that went in, or came out, are written over.
func (l lab) history(d drawn, kind int, spoils bool) string {
	l.t.Helper()
	c := l.c
	c.Roots, c.Clients = append(make([]string, 0, 20), c.Roots...), append(make([]string, 0, 20), c.Clients...)
	x, err := learner.New(c, api.Rule{Kind: kind, N: 2})
	out := fmt.Sprintln(err)
	if spoils {
		fill(c.Roots, "spoilt")
		fill(c.Clients, "spoilt")
	}
	names := namesIn(d.valid)
	for i, m := range d.valid {
		b := roomy(l.octets(m))
		out += fmt.Sprintln(x.Hear(b))
		if spoils {
			spoil(b)
		}
		if i%5 == 0 {
			out += all(x, names, spoils)
		}
	}
	return out + all(x, names, spoils) + all(x, names, spoils)
}

// TestMemory: P22.4, P2: what goes in is not kept, and what comes out shares nothing with what is kept.
func TestMemory(t *testing.T) {
	for seed := range 25 {
		l := labOf(t, 3, 2)
		d := l.draw(rand.New(rand.NewSource(int64(2500 + seed))))
		for _, kind := range []int{byQuorum, byDelay} {
			if l.history(d, kind, false) != l.history(d, kind, true) {
				t.Errorf("P22.4: drawing %d: what was handed in, or answered, and written over then, changes what is answered later", seed)
			}
		}
	}
}

// TestAnswersShareNothing: P22.4, P2: an answer's list, changed, changes no other answer that was given ahead.
func TestAnswersShareNothing(t *testing.T) {
	l := labOf(t, 3, 2)
	d := l.draw(rand.New(rand.NewSource(2600)))
	names := namesIn(d.valid)
	for _, kind := range []int{byQuorum, byDelay} {
		x := l.new(kind, 2)
		for _, m := range d.valid {
			x.Hear(l.octets(m))
		}
		tips, votes, chain := x.Tips(), x.Statements(), chains(x, names)
		ledger, _ := x.Ledger()
		called, _ := x.Names()
		was := fmt.Sprintf("%+v %+v %+v %+v %q", tips, votes, chain, ledger, called)
		all(x, names, true)
		if got := fmt.Sprintf("%+v %+v %+v %+v %q", tips, votes, chain, ledger, called); got != was {
			t.Errorf("P22.4: answers that were changed change answers that were given ahead: %s, were %s", brief(got), brief(was))
		}
		// Nor do the ledger's blocks share their lists with a chain's.
		spoilBlocks(ledger)
		if got := fmt.Sprintf("%+v %+v %+v", tips, votes, chain); got != was[:len(got)] {
			t.Error("P22.4: a ledger that was changed changes a chain that was given ahead")
		}
	}
}

// chains are the chains of these names, as a learner tells them.
func chains(x *learner.Learner, names []string) [][]api.Block {
	var out [][]api.Block
	for _, name := range names {
		l, _ := x.Chain(name)
		out = append(out, l)
	}
	return out
}

// TestArgumentsStay: P22.4, P2: what goes in is not changed, nor the room behind it.
func TestArgumentsStay(t *testing.T) {
	l := labOf(t, 3, 2)
	d := l.draw(rand.New(rand.NewSource(2700)))
	c := l.c
	c.Roots = append(slices.Clone(c.Roots), "room", "behind")[:3]
	c.Clients = append(slices.Clone(c.Clients), "room", "behind")[:4]
	roots, clients := slices.Clone(c.Roots[:5]), slices.Clone(c.Clients[:6])
	x, err := learner.New(c, api.Rule{Kind: byQuorum, N: 2})
	if err != api.OK {
		t.Fatalf("P22.1: New = %d", err)
	}
	heard := slices.Clone(d.other)
	for _, m := range d.valid {
		heard = append(heard, l.octets(m))
	}
	for _, b := range slices.Repeat(heard, 2) {
		handed := roomy(b)
		was := slices.Clone(handed[:cap(handed)])
		x.Hear(handed)
		if !bytes.Equal(handed[:cap(handed)], was) {
			t.Error("P22.4: Hear changes what it is handed, or the room behind it")
		}
	}
	all(x, namesIn(d.valid), true)
	if !slices.Equal(c.Roots[:5], roots) || !slices.Equal(c.Clients[:6], clients) {
		t.Error("P22.4: a config that was handed in is changed")
	}
}

// TestLearnersShareNothing: P22.4, P3: learners of one config know nothing of one another.
func TestLearnersShareNothing(t *testing.T) {
	l := labOf(t, 3, 2)
	d := l.draw(rand.New(rand.NewSource(2800)))
	names := namesIn(d.valid)
	x, y := l.new(byQuorum, 2), l.new(byQuorum, 2)
	empty := all(y, names, false)
	for _, m := range d.valid {
		x.Hear(l.octets(m))
	}
	if got := all(y, names, false); got != empty {
		t.Errorf("P3: what a learner hears changes another one: %s", brief(got))
	}
	l.stands("another learner", y, l.pageOf(byQuorum, 2))
}

// TestSameAnswers: P3: the same calls answer the same, whatever the order of a map is, and asking changes nothing.
func TestSameAnswers(t *testing.T) {
	l := labOf(t, 3, 2)
	for seed := range 10 {
		d := l.draw(rand.New(rand.NewSource(int64(2900 + seed))))
		names := namesIn(d.valid)
		var want string
		for i := range 10 {
			x := l.new(byDelay, 2)
			for _, m := range d.valid {
				x.Hear(l.octets(m))
			}
			for range 3 {
				got := all(x, names, i%2 == 0)
				if want == "" {
					want = got
				}
				if got != want {
					t.Fatalf("P3: drawing %d: the same calls answer %s, and %s", seed, brief(got), brief(want))
				}
			}
		}
	}
}

// TestTogether: P3: learners at one time, and questions to one learner at one time, answer as one behind the other.
func TestTogether(t *testing.T) {
	l := labOf(t, 3, 2)
	d := l.draw(rand.New(rand.NewSource(3000)))
	names := namesIn(d.valid)
	shared := l.new(byQuorum, 2)
	var octets [][]byte
	for _, m := range d.valid {
		octets = append(octets, l.octets(m))
		shared.Hear(octets[len(octets)-1])
	}
	want := all(shared, names, false)
	var wg sync.WaitGroup
	for range 8 {
		wg.Go(func() {
			x, _ := learner.New(l.c, api.Rule{Kind: byQuorum, N: 2})
			for _, b := range octets {
				x.Hear(b)
			}
			if all(x, names, true) != want || all(shared, names, true) != want {
				t.Error("P3: at one time other answers are given")
			}
		})
	}
	wg.Wait()
}

// TestAnyOctets: P1: no call panics, and each ends, whatever is heard and asked.
func TestAnyOctets(t *testing.T) {
	l := labOf(t, 3, 2)
	r := rand.New(rand.NewSource(3100))
	d := l.draw(r)
	x := l.new(byQuorum, 2)
	ends(t, "octets of any kind", func() {
		for range 3000 {
			b := make([]byte, r.Intn(300))
			r.Read(b)
			if r.Intn(2) == 0 && len(b) > 6 {
				copy(b, "\x00\x00\x00\x00\x00")
				b[5] = byte(r.Intn(8))
			}
			if x.Hear(b) {
				t.Errorf("P22.1: Hear of drawn octets = true: %x", b)
			}
		}
		for _, m := range d.valid {
			x.Hear(l.octets(m))
		}
		for _, name := range []string{"", "x", zeros, stranger, zeros + zeros, string(make([]byte, 1<<20))} {
			x.Chain(name)
		}
		all(x, nil, true)
	})
}
