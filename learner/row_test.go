package learner_test

import (
	"fmt"
	"math/rand"
	"slices"
	"testing"
	"time"

	"moot/api"
	"moot/cert"
	"moot/learner"
)

// drawn is what was drawn: messages that are valid, in some order, and octets that are not to be taken.
type drawn struct {
	valid []api.Message
	other [][]byte
}

// draw draws blocks, of which few conflict or many, and statements about them and others.
func (l lab) draw(r *rand.Rand) drawn {
	l.t.Helper()
	var d drawn
	blocks := []api.Block{l.first(r.Intn(3), 1)}
	forks := r.Intn(4)
	for i := range 2 + r.Intn(8) {
		on := blocks[len(blocks)-1]
		if r.Intn(6) < forks {
			on = blocks[r.Intn(len(blocks))]
		}
		switch b := l.child(on, on.View+r.Intn(2), 2+i); r.Intn(12) {
		case 0:
			blocks = append(blocks, l.first(r.Intn(3), 2+i))
		case 1:
			// It does not stand on its parent as it should.
			m := markOf(on)
			m.View++
			blocks = append(blocks, l.behind(l.cert(m), m.View, 2+i))
		case 2:
			// Another one of its name.
			blocks = append(blocks, b, l.signed(r.Intn(7), b))
		default:
			blocks = append(blocks, b)
		}
	}
	for _, b := range blocks {
		if r.Intn(12) > 0 {
			d.valid = append(d.valid, ofBlock(b))
		}
		d.valid = append(d.valid, ofVotes(l.drawVotes(r, markOf(b))...)...)
	}
	d.valid = append(d.valid, ofVotes(l.drawVotes(r, api.Mark{View: r.Intn(3), Height: r.Intn(5), Block: []string{zeros, stranger, nameOf(blocks[0])}[r.Intn(3)]})...)...)
	d.other = l.drawOthers(r, d.valid)
	return d
}

// drawVotes draws statements about a block, enough or not.
func (l lab) drawVotes(r *rand.Rand, m api.Mark) []api.Vote {
	l.t.Helper()
	var out []api.Vote
	if r.Intn(3) == 0 {
		return nil
	}
	for range r.Intn(10) {
		by := r.Intn(len(l.c.Roots))
		if r.Intn(2) == 0 {
			out = append(out, l.commit(m, by))
		} else {
			out = append(out, l.report(m, 1<<r.Intn(5), by))
		}
	}
	return out
}

// drawOthers draws octets that are not to be taken: spoilt ones of messages, and messages of other kinds.
func (l lab) drawOthers(r *rand.Rand, valid []api.Message) [][]byte {
	l.t.Helper()
	var out [][]byte
	for range 10 {
		b := l.octets(valid[r.Intn(len(valid))])
		b[r.Intn(len(b))] ^= byte(1 + r.Intn(255))
		out = append(out, b, b[:r.Intn(len(b))])
	}
	for _, m := range l.otherMessages(api.Mark{View: 1, Height: 1, Block: stranger}) {
		out = append(out, l.octets(m))
	}
	return out
}

// times is how often each thing was met.
type times map[string]int

// count counts what a page has.
func (n times) count(p page) {
	names, err := p.names()
	n["fork"] += map[bool]int{true: 1}[err == api.ErrFork]
	n["ledger"] += map[bool]int{true: 1}[err == api.OK && len(names) > 0]
	n["fork with something in common"] += map[bool]int{true: 1}[err == api.ErrFork && len(names) > 0]
	n["long"] += map[bool]int{true: 1}[err == api.OK && len(names) > 4]
	n["many tips"] += map[bool]int{true: 1}[len(p.tips()) > 2]
	n["none"] += map[bool]int{true: 1}[len(p.tips()) == 0]
}

// TestAgainstThePage: P22.1: whatever is heard, each call answers what the page tells, message by message.
func TestAgainstThePage(t *testing.T) {
	met := times{}
	for seed := range 150 {
		r := rand.New(rand.NewSource(int64(2200 + seed)))
		l := labOf(t, 3, 2)
		d := l.draw(r)
		kind, n := 1+r.Intn(2), 2
		r.Shuffle(len(d.valid), func(i, j int) { d.valid[i], d.valid[j] = d.valid[j], d.valid[i] })
		x, p := l.new(kind, n), l.pageOf(kind, n)
		for i, m := range d.valid {
			if r.Intn(3) == 0 {
				l.hears("what is not to be taken", x, d.other[r.Intn(len(d.other))], false)
			}
			l.hears(fmt.Sprintf("drawing %d, message %d", seed, i), x, l.octets(m), p.take(m))
			if r.Intn(6) == 0 || i == len(d.valid)-1 {
				l.stands(fmt.Sprintf("drawing %d, behind message %d", seed, i), x, p)
			}
		}
		met.count(p)
	}
	for what, least := range map[string]int{"fork": 20, "fork with something in common": 5, "ledger": 30, "long": 3, "many tips": 20, "none": 3} {
		if met[what] < least {
			t.Errorf("the drawings have %q %d times, want at least %d: %v", what, met[what], least, met)
		}
	}
}

// told is all that a learner tells, but for what blocks' names do not tell.
func told(x *learner.Learner, names []string) string {
	ledger, err := x.Ledger()
	called, other := x.Names()
	out := fmt.Sprintf("%+v %+v %d %q %d %+v %d\n", x.Tips(), ledger, err, called, other, x.Statements(), x.Blocks())
	for _, name := range names {
		chain, ok := x.Chain(name)
		for i := range chain {
			chain[i] = bare(chain[i])
		}
		out += fmt.Sprintf("%x %v %+v\n", name, ok, chain)
	}
	return out
}

// namesIn are the names of the blocks that messages bear.
func namesIn(l []api.Message) []string {
	out := []string{zeros, stranger}
	for _, m := range l {
		if m.Kind == aBlock {
			out = append(out, nameOf(m.Block), m.Block.Parent)
		}
	}
	slices.Sort(out)
	return slices.Compact(out)
}

// TestNoOrder: P22.2: what is told hangs on what was heard, not on when, nor how often, with spoilt octets between.
func TestNoOrder(t *testing.T) {
	for seed := range 60 {
		r := rand.New(rand.NewSource(int64(2300 + seed)))
		l := labOf(t, 3, 2)
		d := l.draw(r)
		for _, kind := range []int{byQuorum, byDelay} {
			first := l.new(kind, 2)
			for _, m := range d.valid {
				first.Hear(l.octets(m))
			}
			want := told(first, namesIn(d.valid))
			for k := range 6 {
				x := l.new(kind, 2)
				for _, m := range shuffled(r, d.valid, k) {
					if r.Intn(4) == 0 {
						l.hears("what is not to be taken", x, d.other[r.Intn(len(d.other))], false)
					}
					x.Hear(l.octets(m))
					if r.Intn(20) == 0 {
						told(x, nil)
					}
				}
				if got := told(x, namesIn(d.valid)); got != want {
					t.Fatalf("P22.2: drawing %d, a rule of kind %d: in another order it tells %s, want %s", seed, kind, brief(got), brief(want))
				}
			}
		}
	}
}

// shuffled are messages in another order, some of them more than once.
func shuffled(r *rand.Rand, l []api.Message, k int) []api.Message {
	out := slices.Repeat(l, 1+k%3)
	switch k {
	case 0:
		slices.Reverse(out)
	default:
		r.Shuffle(len(out), func(i, j int) { out[i], out[j] = out[j], out[i] })
	}
	return out
}

// TestGrows: P22.3: where tips do not conflict, the ledger only grows; where they do there is no way back, and what they have in common does not grow.
func TestGrows(t *testing.T) {
	grew := 0
	for seed := range 120 {
		r := rand.New(rand.NewSource(int64(2400 + seed)))
		l := labOf(t, 3, 2)
		d := l.draw(r)
		x := l.new(1+r.Intn(2), 2)
		r.Shuffle(len(d.valid), func(i, j int) { d.valid[i], d.valid[j] = d.valid[j], d.valid[i] })
		names, err := x.Names()
		var tips []api.Mark
		for _, m := range d.valid {
			x.Hear(l.octets(m))
			now, nowErr := x.Names()
			nowTips := x.Tips()
			least := min(len(names), len(now))
			switch {
			case !slices.Equal(names[:least], now[:least]):
				t.Fatalf("P22.3: drawing %d: of two ledgers neither is a beginning of the other", seed)
			case nowErr == api.OK && (err != api.OK || len(now) < len(names)):
				t.Fatalf("P22.3: drawing %d: a ledger of %d, %d is behind one of %d, %d", seed, len(now), nowErr, len(names), err)
			case nowErr == api.ErrFork && len(tips) > 0 && len(now) > len(names):
				t.Fatalf("P22.3: drawing %d: in common are %d, ahead there were %d", seed, len(now), len(names))
			}
			for _, m := range tips {
				if !slices.Contains(nowTips, m) {
					t.Fatalf("P22.3: drawing %d: a tip is none any more", seed)
				}
			}
			grew += max(0, len(now)-len(names))
			names, err, tips = now, nowErr, nowTips
		}
	}
	if grew < 100 {
		t.Errorf("the drawings' ledgers grew by %d alone", grew)
	}
}

// TestTwoRules: G1, P22.2: who hears the same has by whatever rule a ledger of which one is a beginning of the other, where there is no fork.
func TestTwoRules(t *testing.T) {
	l := labOf(t, 4, 3)
	row := l.row(0, 1, 6)
	var all []api.Message
	for i, b := range row {
		all = append(append(all, ofBlock(b)), ofVotes(append(l.commits(markOf(b), []int{0, 1, 2, 3}[:4-i/2]...), l.reports(markOf(b), 1<<(6-i), 1, 2, 3)...)...)...)
	}
	want := map[api.Rule]int{{Kind: byQuorum, N: 3}: 4, {Kind: byQuorum, N: 4}: 2, {Kind: byDelay, N: 1}: 6, {Kind: byDelay, N: 2}: 5, {Kind: byDelay, N: 3}: 4, {Kind: byDelay, N: 8}: 3, {Kind: byDelay, N: 32}: 1}
	for rule, n := range want {
		x := l.new(rule.Kind, rule.N)
		l.takes("all", x, all...)
		isLedger(t, fmt.Sprintf("a rule of kind %d, %d", rule.Kind, rule.N), x, api.OK, row[:n]...)
	}
}

// TestLong: P1: long chains, and many statements, do not hold it up.
func TestLong(t *testing.T) {
	l := labOf(t, 1, 1)
	x := l.new(byQuorum, 1)
	begun := time.Now()
	var row []api.Block
	c := cert.First()
	for len(row) < 400 {
		b := l.signed(7, api.Block{View: len(row), Height: c.Height + 1, Parent: c.Block, Justify: c})
		row = append(row, b)
		c = l.cert(markOf(b))
		l.takes("a block of a long chain", x, ofBlock(b), ofVote(l.commit(markOf(b), 0)))
	}
	fork := l.signed(7, api.Block{View: 999, Height: 201, Parent: nameOf(row[199]), Justify: l.cert(markOf(row[199]))})
	for range 20 {
		if names, err := x.Names(); len(names) != len(row) || err != api.OK || names[399] != nameOf(row[399]) {
			t.Fatalf("P22.1: Names of a long chain = %d names, %d", len(names), err)
		}
	}
	for ticks := 1; ticks <= 3000; ticks++ {
		l.takes("a report", x, ofVote(l.report(markOf(row[0]), ticks, 0)))
	}
	if got := x.Statements(); len(got) != 3400 {
		t.Errorf("P22.1: Statements = %d, want 3400", len(got))
	}
	l.takes("a fork", x, ofBlock(fork), ofVote(l.commit(markOf(fork), 0)))
	// The tip of Height 1 is there too: what all have in common is that one.
	isLedger(t, "a long chain, and a fork", x, api.ErrFork, row[0])
	if d := time.Since(begun); d > time.Minute {
		t.Errorf("P1: a long chain takes %v", d)
	}
}
