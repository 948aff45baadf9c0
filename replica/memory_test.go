package replica_test

import (
	"fmt"
	"math"
	"slices"
	"sync"
	"testing"

	"moot/api"
	"moot/replica"
)

// spoil writes over octets, and over the room behind them.
func spoil(b []byte) {
	b = b[:cap(b)]
	for i := range b {
		b[i] ^= 0x5a
	}
}

// spoilBlocks writes over blocks, their lists, and the room behind these.
func spoilBlocks(l []api.Block) {
	l = l[:cap(l)]
	for i := range l {
		votes, txs := l[i].Justify.Votes, l[i].Txs
		for j := range votes[:cap(votes)] {
			votes[:cap(votes)][j] = api.Vote{Kind: 99}
		}
		for j := range txs[:cap(txs)] {
			txs[:cap(txs)][j] = api.Tx{From: 99}
		}
		l[i] = api.Block{View: 99}
	}
}

// roomy are the same octets, with room behind them.
func roomy(b []byte) []byte {
	return append(make([]byte, 0, len(b)+40), b...)
}

// ask asks a replica all that can be asked, and tells the answers; where spoils is set it writes over them then.
func ask(r *replica.Replica, spoils bool) string {
	chain, signed := r.Chain(), r.Signed()
	told := fmt.Sprintf("%v %+v %d %+v %+v %q\n", r.Down(), r.State(), r.Next(), r.Holds(), chain, signed)
	if spoils {
		spoilBlocks(chain)
		for i := range signed[:cap(signed)] {
			signed[:cap(signed)][i] = "spoilt"
		}
	}
	return told
}

// play plays a scene, and what comes behind it, and tells all answers; where spoils is set all lists that went in, or came out, are written over.
func (l lab) play(x scene, spoils bool) string {
	c := l.c
	c.Roots, c.Clients = append(make([]string, 0, 20), c.Roots...), append(make([]string, 0, 20), c.Clients...)
	r, err := replica.New(c, x.id, room, 0)
	told := fmt.Sprintln(err)
	if spoils {
		for i := range c.Roots[:20] {
			c.Roots[:20][i] = "spoilt"
		}
		for i := range c.Clients[:20] {
			c.Clients[:20][i] = "spoilt"
		}
	}
	tell := func(got [][]byte) {
		told += fmt.Sprintf("%q\n", got)
		if spoils {
			for _, b := range got {
				spoil(b)
			}
			clear(got[:cap(got)])
		}
		told += ask(r, spoils)
	}
	hear := func(m api.Message, now int) {
		b := roomy(l.octets(m))
		tell(r.Hear(b, now))
		if spoils {
			spoil(b)
		}
	}
	more := l.scenes()
	for _, m := range x.all() {
		hear(m, 1)
	}
	tell(r.Tick(3))
	b := roomy(l.octets(ofTx(l.pay(2, 5, 0))))
	r.Fail(b, 4, 1<<20)
	if spoils {
		spoil(b)
	}
	told += fmt.Sprintln(r.Up(5)) + ask(r, spoils)
	for i, y := range more {
		hear(y.last, 6+i)
		tell(r.Tick(6 + i))
	}
	return told
}

// What goes in is not kept, and what comes out shares nothing with what is kept.
func TestMemory(t *testing.T) {
	l := labOf(t, 4, 3)
	for _, x := range l.scenes() {
		ends(t, x.what, func() {
			if l.play(x, false) != l.play(x, true) {
				t.Errorf("P20.3: %s: what was handed in, or answered, and written over then, changes what is answered later", x.what)
			}
		})
	}
}

// What goes in is not changed, nor the room behind it.
func TestWhatGoesInStays(t *testing.T) {
	l := labOf(t, 4, 3)
	for _, x := range l.scenes() {
		r := l.made(x)
		b := roomy(l.octets(x.last))
		for i := range b[len(b):cap(b)] {
			b[len(b):cap(b)][i] = byte(i)
		}
		before := slices.Clone(b[:cap(b)])
		for _, f := range []func(){func() { r.Hear(b, 1) }, func() { r.Fail(b, 1, 9) }, func() { r.Hear(b, 1) }} {
			ends(t, x.what, f)
			if !slices.Equal(b[:cap(b)], before) {
				t.Errorf("P20.3: %s: the octets that were heard are changed", x.what)
			}
		}
	}
	c := labOf(t, 3, 2).c
	c.Roots, c.Clients = append(make([]string, 0, 20), c.Roots...), append(make([]string, 0, 20), c.Clients...)
	c.Roots[:20][5], c.Clients[:20][6] = "behind the roots", "behind the clients"
	roots, clients := slices.Clone(c.Roots[:20]), slices.Clone(c.Clients[:20])
	r, _ := replica.New(c, 0, room, 0)
	r.Tick(99)
	if !slices.Equal(c.Roots[:20], roots) || !slices.Equal(c.Clients[:20], clients) {
		t.Error("P20.3: New changes the lists of a Config")
	}
}

// No two messages of one answer share memory, nor do two answers of one call.
func TestAnswersShareNothing(t *testing.T) {
	l := labOf(t, 4, 3)
	for _, x := range l.scenes() {
		r := l.made(x)
		got := r.Hear(l.octets(x.last), 2)
		isApart(t, x.what, got)
		if other := r.Hear(l.octets(x.last), 2); len(other) > 0 {
			isApart(t, x.what, append(slices.Clone(got), other...))
		}
		one, other := r.Chain(), r.Chain()
		before := fmt.Sprintf("%+v", other)
		spoilBlocks(one)
		if fmt.Sprintf("%+v", other) != before {
			t.Errorf("P20.3: %s: two answers of Chain share memory", x.what)
		}
	}
}

// isApart says if texts of octets stay when each other one is written over.
func isApart(t *testing.T, what string, l [][]byte) {
	t.Helper()
	for i, b := range l {
		before := fmt.Sprintf("%q", slices.Delete(slices.Clone(l), i, i+1))
		spoil(b)
		if fmt.Sprintf("%q", slices.Delete(slices.Clone(l), i, i+1)) != before {
			t.Errorf("P20.3: %s: two messages share memory", what)
		}
	}
}

// The same calls answer the same, whatever goes on beside them.
func TestSameCallsAnswerTheSame(t *testing.T) {
	l := labOf(t, 4, 3)
	scenes := l.scenes()
	want := make([]string, len(scenes))
	for i, x := range scenes {
		want[i] = l.play(x, false)
	}
	var wg sync.WaitGroup
	for range 3 {
		wg.Go(func() {
			for i, x := range scenes {
				if l.play(x, i%2 == 0) != want[i] {
					t.Errorf("P3: %s: not the same answers", x.what)
				}
			}
		})
	}
	wg.Wait()
}

// Nil and empty octets are one, and no time, however far, lets a call panic, or go on and on.
func TestAnyTimeAndRoom(t *testing.T) {
	l := labOf(t, 4, 3)
	x := l.scenes()[12]
	for _, now := range sizes {
		for _, then := range sizes {
			r := l.made(x)
			ends(t, "calls of any time", func() {
				r.Hear(nil, now)
				r.Hear(l.octets(x.last), now)
				r.Tick(then)
				r.Fail([]byte{}, then, now)
				r.Up(now)
				r.Hear([]byte{}, then)
				r.Tick(math.MaxInt)
			})
		}
	}
}

// A replica of whatever Config, made or not, hears whatever comes.
func TestConfigsThatMayNotBe(t *testing.T) {
	l := labOf(t, 4, 3)
	for _, roots := range [][]string{{""}, {"", "", "", ""}, {"a", "b", "c", "d"}, l.c.Roots[:1], {l.c.Roots[3], l.c.Roots[2], l.c.Roots[1], l.c.Roots[0]}} {
		for _, clients := range [][]string{nil, {}, {""}, l.c.Clients[:1], append(slices.Clone(l.c.Clients), l.c.Clients...)} {
			for quorum := range 6 {
				c := api.Config{Roots: roots, Clients: clients, Quorum: quorum, Base: -quorum, Cap: quorum}
				ends(t, "a Config that may not be", func() {
					r, err := replica.New(c, 0, room, 0)
					if (err == api.OK) != (quorum >= 1 && quorum <= len(roots)) {
						t.Errorf("P20.1: New = %d", err)
					}
					for i, x := range l.scenes() {
						for _, m := range x.all() {
							r.Hear(l.octets(m), i)
						}
						r.Tick(10 * i)
					}
					if r.Up(0) != api.ErrState || (err == api.OK) == r.Down() {
						t.Error("P20.1: Up, or Down, of a Config that may not be")
					}
				})
			}
		}
	}
}
