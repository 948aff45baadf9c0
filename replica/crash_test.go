package replica_test

import (
	"fmt"
	"math"
	"slices"
	"testing"

	"moot/api"
	"moot/cert"
	"moot/guard"
	"moot/held"
	"moot/replica"
)

// scene is what a replica hears ahead of a message with which it crashes; where isEach is set, each number of octets is tried.
type scene struct {
	what   string
	id     int
	ahead  []api.Message
	last   api.Message
	isEach bool
}

// all is all that is heard in a scene.
func (x scene) all() []api.Message {
	return slices.Concat(x.ahead, []api.Message{x.last})
}

// scenes are some of each kind of message.
func (l lab) scenes() []scene {
	row := l.row(0, 3)
	later := l.child(row[0], 3, l.pay(1, 5, 0))
	x := ofTx(l.pay(0, 5, 0))
	three := ofBlames(l.blame(0, 0), l.blame(0, 1), l.blame(0, 2))
	two := []api.Message{ofVote(l.votes(markOf(row[0]), 0)[0]), ofVote(l.votes(markOf(row[0]), 1)[0])}
	return []scene{
		{"a block", 2, nil, ofBlock(row[0]), true},
		{"a block of a view above", 2, nil, ofBlock(l.first(2, 5)), false},
		{"a block behind one that was voted", 2, []api.Message{ofBlock(row[0])}, ofBlock(row[1]), false},
		{"a block whose parent is not known", 2, nil, ofBlock(row[1]), false},
		{"the parent of one that came ahead", 2, []api.Message{ofBlock(row[1])}, ofBlock(row[0]), false},
		{"a block of a view above, with its cert", 2, []api.Message{ofBlock(row[0])}, ofBlock(later), false},
		{"another block", 2, []api.Message{ofBlock(row[0])}, ofBlock(l.first(0, 6)), false},
		{"a vote", 2, []api.Message{ofBlock(row[0])}, two[0], false},
		{"a third vote", 3, append(two, ofBlock(l.first(0, 6))), ofVote(l.votes(markOf(row[0]), 2)[0]), false},
		{"a vote that makes a cert with its own", 2, []api.Message{ofBlock(row[0]), two[0]}, two[1], true},
		{"a cert", 2, []api.Message{ofBlock(row[0])}, ofCert(l.cert(markOf(row[0]))), false},
		{"a cert of a view above", 2, nil, ofCert(l.cert(markOf(later))), false},
		{"a cert of its own block", 0, []api.Message{ofBlock(row[0]), x}, ofCert(l.cert(markOf(row[0]))), false},
		{"a cert, with which the leader proposes", 0, []api.Message{ofBlock(row[0]), ofTx(l.pay(3, 5, 0))}, ofCert(l.cert(markOf(row[0]))), true},
		{"blames", 2, []api.Message{ofBlock(row[0]), ofCert(l.cert(markOf(row[0])))}, three, false},
		{"blames of a view whose blocks came", 2, []api.Message{ofBlock(l.first(1, 5))}, three, true},
		{"blames of a view that is spoilt", 2, []api.Message{ofBlock(l.first(1, 5)), ofBlock(l.first(1, 6))}, three, false},
		{"a blame", 2, nil, ofVote(l.blame(0, 1)), false},
		{"a block that it has, asked for", 2, []api.Message{ofBlock(row[0])}, ofAsked(nameOf(row[0])), false},
		{"a transaction", 2, []api.Message{ofBlock(row[0])}, x, false},
	}
}

// made is a replica that heard what comes ahead in a scene.
func (l lab) made(x scene) *replica.Replica {
	r := l.new(x.id)
	for _, m := range x.ahead {
		r.Hear(l.octets(m), 1)
	}
	return r
}

// lasts is what is on a replica's disk, as far as it shows.
type lasts struct {
	state guard.State
	next  int
	chain int
	has   string
}

// lastsOf is what a replica shows of its disk; names are those of blocks that it may have. It is asked for them, so that it must be up.
func (l lab) lastsOf(r *replica.Replica, now int, names []string) lasts {
	s := r.State()
	s.Spoilt = false
	x := lasts{state: s, next: r.Next(), chain: len(r.Chain())}
	for _, name := range names {
		x.has += fmt.Sprint(len(r.Hear(l.octets(ofAsked(name)), now)) > 0)
	}
	return x
}

// namesOf are the names of all blocks that messages bear.
func namesOf(l ...api.Message) []string {
	var out []string
	for _, m := range l {
		if m.Kind == aBlock {
			out = append(out, nameOf(m.Block))
		}
	}
	return out
}

// isPartly says if each part of what lasts is as it was ahead, or as it is behind.
func isPartly(got, ahead, behind lasts) bool {
	is := func(part func(x lasts) any) bool {
		return part(got) == part(ahead) || part(got) == part(behind)
	}
	return is(func(x lasts) any { return x.state.View }) && is(func(x lasts) any { return x.state.Voted }) &&
		is(func(x lasts) any { return x.state.Commit }) && is(func(x lasts) any { return x.state.Lock }) &&
		is(func(x lasts) any { return x.next }) && is(func(x lasts) any { return x.chain }) && is(func(x lasts) any { return x.has })
}

// crashed is a replica of a scene that crashed with the last message, and went up again.
func (l lab) crashed(x scene, keep int) *replica.Replica {
	l.t.Helper()
	r := l.made(x)
	signed := r.Signed()
	ends(l.t, "Fail", func() { r.Fail(l.octets(x.last), 2, keep) })
	what := fmt.Sprintf("%s, keep %d", x.what, keep)
	if !r.Down() || r.Holds() != (held.Held{}) || !slices.Equal(r.Signed(), signed) {
		l.t.Fatalf("P20.1: Fail of %s: Down %v, Holds %+v, Signed %d", what, r.Down(), r.Holds(), len(r.Signed()))
	}
	l.hear("a block, down", r, ofBlock(l.first(0, 9)), 2)
	l.tick("down", r, 1000)
	ends(l.t, "Fail", func() { r.Fail(l.octets(x.last), 2, 1<<20) })
	ahead := lasts{state: r.State(), next: r.Next(), chain: len(r.Chain())}
	if err := r.Up(3); err != api.OK || r.Down() {
		l.t.Fatalf("P20.1: Up behind Fail of %s = %d", what, err)
	}
	if behind := (lasts{state: r.State(), next: r.Next(), chain: len(r.Chain())}); ahead != behind {
		l.t.Errorf("P20.1: %s: down %+v, up %+v", what, ahead, behind)
	}
	if err := r.Up(3); err != api.ErrState || r.Down() || !slices.Equal(r.Signed(), signed) {
		l.t.Errorf("P20.1: Up of one that is up, behind Fail of %s = %d", what, err)
	}
	return r
}

// Of what was written nothing stays, or all, or some octets: then all that lasts is as ahead, or behind, or each part is one of both.
func TestFail(t *testing.T) {
	for _, x := range labOf(t, 4, 3).scenes() {
		t.Run(x.what, func(t *testing.T) {
			t.Parallel()
			labOf(t, 4, 3).fails(x)
		})
	}
}

// fails says if a scene's crashes leave what they have to.
func (l lab) fails(x scene) {
	l.t.Helper()
	r := l.made(x)
	names := namesOf(x.all()...)
	for _, b := range r.Hear(l.octets(x.last), 2) {
		names = append(names, namesOf(messageOf(b))...)
	}
	ahead, behind := l.lastsOf(l.made(x), 2, names), l.lastsOf(r, 2, names)
	for _, keep := range []int{math.MinInt, -1 << 32, -1, 0} {
		if got := l.lastsOf(l.crashed(x, keep), 3, names); got != ahead {
			l.t.Errorf("P20.1: %s, and nothing stays: %+v, was %+v", x.what, got, ahead)
		}
	}
	for _, keep := range []int{1 << 12, maxDisk, 1 << 32, math.MaxInt} {
		if got := l.lastsOf(l.crashed(x, keep), 3, names); got != behind {
			l.t.Errorf("P20.1: %s, and all stays: %+v, want %+v", x.what, got, behind)
		}
	}
	// Each number of octets, of some scenes; of the others each seventh.
	step := 7
	if x.isEach {
		step = 1
	}
	whole := ahead == behind
	for keep := 1; keep < 1<<12 && !whole; keep += step {
		got := l.lastsOf(l.crashed(x, keep), 3, names)
		if !isPartly(got, ahead, behind) {
			l.t.Fatalf("P20.1: %s, and %d octets stay: %+v, was %+v, would be %+v", x.what, keep, got, ahead, behind)
		}
		whole = got == behind
	}
}

// All that no record tells is as at first behind a crash.
func TestUpForgets(t *testing.T) {
	l := labOf(t, 4, 3)
	a := l.first(0, 5)
	m := markOf(a)
	r := l.new(0)
	l.hear("a transaction", r, ofTx(l.pay(3, 5, 0)), 1)
	l.hear("a vote", r, ofVote(l.votes(m, 1)[0]), 1)
	l.hear("a vote", r, ofVote(l.votes(m, 2)[0]), 1)
	l.hear("a blame", r, ofVote(l.blame(0, 1)), 1)
	l.hear("a blame", r, ofVote(l.blame(0, 2)), 1)
	r.Fail(nil, 1, 0)
	stands(t, "down", r, true, atFirst(), 0, held.Held{})
	if r.Up(50) != api.OK {
		t.Fatal("P20.1: Up")
	}
	stands(t, "up", r, false, atFirst(), 0, held.Held{})
	l.tick("of a leader that forgot what waits", r, 51)
	l.hear("a third vote", r, ofVote(l.votes(m, 3)[0]), 51)
	l.hear("a third blame", r, ofVote(l.blame(0, 3)), 51)
	// The time begins as at first.
	r = l.new(3)
	for view := range 2 {
		r.Hear(l.octets(ofBlames(l.blame(view, 0), l.blame(view, 1), l.blame(view, 2))), 10)
	}
	r.Fail(nil, 11, 0)
	if r.Up(20) != api.OK {
		t.Fatal("P20.1: Up")
	}
	l.hear("a transaction", r, ofTx(l.pay(3, 5, 0)), 20)
	l.tick("ahead of its time", r, 20+isDue(0)-1)
	l.tick("late", r, 20+isDue(0), l.its(3, 0, api.Vote{Kind: blamed, View: 2}))
	// And it blames again: whom it blamed it forgot.
	r.Fail(nil, 25, 0)
	if r.Up(30) != api.OK {
		t.Fatal("P20.1: Up")
	}
	l.hear("a transaction", r, ofTx(l.pay(3, 5, 0)), 30)
	l.tick("late again", r, 30+isDue(0), l.its(3, 1, api.Vote{Kind: blamed, View: 2}))
	signs(t, "two blames", r, textOf(api.Vote{Kind: blamed, View: 2, Signer: 3}), textOf(api.Vote{Kind: blamed, View: 2, Signer: 3}))
}

// A block that is held is held no more behind a crash, nor commit-voted again.
func TestUpHoldsNothing(t *testing.T) {
	l := labOf(t, 4, 3)
	a := l.first(0, 5)
	m := markOf(a)
	r := l.new(3)
	r.Hear(l.octets(ofBlock(a)), 1)
	r.Hear(l.octets(ofCert(l.cert(m))), 1)
	l.tick("with a report due", r, 3, l.its(3, 2, api.Vote{Kind: reported, Height: 1, Block: m.Block, Ticks: 1}))
	r.Fail(l.octets(ofTx(l.pay(3, 5, 0))), 4, 0)
	s := guard.State{Voted: m, Commit: m, Lock: m}
	stands(t, "down", r, true, s, 3, held.Held{}, a)
	if r.Up(5) != api.OK {
		t.Fatal("P20.1: Up")
	}
	stands(t, "up", r, false, s, 3, held.Held{}, a)
	l.hear("the block again", r, ofBlock(a), 6)
	l.hear("the cert again", r, ofCert(l.cert(m)), 6)
	l.tick("with nothing held", r, 200)
	b := l.child(a, 0)
	l.hear("a block behind it", r, ofBlock(b), 201, ofBlock(b), l.its(3, 3, about(voted, markOf(b), 3)))
	l.hear("its cert", r, ofCert(l.cert(markOf(b))), 201, ofCert(l.cert(markOf(b))), l.its(3, 4, about(committed, markOf(b), 3)))
}

// A view that is spoilt is so behind a crash, too: it is found at the next call, ahead of all else.
func TestUpInASpoiltView(t *testing.T) {
	l := labOf(t, 4, 3)
	a, b := l.first(0, 5), l.first(0, 6)
	for _, x := range []scene{
		{"a transaction", 3, []api.Message{ofBlock(a), ofBlock(b)}, ofTx(l.pay(3, 5, 0)), false},
		{"the second block", 3, []api.Message{ofBlock(a)}, ofBlock(b), false},
	} {
		for _, later := range []func(r *replica.Replica) [][]byte{
			func(r *replica.Replica) [][]byte { return r.Tick(4) },
			func(r *replica.Replica) [][]byte { return r.Hear(l.octets(ofTx(l.pay(1, 5, 0))), 4) },
			func(r *replica.Replica) [][]byte { return r.Hear(l.octets(ofBlock(a)), 4) },
		} {
			r := l.crashed(x, 1<<20)
			l.says("nothing", r.Hear(nil, 4))
			next := r.Next()
			l.says("the first call in a spoilt view behind a crash", later(r), ofBlock(a), ofBlock(b), l.its(3, next, api.Vote{Kind: blamed, View: 0}))
			if !r.State().Spoilt {
				t.Errorf("P20.1: %s: a spoilt view is not behind a crash", x.what)
			}
			l.hear("a cert", r, ofCert(l.cert(markOf(a))), 5, ofCert(l.cert(markOf(a))))
		}
	}
}

// A lock may be above the highest cert behind a crash: then a leader proposes nothing, till it hears of a higher cert.
func TestLockAboveTheHighestCert(t *testing.T) {
	t.Parallel()
	l := labOf(t, 4, 3)
	a := l.first(0, 5)
	m := markOf(a)
	x := scene{"a cert", 0, []api.Message{ofBlock(a)}, ofCert(l.cert(m)), true}
	found := 0
	for keep := range 1 << 10 {
		r := l.crashed(x, keep)
		if len(r.Chain()) > 0 {
			break
		}
		if r.State().Lock != m {
			continue
		}
		found++
		l.hear("a transaction", r, ofTx(l.pay(1, 5, 0)), 3)
		l.tick("of a leader whose lock is above its highest cert", r, 4)
		l.hear("the cert at the lock", r, ofCert(l.cert(m)), 4)
		l.tick("of a leader whose lock is above its highest cert", r, 4)
		// Nor in a view that it enters by blames, with nothing voted there.
		all := []api.Vote{l.blame(3, 1), l.blame(3, 2), l.blame(3, 3)}
		l.hear("blames", r, ofBlames(all...), 4, ofBlames(all...), ofCert(cert.First()))
		l.tick("of a leader whose lock is above its highest cert", r, 4)
		b := l.child(a, 4)
		l.hear("a block behind the lock", r, ofBlock(b), 4, ofBlock(b), l.its(0, r.Next(), about(voted, markOf(b), 0)))
		top := l.cert(markOf(b))
		got := r.Hear(l.octets(ofCert(top)), 5)
		if kindsOf(got) != "cert commit-vote block vote" {
			t.Errorf("P20.1: a cert above the lock: [%s]", kindsOf(got))
		}
	}
	if found == 0 {
		t.Error("P20.1: no crash leaves the lock above the highest cert")
	}
}

// A vote may be kept without its block, which nobody heard of: then a leader proposes nothing more in that view.
func TestVotedWithoutItsBlock(t *testing.T) {
	t.Parallel()
	l := labOf(t, 4, 3)
	a := l.first(0, 5)
	x := scene{"a cert of a view below", 2, []api.Message{ofBlock(a), ofTx(l.pay(3, 5, 0)), ofBlames(l.blame(1, 0), l.blame(1, 1), l.blame(1, 3))}, ofCert(l.cert(markOf(a))), true}
	r := l.made(x)
	if got := kindsOf(r.Hear(l.octets(x.last), 2)); got != "cert block vote" {
		t.Fatalf("P20.1: a cert of a view below, to the leader: [%s]", got)
	}
	last, found := r.State().Voted, 0
	for keep := 0; keep < 1<<12; keep += 3 {
		r := l.crashed(x, keep)
		if len(r.Chain()) > 0 {
			break
		}
		if r.State().Voted != last {
			continue
		}
		found++
		l.hear("a transaction", r, ofTx(l.pay(1, 5, 0)), 3)
		l.tick("of a leader that voted what it did not say", r, 4)
	}
	if found == 0 {
		t.Error("P20.1: no crash leaves a vote without its block")
	}
}

// A view may be kept without the vote for its block, which came ahead of it: that is voted at the next tick.
func TestViewWithoutItsVote(t *testing.T) {
	l := labOf(t, 4, 3)
	a := l.first(1, 5)
	x := scene{"blames", 2, []api.Message{ofBlock(a)}, ofBlames(l.blame(0, 0), l.blame(0, 1), l.blame(0, 3)), true}
	found := 0
	for keep := range 1 << 7 {
		r := l.crashed(x, keep)
		if r.State() != entered(1) {
			continue
		}
		found++
		l.tick("in a view whose block came ahead", r, 3, ofBlock(a), l.its(2, 0, about(voted, markOf(a), 2)))
		l.tick("again", r, 3)
	}
	if found == 0 {
		t.Error("P20.1: no crash leaves a view without its vote")
	}
}

// isSafe says if no two unlike votes, or commit-votes, of one view and Height were signed.
func isSafe(t *testing.T, what string, said []api.Vote) {
	t.Helper()
	for i, a := range said {
		for _, b := range said[:i] {
			if a.Kind == b.Kind && a.Kind <= committed && a.View == b.View && a.Height == b.Height && a.Block != b.Block {
				t.Errorf("P20.2: %s: two unlike ones of kind %d in view %d, of Height %d", what, a.Kind, a.View, a.Height)
			}
		}
	}
}

// own are the statements of a replica's own among what it says.
func own(id int, got [][]byte) []api.Vote {
	var out []api.Vote
	for _, b := range got {
		if m := messageOf(b); m.Kind == aVote && m.Vote.Signer == id {
			out = append(out, m.Vote)
		}
	}
	return out
}

// Whatever stays of a vote, and is heard behind the crash, it is voted once; no leaf is used twice.
func TestNoTwoVotesOverACrash(t *testing.T) {
	t.Parallel()
	l := labOf(t, 4, 3)
	a, b := l.first(0, 5), l.first(0, 6)
	a2, b2 := l.child(a, 0), l.child(b, 0)
	for keep := range 600 {
		r := l.new(2)
		r.Fail(l.octets(ofBlock(a)), 1, keep)
		if err := r.Up(2); err != api.OK {
			t.Fatalf("P20.1: Up = %d", err)
		}
		kept := r.State().Voted
		var said []api.Vote
		for _, x := range []api.Block{b, a, b2, a2} {
			said = append(said, own(2, r.Hear(l.octets(ofBlock(x)), 3))...)
		}
		for _, v := range said {
			if kept != (api.Mark{}) && v.Kind == voted && v.Height == 1 {
				t.Errorf("P20.2: %d octets stayed, the vote too: it votes for one of Height 1 again", keep)
			}
		}
		if len(said) == 0 {
			t.Errorf("P20.2: %d octets stayed: nothing is said of four blocks", keep)
		}
		isSafe(t, "a crash", said)
		leafOnce(t, l, said)
	}
}

// leafOnce says if statements use each leaf once, rising.
func leafOnce(t *testing.T, l lab, said []api.Vote) {
	t.Helper()
	last := map[int]int{}
	for _, v := range said {
		leaf := l.leafOf(v)
		if at, ok := last[v.Signer]; ok && at >= leaf {
			t.Errorf("P20.2: replica %d uses leaf %d behind leaf %d", v.Signer, leaf, at)
		}
		last[v.Signer] = leaf
	}
}

// has says if a replica that heard a block, crashed, and kept so many octets of that, has it.
func (l lab) has(a api.Block, keep int) bool {
	l.t.Helper()
	r := l.crashed(scene{"a block", 2, nil, ofBlock(a), true}, keep)
	return len(r.Hear(l.octets(ofAsked(nameOf(a))), 3)) > 0
}

// A disk that is full: nothing is said, nothing changes, and it is down till it is up again.
func TestFullDisk(t *testing.T) {
	t.Parallel()
	l := labOf(t, 4, 3)
	a := l.first(0, 5)
	fits := 0
	for size := range 700 {
		r, err := replica.New(l.c, 2, size, 0)
		if err != api.OK {
			t.Fatalf("P20.1: New of room %d = %d", size, err)
		}
		l.hear("a transaction", r, ofTx(l.pay(0, 5, 0)), 1)
		l.hear("a vote", r, ofVote(l.votes(markOf(a), 0)[0]), 1)
		l.tick("with nothing due", r, 1)
		if r.Down() {
			t.Fatalf("P20.1: room %d: down, with nothing to write", size)
		}
		got := r.Hear(l.octets(ofBlock(a)), 1)
		if fits > 0 && len(got) == 0 {
			t.Errorf("P20.1: room %d: nothing is said, but with room %d", size, fits)
		}
		if len(got) > 0 {
			l.says("a block", got, ofBlock(a), l.its(2, 0, about(voted, markOf(a), 2)))
			stands(t, "a block", r, false, guard.State{Voted: markOf(a), Lock: api.Mark{Block: zeros}}, 1, held.Held{})
			if fits == 0 {
				fits = size
			}
			continue
		}
		for range 2 {
			stands(t, "a full disk", r, true, atFirst(), 0, held.Held{})
			signs(t, "a full disk", r)
			l.hear("a block, down", r, ofBlock(a), 2)
			if err := r.Up(3); err != api.OK {
				t.Errorf("P20.1: Up behind a full disk = %d", err)
			}
			stands(t, "up again", r, false, atFirst(), 0, held.Held{})
			// What is never written goes on.
			l.hear("a block that it has not, asked for", r, ofAsked(nameOf(a)), 3)
			l.hear("the block again", r, ofBlock(a), 3)
		}
	}
	// As many octets as a crash has to leave for all to stay.
	written := 0
	for l.crashed(scene{"a block", 2, nil, ofBlock(a), true}, written).Next() < 1 || !l.has(a, written) {
		written++
	}
	if fits != written {
		t.Errorf("P20.1: a room of %d octets is enough for %d", fits, written)
	}
}

// A disk that is full in between: what was flushed ahead stays.
func TestFullDiskBehindSome(t *testing.T) {
	l := labOf(t, 4, 3)
	row := l.row(0, 8)
	r, err := replica.New(l.c, 3, 9000, 0)
	if err != api.OK {
		t.Fatalf("P20.1: New = %d", err)
	}
	for _, b := range row {
		s, next, chain, signed := r.State(), r.Next(), r.Chain(), r.Signed()
		if got := r.Hear(l.octets(ofBlock(b)), 1); len(got) > 0 {
			continue
		}
		stands(t, "a full disk", r, true, s, next, held.Held{}, chain...)
		signs(t, "a full disk", r, signed...)
		if len(chain) < 2 || r.Up(2) != api.OK {
			t.Errorf("P20.1: a disk that is full behind %d blocks", len(chain))
		}
		stands(t, "up again", r, false, s, next, held.Held{}, chain...)
		r.Fail(l.octets(ofBlock(b)), 3, 1<<20)
		stands(t, "a full disk, and a crash", r, true, s, next, held.Held{}, chain...)
		return
	}
	t.Error("P20.1: a disk of 9000 octets is not full behind 8 blocks")
}

// A key that is used up signs nothing any more, and all else goes on.
func TestUsedKey(t *testing.T) {
	l := labOf(t, 7, 2)
	r := l.new(6)
	now := 0
	for view := range leaves {
		l.hear("a transaction", r, ofTx(l.pay(0, 5, 1)), now)
		now += most
		if got := own(6, r.Tick(now)); len(got) != 1 || got[0].Kind != blamed || l.leafOf(got[0]) != view {
			t.Fatalf("P20.1: blame %d = %+v", view, got)
		}
		// Another one's makes two.
		l.hear("a blame", r, ofVote(l.blame(view, 1)), now, ofBlames(l.blame(view, 1), l.state(view, api.Vote{Kind: blamed, View: view, Signer: 6})), ofCert(cert.First()))
	}
	stands(t, "a used key", r, false, entered(leaves), leaves, held.Held{})
	l.tick("late", r, now+1000)
	a := l.first(leaves, 5)
	c := l.cert(markOf(a))
	l.hear("a block", r, ofBlock(a), now, ofBlock(a))
	l.hear("a block again", r, ofBlock(a), now)
	l.hear("a cert", r, ofCert(c), now, ofCert(c))
	l.hear("a cert again", r, ofCert(c), now)
	l.tick("with reports due", r, now+1000)
	l.hear("a block, asked for", r, ofAsked(nameOf(a)), now, ofBlock(a))
	two := ofBlames(l.blame(19, 1), l.blame(19, 2))
	l.hear("blames", r, two, now, two, ofCert(c))
	// It leads view 20, and proposes nothing.
	l.hear("a transaction", r, ofTx(l.pay(1, 5, 0)), now)
	l.tick("of a leader", r, now)
	signed := r.Signed()
	if len(signed) != leaves || r.Next() != leaves || r.State().View != 20 {
		t.Errorf("P20.1: a used key: %d signed, Next %d, view %d", len(signed), r.Next(), r.State().View)
	}
	r.Fail(nil, now, 0)
	if r.Up(now) != api.OK || r.Next() != leaves || !slices.Equal(r.Signed(), signed) {
		t.Errorf("P20.1: a used key behind a crash: Next %d", r.Next())
	}
}
