package replica_test

import (
	"slices"
	"testing"

	"moot/api"
	"moot/cert"
	"moot/guard"
	"moot/held"
	"moot/replica"
)

// entered is the state of a replica that signed nothing, in that view.
func entered(view int) guard.State {
	return guard.State{View: view, Lock: api.Mark{Block: zeros}}
}

func TestBlames(t *testing.T) {
	for replicas := 2; replicas <= maxReplicas; replicas++ {
		for quorum := 2; quorum <= replicas; quorum++ {
			for _, view := range []int{0, 1, 5, maxView} {
				l := labOf(t, replicas, quorum)
				r := l.new(0)
				var all []api.Vote
				for i := replicas - quorum; i < replicas; i++ {
					all = append(all, l.blame(view, i))
				}
				for _, v := range slices.Backward(all[1:]) {
					l.hear("a blame", r, ofVote(v), 1)
					l.hear("a blame again", r, ofVote(v), 1)
					l.hear("a blame again, among others", r, ofBlames(v, l.state(3, api.Vote{Kind: blamed, View: view, Signer: v.Signer})), 1)
				}
				stands(t, "one less than a quorum of blames", r, false, atFirst(), 0, held.Held{})
				l.hear("as many blames as a quorum", r, ofVote(all[0]), 1, ofBlames(all...), ofCert(cert.First()))
				stands(t, "as many blames as a quorum", r, false, entered(view+1), 0, held.Held{})
				l.hear("all blames again", r, ofBlames(all...), 1)
				stands(t, "all blames again", r, false, entered(view+1), 0, held.Held{})
			}
		}
	}
}

// Blames of a view below, of its own, and above; what is no blame, or not valid, counts nothing.
func TestBlamesOfViews(t *testing.T) {
	l := labOf(t, 4, 2)
	r := l.new(3)
	c := l.cert(api.Mark{View: 4, Height: 1, Block: stranger})
	l.hear("a cert", r, ofCert(c), 1, ofCert(c))
	s := guard.State{View: 4, Lock: cert.Mark(c)}
	for _, view := range []int{0, 3} {
		l.hear("blames of a view below", r, ofBlames(l.blame(view, 0), l.blame(view, 1), l.blame(view, 2)), 1)
	}
	stands(t, "blames of a view below", r, false, s, 0, held.Held{})
	forged := l.blame(4, 1)
	forged.Signer = 2
	yes := l.state(3, api.Vote{Kind: voted, View: 4, Height: 2, Block: stranger, Signer: 1})
	l.hear("blames of unlike views, and what is none", r, ofBlames(l.blame(4, 0), l.blame(5, 1), forged, yes), 1)
	l.hear("what is none, but a statement about the view", r, ofVote(yes), 1)
	stands(t, "blames of unlike views", r, false, s, 0, held.Held{})
	l.hear("two blames of the view above", r, ofVote(l.blame(5, 2)), 1, ofBlames(l.blame(5, 1), l.blame(5, 2)), ofCert(c))
	s.View = 6
	stands(t, "two blames of the view above", r, false, s, 0, held.Held{})
	l.hear("a second blame of what was the own view", r, ofVote(l.blame(4, 1)), 1)
	// More blames than a quorum in one message: the first ones are enough.
	l.hear("four blames", r, ofBlames(l.blame(6, 3), l.blame(6, 1), l.blame(6, 0), l.blame(6, 2)), 1, ofBlames(l.blame(6, 1), l.blame(6, 3)), ofCert(c))
	s.View = 7
	stands(t, "four blames", r, false, s, 0, held.Held{})
	l.hear("no blames", r, ofBlames(), 1)
}

// Votes that stand among blames are no votes that were said.
func TestVotesAmongBlames(t *testing.T) {
	l := labOf(t, 4, 2)
	r := l.new(3)
	m := markOf(l.first(0, 5))
	l.hear("votes among blames", r, ofBlames(l.votes(m, 0, 1, 2)...), 1)
	stands(t, "votes among blames", r, false, atFirst(), 0, held.Held{})
}

// Who enters a view holds nothing any more, and says the highest cert.
func TestBlamesWhereABlockIsHeld(t *testing.T) {
	l := labOf(t, 4, 3)
	a := l.first(0, 5)
	r := l.new(3)
	r.Hear(l.octets(ofBlock(a)), 1)
	r.Hear(l.octets(ofCert(l.cert(markOf(a)))), 1)
	all := []api.Vote{l.blame(0, 0), l.blame(0, 1), l.blame(0, 2)}
	l.hear("blames", r, ofBlames(all...), 2, ofBlames(all...), ofCert(l.cert(markOf(a))))
	s := guard.State{View: 1, Voted: markOf(a), Commit: markOf(a), Lock: markOf(a)}
	stands(t, "blames", r, false, s, 2, held.Held{}, a)
	l.tick("when nothing is held any more", r, 50)
	// In the new view the block of the old one is voted and committed no more.
	l.hear("the cert again", r, ofCert(l.cert(markOf(a))), 51)
	l.hear("another block of the old view", r, ofBlock(l.child(a, 0)), 51)
	stands(t, "what is of the old view", r, false, s, 2, held.Held{}, a)
}

// isLate says at which of the ticks from now on replica 6, where a transaction waits, first blames.
func (l lab) isLate(what string, r *replica.Replica, now, want int) {
	l.t.Helper()
	l.hear("a transaction", r, ofTx(l.pay(3, 5, 0)), now)
	view := r.State().View
	for tick := now; tick < want; tick++ {
		l.tick(what+", ahead of its time", r, tick)
	}
	l.tick(what+", late", r, want, l.its(6, 0, api.Vote{Kind: blamed, View: view}))
	l.tick(what+", late again", r, want)
	l.tick(what+", late again", r, want+1000)
	l.tick(what+", at a tick far ahead", r, 0)
}

// isDue says how long a leader has, from the tick of the last thing on, as chapter 18 tells it.
func isDue(tries int) int {
	return min(base<<tries, most)
}

func TestLate(t *testing.T) {
	l := labOf(t, 7, 3)
	l.isLate("a new one", l.new(6), 0, isDue(0))
	// A cert that is above the lock lets the time begin anew, others do not.
	r := l.new(6)
	row := l.row(0, 2)
	l.hear("a cert", r, ofCert(l.cert(markOf(row[1]))), 3, ofCert(l.cert(markOf(row[1]))))
	l.hear("a cert below the lock", r, ofCert(l.cert(markOf(row[0]))), 5)
	l.hear("a cert at the lock", r, ofCert(l.cert(markOf(row[1]))), 5)
	l.isLate("behind a cert", r, 5, 3+isDue(0))
	// Each view that is entered has twice as long as the one ahead, up to the most.
	for tries := 1; tries < 6; tries++ {
		r := l.new(6)
		for view := range tries {
			r.Hear(l.octets(ofBlames(l.blame(view, 0), l.blame(view, 1), l.blame(view, 2))), 10+view)
		}
		l.isLate("behind some views", r, 11+tries, 9+tries+isDue(tries))
		r = l.new(6)
		for view := range tries {
			r.Hear(l.octets(ofCert(l.cert(api.Mark{View: 3*view + 3, Height: 1, Block: stranger}))), 10+view)
		}
		l.isLate("behind some views, by certs", r, 11+tries, 9+tries+isDue(tries))
		// A cert of the view that is its own lets it begin, but no longer.
		c := l.cert(api.Mark{View: 3 * tries, Height: 2, Block: stranger})
		r = l.new(6)
		for view := range tries {
			r.Hear(l.octets(ofCert(l.cert(api.Mark{View: 3*view + 3, Height: 1, Block: stranger}))), 10+view)
		}
		l.hear("a cert of the view", r, ofCert(c), 12+tries, ofCert(c))
		l.isLate("behind a cert of the view", r, 12+tries, 12+tries+isDue(tries))
	}
}

// Nobody is blamed where nothing waits, and each view's leader once.
func TestLateWhereNothingWaits(t *testing.T) {
	l := labOf(t, 4, 3)
	r := l.new(3)
	for _, tick := range []int{4, 5, 1000} {
		l.tick("late, where nothing waits", r, tick)
	}
	l.hear("a transaction", r, ofTx(l.pay(3, 5, 0)), 1000)
	first := l.its(3, 0, api.Vote{Kind: blamed, View: 0})
	l.tick("late", r, 1000, first)
	// Its own blame counts: two more are a quorum.
	l.hear("a blame", r, ofVote(l.blame(0, 2)), 1001)
	l.hear("its own blame", r, first, 1001)
	l.hear("a third blame", r, ofVote(l.blame(0, 0)), 1001, ofBlames(l.blame(0, 0), l.blame(0, 2), first.Vote), ofCert(cert.First()))
	for tick := 1002; tick < 1001+isDue(1); tick++ {
		l.tick("in a new view", r, tick)
	}
	l.tick("late in a new view", r, 1001+isDue(1), l.its(3, 1, api.Vote{Kind: blamed, View: 1}))
	stands(t, "two blames", r, false, entered(1), 2, held.Held{})
	signs(t, "two blames", r, textOf(first.Vote), textOf(api.Vote{Kind: blamed, View: 1, Signer: 3}))
}

// A transaction that is done waits no more: nobody is blamed for it.
func TestLateWhereAllIsDone(t *testing.T) {
	l := labOf(t, 4, 3)
	a := l.first(0, 5)
	r := l.new(3)
	l.hear("a transaction", r, ofTx(a.Txs[0]), 0)
	r.Hear(l.octets(ofBlock(a)), 1)
	r.Hear(l.octets(ofCert(l.cert(markOf(a)))), 1)
	m := markOf(a)
	next := 2
	for tick := 2; tick < 100; tick++ {
		var want []api.Message
		if gone := tick - 2; slices.Contains([]int{1, 2, 4, 8, 16, 32, 64}, gone) {
			v := about(reported, m, 3)
			v.Ticks = gone
			want = append(want, l.its(3, next, v))
			next++
		}
		l.tick("when all is done", r, tick, want...)
	}
	stands(t, "when all is done", r, false, guard.State{Voted: m, Commit: m, Lock: m}, 9, held.Held{Mark: m, Since: 1, Told: 7}, a)
	// Where the chain of the highest cert is not known, nobody knows what is done.
	r = l.new(3)
	l.hear("a transaction", r, ofTx(a.Txs[0]), 0)
	r.Hear(l.octets(ofCert(l.cert(m))), 1)
	l.tick("late, where the chain is not known", r, 1+base, l.its(3, 0, api.Vote{Kind: blamed, View: 0}))
}

// Reports are told when they are due, also where ticks are left out.
func TestReports(t *testing.T) {
	l := labOf(t, 4, 3)
	a := l.first(0, 5)
	m := markOf(a)
	report := func(leaf, ticks int) api.Message {
		v := about(reported, m, 3)
		v.Ticks = ticks
		return l.its(3, leaf, v)
	}
	holder := func() *replica.Replica {
		r := l.new(3)
		r.Hear(l.octets(ofBlock(a)), 10)
		r.Hear(l.octets(ofCert(l.cert(m))), 10)
		return r
	}
	r := holder()
	l.tick("with nothing due", r, 11)
	l.tick("with three reports due", r, 15, report(2, 1), report(3, 2), report(4, 4))
	l.tick("with nothing more due", r, 15)
	l.tick("of a time that goes back", r, 0)
	l.tick("with all reports due", r, 75, report(5, 8), report(6, 16), report(7, 32), report(8, 64))
	l.tick("with nothing more due", r, maxAmount)
	r = holder()
	l.tick("far behind", r, maxAmount, report(2, 1), report(3, 2), report(4, 4), report(5, 8), report(6, 16), report(7, 32), report(8, 64))
	// What is held anew is reported anew: the higher one alone.
	b := l.child(a, 0)
	r = holder()
	l.tick("with one due", r, 12, report(2, 1))
	r.Hear(l.octets(ofBlock(b)), 13)
	l.hear("a cert of a higher one", r, ofCert(l.cert(markOf(b))), 13, ofCert(l.cert(markOf(b))), l.its(3, 4, about(committed, markOf(b), 3)))
	m = markOf(b)
	l.tick("with nothing due", r, 14)
	l.tick("with one due", r, 15, report(5, 1))
}

// All of one tick: reports, then a blame.
func TestReportsAndABlame(t *testing.T) {
	l := labOf(t, 4, 3)
	a := l.first(0, 5)
	r := l.new(3)
	r.Hear(l.octets(ofBlock(a)), 1)
	r.Hear(l.octets(ofCert(l.cert(markOf(a)))), 1)
	l.hear("a transaction", r, ofTx(l.pay(1, 5, 0)), 1)
	v := about(reported, markOf(a), 3)
	v.Ticks = 1
	w := v
	w.Ticks = 2
	l.tick("late, with reports due", r, 5, l.its(3, 2, v), l.its(3, 3, w), l.its(3, 4, api.Vote{Kind: blamed, View: 0}))
	// What is blamed is held on as long as the view is.
	w.Ticks = 4
	l.tick("behind a blame", r, 6, l.its(3, 5, w))
}
