package replica_test

import (
	"testing"

	"moot/api"
	"moot/cert"
	"moot/guard"
	"moot/held"
)

// In each lab so many votes as a quorum are a cert, and one less are none.
func TestVotes(t *testing.T) {
	for replicas := 2; replicas <= maxReplicas; replicas++ {
		for quorum := 2; quorum <= replicas; quorum++ {
			l := labOf(t, replicas, quorum)
			m := markOf(l.first(0, 5))
			r := l.new(0)
			for i := replicas - 1; i > replicas-quorum; i-- {
				l.hear("a vote", r, ofVote(l.votes(m, i)[0]), 1)
				l.hear("a vote again", r, ofVote(l.votes(m, i)[0]), 1)
				l.hear("a vote again, with another leaf", r, ofVote(l.state(3, about(voted, m, i))), 1)
			}
			stands(t, "one less than a quorum", r, false, atFirst(), 0, held.Held{})
			var by []int
			for i := replicas - quorum; i < replicas; i++ {
				by = append(by, i)
			}
			enough := l.certBy(m, by...)
			l.hear("as many votes as a quorum", r, ofVote(l.votes(m, replicas-quorum)[0]), 1, ofCert(enough))
			stands(t, "as many as a quorum", r, false, guard.State{Lock: m}, 0, held.Held{})
		}
	}
}

func TestVotesThatAreNoCert(t *testing.T) {
	l := labOf(t, 4, 3)
	a, b := l.first(0, 5), l.first(0, 6)
	m, other := markOf(a), markOf(b)
	higher := api.Mark{View: 0, Height: 2, Block: m.Block}
	later := api.Mark{View: 1, Height: 1, Block: m.Block}
	forged := l.votes(m, 3)[0]
	forged.Sig = l.votes(other, 3)[0].Sig
	byOther := l.votes(m, 3)[0]
	byOther.Signer = 2
	held64 := about(reported, m, 3)
	held64.Ticks = 64
	l7 := labOf(t, 7, 3)
	for what, v := range map[string]api.Vote{
		"about another block":   l.votes(other, 3)[0],
		"about another Height":  l.votes(higher, 3)[0],
		"about another View":    l.votes(later, 3)[0],
		"of a signer again":     l.state(2, about(voted, m, 0)),
		"forged":                forged,
		"signed by another one": byOther,
		"that is a commit-vote": l.state(2, about(committed, m, 3)),
		"that is a report":      l.state(2, held64),
		"that is a blame":       l.blame(0, 3),
		"of no replica":         l7.votes(m, 4)[0],
	} {
		r := l.new(2)
		l.hear("a vote", r, ofVote(l.votes(m, 0)[0]), 1)
		l.hear("a vote", r, ofVote(l.votes(m, 1)[0]), 1)
		l.hear("a third one, "+what, r, ofVote(v), 1)
		stands(t, "a third vote "+what, r, false, atFirst(), 0, held.Held{})
		l.hear("a fourth one", r, ofVote(l.votes(m, 3)[0]), 1, ofCert(l.certBy(m, 0, 1, 3)))
		stands(t, "a fourth vote", r, false, guard.State{Lock: m}, 0, held.Held{})
	}
}

// Votes about two blocks are counted for each of them.
func TestVotesAboutTwo(t *testing.T) {
	l := labOf(t, 4, 3)
	a := l.first(0, 5)
	b := l.child(a, 0)
	r := l.new(0)
	for _, i := range []int{3, 1} {
		l.hear("a vote", r, ofVote(l.votes(markOf(a), i)[0]), 1)
		l.hear("a vote", r, ofVote(l.votes(markOf(b), i)[0]), 1)
	}
	l.hear("a third vote", r, ofVote(l.votes(markOf(a), 2)[0]), 1, ofCert(l.certBy(markOf(a), 1, 2, 3)))
	l.hear("a third vote", r, ofVote(l.votes(markOf(b), 2)[0]), 1, ofCert(l.certBy(markOf(b), 1, 2, 3)))
	stands(t, "two certs", r, false, guard.State{Lock: markOf(b)}, 0, held.Held{})
	// The fourth ones make no cert that is new.
	l.hear("a fourth vote", r, ofVote(l.votes(markOf(a), 0)[0]), 1)
	l.hear("a fourth vote", r, ofVote(l.votes(markOf(b), 0)[0]), 1)
}

// Its own vote is heard: with it two others are three.
func TestOwnVoteCounts(t *testing.T) {
	l := labOf(t, 4, 3)
	a := l.first(0, 5)
	m := markOf(a)
	r := l.new(2)
	own := l.its(2, 0, about(voted, m, 2))
	l.hear("a block", r, ofBlock(a), 1, ofBlock(a), own)
	l.hear("its own vote", r, own, 1)
	l.hear("a vote", r, ofVote(l.votes(m, 3)[0]), 1)
	enough := api.Cert{View: 0, Height: 1, Block: m.Block, Votes: []api.Vote{l.votes(m, 0)[0], own.Vote, l.votes(m, 3)[0]}}
	l.hear("a third vote", r, ofVote(l.votes(m, 0)[0]), 4, ofCert(enough), l.its(2, 1, about(committed, m, 2)))
	stands(t, "a quorum of votes", r, false, guard.State{Voted: m, Commit: m, Lock: m}, 2, held.Held{Mark: m, Since: 4}, a)
	// Votes ahead of a block: with its own, said behind it, they are a cert at once.
	r = l.new(2)
	l.hear("a vote", r, ofVote(l.votes(m, 0)[0]), 1)
	l.hear("a vote", r, ofVote(l.votes(m, 3)[0]), 1)
	l.hear("a block", r, ofBlock(a), 4, ofBlock(a), own, ofCert(enough), l.its(2, 1, about(committed, m, 2)))
}

func TestHearOfACert(t *testing.T) {
	l := labOf(t, 4, 3)
	row := l.row(0, 3)
	c1, c2, c3 := l.cert(markOf(row[0])), l.certBy(markOf(row[1]), 1, 2, 3), l.certBy(markOf(row[2]), 0, 1, 3)
	r := l.new(3)
	l.hear("the first cert", r, ofCert(cert.First()), 1)
	l.hear("a cert above the lock", r, ofCert(c2), 1, ofCert(c2))
	stands(t, "a cert of a block that is not known", r, false, guard.State{Lock: markOf(row[1])}, 0, held.Held{})
	l.hear("a cert at the lock", r, ofCert(c2), 1)
	l.hear("a cert at the lock, of others", r, ofCert(l.certBy(markOf(row[1]), 0, 1, 2)), 1)
	l.hear("a cert below the lock", r, ofCert(c1), 1)
	stands(t, "certs below the lock", r, false, guard.State{Lock: markOf(row[1])}, 0, held.Held{})
	fewer, forged, again := c3, l.certBy(markOf(row[2]), 0, 1, 3), l.certBy(markOf(row[2]), 0, 1, 1)
	fewer.Votes = fewer.Votes[1:]
	forged.Votes[1].Sig = forged.Votes[0].Sig
	for _, c := range []api.Cert{fewer, forged, again, l.certBy(markOf(row[2]), 1, 0, 3), l.certBy(markOf(row[2]), 0, 1, 2, 3), {View: 0, Height: 3, Block: nameOf(row[2])}} {
		l.hear("a cert that is not right", r, ofCert(c), 1)
	}
	stands(t, "certs that are not right", r, false, guard.State{Lock: markOf(row[1])}, 0, held.Held{})
	l.hear("a cert above the lock", r, ofCert(c3), 1, ofCert(c3))
	stands(t, "a cert", r, false, guard.State{Lock: markOf(row[2])}, 0, held.Held{})
}

// What is certified, and there, is commit-voted, each higher one once, and is held from now on.
func TestCommitVotes(t *testing.T) {
	l := labOf(t, 4, 3)
	row := l.row(0, 3)
	var m []api.Mark
	for _, b := range row {
		m = append(m, markOf(b))
	}
	r := l.new(3)
	for i, b := range row {
		// Each one's Justify is heard with it.
		r.Hear(l.octets(ofBlock(b)), i+1)
	}
	// Three votes, and commit-votes for the first two.
	s := guard.State{Voted: m[2], Commit: m[1], Lock: m[1]}
	stands(t, "three blocks", r, false, s, 5, held.Held{Mark: m[1], Since: 3}, row[:2]...)
	signs(t, "three blocks", r, textOf(about(voted, m[0], 3)), textOf(about(committed, m[0], 3)), textOf(about(voted, m[1], 3)), textOf(about(committed, m[1], 3)), textOf(about(voted, m[2], 3)))
	for i := range 2 {
		l.hear("a cert again", r, ofCert(l.cert(m[i])), 9)
	}
	stands(t, "certs again", r, false, s, 5, held.Held{Mark: m[1], Since: 3}, row[:2]...)
	l.hear("the third cert", r, ofCert(l.cert(m[2])), 9, ofCert(l.cert(m[2])), l.its(3, 5, about(committed, m[2], 3)))
	s.Commit, s.Lock = m[2], m[2]
	stands(t, "the third cert", r, false, s, 6, held.Held{Mark: m[2], Since: 9}, row...)
}

// A cert below the lock is commit-voted, too, where nothing was commit-voted yet.
func TestCommitVoteBelowTheLock(t *testing.T) {
	l := labOf(t, 4, 3)
	row := l.row(0, 3)
	r := l.new(3)
	l.hear("the first block", r, ofBlock(row[0]), 1, ofBlock(row[0]), l.its(3, 0, about(voted, markOf(row[0]), 3)))
	l.hear("the third cert", r, ofCert(l.cert(markOf(row[2]))), 2, ofCert(l.cert(markOf(row[2]))))
	l.hear("the first cert", r, ofCert(l.cert(markOf(row[0]))), 3, l.its(3, 1, about(committed, markOf(row[0]), 3)))
	s := guard.State{Voted: markOf(row[0]), Commit: markOf(row[0]), Lock: markOf(row[2])}
	stands(t, "a cert below the lock", r, false, s, 2, held.Held{Mark: markOf(row[0]), Since: 3})
	l.hear("the second block", r, ofBlock(row[1]), 4)
	// Its Justify is heard as a cert, and then there is the third one.
	l.hear("the third block", r, ofBlock(row[2]), 5, l.its(3, 2, about(committed, markOf(row[1]), 3)), l.its(3, 3, about(committed, markOf(row[2]), 3)))
	s.Commit = markOf(row[2])
	stands(t, "the third block", r, false, s, 4, held.Held{Mark: markOf(row[2]), Since: 5}, row...)
}

// A cert whose mark is not its block's is no commit-vote's.
func TestCertsOfWrongMarks(t *testing.T) {
	l := labOf(t, 4, 3)
	b := l.first(0, 5)
	m := markOf(b)
	for _, c := range []api.Mark{{View: 0, Height: 2, Block: m.Block}, {View: 0, Height: 1, Block: stranger}, {View: 1, Height: 1, Block: m.Block}} {
		r := l.new(3)
		r.Hear(l.octets(ofBlock(b)), 1)
		l.hear("a cert of another mark", r, ofCert(l.cert(c)), 1, ofCert(l.cert(c)))
		if r.Holds() != (held.Held{}) || r.State().Commit != (api.Mark{}) || r.State().Lock != c {
			t.Errorf("P20.1: behind a cert of %+v it holds %+v", c, r.Holds())
		}
	}
}

// A view above is entered by a cert: nothing is held any more, and the block of that view may be held at once.
func TestCertOfAViewAbove(t *testing.T) {
	l := labOf(t, 4, 3)
	a := l.first(0, 5)
	r := l.new(3)
	r.Hear(l.octets(ofBlock(a)), 1)
	r.Hear(l.octets(ofCert(l.cert(markOf(a)))), 1)
	stands(t, "a commit-vote", r, false, guard.State{Voted: markOf(a), Commit: markOf(a), Lock: markOf(a)}, 2, held.Held{Mark: markOf(a), Since: 1}, a)
	c := l.cert(api.Mark{View: 6, Height: 9, Block: stranger})
	l.hear("a cert of a view above", r, ofCert(c), 2, ofCert(c))
	stands(t, "a cert of a view above", r, false, guard.State{View: 6, Voted: markOf(a), Commit: markOf(a), Lock: cert.Mark(c)}, 2, held.Held{})
	b := l.child(a, 8, l.pay(1, 5, 0))
	l.hear("a block of a view above", r, ofBlock(b), 2)
	l.hear("its cert", r, ofCert(l.cert(markOf(b))), 3, ofCert(l.cert(markOf(b))), l.its(3, 2, about(committed, markOf(b), 3)))
	s := guard.State{View: 8, Voted: markOf(a), Commit: markOf(b), Lock: markOf(b)}
	stands(t, "a cert of a view above, and its block", r, false, s, 3, held.Held{Mark: markOf(b), Since: 3}, a, b)
	l.hear("a cert of a view below", r, ofCert(c), 4)
	top := l.cert(api.Mark{View: maxView, Height: maxHeight, Block: stranger})
	l.hear("the highest cert that may be", r, ofCert(top), 4, ofCert(top))
	s.View, s.Lock = maxView, cert.Mark(top)
	stands(t, "the highest cert that may be", r, false, s, 3, held.Held{})
}

// Votes of a view below count where their cert is above the lock.
func TestVotesOfAViewBelow(t *testing.T) {
	l := labOf(t, 4, 3)
	a := l.first(0, 5)
	m := markOf(a)
	r := l.new(3)
	l.hear("a vote", r, ofVote(l.votes(m, 0)[0]), 1)
	r.Hear(l.octets(ofBlames(l.blame(0, 0), l.blame(0, 1), l.blame(0, 2))), 1)
	stands(t, "blames", r, false, guard.State{View: 1, Lock: api.Mark{Block: zeros}}, 0, held.Held{})
	l.hear("a vote of a view below", r, ofVote(l.votes(m, 1)[0]), 1)
	l.hear("a vote of a view below", r, ofVote(l.votes(m, 2)[0]), 1, ofCert(l.cert(m)))
	stands(t, "a cert of a view below", r, false, guard.State{View: 1, Lock: m}, 0, held.Held{})
	l.hear("its block", r, ofBlock(a), 1)
	stands(t, "its block", r, false, guard.State{View: 1, Lock: m}, 0, held.Held{}, a)
}
