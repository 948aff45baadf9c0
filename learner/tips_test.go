package learner_test

import (
	"fmt"
	"slices"
	"testing"

	"moot/api"
	"moot/cert"
	"moot/learner"
)

// isTips says if a learner's tips are these.
func isTips(t *testing.T, what string, x *learner.Learner, want ...api.Mark) {
	t.Helper()
	if got := x.Tips(); !slices.Equal(got, want) {
		t.Errorf("P22.1: %s: Tips = %s, want %s", what, brief(got), brief(want))
	}
}

// inAnyOrder calls f with each order of messages.
func inAnyOrder(l []api.Message, f func(l []api.Message)) {
	var from func(k int)
	from = func(k int) {
		if k == len(l) {
			f(l)
			return
		}
		for i := k; i < len(l); i++ {
			l[k], l[i] = l[i], l[k]
			from(k + 1)
			l[k], l[i] = l[i], l[k]
		}
	}
	from(0)
}

// TestTipsOfQuorum: P22.1: of a rule of Kind 1 a block is a tip when N commit-votes about it are there, it and its parents, whatever comes last.
func TestTipsOfQuorum(t *testing.T) {
	l := labOf(t, 4, 2)
	row := l.row(1, 1, 2)
	m := markOf(row[1])
	all := append(ofVotes(l.commits(m, 0, 3, 1)...), ofBlocks(row...)...)
	inAnyOrder(all, func(all []api.Message) {
		x := l.new(byQuorum, 3)
		for i, message := range all {
			isTips(t, fmt.Sprintf("with %d of all messages", i), x)
			l.takes("a message", x, message)
		}
		isTips(t, "with all messages", x, m)
	})
	for n := 2; n <= 4; n++ {
		x := l.new(byQuorum, n)
		l.takes("blocks", x, ofBlocks(row...)...)
		for by := range 4 {
			isTips(t, fmt.Sprintf("a rule of %d, with %d commit-votes", n, by), x, slices.Repeat([]api.Mark{m}, map[bool]int{true: 1}[by >= n])...)
			l.takes("a commit-vote", x, ofVote(l.commit(m, by)))
		}
		isTips(t, fmt.Sprintf("a rule of %d, with all commit-votes", n), x, m)
		l.stands("a tip", x, l.pageOf(byQuorum, n, append(ofBlocks(row...), ofVotes(l.commits(m, 0, 1, 2, 3)...)...)...))
	}
}

// TestTipsOfDelay: P22.1: of a rule of Kind 2 a block is a tip when a quorum reported twice N ticks of it, whoever reported less.
func TestTipsOfDelay(t *testing.T) {
	l := labOf(t, 4, 3)
	row := l.row(1, 1, 2)
	m := markOf(row[1])
	all := append(append(ofVotes(l.reports(m, 10, 0, 3)...), ofVote(l.report(m, 64, 2))), ofBlocks(row...)...)
	inAnyOrder(all, func(all []api.Message) {
		x := l.new(byDelay, 5)
		l.takes("reports of too few ticks", x, ofVotes(append(l.reports(m, 9, 0, 1, 2, 3), l.reports(m, 1, 1)...)...)...)
		for i, message := range all {
			isTips(t, fmt.Sprintf("with %d of all messages", i), x)
			l.takes("a message", x, message)
		}
		isTips(t, "with all messages", x, m)
	})
	for _, n := range []int{1, 2, 3, 16, 31, 32} {
		for _, ticks := range []int{1, 2, 3, 4, 5, 6, 7, 31, 32, 33, 61, 62, 63, 64, 65, maxTicks} {
			x := l.new(byDelay, n)
			l.takes("blocks and reports", x, append(ofBlocks(row...), ofVotes(l.reports(m, ticks, 1, 2, 3)...)...)...)
			isTips(t, fmt.Sprintf("a delay of %d, with reports of %d ticks", n, ticks), x, slices.Repeat([]api.Mark{m}, map[bool]int{true: 1}[ticks >= n+n])...)
		}
	}
}

// TestTipsOfKinds: P22.1: reports do not count for a rule of Kind 1, commit-votes not for one of Kind 2.
func TestTipsOfKinds(t *testing.T) {
	l := labOf(t, 4, 3)
	a, b := l.first(0, 1), l.first(0, 2)
	all := append(ofBlocks(a, b), ofVotes(append(l.commits(markOf(a), 0, 1, 2, 3), l.reports(markOf(b), 64, 0, 1, 2, 3)...)...)...)
	all = append(all, ofVotes(append(l.commits(markOf(b), 0, 1), l.reports(markOf(a), 64, 2, 3)...)...)...)
	for n := 3; n <= 4; n++ {
		x, y := l.new(byQuorum, n), l.new(byDelay, n)
		l.takes("statements of both kinds", x, all...)
		l.takes("statements of both kinds", y, all...)
		isTips(t, "a rule of Kind 1", x, markOf(a))
		isTips(t, "a rule of Kind 2", y, markOf(b))
		l.stands("a rule of Kind 1", x, l.pageOf(byQuorum, n, all...))
		l.stands("a rule of Kind 2", y, l.pageOf(byDelay, n, all...))
	}
}

// TestTipsOfOneSigner: P22.1: whoever says it often is one.
func TestTipsOfOneSigner(t *testing.T) {
	l := labOf(t, 4, 2)
	b := l.first(0, 1)
	m := markOf(b)
	x, y := l.new(byQuorum, 2), l.new(byDelay, 1)
	for _, x := range []*learner.Learner{x, y} {
		l.takes("a block", x, ofBlock(b))
		for ticks := 2; ticks < 40; ticks++ {
			l.takes("a report", x, ofVote(l.report(m, ticks, 3)))
		}
		l.takes("a commit-vote", x, ofVote(l.commit(m, 3)))
		for leaf := range leaves {
			l.refuses("a commit-vote with another Sig", x, ofVote(l.sign(leaf, about(committed, m, 3))))
		}
		isTips(t, "one signer, often", x)
	}
	l.takes("another one's", x, ofVote(l.commit(m, 1)))
	l.takes("another one's", y, ofVote(l.report(m, 2, 1)))
	isTips(t, "two signers", x, m)
	isTips(t, "two signers", y, m)
}

// TestTipsOfOtherMarks: P22.1: statements about a block with another View or Height than its own make it no tip, nor do they count with those of its own.
func TestTipsOfOtherMarks(t *testing.T) {
	l := labOf(t, 4, 2)
	row := l.row(3, 1, 3)
	m := markOf(row[1])
	var wrong []api.Message
	for _, view := range []int{0, 2, 3, 4, maxView} {
		for _, height := range []int{0, 1, 2, 3, maxHeight} {
			if view == m.View && height == m.Height {
				continue
			}
			other := api.Mark{View: view, Height: height, Block: m.Block}
			wrong = append(wrong, ofVotes(append(l.commits(other, 0, 1, 2), l.reports(other, 64, 0, 1, 2)...)...)...)
		}
	}
	for _, kind := range []int{byQuorum, byDelay} {
		x := l.new(kind, 2)
		l.takes("blocks", x, ofBlocks(row...)...)
		l.takes("statements about it with another View, or Height", x, wrong...)
		right := ofVotes(append(l.commits(m, 3), l.reports(m, 64, 3)...)...)
		l.takes("one's statements about it", x, right...)
		isTips(t, "statements with another View or Height", x)
		l.stands("statements with another View or Height", x, l.pageOf(kind, 2, slices.Concat(ofBlocks(row...), wrong, right)...))
		l.takes("another one's", x, ofVotes(append(l.commits(m, 1), l.reports(m, 64, 1)...)...)...)
		isTips(t, "and two with its own", x, m)
	}
}

// TestTipsOfStrangers: P22.1: what is not there is no tip, however much is said of it.
func TestTipsOfStrangers(t *testing.T) {
	l := labOf(t, 3, 2)
	b := l.first(0, 1)
	for _, m := range []api.Mark{{View: 1, Height: 1, Block: stranger}, {Block: stranger}, {View: 0, Height: 1, Block: zeros}, {View: 1, Height: 0, Block: zeros}, {View: maxView, Height: maxHeight, Block: zeros}} {
		for _, kind := range []int{byQuorum, byDelay} {
			x := l.new(kind, 2)
			l.takes("a block, and statements about another one", x, append(ofVotes(append(l.commits(m, 0, 1, 2), l.reports(m, 64, 0, 1, 2)...)...), ofBlock(b))...)
			isTips(t, fmt.Sprintf("statements about what is not there, View %d, Height %d", m.View, m.Height), x)
		}
	}
}

// TestTipsOfFirstBlock: P22.1, P14: the first block's chain is known, its View and Height are 0: enough of it makes it a tip, behind which nothing is committed.
func TestTipsOfFirstBlock(t *testing.T) {
	l := labOf(t, 3, 2)
	m := api.Mark{Block: zeros}
	all := ofVotes(append(l.commits(m, 0, 1), l.reports(m, 8, 2, 1)...)...)
	for _, kind := range []int{byQuorum, byDelay} {
		x := l.new(kind, 2)
		l.takes("statements about the first block", x, all...)
		isTips(t, "statements about the first block", x, m)
		l.stands("statements about the first block", x, l.pageOf(kind, 2, all...))
		b := l.first(0, 1)
		more := append(ofVotes(append(l.commits(markOf(b), 0, 1), l.reports(markOf(b), 8, 2, 1)...)...), ofBlock(b))
		l.takes("more", x, more...)
		isTips(t, "a block behind the first one", x, m, markOf(b))
		l.stands("a block behind the first one", x, l.pageOf(kind, 2, append(all, more...)...))
	}
}

// TestTipsOfWrongParents: P22.1, P14: a block that does not stand on its parent as it should is no tip, nor is what stands on it.
func TestTipsOfWrongParents(t *testing.T) {
	l := labOf(t, 4, 2)
	first := l.first(1, 1)
	later := api.Mark{View: 2, Height: 1, Block: nameOf(first)}
	higher := api.Mark{View: 1, Height: 2, Block: nameOf(first)}
	beside := api.Mark{View: 1, Height: 0, Block: zeros}
	for what, c := range map[string]api.Cert{"another View": l.cert(later), "another Height": l.cert(higher), "the first block with another View": l.cert(beside), "a block that is not there": l.cert(api.Mark{View: 1, Height: 1, Block: stranger})} {
		x := l.new(byQuorum, 2)
		wrong := l.behind(c, 2, 5)
		behind := l.child(wrong, 2, 6)
		all := append(ofBlocks(first, wrong, behind), ofVotes(append(l.commits(markOf(wrong), 0, 1, 2, 3), l.commits(markOf(behind), 0, 1, 2, 3)...)...)...)
		l.takes("blocks on "+what, x, all...)
		isTips(t, "blocks on "+what, x)
		l.stands("blocks on "+what, x, l.pageOf(byQuorum, 2, all...))
		own := ofVotes(l.commits(markOf(first), 1, 2)...)
		l.takes("statements about their parent", x, own...)
		isTips(t, "beside blocks on "+what, x, markOf(first))
		l.stands("beside blocks on "+what, x, l.pageOf(byQuorum, 2, append(all, own...)...))
	}
}

// TestTipsOfMany: P22.1: by View, Height and Block, whatever came first.
func TestTipsOfMany(t *testing.T) {
	l := labOf(t, 2, 1)
	var all []api.Message
	var want []api.Mark
	add := func(b api.Block) api.Block {
		all = append(all, ofBlock(b), ofVote(l.commit(markOf(b), len(all)/2%2)))
		want = append(want, markOf(b))
		return b
	}
	for _, view := range []int{0, 1, 2, 10, 300} {
		low := add(l.first(view, 1))
		add(l.first(view, 2))
		add(l.first(view, 3))
		high := add(l.child(low, view, 1))
		add(l.child(low, view, 2))
		add(l.child(high, view, 1))
		add(l.child(high, view+1, 1))
	}
	slices.SortFunc(want, func(a, b api.Mark) int {
		if a.View != b.View {
			return a.View - b.View
		}
		if a.Height != b.Height {
			return a.Height - b.Height
		}
		return map[bool]int{true: -1, false: 1}[a.Block < b.Block]
	})
	for range 10 {
		x := l.new(byQuorum, 1)
		l.takes("a message", x, all...)
		isTips(t, "of many", x, want...)
		slices.Reverse(all)
		all = append(all[7:], all[:7]...)
	}
}

// TestTipsOfOneReplica: P22.1: of one replica, whose quorum is one, its word is enough.
func TestTipsOfOneReplica(t *testing.T) {
	l := labOf(t, 1, 1)
	b := l.first(5, 1)
	x := l.new(byQuorum, 1)
	l.takes("a block, and one's commit-vote", x, ofBlock(b), ofVote(l.commit(markOf(b), 0)))
	isTips(t, "one of one", x, api.Mark{View: 5, Height: 1, Block: nameOf(b)})
}

// TestTipsOfVotes: P22.1: votes, certs and blames make no tip, though a cert shows as many votes.
func TestTipsOfVotes(t *testing.T) {
	l := labOf(t, 3, 2)
	row := l.row(0, 1, 3)
	x := l.new(byQuorum, 2)
	l.takes("blocks", x, ofBlocks(row...)...)
	l.refuses("a cert", x, api.Message{Kind: aCert, Cert: l.cert(markOf(row[2]))}, api.Message{Kind: aCert, Cert: cert.First()})
	for by := range 3 {
		l.refuses("a vote", x, ofVote(l.sign(3, about(voted, markOf(row[2]), by))))
	}
	isTips(t, "votes alone", x)
}
