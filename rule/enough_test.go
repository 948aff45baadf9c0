package rule_test

import (
	"math"
	"math/rand"
	"slices"
	"strings"
	"testing"

	"moot/api"
	"moot/rule"
)

// TestEnoughCommitVotes: P21.1: Kind 1: as many Signers as N, at least 1.
func TestEnoughCommitVotes(t *testing.T) {
	for have := range 9 {
		for _, m := range marks {
			l := byAll(m, []int{0, 1, 2, 3, 4, 5, 6, 7, 8}[:have]...)
			for _, c := range []struct {
				n    int
				want bool
			}{
				{math.MinInt, have > 0}, {-1 << 32, have > 0}, {-have, have > 0}, {-1, have > 0}, {0, have > 0}, {1, have > 0},
				{have - 1, have > 0}, {have, have > 0}, {have + 1, false}, {1 << 32, false}, {1<<32 + 1, false}, {math.MaxInt, false},
			} {
				isEnough(t, "commit-votes", api.Rule{Kind: 1, N: c.n}, 3, m, l, c.want)
			}
		}
	}
}

// TestEnoughOfNothing: P21.1: without statements nothing is enough.
func TestEnoughOfNothing(t *testing.T) {
	for _, kind := range kinds {
		for _, n := range sizes {
			for _, quorum := range sizes {
				isEnough(t, "no statements", api.Rule{Kind: kind, N: n}, quorum, mark, nil, false)
				isEnough(t, "no statements", api.Rule{Kind: kind, N: n}, quorum, api.Mark{}, []api.Vote{}, false)
			}
		}
	}
}

// TestEnoughOfOtherRules: P21.1: of another Kind nothing is enough.
func TestEnoughOfOtherRules(t *testing.T) {
	l := slices.Concat(byAll(mark, 0, 1, 2, 3, 4, 5, 6), heldByAll(mark, 64, 0, 1, 2, 3, 4, 5, 6))
	for _, kind := range kinds {
		if kind == 1 || kind == 2 {
			isEnough(t, "a Kind that there is", api.Rule{Kind: kind, N: 1}, 1, mark, l, true)
			continue
		}
		for _, n := range sizes {
			for _, quorum := range sizes {
				isEnough(t, "another Kind", api.Rule{Kind: kind, N: n}, quorum, mark, l, false)
			}
		}
		isEnough(t, "another Kind, of statements of that kind", api.Rule{Kind: kind, N: 1}, 1, mark, changed(l, func(v *api.Vote) { v.Kind = kind }), false)
	}
}

// TestEnoughOfOtherKinds: P21.1: statements of other kinds do not count, however many there are.
func TestEnoughOfOtherKinds(t *testing.T) {
	l := heldByAll(mark, 64, 0, 1, 2, 3, 4, 5, 6)
	for _, kind := range kinds {
		other := changed(l, func(v *api.Vote) { v.Kind = kind })
		for _, quorum := range []int{0, 1, 7} {
			isEnough(t, "statements of a kind, Kind 1", api.Rule{Kind: 1, N: quorum}, 1, mark, other, kind == commitVote)
			isEnough(t, "statements of a kind, Kind 2", api.Rule{Kind: 2, N: 1}, quorum, mark, other, kind == report)
		}
		if kind == commitVote || kind == report {
			continue
		}
		// They do not make up for those that lack, and take nothing from those that are there.
		isEnough(t, "too few commit-votes, and others", api.Rule{Kind: 1, N: 3}, 1, mark, slices.Concat(other, byAll(mark, 0, 1), other), false)
		isEnough(t, "enough commit-votes, and others", api.Rule{Kind: 1, N: 3}, 1, mark, slices.Concat(other, byAll(mark, 0, 1, 2), other), true)
		isEnough(t, "too few reports, and others", api.Rule{Kind: 2, N: 1}, 3, mark, slices.Concat(other, heldByAll(mark, 2, 0, 1), other), false)
		isEnough(t, "enough reports, and others", api.Rule{Kind: 2, N: 1}, 3, mark, slices.Concat(other, heldByAll(mark, 2, 0, 1, 2), other), true)
	}
	isEnough(t, "commit-votes and reports of other Signers, Kind 1", api.Rule{Kind: 1, N: 3}, 1, mark, slices.Concat(byAll(mark, 0, 1), heldByAll(mark, 64, 2, 3)), false)
	isEnough(t, "commit-votes and reports of other Signers, Kind 2", api.Rule{Kind: 2, N: 1}, 3, mark, slices.Concat(byAll(mark, 0, 1), heldByAll(mark, 64, 2, 3)), false)
}

// TestEnoughOfOtherMarks: P21.1: statements about what differs in one field do not count.
func TestEnoughOfOtherMarks(t *testing.T) {
	commit, delay := api.Rule{Kind: 1, N: 2}, api.Rule{Kind: 2, N: 3}
	for _, m := range others {
		isEnough(t, "commit-votes about another mark", commit, 2, mark, byAll(m, 0, 1, 2), false)
		isEnough(t, "commit-votes, another mark is asked for", commit, 2, m, byAll(mark, 0, 1, 2), false)
		isEnough(t, "reports about another mark", delay, 2, mark, heldByAll(m, 6, 0, 1, 2), false)
		isEnough(t, "reports, another mark is asked for", delay, 2, m, heldByAll(mark, 6, 0, 1, 2), false)
		isEnough(t, "a commit-vote about this one, and others", commit, 2, mark, slices.Concat(byAll(m, 1, 2), byAll(mark, 0), byAll(m, 3)), false)
		isEnough(t, "a report about this one, and others", delay, 2, mark, slices.Concat(heldByAll(m, 6, 1, 2), heldByAll(mark, 6, 0), heldByAll(m, 6, 3)), false)
		isEnough(t, "commit-votes about both", commit, 2, mark, slices.Concat(byAll(m, 0, 1), byAll(mark, 0, 1)), true)
		isEnough(t, "commit-votes about both, the other one asked for", commit, 2, m, slices.Concat(byAll(m, 0, 1), byAll(mark, 0, 1)), true)
		isEnough(t, "reports about both", delay, 2, mark, slices.Concat(heldByAll(m, 6, 0, 1), heldByAll(mark, 6, 0, 1)), true)
		isEnough(t, "reports about both, the other one asked for", delay, 2, m, slices.Concat(heldByAll(mark, 6, 0, 1), heldByAll(m, 6, 0, 1)), true)
	}
}

// TestEnoughOfOneSigner: P21.1: one Signer counts once, whatever else its statements say.
func TestEnoughOfOneSigner(t *testing.T) {
	for _, signer := range sizes {
		twice := []api.Vote{by(signer, mark), by(signer, mark)}
		twice[1].Sig, twice[1].Ticks = "another", 5
		isEnough(t, "one Signer's, twice", api.Rule{Kind: 1, N: 1}, 1, mark, twice, true)
		isEnough(t, "one Signer's, twice", api.Rule{Kind: 1, N: 2}, 1, mark, twice, false)
		isEnough(t, "one Signer's, and another one's", api.Rule{Kind: 1, N: 2}, 1, mark, slices.Concat(twice, byAll(mark, signer^1)), true)

		reports := []api.Vote{held(signer, mark, 6), held(signer, mark, 6), held(signer, mark, 7)}
		reports[1].Sig = "another"
		isEnough(t, "one Signer's, of more and more", api.Rule{Kind: 2, N: 3}, 1, mark, reports, true)
		isEnough(t, "one Signer's, of more and more", api.Rule{Kind: 2, N: 3}, 2, mark, reports, false)
		isEnough(t, "one Signer's, and another one's", api.Rule{Kind: 2, N: 3}, 2, mark, slices.Concat(reports, heldByAll(mark, 6, signer^1)), true)
	}
	one := slices.Repeat(byAll(mark, 4), 1000)
	isEnough(t, "one Signer's, a thousand times", api.Rule{Kind: 1, N: 2}, 1, mark, one, false)
	isEnough(t, "one Signer's, a thousand times", api.Rule{Kind: 1, N: 1000}, 1, mark, one, false)
	isEnough(t, "two Signers', each a thousand times", api.Rule{Kind: 1, N: 2}, 1, mark, append(slices.Repeat(byAll(mark, 3), 1000), one...), true)
	isEnough(t, "two Signers', each a thousand times", api.Rule{Kind: 1, N: 3}, 1, mark, append(slices.Repeat(byAll(mark, 3), 1000), one...), false)
}

// TestEnoughOfAnySigners: P21.1: Signers that may not be count as others do, each as one of its own.
func TestEnoughOfAnySigners(t *testing.T) {
	l, reports := byAll(mark, sizes...), heldByAll(mark, 6, sizes...)
	for have := range len(sizes) + 1 {
		for _, n := range []int{have - 1, have, have + 1} {
			want := have > 0 && have >= n
			isEnough(t, "any Signers, Kind 1", api.Rule{Kind: 1, N: n}, 1, mark, l[:have], want)
			isEnough(t, "any Signers, Kind 2", api.Rule{Kind: 2, N: 3}, n, mark, reports[:have], want)
			isEnough(t, "any Signers twice, Kind 1", api.Rule{Kind: 1, N: n}, 1, mark, slices.Concat(l[:have], l[:have]), want)
			isEnough(t, "any Signers twice, Kind 2", api.Rule{Kind: 2, N: 3}, n, mark, slices.Concat(reports[:have], reports[:have]), want)
		}
	}
	isEnough(t, "Signers below 0 and above MaxReplicas", api.Rule{Kind: 1, N: 3}, 1, mark, byAll(mark, -1, 8, 1<<32-1), true)
	isEnough(t, "Signers below 0 and above MaxReplicas", api.Rule{Kind: 2, N: 3}, 3, mark, heldByAll(mark, 6, -1, 8, 1<<32-1), true)
}

// TestEnoughOfAnySigs: P21.1: Sigs are not looked at.
func TestEnoughOfAnySigs(t *testing.T) {
	for _, sig := range []string{"", "a", "\x00", strings.Repeat("s", 5000)} {
		set := func(v *api.Vote) { v.Sig = sig }
		isEnough(t, "any Sigs", api.Rule{Kind: 1, N: 3}, 1, mark, changed(byAll(mark, 0, 1, 2), set), true)
		isEnough(t, "any Sigs", api.Rule{Kind: 1, N: 4}, 1, mark, changed(byAll(mark, 0, 1, 2), set), false)
		isEnough(t, "any Sigs", api.Rule{Kind: 2, N: 3}, 3, mark, changed(heldByAll(mark, 6, 0, 1, 2), set), true)
		isEnough(t, "any Sigs", api.Rule{Kind: 2, N: 3}, 4, mark, changed(heldByAll(mark, 6, 0, 1, 2), set), false)
	}
}

// TestEnoughCommitVotesOfAnyTicks: P21.1: neither Ticks nor the quorum matter to Kind 1.
func TestEnoughCommitVotesOfAnyTicks(t *testing.T) {
	for _, ticks := range sizes {
		l := changed(byAll(mark, 0, 1, 2), func(v *api.Vote) { v.Ticks = ticks })
		for _, quorum := range sizes {
			isEnough(t, "any Ticks and quorum", api.Rule{Kind: 1, N: 3}, quorum, mark, l, true)
			isEnough(t, "any Ticks and quorum", api.Rule{Kind: 1, N: 4}, quorum, mark, l, false)
			isEnough(t, "any Ticks and quorum", api.Rule{Kind: 1, N: 0}, quorum, mark, l, true)
		}
	}
}

// TestEnoughReports: P21.1: Kind 2: as many Signers as the quorum, at least 1.
func TestEnoughReports(t *testing.T) {
	for have := range 9 {
		for _, m := range marks {
			l := heldByAll(m, 64, []int{0, 1, 2, 3, 4, 5, 6, 7, 8}[:have]...)
			for _, c := range []struct {
				quorum int
				want   bool
			}{
				{math.MinInt, have > 0}, {-1 << 32, have > 0}, {-have, have > 0}, {-1, have > 0}, {0, have > 0}, {1, have > 0},
				{have - 1, have > 0}, {have, have > 0}, {have + 1, false}, {1 << 32, false}, {1<<32 + 1, false}, {math.MaxInt, false},
			} {
				isEnough(t, "reports", api.Rule{Kind: 2, N: 32}, c.quorum, m, l, c.want)
			}
		}
	}
}

// TestEnoughTicks: P21.1: Kind 2: of Ticks one below twice N, at it and above.
func TestEnoughTicks(t *testing.T) {
	for _, n := range []int{0, 1, 2, 3, 4, 16, 31, 32, 33, 64, 1000, maxTicks/2 - 1, maxTicks / 2, maxTicks/2 + 1, maxTicks - 1, maxTicks} {
		r := api.Rule{Kind: 2, N: n}
		for _, c := range []struct {
			ticks int
			want  bool
		}{
			{math.MinInt, false}, {-2 * n, n == 0}, {-1, false}, {2*n - 1, false}, {2 * n, true}, {2*n + 1, true}, {4*n + 2, true}, {n, n == 0}, {1<<32 + 2*n, true}, {math.MaxInt, true},
		} {
			isEnough(t, "Ticks at the edge", r, 3, mark, heldByAll(mark, c.ticks, 0, 1, 2), c.want)
			isEnough(t, "Ticks of one at the edge", r, 3, mark, slices.Concat(heldByAll(mark, 2*n, 0, 1), heldByAll(mark, c.ticks, 2)), c.want)
			isEnough(t, "Ticks of one at the edge, ahead", r, 3, mark, slices.Concat(heldByAll(mark, c.ticks, 2), heldByAll(mark, 2*n, 0, 1)), c.want)
		}
	}
}

// TestEnoughOfTooFewTicksAndEnough: P21.1: one Signer's reports of too few Ticks take nothing from one of enough, in both orders.
func TestEnoughOfTooFewTicksAndEnough(t *testing.T) {
	r := api.Rule{Kind: 2, N: 3}
	few, full := heldByAll(mark, 5, 0, 1, 2), heldByAll(mark, 6, 0, 1, 2)
	isEnough(t, "too few alone", r, 1, mark, few, false)
	isEnough(t, "too few, then enough", r, 3, mark, slices.Concat(few, full), true)
	isEnough(t, "enough, then too few", r, 3, mark, slices.Concat(full, few), true)
	isEnough(t, "enough between too few", r, 3, mark, slices.Concat(few, full, few), true)
	isEnough(t, "too few of all, enough of two", r, 3, mark, slices.Concat(few, full[1:]), false)
	isEnough(t, "enough of two, too few of all", r, 3, mark, slices.Concat(full[1:], few), false)
	isEnough(t, "too few twice, which are enough together", r, 1, mark, slices.Concat(few, few, few), false)
	isEnough(t, "too few of more Signers than are asked for", r, 1, mark, heldByAll(mark, 5, 0, 1, 2, 3, 4, 5, 6), false)
}

// TestEnoughOfDelays: P21.1: of an N not from 0 to MaxTicks nothing is enough, also where twice N would run over.
func TestEnoughOfDelays(t *testing.T) {
	var l []api.Vote
	for _, ticks := range sizes {
		l = append(l, heldByAll(mark, ticks, 0, 1, 2)...)
	}
	for _, n := range sizes {
		for _, quorum := range []int{math.MinInt, 0, 1, 3} {
			isEnough(t, "a delay of any size", api.Rule{Kind: 2, N: n}, quorum, mark, l, n >= 0 && n <= 1<<20)
		}
		isEnough(t, "a delay of any size, a quorum of one more", api.Rule{Kind: 2, N: n}, 4, mark, l, false)
	}
	for _, n := range []int{-1, math.MinInt, math.MinInt + 1, maxTicks + 1, 1 << 62, 1 << 61, math.MaxInt, -1 << 62} {
		for _, ticks := range []int{math.MinInt, -2, -1, 0, 1, 2, 2 * maxTicks, 2*maxTicks + 1, 2*maxTicks + 2, 1 << 62, math.MaxInt} {
			isEnough(t, "a delay that may not be", api.Rule{Kind: 2, N: n}, 1, mark, heldByAll(mark, ticks, 0, 1, 2), false)
		}
	}
	isEnough(t, "a delay of 0", api.Rule{Kind: 2, N: 0}, 3, mark, heldByAll(mark, 0, 0, 1, 2), true)
	isEnough(t, "a delay of 0, of Ticks below", api.Rule{Kind: 2, N: 0}, 1, mark, heldByAll(mark, -1, 0, 1, 2), false)
	isEnough(t, "a delay of MaxTicks", api.Rule{Kind: 2, N: maxTicks}, 3, mark, heldByAll(mark, 2*maxTicks, 0, 1, 2), true)
	isEnough(t, "a delay of MaxTicks, of Ticks one below", api.Rule{Kind: 2, N: maxTicks}, 1, mark, heldByAll(mark, 2*maxTicks-1, 0, 1, 2), false)
	isEnough(t, "a delay one above MaxTicks", api.Rule{Kind: 2, N: maxTicks + 1}, 1, mark, heldByAll(mark, 2*maxTicks+2, 0, 1, 2), false)
}

// TestEnoughOfSizes: P21.1, P1: any numbers in a rule and its quorum.
func TestEnoughOfSizes(t *testing.T) {
	ends(t, "Enough", func() {
		l := slices.Concat(byAll(mark, sizes...), heldByAll(mark, 6, 0, 1, 2, 3), heldByAll(mark, math.MaxInt, -4, -5), byAll(others[0], 100, 101))
		for _, kind := range kinds {
			for _, n := range sizes {
				for _, quorum := range sizes {
					r := api.Rule{Kind: kind, N: n}
					isEnough(t, "sizes", r, quorum, mark, l, enoughOf(r, quorum, mark, l))
				}
			}
		}
	})
}

// TestEnoughDrawn: P21.1: drawn statements, rules and marks, held against the reckoning.
func TestEnoughDrawn(t *testing.T) {
	r := rand.New(rand.NewSource(211))
	times := map[api.Rule][2]int{}
	for range 30000 {
		c, quorum := drawnRule(r), r.Intn(9)-1
		m, l := drawnMark(r), drawnVotes(r, 2*c.N)
		if r.Intn(2) == 0 {
			m = mark
		}
		want := enoughOf(c, quorum, m, l)
		isEnough(t, "drawn ones", c, quorum, m, l, want)
		isEnough(t, "drawn ones in another order", c, quorum, m, shuffled(r, l), want)
		count := times[c]
		if want {
			count[1]++
		} else {
			count[0]++
		}
		times[c] = count
	}
	for kind := 1; kind <= 2; kind++ {
		for n := range 6 {
			if count := times[api.Rule{Kind: kind, N: n}]; count[0] < 20 || count[1] < 20 {
				t.Errorf("of Kind %d and N %d it was %d times not enough, %d times enough", kind, n, count[0], count[1])
			}
		}
	}
}

// TestNoLessEnough: P21.2: with more statements, ahead, behind or between, there is no less enough.
func TestNoLessEnough(t *testing.T) {
	r := rand.New(rand.NewSource(212))
	stays, comes := 0, 0
	for range 20000 {
		c, quorum := drawnRule(r), r.Intn(6)
		l, more := drawnVotes(r, 2*c.N), drawnVotes(r, 2*c.N)
		was := rule.Enough(c, quorum, mark, l)
		all := [][]api.Vote{slices.Concat(l, more), slices.Concat(more, l), slices.Concat(more, l, more), shuffled(r, slices.Concat(l, more))}
		is := rule.Enough(c, quorum, mark, all[0])
		for _, both := range all {
			if got := rule.Enough(c, quorum, mark, both); got != is || was && !got {
				t.Fatalf("P21.2: Enough(%v, %d, %v, %+v) = %v, of %+v of them %v", c, quorum, mark, both, got, l, was)
			}
		}
		switch {
		case was:
			stays++
		case is:
			comes++
		}
	}
	if stays < 1000 || comes < 1000 {
		t.Errorf("enough stayed %d times, and came %d times", stays, comes)
	}
}

// TestOneByOne: P21.2: statements that come one by one: once there is enough, there is.
func TestOneByOne(t *testing.T) {
	r := rand.New(rand.NewSource(213))
	came := 0
	for range 1000 {
		c, quorum := api.Rule{Kind: 1 + r.Intn(2), N: 1 + r.Intn(4)}, 1+r.Intn(4)
		var l []api.Vote
		was := false
		for range 40 {
			l = append(l, drawnVote(r, 2*c.N))
			is := rule.Enough(c, quorum, mark, l)
			if was && !is || is != enoughOf(c, quorum, mark, l) {
				t.Fatalf("P21.2: Enough(%v, %d, %v, %+v) = %v, without the last one %v", c, quorum, mark, l, is, was)
			}
			was = is
		}
		if was {
			came++
		}
	}
	if came < 500 {
		t.Errorf("there was enough only %d times", came)
	}
}
