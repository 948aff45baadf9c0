package learner_test

import (
	"fmt"
	"slices"
	"testing"

	"moot/api"
	"moot/cert"
	"moot/learner"
)

// isLedger says if a learner's ledger, and its names, are those of these blocks, beside that error.
func isLedger(t *testing.T, what string, x *learner.Learner, want api.Errno, blocks ...api.Block) {
	t.Helper()
	var names []string
	var bares []api.Block
	for _, b := range blocks {
		names, bares = append(names, nameOf(b)), append(bares, bare(b))
	}
	for range 2 {
		if got, err := x.Names(); !slices.Equal(got, names) || err != want {
			t.Errorf("P22.1: %s: Names = %d names, %d, want %d, %d", what, len(got), err, len(names), want)
		}
		if got, err := x.Ledger(); !slices.EqualFunc(got, bares, same) || err != want {
			t.Errorf("P22.1: %s: Ledger = %s, %d, want %s, %d", what, brief(got), err, brief(bares), want)
		}
	}
}

// grove is blocks by the letters of a drawing of a tree: "ab" is a child of "a", of the view that its last letter tells.
type grove map[string]api.Block

// plant adds the block of these letters, and those that it stands on.
func (l lab) plant(g grove, letters string) api.Block {
	l.t.Helper()
	if b, ok := g[letters]; ok {
		return b
	}
	last := len(letters) - 1
	// Capitals are of a view above.
	view := 0
	for _, c := range letters {
		if c < 'a' {
			view++
		}
	}
	c := cert.First()
	if last > 0 {
		c = l.cert(markOf(l.plant(g, letters[:last])))
	}
	g[letters] = l.behind(c, view, int(letters[last]))
	return g[letters]
}

// scene is tips, and the ledger that they make: the block that it ends with, if it has any, and if it is a fork.
type scene struct {
	tips   []string
	end    string
	isFork bool
}

// scenes are tips of all kinds.
var scenes = []scene{
	{nil, "", false},
	{[]string{"a"}, "a", false},
	{[]string{"abc"}, "abc", false},
	{[]string{"a", "ab"}, "ab", false},
	{[]string{"a", "abc", "abcd"}, "abcd", false},
	{[]string{"ab", "abcdE"}, "abcdE", false},
	{[]string{"aB", "aBcD"}, "aBcD", false},
	{[]string{"A"}, "A", false},
	// Two that conflict.
	{[]string{"a", "b"}, "", true},
	{[]string{"a", "B"}, "", true},
	{[]string{"ab", "ac"}, "a", true},
	{[]string{"ab", "aC"}, "a", true},
	{[]string{"abc", "abd"}, "ab", true},
	{[]string{"abc", "abde"}, "ab", true},
	{[]string{"abcdef", "abx"}, "ab", true},
	{[]string{"abcdef", "aX"}, "a", true},
	{[]string{"abcdef", "x"}, "", true},
	{[]string{"abcdef", "xyz"}, "", true},
	{[]string{"abcdef", "uvwxyz"}, "", true},
	{[]string{"abcdef", "abcdex"}, "abcde", true},
	{[]string{"abcdef", "abcdeX"}, "abcde", true},
	{[]string{"abCdEf", "abCdeF"}, "abCd", true},
	// The block of one view is below that of another one, or above.
	{[]string{"abcd", "aBC"}, "a", true},
	{[]string{"aBC", "abcd", "a"}, "a", true},
	// Three of which two conflict: the third on one of both, on what both have in common, below it.
	{[]string{"ab", "ac", "acd"}, "a", true},
	{[]string{"abc", "abd", "ab"}, "ab", true},
	{[]string{"abc", "abd", "a"}, "a", true},
	{[]string{"abcde", "abcdx", "ab"}, "ab", true},
	{[]string{"abcde", "abcdx", "abcd"}, "abcd", true},
	{[]string{"abcde", "abx", "abc"}, "ab", true},
	{[]string{"abcde", "abx", "abcd", "abcdef"}, "ab", true},
	{[]string{"ab", "abcX", "abcdef"}, "ab", true},
	// Three that conflict, at one place or at two.
	{[]string{"ab", "ac", "ad"}, "a", true},
	{[]string{"abc", "abd", "ae"}, "a", true},
	{[]string{"abcd", "abce", "abf", "ag"}, "a", true},
	{[]string{"abcd", "abce", "x"}, "", true},
	{[]string{"a", "b", "c", "D"}, "", true},
	{[]string{"abcdef", "abcdeg", "abcdh", "abci"}, "abc", true},
	// Lower ones conflict, and the highest one stands on one of them.
	{[]string{"ab", "aB", "abcdefgh"}, "a", true},
	{[]string{"a", "A", "abcdefgh"}, "", true},
}

// play is a scene's messages: all blocks, and enough about its tips.
func (l lab) play(s scene, kind int) ([]api.Message, grove) {
	l.t.Helper()
	g := grove{}
	var all []api.Message
	for i, letters := range s.tips {
		m := markOf(l.plant(g, letters))
		if kind == byQuorum {
			all = append(all, ofVotes(l.commits(m, i%2, 2)...)...)
		} else {
			all = append(all, ofVotes(l.reports(m, 4+i, i%2, 2)...)...)
		}
	}
	for _, b := range g {
		all = append(all, ofBlock(b))
	}
	return all, g
}

// line is the blocks up to that one.
func (g grove) line(letters string) []api.Block {
	var out []api.Block
	for i := range letters {
		out = append(out, g[letters[:i+1]])
	}
	return out
}

// TestLedger: P22.1: the chain of the highest tip, where no two conflict; else what all have in common, and ErrFork.
func TestLedger(t *testing.T) {
	l := labOf(t, 3, 2)
	for _, s := range scenes {
		for _, kind := range []int{byQuorum, byDelay} {
			all, g := l.play(s, kind)
			want := api.OK
			if s.isFork {
				want = api.ErrFork
			}
			what := fmt.Sprintf("a rule of kind %d, tips %q", kind, s.tips)
			for range 3 {
				x := l.new(kind, 2)
				l.takes(what, x, all...)
				isLedger(t, what, x, want, g.line(s.end)...)
				l.stands(what, x, l.pageOf(kind, 2, all...))
				slices.Reverse(all)
				all = append(all[len(all)/2:], all[:len(all)/2]...)
			}
		}
	}
}

// TestLedgerOfFirstBlock: P22.1: all stand on the first block: beside it as a tip no other one conflicts, and what forks has nothing in common.
func TestLedgerOfFirstBlock(t *testing.T) {
	l := labOf(t, 3, 2)
	for _, s := range scenes {
		all, g := l.play(s, byQuorum)
		x := l.new(byQuorum, 2)
		l.takes("a scene", x, append(all, ofVotes(l.commits(api.Mark{Block: zeros}, 0, 1)...)...)...)
		what := fmt.Sprintf("the first block, and tips %q", s.tips)
		if s.isFork {
			isLedger(t, what, x, api.ErrFork)
		} else {
			isLedger(t, what, x, api.OK, g.line(s.end)...)
		}
	}
}

// TestLedgerGrows: P22.3: where tips do not conflict, the ledger only grows.
func TestLedgerGrows(t *testing.T) {
	l := labOf(t, 3, 2)
	row := l.row(0, 1, 5)
	x := l.new(byQuorum, 2)
	isLedger(t, "nothing heard", x, api.OK)
	for i, n := range []int{3, 1, 2, 5, 4} {
		l.takes("commit-votes", x, ofVotes(l.commits(markOf(row[n-1]), 0, 2)...)...)
		isLedger(t, fmt.Sprintf("%d enough, without blocks", i), x, api.OK)
	}
	for i := range row {
		l.takes("a block", x, ofBlock(row[i]))
		isLedger(t, fmt.Sprintf("blocks up to Height %d", i+1), x, api.OK, row[:i+1]...)
	}
	y := l.new(byQuorum, 2)
	l.takes("blocks", y, ofBlocks(row...)...)
	most := 0
	for _, n := range []int{2, 1, 4, 3, 5} {
		l.takes("a commit-vote", y, ofVote(l.commit(markOf(row[n-1]), 1)))
		isLedger(t, "one commit-vote more", y, api.OK, row[:most]...)
		l.takes("another commit-vote", y, ofVote(l.commit(markOf(row[n-1]), 0)))
		most = max(most, n)
		isLedger(t, fmt.Sprintf("enough about Height %d", n), y, api.OK, row[:most]...)
	}
}

// TestLedgerStaysForked: P22.1: once tips conflict there is no way back; what comes leaves less in common, or as much.
func TestLedgerStaysForked(t *testing.T) {
	l := labOf(t, 3, 2)
	g := grove{}
	x := l.new(byQuorum, 2)
	for _, s := range []scene{{[]string{"abcd"}, "abcd", false}, {[]string{"abcX"}, "abc", true}, {[]string{"abcdefg"}, "abc", true}, {[]string{"abcXyz"}, "abc", true}, {[]string{"abc"}, "abc", true}, {[]string{"ab"}, "ab", true}, {[]string{"ax"}, "a", true}, {[]string{"abcdefgh"}, "a", true}, {[]string{"Z"}, "", true}, {[]string{"a"}, "", true}} {
		for _, letters := range s.tips {
			m := markOf(l.plant(g, letters))
			for _, b := range g {
				x.Hear(l.octets(ofBlock(b)))
			}
			l.takes("commit-votes", x, ofVotes(l.commits(m, 0, 1)...)...)
		}
		want := api.OK
		if s.isFork {
			want = api.ErrFork
		}
		isLedger(t, fmt.Sprintf("and %q", s.tips), x, want, g.line(s.end)...)
	}
}

// TestLedgerIsBare: P22.1: the ledger's blocks are without Justify's Votes and without Sig, all else is theirs, and Chain tells all of it.
func TestLedgerIsBare(t *testing.T) {
	l := labOf(t, 3, 2)
	row := l.row(0, 2, 3)
	last := l.signed(7, api.Block{View: 4, Height: 4, Parent: nameOf(row[2]), Justify: l.cert(markOf(row[2])), Txs: []api.Tx{l.pay(3, 9), l.pay(1, 8), l.pay(0, 7), l.pay(2, 6)}})
	row = append(row, last)
	x := l.new(byQuorum, 2)
	l.takes("blocks and commit-votes", x, append(ofBlocks(row...), ofVotes(l.commits(markOf(last), 0, 1)...)...)...)
	isLedger(t, "four blocks", x, api.OK, row...)
	got, _ := x.Ledger()
	for i, b := range got {
		if b.Sig != "" || len(b.Justify.Votes) != 0 || b.Justify.Block != row[i].Parent || b.Justify.Height != i || !slices.Equal(b.Txs, row[i].Txs) || b.Txs[0].Sig == "" {
			t.Errorf("P22.1: the ledger's block of Height %d is %s", i+1, brief(b))
		}
		if nameOf(b) != nameOf(row[i]) {
			t.Errorf("P22.1: the ledger's block of Height %d is of another name", i+1)
		}
	}
	chain, ok := x.Chain(nameOf(last))
	if !ok || !slices.EqualFunc(chain, row, same) || chain[3].Sig == "" || len(chain[3].Justify.Votes) != 2 {
		t.Errorf("P22.1: Chain behind Ledger = %s, %v", brief(chain), ok)
	}
	fork := l.child(row[2], 5, 1)
	l.takes("a fork", x, append(ofBlocks(fork), ofVotes(l.commits(markOf(fork), 1, 2)...)...)...)
	isLedger(t, "a fork", x, api.ErrFork, row[:3]...)
}

// TestStatements: P22.1: by Kind, View, Height, Block, Ticks, Signer, each field against all behind it.
func TestStatements(t *testing.T) {
	l := labOf(t, 7, 5)
	vote := func(kind, view, height int, block string, ticks, signer int) api.Vote {
		return l.sign((view+signer)%leaves, api.Vote{Kind: kind, View: view, Height: height, Block: block, Ticks: ticks, Signer: signer})
	}
	low, high := stranger[:31]+"\x00", stranger[:31]+"\xff"
	rising := []api.Vote{
		vote(2, 0, 5, high, 0, 6), vote(2, 1, 0, zeros, 0, 0), vote(2, 1, 0, zeros, 0, 1), vote(2, 1, 0, zeros, 0, 6), vote(2, 1, 0, low, 0, 0), vote(2, 1, 0, stranger, 0, 3),
		vote(2, 1, 0, high, 0, 0), vote(2, 1, 1, zeros, 0, 0), vote(2, 2, 0, zeros, 0, 0), vote(2, 10, 0, zeros, 0, 5), vote(2, 10, 2, zeros, 0, 1), vote(2, 10, 10, zeros, 0, 0),
		vote(2, maxView, maxHeight, high, 0, 6),
		vote(3, 0, 0, zeros, 1, 0), vote(3, 0, 0, zeros, 1, 1), vote(3, 0, 0, zeros, 2, 0), vote(3, 0, 0, zeros, 2, 6), vote(3, 0, 0, zeros, 10, 0), vote(3, 0, 0, zeros, maxTicks, 0),
		vote(3, 0, 0, low, 1, 5), vote(3, 0, 0, low, 64, 0), vote(3, 0, 0, high, 1, 0), vote(3, 0, 1, zeros, 1, 0), vote(3, 0, 10, zeros, 1, 0), vote(3, 1, 0, zeros, 1, 0), vote(3, 1, 0, zeros, 1, 2),
		vote(3, 2, 0, zeros, 1, 0), vote(3, 10, 0, zeros, 1, 0), vote(3, maxView, maxHeight, high, maxTicks, 6),
	}
	if !slices.IsSortedFunc(rising, order) {
		t.Fatal("the test's statements do not rise")
	}
	came := slices.Clone(rising)
	for range 10 {
		x := l.new(byQuorum, 5)
		l.takes("statements", x, ofVotes(came...)...)
		if got := x.Statements(); !slices.Equal(got, rising) {
			t.Errorf("P22.1: Statements = %s, want %s", brief(got), brief(rising))
		}
		slices.Reverse(came)
		came = append(came[11:], came[:11]...)
	}
}
