package rule_test

import (
	"fmt"
	"math"
	"math/rand"
	"slices"
	"strings"
	"testing"
	"time"

	"moot/api"
	"moot/rule"
)

// The limits, as the document tells them.
const (
	maxReplicas = 7
	maxTicks    = 1 << 20
	longest     = 32
)

// The kinds of rules and of statements, as the document tells them.
const (
	quorumRule = 1
	delayRule  = 2
	commitVote = 2
	report     = 3
)

// name is a block's, and zeros the first one's.
var (
	name  = "the block's name, 32 octets long"
	zeros = strings.Repeat("\x00", 32)
)

// mark is the block that most statements here are about.
var mark = api.Mark{View: 7, Height: 9, Block: name}

// others are marks that differ from it in one field alone, or in more.
var others = []api.Mark{
	{View: 6, Height: 9, Block: name}, {View: 8, Height: 9, Block: name}, {View: -7, Height: 9, Block: name}, {View: 1<<32 + 7, Height: 9, Block: name}, {Height: 9, Block: name},
	{View: 7, Height: 8, Block: name}, {View: 7, Height: 10, Block: name}, {View: 7, Height: -9, Block: name}, {View: 7, Height: 1<<32 + 9, Block: name}, {View: 7, Block: name},
	{View: 7, Height: 9, Block: zeros}, {View: 7, Height: 9, Block: name[:31]}, {View: 7, Height: 9, Block: name + "\x00"}, {View: 7, Height: 9, Block: name[:31] + "G"}, {View: 7, Height: 9},
	{View: 9, Height: 7, Block: name}, {View: 8, Height: 8, Block: name}, {View: 6, Height: 10, Block: name}, {Block: name}, {},
}

// marks are marks that may be and marks that may not: whatever they are, statements are about them.
var marks = []api.Mark{
	mark, {}, {Block: zeros}, {Block: "x"}, {View: 7, Height: 9}, {View: -1, Height: -1, Block: "\xff\xfe of a view that may not be"},
	{View: math.MaxInt, Height: math.MinInt, Block: strings.Repeat("b", 5000)}, {View: 1 << 20, Height: 1 << 20, Block: zeros}, {View: math.MinInt, Height: math.MaxInt, Block: "\x00"},
}

// sizes are numbers at the edges of what may be, and far from it; they rise.
var sizes = []int{
	math.MinInt, math.MinInt + 1, -1 << 62, -1 << 61, -1 << 40, -1 << 32, -1<<32 + 3, -maxTicks, -33, -7, -4, -3, -2, -1, 0, 1, 2, 3, 4, 5, 6, 7, 8, 9, 15, 16, 17, 31, 32, 33, 34, 62, 63, 64, 65, 66, 127, 128, 255, 256, 1000,
	maxTicks - 1, maxTicks, maxTicks + 1, 2*maxTicks - 1, 2 * maxTicks, 2*maxTicks + 1, 1<<31 - 1, 1 << 31, 1 << 32, 1<<32 + 3, 1<<32 + 4, 1 << 40, 1 << 61, 1<<62 - 1, 1 << 62, 1<<62 + 1, math.MaxInt - 1, math.MaxInt,
}

// kinds are kinds of statements and of rules, those that there are and others.
var kinds = []int{math.MinInt, math.MinInt + 2, -3, -2, -1, 0, 1, 2, 3, 4, 5, 6, 1<<32 + 1, 1<<32 + 2, 1<<32 + 3, 258, 259, math.MaxInt}

// by is a commit-vote of that signer about the mark.
func by(signer int, m api.Mark) api.Vote {
	return api.Vote{Kind: commitVote, View: m.View, Height: m.Height, Block: m.Block, Signer: signer}
}

// held is a report of that signer about the mark, of so many ticks.
func held(signer int, m api.Mark, ticks int) api.Vote {
	return api.Vote{Kind: report, View: m.View, Height: m.Height, Block: m.Block, Ticks: ticks, Signer: signer}
}

// byAll are commit-votes of these signers about the mark.
func byAll(m api.Mark, signers ...int) []api.Vote {
	var l []api.Vote
	for _, signer := range signers {
		l = append(l, by(signer, m))
	}
	return l
}

// heldByAll are reports of these signers about the mark, of so many ticks.
func heldByAll(m api.Mark, ticks int, signers ...int) []api.Vote {
	var l []api.Vote
	for _, signer := range signers {
		l = append(l, held(signer, m, ticks))
	}
	return l
}

// changed are statements, each as change leaves it.
func changed(l []api.Vote, change func(v *api.Vote)) []api.Vote {
	l = slices.Clone(l)
	for i := range l {
		change(&l[i])
	}
	return l
}

// shuffled are statements in a drawn order.
func shuffled(r *rand.Rand, l []api.Vote) []api.Vote {
	l = slices.Clone(l)
	r.Shuffle(len(l), func(i, j int) { l[i], l[j] = l[j], l[i] })
	return l
}

// checkOf is what Check has to answer.
func checkOf(r api.Rule, replicas, quorum int) api.Errno {
	switch {
	case quorum < 1, quorum > replicas, replicas > maxReplicas:
		return api.ErrRule
	case r.Kind == quorumRule && r.N >= quorum && r.N <= replicas:
		return api.OK
	case r.Kind == delayRule && r.N >= 1 && r.N <= longest:
		return api.OK
	}
	return api.ErrRule
}

// enoughOf is what Enough has to answer.
func enoughOf(r api.Rule, quorum int, m api.Mark, l []api.Vote) bool {
	var signers []int
	for _, v := range l {
		isAbout := v.View == m.View && v.Height == m.Height && v.Block == m.Block
		switch {
		case r.Kind == quorumRule && v.Kind == commitVote && isAbout,
			r.Kind == delayRule && v.Kind == report && isAbout && r.N >= 0 && r.N <= maxTicks && v.Ticks >= r.N+r.N:
			signers = append(signers, v.Signer)
		}
	}
	slices.Sort(signers)
	have := len(slices.Compact(signers))
	if r.Kind == quorumRule {
		return have > 0 && have >= r.N
	}
	return have > 0 && have >= quorum
}

// marksOf is what Marks has to answer.
func marksOf(l []api.Vote) []api.Mark {
	var found []api.Mark
	for _, v := range l {
		m := api.Mark{View: v.View, Height: v.Height, Block: v.Block}
		if v.Kind != commitVote && v.Kind != report || slices.Contains(found, m) {
			continue
		}
		// It goes ahead of the first one that is not below it.
		at := slices.IndexFunc(found, func(other api.Mark) bool { return isBelow(m, other) })
		if at < 0 {
			at = len(found)
		}
		found = slices.Insert(found, at, m)
	}
	return found
}

// isBelow says if one mark is told ahead of the other.
func isBelow(a, b api.Mark) bool {
	if a.View != b.View {
		return a.View < b.View
	}
	if a.Height != b.Height {
		return a.Height < b.Height
	}
	return a.Block < b.Block
}

// compare is how two marks stand in the order in which they are told.
func compare(a, b api.Mark) int {
	switch {
	case isBelow(a, b):
		return -1
	case isBelow(b, a):
		return 1
	}
	return 0
}

// isChecked says if Check answers this.
func isChecked(t *testing.T, what string, r api.Rule, replicas, quorum int, want api.Errno) {
	t.Helper()
	if got := rule.Check(r, replicas, quorum); got != want {
		t.Errorf("P21.1: of %s: Check(%v, %d, %d) = %d, want %d", what, r, replicas, quorum, got, want)
	}
}

// isEnough says if Enough answers this.
func isEnough(t *testing.T, what string, r api.Rule, quorum int, m api.Mark, l []api.Vote, want bool) {
	t.Helper()
	if got := rule.Enough(r, quorum, m, l); got != want {
		t.Errorf("P21.1: of %s: Enough(%v, %d, %s, %s) = %v", what, r, quorum, brief(m), brief(l), got)
	}
}

// isMarks says if Marks answers these.
func isMarks(t *testing.T, what string, l []api.Vote, want ...api.Mark) {
	t.Helper()
	if got := rule.Marks(l); !slices.Equal(got, want) {
		t.Errorf("P21.1: of %s: Marks of %s = %s, want %s", what, brief(l), brief(got), brief(want))
	}
}

// brief is how what may be long begins.
func brief(x any) string {
	s := fmt.Sprintf("%#v", x)
	return s[:min(len(s), 500)]
}

// ends calls f and says if it panicked, or does not end (P1).
func ends(t *testing.T, what string, f func()) {
	t.Helper()
	over := make(chan any, 1)
	go func() {
		defer func() { over <- recover() }()
		f()
	}()
	select {
	case x := <-over:
		if x != nil {
			t.Errorf("P1: %s panicked: %v", what, x)
		}
	case <-time.After(time.Minute):
		t.Fatalf("P1: %s does not end", what)
	}
}

// drawnMark is a mark of few there are.
func drawnMark(r *rand.Rand) api.Mark {
	return api.Mark{View: 6 + r.Intn(3), Height: 8 + r.Intn(2), Block: []string{name, zeros, "b", ""}[r.Intn(r.Intn(4)+1)]}
}

// drawnVote is a statement, mostly of a kind that counts, about one of few marks, of one of few signers.
func drawnVote(r *rand.Rand, ticks int) api.Vote {
	m := drawnMark(r)
	v := api.Vote{Kind: r.Intn(6), View: m.View, Height: m.Height, Block: m.Block, Ticks: ticks - 1 + r.Intn(3), Signer: r.Intn(8), Sig: []string{"", "a", "b"}[r.Intn(3)]}
	if r.Intn(2) == 0 {
		v.Kind = commitVote + r.Intn(2)
	}
	if r.Intn(2) == 0 {
		v.View, v.Height, v.Block = mark.View, mark.Height, mark.Block
	}
	if r.Intn(10) == 0 {
		v.Signer, v.Ticks = sizes[r.Intn(len(sizes))], sizes[r.Intn(len(sizes))]
	}
	return v
}

// drawnVotes are some statements.
func drawnVotes(r *rand.Rand, ticks int) []api.Vote {
	var l []api.Vote
	for range r.Intn(30) {
		l = append(l, drawnVote(r, ticks))
	}
	return l
}

// drawnRule is a rule that may be, mostly.
func drawnRule(r *rand.Rand) api.Rule {
	if r.Intn(20) == 0 {
		return api.Rule{Kind: kinds[r.Intn(len(kinds))], N: sizes[r.Intn(len(sizes))]}
	}
	return api.Rule{Kind: 1 + r.Intn(2), N: r.Intn(8)}
}
