package rule_test

import (
	"math"
	"math/rand"
	"slices"
	"sync"
	"testing"

	"moot/api"
	"moot/rule"
)

// filler stands in the room behind a list's end.
var filler = api.Vote{Kind: 2, View: 77, Height: 78, Block: "behind the list's end", Signer: 79}

// roomy is a list with room behind its end, which has to stay as it is.
func roomy(l []api.Vote) []api.Vote {
	return slices.Concat(l, []api.Vote{filler, filler})[:len(l)]
}

// isRoomy says if a list, and what stands behind it, is as it was.
func isRoomy(t *testing.T, what string, got, want []api.Vote) {
	t.Helper()
	if !slices.Equal(got, want) || !slices.Equal(got[:len(got)+2][len(got):], []api.Vote{filler, filler}) {
		t.Errorf("P21.3: %s changed what was handed in: %s, was %s", what, brief(got[:len(got)+2]), brief(want))
	}
}

// overwrite changes a list, and the room behind its end.
func overwrite[T any](l []T, x T) {
	l = l[:cap(l)]
	for i := range l {
		l[i] = x
	}
}

// overwritten is a mark that none of the page is.
var overwritten = api.Mark{View: -99, Height: -98, Block: "overwritten"}

// TestArgumentsStay: P21.3, P2: what is handed in is as it was, and what stands behind its end neither counts nor is changed.
func TestArgumentsStay(t *testing.T) {
	r := rand.New(rand.NewSource(216))
	for range 2000 {
		l, c, quorum := drawnVotes(r, 4), drawnRule(r), r.Intn(5)
		handed := roomy(l)
		isEnough(t, "one with room behind its end", c, quorum, mark, handed, enoughOf(c, quorum, mark, l))
		isRoomy(t, "Enough", handed, l)
		isEnough(t, "what stands behind the list's end", api.Rule{Kind: 1, N: 1}, 1, api.Mark{View: 77, Height: 78, Block: filler.Block}, handed, false)
		isMarks(t, "one with room behind its end", handed, marksOf(l)...)
		isRoomy(t, "Marks", handed, l)
	}
}

// TestArgumentsAreNotKept: P21.3, P2: what was handed in, changed behind, changes no answer.
func TestArgumentsAreNotKept(t *testing.T) {
	r := rand.New(rand.NewSource(217))
	for range 2000 {
		l, c, quorum := drawnVotes(r, 4), drawnRule(r), r.Intn(5)
		was := slices.Clone(l)
		got, enough := rule.Marks(l), rule.Enough(c, quorum, mark, l)
		overwrite(l, filler)
		if !slices.Equal(got, marksOf(was)) {
			t.Fatalf("P21.3: a change of what was handed in changes an answer: %v", got)
		}
		isMarks(t, "the same statements in another list", was, got...)
		isEnough(t, "the same statements in another list", c, quorum, mark, was, enough)
	}
}

// TestAnswersAreNew: P21.3, P2: an answer's list, changed behind, also the room behind its end, changes no other answer and no argument.
func TestAnswersAreNew(t *testing.T) {
	r := rand.New(rand.NewSource(218))
	for range 2000 {
		l := drawnVotes(r, 4)
		was, want := slices.Clone(l), marksOf(l)
		first, second := rule.Marks(l), rule.Marks(l)
		overwrite(first, overwritten)
		if !slices.Equal(second, want) {
			t.Fatalf("P21.3: an answer's list, changed, changes another answer: %v, want %v", second, want)
		}
		overwrite(second, overwritten)
		isMarks(t, "statements whose marks were told, and changed", l, want...)
		if !slices.Equal(l, was) {
			t.Fatalf("P21.3: an answer's list, changed, changes what was handed in: %v, was %v", l, was)
		}
	}
}

// TestNothingKept: P3: what is called ahead changes no answer, and the same calls answer the same, whatever the order of a map is.
func TestNothingKept(t *testing.T) {
	r := rand.New(rand.NewSource(219))
	for range 1000 {
		l, c, quorum := drawnVotes(r, 4), drawnRule(r), r.Intn(5)
		err, enough, told := rule.Check(c, 4, quorum), rule.Enough(c, quorum, mark, l), rule.Marks(l)
		rule.Check(api.Rule{Kind: math.MaxInt, N: -1}, math.MaxInt, math.MinInt)
		rule.Enough(drawnRule(r), r.Intn(5), drawnMark(r), drawnVotes(r, 4))
		rule.Enough(c, quorum, mark, slices.Concat(l, byAll(mark, 0, 1, 2, 3), heldByAll(mark, 1<<21, 0, 1, 2, 3)))
		rule.Marks(slices.Concat(drawnVotes(r, 4), l))
		for range 5 {
			if rule.Check(c, 4, quorum) != err || rule.Enough(c, quorum, mark, l) != enough || !slices.Equal(rule.Marks(l), told) {
				t.Fatalf("P3: the answers of %v, %d, %+v are other ones when they are asked again", c, quorum, l)
			}
		}
	}
}

// TestTogether: P3: calls at one time, of the same list, answer as calls one behind the other.
func TestTogether(t *testing.T) {
	shared := drawnVotes(rand.New(rand.NewSource(220)), 4)
	var wg sync.WaitGroup
	for k := range 8 {
		wg.Go(func() {
			r := rand.New(rand.NewSource(int64(k)))
			for range 500 {
				c, quorum, m := drawnRule(r), r.Intn(5), drawnMark(r)
				for _, l := range [][]api.Vote{shared, drawnVotes(r, 4)} {
					isChecked(t, "at one time", c, 4, quorum, checkOf(c, 4, quorum))
					isEnough(t, "at one time", c, quorum, m, l, enoughOf(c, quorum, m, l))
					isMarks(t, "at one time", l, marksOf(l)...)
				}
			}
		})
	}
	wg.Wait()
}
