package rule_test

import (
	"math"
	"math/rand"
	"slices"
	"strings"
	"testing"

	"moot/api"
	"moot/rule"
)

// TestMarksOfNothing: P21.1: of no statements, and of votes, blames and kinds that there are not, nothing.
func TestMarksOfNothing(t *testing.T) {
	isMarks(t, "no statements", nil)
	isMarks(t, "no statements", []api.Vote{})
	for _, kind := range kinds {
		l := changed(slices.Concat(byAll(mark, 0, 1), heldByAll(mark, 4, 2), byAll(others[0], 3)), func(v *api.Vote) { v.Kind = kind })
		if kind == commitVote || kind == report {
			isMarks(t, "statements that count", l, others[0], mark)
			continue
		}
		isMarks(t, "statements of another kind", l)
		isMarks(t, "a commit-vote among statements of another kind", slices.Concat(l, byAll(others[1], 5), l), others[1])
	}
	isMarks(t, "a vote and a blame", []api.Vote{{Kind: 1, View: 7, Height: 9, Block: name}, {Kind: 4, View: 7}})
	isMarks(t, "zero statements", make([]api.Vote, 5))
}

// TestMarksOfOne: P21.1: of commit-votes and reports about one mark that one, once.
func TestMarksOfOne(t *testing.T) {
	for _, m := range marks {
		isMarks(t, "a commit-vote", byAll(m, 0), m)
		isMarks(t, "a report", heldByAll(m, 1, 0), m)
		isMarks(t, "a commit-vote and a report", slices.Concat(byAll(m, 0), heldByAll(m, 1, 0)), m)
		isMarks(t, "a report and a commit-vote", slices.Concat(heldByAll(m, 1, 0), byAll(m, 0)), m)
		isMarks(t, "many, told twice", slices.Repeat(slices.Concat(byAll(m, 0, 1, 2), heldByAll(m, 8, 0, 3)), 2), m)
		// Neither Signers nor Ticks nor Sigs are looked at.
		var l []api.Vote
		for i, size := range sizes {
			l = append(l, held(size, m, sizes[len(sizes)-1-i]), by(size, m))
			l[2*i].Sig, l[2*i+1].Ticks = strings.Repeat("s", i), size
		}
		isMarks(t, "statements of any Signers and Ticks", l, m)
	}
}

// TestMarksOfBlocks: P21.1: marks that differ in their Block alone, texts by their octets.
func TestMarksOfBlocks(t *testing.T) {
	rising := []string{"", "\x00", "\x00\x00", "\x00\x01", "\x01", "9", "A", "Z", "a", "a\x00", "aA", "aa", "b", "b\x7f", "b\x80", "b\xff", "\x7f", "\x80", "\xc3\xa9", "\xe2\x82\xac", "\xff", "\xff\x00", "\xff\xff"}
	isInAnyOrder(t, "Blocks", marksBy(rising, func(block string) api.Mark { return api.Mark{View: 3, Height: 4, Block: block} }))
	var long []string
	for _, end := range []string{"", "\x00", "\x01", "a", "aa", "\x7f", "\x80", "\xff"} {
		long = append(long, strings.Repeat("a", 31)+end)
	}
	isInAnyOrder(t, "long Blocks", marksBy(long, func(block string) api.Mark { return api.Mark{View: -3, Height: -4, Block: block} }))
}

// TestMarksOfNumbers: P21.1: marks that differ in their View alone, or in their Height alone.
func TestMarksOfNumbers(t *testing.T) {
	isInAnyOrder(t, "Views", marksBy(sizes, func(n int) api.Mark { return api.Mark{View: n, Height: 4, Block: "b"} }))
	isInAnyOrder(t, "Heights", marksBy(sizes, func(n int) api.Mark { return api.Mark{View: 4, Height: n, Block: "b"} }))
}

// TestMarksByViewThenHeight: P21.1: a View goes ahead of a Height, and that of a Block.
func TestMarksByViewThenHeight(t *testing.T) {
	isInAnyOrder(t, "Views against Heights against Blocks", []api.Mark{
		{View: -1, Height: 5, Block: "z"}, {View: 0, Height: -1, Block: "z"}, {View: 1, Height: 9, Block: "b"}, {View: 2, Height: 7, Block: "c"}, {View: 2, Height: 8, Block: "a"}, {View: 2, Height: 8, Block: "b"},
		{View: 2, Height: 9, Block: ""}, {View: 3, Height: 0, Block: "z"}, {View: 3, Height: 1, Block: "a"}, {View: 10, Height: 0, Block: ""}, {View: 10, Height: 10, Block: ""},
	})
	// Their differences are beyond what an int can tell.
	isInAnyOrder(t, "numbers far apart", []api.Mark{
		{View: math.MinInt, Height: math.MaxInt, Block: "z"}, {View: -2, Height: math.MaxInt, Block: "y"}, {View: math.MaxInt, Height: math.MinInt, Block: "x"}, {View: math.MaxInt, Height: -2, Block: "b"}, {View: math.MaxInt, Height: math.MaxInt, Block: "a"},
	})
	all := slices.Concat(marks, others)
	slices.SortFunc(all, compare)
	isInAnyOrder(t, "marks of the page", slices.Compact(all))
}

// marksBy are marks made of things one by one.
func marksBy[T any](l []T, markOf func(x T) api.Mark) []api.Mark {
	var made []api.Mark
	for _, x := range l {
		made = append(made, markOf(x))
	}
	return made
}

// isInAnyOrder says if Marks tells these, which rise, in this order, in whichever statements about them come.
func isInAnyOrder(t *testing.T, what string, rising []api.Mark) {
	t.Helper()
	if !slices.IsSortedFunc(rising, compare) {
		t.Fatalf("%s do not rise: %s", what, brief(rising))
	}
	var l []api.Vote
	for i, m := range rising {
		l = append(l, api.Vote{Kind: commitVote + i%2, View: m.View, Height: m.Height, Block: m.Block, Ticks: 2 * (i % 2), Signer: i % 7})
	}
	isMarks(t, what+", rising", l, rising...)
	isMarks(t, what+", twice", slices.Concat(l, l), rising...)
	backwards := slices.Clone(l)
	slices.Reverse(backwards)
	isMarks(t, what+", falling", backwards, rising...)
	r := rand.New(rand.NewSource(214))
	for range 50 {
		isMarks(t, what+", in a drawn order", shuffled(r, slices.Concat(l, l[:r.Intn(len(l))])), rising...)
	}
	// Of each pair the lower one comes first.
	for i := range rising {
		for k := range i {
			isMarks(t, what+", two", []api.Vote{l[i], l[k]}, rising[k], rising[i])
			isMarks(t, what+", two", []api.Vote{l[k], l[i]}, rising[k], rising[i])
		}
	}
}

// TestMarksDrawn: P21.1: drawn statements, held against the reckoning; those marks are told of which there may be enough, and no other.
func TestMarksDrawn(t *testing.T) {
	r := rand.New(rand.NewSource(215))
	times := map[int]int{}
	for range 10000 {
		l := drawnVotes(r, 2)
		want := marksOf(l)
		isMarks(t, "drawn statements", l, want...)
		isMarks(t, "drawn statements in another order", shuffled(r, l), want...)
		times[len(want)]++
		for range 5 {
			m := drawnMark(r)
			isEnoughOnce := rule.Enough(api.Rule{Kind: 1, N: 1}, 1, m, l) || slices.ContainsFunc(l, func(v api.Vote) bool {
				return v.Kind == report && v.View == m.View && v.Height == m.Height && v.Block == m.Block
			})
			if isEnoughOnce != slices.Contains(want, m) {
				t.Fatalf("P21.1: of %+v Marks are %v, and of %v is enough: %v", l, want, m, isEnoughOnce)
			}
		}
	}
	for k := range 8 {
		if times[k] < 50 {
			t.Errorf("%d marks were told %d times", k, times[k])
		}
	}
}

// TestManyStatements: P1: so many that a call that goes through all of them for each one would not end.
func TestManyStatements(t *testing.T) {
	const many = 300000
	var l []api.Vote
	var want []api.Mark
	for i := range many {
		l = append(l, by(i, mark), held(i, mark, 2), by(0, api.Mark{View: many - i, Height: 1, Block: name}))
		want = append(want, api.Mark{View: i + 1, Height: 1, Block: name})
	}
	want = slices.Insert(want, slices.Index(want, api.Mark{View: 7, Height: 1, Block: name})+1, mark)
	ends(t, "Enough of many", func() {
		for _, n := range []int{many, many + 1} {
			isEnough(t, "many Signers, Kind 1", api.Rule{Kind: 1, N: n}, 1, mark, l, n == many)
			isEnough(t, "many Signers, Kind 2", api.Rule{Kind: 2, N: 1}, n, mark, l, n == many)
		}
	})
	ends(t, "Marks of many", func() {
		isMarks(t, "many marks", l, want...)
	})
}
