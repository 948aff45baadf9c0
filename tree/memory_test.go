package tree_test

import (
	"slices"
	"sync"
	"testing"

	"moot/api"
	"moot/tree"
)

// overwrite changes a block's lists, and the room behind them.
func overwrite(b api.Block) {
	votes, txs := b.Justify.Votes[:cap(b.Justify.Votes)], b.Txs[:cap(b.Txs)]
	for i := range votes {
		votes[i] = api.Vote{Kind: -9, Sig: "overwritten"}
	}
	for i := range txs {
		txs[i] = api.Tx{Amount: -9, Sig: "overwritten"}
	}
}

// roomy is a block with room behind its lists, which has to stay as it is.
func roomy(b api.Block) api.Block {
	votes, txs := len(b.Justify.Votes), len(b.Txs)
	b.Justify.Votes = slices.Concat(b.Justify.Votes, []api.Vote{{Kind: 77}, {Kind: 78}})[:votes]
	b.Txs = slices.Concat(b.Txs, []api.Tx{{Amount: 77}, {Amount: 78}})[:txs]
	return b
}

// isRoomy says if a block, and what stands behind its lists, is as it was.
func isRoomy(t *testing.T, what string, got, want api.Block) {
	t.Helper()
	votes, txs := got.Justify.Votes, got.Txs
	if !same(got, want) || votes[:len(votes)+2][len(votes)+1].Kind != 78 || txs[:len(txs)+2][len(txs)].Amount != 77 {
		t.Errorf("P14.3: %s changed what was handed in", what)
	}
}

// blocks are a chain whose lists are of several lengths.
func blocks() []api.Block {
	a := first(1, 1)
	b := with(child(a, 2, 1), func(b *api.Block) { b.Txs, b.Justify.Votes = b.Txs[:1], make([]api.Vote, 7) })
	c := with(child(b, 3, 1), func(b *api.Block) { b.Txs = nil })
	d := with(child(c, 3, 1), func(b *api.Block) { b.Justify.Votes = nil })
	e := with(child(d, 4, 1), func(b *api.Block) { b.Txs = append(b.Txs, b.Txs[0], b.Txs[0]) })
	return []api.Block{a, b, c, d, e}
}

// What is handed in is neither changed nor kept, whether Put takes it or not.
func TestBlocksOfPut(t *testing.T) {
	l := blocks()
	x := tree.New()
	for i, b := range l {
		for range 2 {
			handed := roomy(b)
			x.Put(handed)
			isRoomy(t, "Put", handed, b)
			if _, ok := x.Chain(nameOf(b)); !ok {
				t.Error("P14.1: a block behind those that are there is not known")
			}
			isRoomy(t, "Chain", handed, b)
			overwrite(handed)
			isAs(t, "a change of what was put", x, paged(l[:i+1]...))
		}
	}
}

// What one answer tells has nothing to do with the tree, nor with another answer.
func TestGetIsNewMemory(t *testing.T) {
	l := blocks()
	x := planted(t, l...)
	for _, b := range l {
		one, _ := x.Get(nameOf(b))
		two, _ := x.Get(nameOf(b))
		chain, _ := x.Chain(nameOf(l[len(l)-1]))
		overwrite(one)
		one.Txs, one.Justify.Votes = append(one.Txs[:0], api.Tx{Amount: 5}), append(one.Justify.Votes[:0], api.Vote{Kind: 5})
		if !same(two, b) || !slices.EqualFunc(chain, l, same) {
			t.Error("P14.3: an answer of Get shares memory with another answer")
		}
		isAs(t, "a change of what Get told", x, paged(l...))
		overwrite(two)
		isAs(t, "a change of what Get told", x, paged(l...))
	}
}

func TestChainIsNewMemory(t *testing.T) {
	l := blocks()
	x := planted(t, l...)
	last := nameOf(l[len(l)-1])
	for i := range l {
		one, _ := x.Chain(last)
		two, _ := x.Chain(last)
		got, _ := x.Get(nameOf(l[i]))
		overwrite(one[i])
		for j, b := range one {
			if j != i && !same(b, l[j]) {
				t.Errorf("P14.3: blocks %d and %d of one Chain share memory", i, j)
			}
		}
		clear(one[:cap(one)])
		if !slices.EqualFunc(two, l, same) || !same(got, l[i]) {
			t.Error("P14.3: an answer of Chain shares memory with another answer")
		}
		isAs(t, "a change of what Chain told", x, paged(l...))
	}
}

// A block's two lists share nothing with each other, nor those of two blocks that were put with one list.
func TestListsAreApart(t *testing.T) {
	a := roomy(first(1, 1))
	b := behind(nameOf(a), 2, 2, 1, 1)
	b.Txs, b.Justify.Votes = a.Txs, a.Justify.Votes
	l := []api.Block{copied(a), copied(b)}
	x := planted(t, a, b)
	overwrite(a)
	isAs(t, "a change of one list of two blocks", x, paged(l...))
	chain, _ := x.Chain(nameOf(l[1]))
	overwrite(chain[0])
	if !same(chain[1], l[1]) {
		t.Error("P14.3: two blocks that were put with one list share it")
	}
	got, _ := x.Get(nameOf(l[1]))
	got.Txs[0].Sig = "overwritten"
	isAs(t, "a change of one of two blocks", x, paged(l...))
}

// Later calls change nothing of what was told ahead of them.
func TestAnswersStay(t *testing.T) {
	l := blocks()
	x := planted(t, l[:3]...)
	got, _ := x.Get(nameOf(l[1]))
	chain, _ := x.Chain(nameOf(l[2]))
	put(t, x, l[3:]...)
	x.Put(with(l[1], func(b *api.Block) { b.Sig, b.Justify.Votes = "another", nil }))
	if !same(got, l[1]) || !slices.EqualFunc(chain, l[:3], same) {
		t.Error("P14.3: what was told changes with the tree")
	}
}

// One tree has nothing to do with another one.
func TestTreesAreApart(t *testing.T) {
	l := blocks()
	one, two := planted(t, l[0]), planted(t, l[0])
	put(t, one, l[1])
	isAs(t, "Put to one tree", one, paged(l[:2]...))
	isAs(t, "Put to another tree", two, paged(l[0]))
	isAs(t, "Put to other trees", tree.New(), nil)
	a, _ := one.Get(nameOf(l[0]))
	overwrite(a)
	isAs(t, "a change of what another tree told", two, paged(l[0]))
}

// What is asked changes nothing, and may be asked by many.
func TestAnswersHangOnWhatTheTreeWasTold(t *testing.T) {
	l := blocks()
	x, p := planted(t, l...), paged(l...)
	var all sync.WaitGroup
	for range 8 {
		all.Go(func() {
			own := tree.New()
			for i, b := range l {
				if !own.Put(b) {
					t.Error("P3: Put has another answer beside other calls")
				}
				isAs(t, "Put beside other calls", own, p[:i+1])
				isAs(t, "calls of others", x, p)
			}
		})
	}
	all.Wait()
	if !slices.EqualFunc(l, blocks(), same) {
		t.Error("P14.3: what was handed in was changed")
	}
}
