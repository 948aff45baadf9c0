package tree_test

import (
	"math"
	"strings"
	"testing"

	"moot/api"
	"moot/tree"
)

func TestNew(t *testing.T) {
	x := tree.New()
	isAs(t, "New", x, nil)
	if _, ok := x.Get(zeros); ok {
		t.Error("P14.1: a new tree has the first block")
	}
	if l, ok := x.Chain(zeros); len(l) != 0 || !ok {
		t.Errorf("P14.1: a new tree's Chain of the first block = %d blocks, %v", len(l), ok)
	}
	if x.Missing(zeros) != "" || x.Missing(stranger) != stranger || x.Missing("x") != "x" {
		t.Error("P14.1: Missing of a new tree")
	}
	// The chapter's example.
	if !x.Extends(zeros, zeros) || x.Extends(zeros, stranger) || x.Extends(stranger, zeros) || x.Extends(stranger, stranger) {
		t.Error("P14.1: Extends of a new tree")
	}
	if x.Conflict(zeros, zeros) || x.Conflict(zeros, stranger) || x.Conflict(stranger, zeros) {
		t.Error("P14.1: Conflict of a new tree")
	}
}

func TestPut(t *testing.T) {
	a := first(0, 1)
	x := tree.New()
	put(t, x, a)
	isAs(t, "Put of a first block's child", x, paged(a))
	for range 2 {
		if x.Put(a) || x.Put(copied(a)) {
			t.Error("P14.1: Put of a block that is there = true")
		}
		isAs(t, "Put of one block again", x, paged(a))
	}
	b := child(a, 3, 1)
	put(t, x, b)
	isAs(t, "Put of a child", x, paged(a, b))
	if x.Put(a) || x.Put(b) {
		t.Error("P14.1: Put of a block that is there = true")
	}
	isAs(t, "Put of two blocks again", x, paged(a, b))
}

// A name tells nothing of a block's Sig, nor of its Justify's Votes: the first one of a name stays.
func TestPutOfOneName(t *testing.T) {
	l := row(3, 1)
	for i, was := range l {
		x := planted(t, l...)
		for what, change := range map[string]func(b *api.Block){
			"another Sig":         func(b *api.Block) { b.Sig = "another one's" },
			"no Sig":              func(b *api.Block) { b.Sig = "" },
			"no Votes":            func(b *api.Block) { b.Justify.Votes = nil },
			"fewer Votes":         func(b *api.Block) { b.Justify.Votes = b.Justify.Votes[:1] },
			"more Votes":          func(b *api.Block) { b.Justify.Votes = append(b.Justify.Votes, api.Vote{Kind: -1}) },
			"another vote's Sig":  func(b *api.Block) { b.Justify.Votes[1].Sig = "another one's" },
			"another Sig and all": func(b *api.Block) { b.Sig, b.Justify.Votes = "another", make([]api.Vote, 9) },
		} {
			other := with(was, change)
			if x.Put(other) {
				t.Errorf("P14.1: Put of block %d with %s = true", i, what)
			}
			isAs(t, "Put of a block with "+what, x, paged(l...))
			// Which of them is there hangs on which came first alone.
			y := planted(t, other)
			if y.Put(was) {
				t.Errorf("P14.1: Put of block %d behind one with %s = true", i, what)
			}
			isAs(t, "Put of a block behind one with "+what, y, paged(other))
		}
	}
}

// Whatever else differs makes another name, and a block beside the first one.
func TestPutOfOtherNames(t *testing.T) {
	l := row(3, 1)
	x, p := planted(t, l...), l
	for _, change := range []func(b *api.Block){
		func(b *api.Block) { b.View++ },
		func(b *api.Block) { b.Height, b.Justify.Height = b.Height+1, b.Justify.Height+1 },
		func(b *api.Block) { b.Parent, b.Justify.Block = stranger, stranger },
		func(b *api.Block) { b.View, b.Justify.View = b.View+2, b.Justify.View+1 },
		func(b *api.Block) { b.Txs = nil },
		func(b *api.Block) { b.Txs = b.Txs[:1] },
		func(b *api.Block) { b.Txs[0], b.Txs[1] = b.Txs[1], b.Txs[0] },
		func(b *api.Block) { b.Txs[1].Sig = "another one's" },
	} {
		for _, was := range l {
			other := with(was, change)
			put(t, x, other)
			p = append(p, other)
		}
	}
	isAs(t, "Put of blocks that differ in one thing", x, paged(p...))
}

// wrongs are blocks that may not be, by what is wrong with them.
func wrongs() map[string]api.Block {
	some := behind(stranger, 7, 9, 6, 1)
	l := map[string]api.Block{"nothing": {}}
	one := func(what string, change func(b *api.Block)) {
		l[what] = with(some, change)
	}
	for what, n := range map[string]int{"0": 0, "below 0": -1, "the least": math.MinInt + 1, "too great": maxHeight + 1, "the greatest": math.MaxInt} {
		one("Height "+what, func(b *api.Block) { b.Height, b.Justify.Height = n, n-1 })
	}
	for what, n := range map[string]int{"below 0": -1, "too great": maxView + 1, "the greatest": math.MaxInt} {
		one("View "+what, func(b *api.Block) { b.View, b.Justify.View = n, min(n, 6) })
		one("View of Justify "+what, func(b *api.Block) { b.Justify.View = n })
	}
	one("View of Justify above its own", func(b *api.Block) { b.Justify.View = 8 })
	for what, s := range map[string]string{"none": "", "short": stranger[1:], "long": stranger + "x"} {
		one("Parent "+what, func(b *api.Block) { b.Parent, b.Justify.Block = s, s })
	}
	one("Parent not Justify's", func(b *api.Block) { b.Parent = zeros })
	one("Justify not of Parent", func(b *api.Block) { b.Justify.Block = zeros })
	one("Justify of its own Height", func(b *api.Block) { b.Justify.Height = 9 })
	one("Justify two below", func(b *api.Block) { b.Justify.Height = 7 })
	one("five Txs", func(b *api.Block) { b.Txs = append(b.Txs, b.Txs[0], b.Txs[0], b.Txs[0]) })
	one("a zero transaction", func(b *api.Block) { b.Txs[1] = api.Tx{} })
	one("a wrong transaction", func(b *api.Block) { b.Txs[0].Amount = 1001 })
	one("a transaction's Sig too long", func(b *api.Block) { b.Txs[0].Sig = strings.Repeat("s", maxField+1) })
	one("Sig too long", func(b *api.Block) { b.Sig = strings.Repeat("s", maxField+1) })
	return l
}

func TestPutOfWhatMayNotBe(t *testing.T) {
	some := row(2, 1)
	for what, b := range wrongs() {
		for _, l := range [][]api.Block{nil, some} {
			x := planted(t, l...)
			ends(t, "Put", func() {
				if x.Put(b) {
					t.Errorf("P14.1: Put of a block that may not be (%s) = true", what)
				}
			})
			isAs(t, "Put of what may not be ("+what+")", x, paged(l...))
			if _, ok := x.Get(nameOf(b)); ok {
				t.Errorf("P14.1: what may not be (%s) is there under its name", what)
			}
			put(t, x, child(some[1], 9, 1))
			isAs(t, "Put behind what may not be ("+what+")", x, paged(append(l[:len(l):len(l)], child(some[1], 9, 1))...))
		}
	}
}

// full is a block of four transactions with the longest Sigs, whose text is longer than a message may be.
func full() api.Block {
	return with(first(2, 1), func(b *api.Block) {
		b.Txs, b.Sig = nil, strings.Repeat("s", maxField)
		for i := range 4 {
			b.Txs = append(b.Txs, api.Tx{From: i, To: 3 - i, Amount: 1000, Nonce: i, Sig: strings.Repeat("s", maxField)})
		}
	})
}

// Blocks at the edges of what may be are there under their names.
func TestPutAtTheEdges(t *testing.T) {
	l := []api.Block{
		full(),
		first(maxView, 1),
		behind(zeros, maxView, 1, maxView, 1),
		behind(stranger, 0, maxHeight, 0, 1000),
		with(first(0, 1), func(b *api.Block) { b.Txs, b.Sig, b.Justify.Votes = nil, "", nil }),
		with(first(1, 1), func(b *api.Block) { b.Txs, b.Justify.Votes = []api.Tx{}, make([]api.Vote, 300) }),
		child(full(), 2, 1),
		with(behind(strings.Repeat("\xff", 32), 5, 7, 5, 7), func(b *api.Block) { b.Sig = strings.Repeat("s", maxField) }),
	}
	x := tree.New()
	for i, b := range l {
		put(t, x, b)
		isAs(t, "Put of a block that just may be", x, paged(l[:i+1]...))
		if got, ok := x.Get(nameOf(b)); !ok || !same(got, b) {
			t.Errorf("P14.1: Get of block %d that just may be = one of Height %d, %v", i, got.Height, ok)
		}
	}
	if x.Len() != len(l) {
		t.Errorf("P14.1: Len = %d, want %d", x.Len(), len(l))
	}
}

// isNone says if a tree answers as one that nobody made.
func isNone(t *testing.T, x *tree.Tree) {
	t.Helper()
	for _, name := range []string{zeros, stranger, "", "x", nameOf(first(0, 1))} {
		if b, ok := x.Get(name); ok || !same(b, api.Block{}) {
			t.Errorf("P14.1: Get of a tree that nobody made = a block of Height %d, %v", b.Height, ok)
		}
		if l, ok := x.Chain(name); ok || len(l) != 0 {
			t.Errorf("P14.1: Chain of a tree that nobody made = %d blocks, %v", len(l), ok)
		}
		if got, want := x.Missing(name), tree.New().Missing(name); got != want || name == zeros && got != "" || name != zeros && got != name {
			t.Errorf("P14.1: Missing of %x of a tree that nobody made = %x, want %x", name, got, want)
		}
		for _, other := range []string{zeros, stranger, "", name} {
			if x.Extends(name, other) || x.Conflict(name, other) || x.Extends(other, name) || x.Conflict(other, name) {
				t.Errorf("P14.1: Extends or Conflict of %x and %x of a tree that nobody made", name, other)
			}
		}
	}
	if x.Len() != 0 {
		t.Errorf("P14.1: Len of a tree that nobody made = %d", x.Len())
	}
}

func TestTreeThatNobodyMade(t *testing.T) {
	var none *tree.Tree
	for _, x := range []*tree.Tree{none, {}, new(tree.Tree)} {
		ends(t, "a call of a tree that nobody made", func() {
			isNone(t, x)
			for _, b := range []api.Block{first(0, 1), child(first(0, 1), 2, 1), full(), {}} {
				if x.Put(b) {
					t.Error("P14.1: Put to a tree that nobody made = true")
				}
				isNone(t, x)
			}
		})
	}
}
