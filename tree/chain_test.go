package tree_test

import (
	"slices"
	"testing"

	"moot/api"
	"moot/tree"
)

// forked is a tree's blocks: a, b, c one behind the other, d and e behind a, too, and f beside a.
//
//	first block - a - b - c
//	            |   \ d - e
//	            \ f
func forked() (a, b, c, d, e, f api.Block) {
	a = first(1, 1)
	b = child(a, 2, 1)
	c = child(b, 2, 1)
	d = child(a, 3, 2)
	e = child(d, 5, 2)
	f = first(1, 3)
	return a, b, c, d, e, f
}

// isChain says if a block's chain is known, and these blocks.
func isChain(t *testing.T, x *tree.Tree, name string, want ...api.Block) {
	t.Helper()
	got, ok := x.Chain(name)
	if !ok || !slices.EqualFunc(got, want, same) {
		t.Errorf("P14.1: Chain of %x = %d blocks, %v, want those %d that were put, true", name, len(got), ok, len(want))
	}
	if !x.Extends(name, name) || x.Conflict(name, name) {
		t.Errorf("P14.1: %x, whose chain is known, does not extend itself, or conflicts with it", name)
	}
}

// isUnknown says if a block's chain is not known, to whatever call.
func isUnknown(t *testing.T, what string, x *tree.Tree, name string) {
	t.Helper()
	if got, ok := x.Chain(name); ok || len(got) != 0 {
		t.Errorf("P14.1: Chain of %s = %d blocks, %v, want nothing, false", what, len(got), ok)
	}
	for _, other := range []string{name, zeros, stranger, nameOf(first(1, 1))} {
		if x.Extends(name, other) || x.Conflict(name, other) || x.Conflict(other, name) {
			t.Errorf("P14.1: Extends, or Conflict, of %s and %x", what, other)
		}
	}
	if x.Extends(zeros, name) {
		t.Errorf("P14.1: the first block extends %s", what)
	}
}

func TestChain(t *testing.T) {
	a, b, c, d, e, f := forked()
	x := planted(t, a, b, c, d, e, f)
	isChain(t, x, zeros)
	isChain(t, x, nameOf(a), a)
	isChain(t, x, nameOf(b), a, b)
	isChain(t, x, nameOf(c), a, b, c)
	isChain(t, x, nameOf(d), a, d)
	isChain(t, x, nameOf(e), a, d, e)
	isChain(t, x, nameOf(f), f)
	isUnknown(t, "one that is not there", x, stranger)
	isUnknown(t, "no name", x, "")
}

func TestExtends(t *testing.T) {
	a, b, c, d, e, f := forked()
	x := planted(t, a, b, c, d, e, f)
	extended := map[string][]api.Block{zeros: nil, nameOf(a): {a}, nameOf(b): {a, b}, nameOf(c): {a, b, c}, nameOf(d): {a, d}, nameOf(e): {a, d, e}, nameOf(f): {f}}
	for name, chain := range extended {
		for other := range extended {
			isOne := func(b api.Block) bool { return nameOf(b) == other }
			if got := x.Extends(name, other); got != (other == zeros || slices.ContainsFunc(chain, isOne)) {
				t.Errorf("P14.1: Extends of %x and %x = %v", name, other, got)
			}
		}
		if x.Extends(name, stranger) || x.Extends(stranger, name) || x.Extends(name, "") || x.Extends("", name) {
			t.Errorf("P14.1: %x extends, or is extended by, what is not there", name)
		}
	}
	if x.Extends(stranger, stranger) || x.Extends("", "") {
		t.Error("P14.1: what is not there extends itself")
	}
}

func TestConflict(t *testing.T) {
	a, b, c, d, e, f := forked()
	x := planted(t, a, b, c, d, e, f)
	apart := [][2]api.Block{{a, f}, {b, d}, {b, e}, {b, f}, {c, d}, {c, e}, {c, f}, {d, f}, {e, f}}
	all := []api.Block{a, b, c, d, e, f}
	for _, one := range all {
		for _, other := range all {
			isPair := func(p [2]api.Block) bool {
				return same(p[0], one) && same(p[1], other) || same(p[1], one) && same(p[0], other)
			}
			if got := x.Conflict(nameOf(one), nameOf(other)); got != slices.ContainsFunc(apart, isPair) {
				t.Errorf("P14.1: Conflict of %x and %x = %v", nameOf(one), nameOf(other), got)
			}
		}
		for _, other := range []string{zeros, stranger, ""} {
			if x.Conflict(nameOf(one), other) || x.Conflict(other, nameOf(one)) {
				t.Errorf("P14.1: Conflict of %x and %x", nameOf(one), other)
			}
		}
	}
}

// One of two chains that go apart isn't known: they do not conflict until it is.
func TestConflictWithWhatIsNotKnown(t *testing.T) {
	a, b, c, d, e, f := forked()
	x := planted(t, f, e, c)
	for _, more := range []api.Block{d, b} {
		isUnknown(t, "a block whose chain lacks its first", x, nameOf(e))
		isUnknown(t, "a block whose chain lacks its first", x, nameOf(c))
		put(t, x, more)
	}
	put(t, x, a)
	for _, p := range [][2]api.Block{{c, e}, {c, f}, {e, f}, {b, d}, {a, f}} {
		if !x.Conflict(nameOf(p[0]), nameOf(p[1])) || !x.Conflict(nameOf(p[1]), nameOf(p[0])) {
			t.Errorf("P14.1: Conflict of %x and %x, now that both chains are known = false", nameOf(p[0]), nameOf(p[1]))
		}
	}
}

// misses says what Missing has to tell of blocks.
func misses(t *testing.T, what string, x *tree.Tree, want string, l ...api.Block) {
	t.Helper()
	for _, b := range l {
		if got := x.Missing(nameOf(b)); got != want {
			t.Errorf("P14.1: %s: Missing of a block of Height %d = %x, want %x", what, b.Height, got, want)
		}
	}
}

func TestMissing(t *testing.T) {
	a, b, c, d, e, f := forked()
	x := planted(t, a, b, c, d, e)
	misses(t, "all are there", x, "", a, b, c, d, e)
	misses(t, "it lacks itself", x, nameOf(f), f)
	y := planted(t, c, e)
	misses(t, "the parent lacks", y, nameOf(b), c, b)
	misses(t, "the parent lacks", y, nameOf(d), e, d)
	misses(t, "it lacks itself", y, nameOf(a), a)
	put(t, y, b)
	misses(t, "an earlier one lacks", y, nameOf(a), a, b, c)
	misses(t, "the parent lacks", y, nameOf(d), e, d)
	put(t, y, a)
	misses(t, "nothing lacks any more", y, "", a, b, c)
	put(t, y, d)
	misses(t, "nothing lacks any more", y, "", a, b, c, d, e)
	for _, z := range []*tree.Tree{x, y} {
		if z.Missing(zeros) != "" || z.Missing(stranger) != stranger || z.Missing("") != "" || z.Missing(zeros[1:]) != zeros[1:] {
			t.Error("P14.1: Missing of the first block, or of one that is not there")
		}
	}
}

// What stands on its parent as it may not is not known, and nothing behind it, though nothing lacks.
func TestChainsThatAreNotKnown(t *testing.T) {
	a, b, _, _, _, _ := forked()
	x := planted(t, a, b)
	for what, wrong := range map[string]api.Block{
		"a parent of its own Height":              behind(nameOf(b), 9, 2, b.View, 1),
		"a parent two below":                      behind(nameOf(b), 9, 4, b.View, 1),
		"a parent far below":                      behind(nameOf(a), 9, maxHeight, a.View, 1),
		"a parent above it":                       behind(nameOf(b), 9, 1, b.View, 1),
		"a parent of a View above Justify's":      behind(nameOf(b), 9, 3, b.View-1, 1),
		"a parent of a View below Justify's":      behind(nameOf(b), 9, 3, b.View+1, 1),
		"a parent of a View below, Justify's own": behind(nameOf(b), 9, 3, 9, 1),
		"a parent of View 1, Justify's 0":         behind(nameOf(a), 9, 2, 0, 1),
		"the first block, two below":              behind(zeros, 1, 2, 0, 1),
		"the first block, far below":              behind(zeros, 1, maxHeight, 0, 1),
		"the first block, and Justify of View 1":  behind(zeros, 1, 1, 1, 1),
		"the first block, and both":               behind(zeros, 1, 2, 1, 1),
	} {
		put(t, x, wrong)
		l := []api.Block{wrong, with(child(wrong, maxView, 2), func(b *api.Block) { b.Height = min(b.Height, maxHeight); b.Justify.Height = b.Height - 1 })}
		put(t, x, l[1])
		for _, one := range l {
			isUnknown(t, "a block behind "+what, x, nameOf(one))
			misses(t, "a block behind "+what, x, "", one)
		}
	}
	lacks := behind(stranger, 2, 3, 2, 1)
	put(t, x, lacks)
	isUnknown(t, "a block whose parent is not there", x, nameOf(lacks))
	misses(t, "a block whose parent is not there", x, stranger, lacks)
	isChain(t, x, nameOf(b), a, b)
}

// A block is not in a tree under another one's name, nor is its parent known by its Height alone.
func TestChainsBesideEachOther(t *testing.T) {
	a, b, c, _, _, _ := forked()
	x := planted(t, a, c)
	put(t, x, child(a, 2, 9))
	isUnknown(t, "a block whose parent's sibling alone is there", x, nameOf(c))
	put(t, x, b)
	isChain(t, x, nameOf(c), a, b, c)
}

// A chain may be as long as the memory allows.
func TestLongChain(t *testing.T) {
	l := row(3000, 1)
	x := tree.New()
	last := nameOf(l[len(l)-1])
	for _, b := range slices.Backward(l) {
		if x.Missing(last) != nameOf(b) || x.Extends(last, zeros) {
			t.Fatalf("P14.1: Missing behind Put of the blocks above Height %d", b.Height)
		}
		put(t, x, b)
	}
	isChain(t, x, last, l...)
	if x.Missing(last) != "" || !x.Extends(last, nameOf(l[0])) || x.Extends(nameOf(l[0]), last) || x.Len() != 3000 {
		t.Error("P14.1: a long chain")
	}
	other := child(l[len(l)-2], maxView, 2)
	put(t, x, other)
	if !x.Conflict(nameOf(other), last) || x.Conflict(nameOf(other), nameOf(l[len(l)-2])) {
		t.Error("P14.1: Conflict of long chains")
	}
}

// Of two that a third one extends one extends the other, so that they do not conflict.
func TestOneChainExtendsItsBlocks(t *testing.T) {
	l := row(6, 1)
	x := planted(t, l...)
	put(t, x, child(l[2], 7, 2), child(l[4], 7, 2), first(3, 2))
	names := []string{zeros}
	for _, b := range l {
		names = append(names, nameOf(b))
	}
	for i, a := range names {
		for j, b := range names {
			if x.Extends(a, b) != (i >= j) || x.Conflict(a, b) {
				t.Errorf("P14.2: of a chain's blocks %d and %d, Extends = %v, Conflict = %v", i, j, x.Extends(a, b), x.Conflict(a, b))
			}
		}
	}
}
