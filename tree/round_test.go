package tree

import (
	"strings"
	"testing"

	"moot/api"
	"moot/block"
)

// round is a tree of so many blocks of which each is the next one's parent, the last one the first one's: their names are not what Put would call them, as no two blocks of one name are known.
func round(size int) (*Tree, []string) {
	x := New()
	var names []string
	for i := range size {
		names = append(names, strings.Repeat(string(rune('a'+i)), api.Long))
	}
	for i, name := range names {
		parent := names[(i+size-1)%size]
		x.blocks[name] = api.Block{Height: i + 1, Parent: parent, Justify: api.Cert{Height: i, Block: parent}}
	}
	return x, names
}

// A chain that goes round is not known, and nothing is told of it; all calls end.
func TestChainThatGoesRound(t *testing.T) {
	for size := 1; size <= 5; size++ {
		x, names := round(size)
		names = append(names, strings.Repeat("z", api.Long))
		x.blocks[names[size]] = api.Block{Height: size + 1, Parent: names[size-1], Justify: api.Cert{Height: size, Block: names[size-1]}}
		for _, name := range names {
			if l, ok := x.Chain(name); ok || len(l) != 0 {
				t.Errorf("P14.1: Chain of a block of %d that go round = %d blocks, %v", size, len(l), ok)
			}
			if got := x.Missing(name); got != "" {
				t.Errorf("P14.1: Missing of a block of %d that go round = %x", size, got)
			}
			for _, other := range append(names, block.Genesis()) {
				if x.Extends(name, other) || x.Conflict(name, other) || x.Conflict(other, name) || x.Extends(other, name) {
					t.Errorf("P14.1: Extends or Conflict of blocks of %d that go round", size)
				}
			}
		}
		if !x.Extends(block.Genesis(), block.Genesis()) || x.Missing("x") != "x" || x.Len() != size+1 {
			t.Errorf("P14.1: other blocks beside %d that go round", size)
		}
	}
}
