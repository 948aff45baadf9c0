package learner

import (
	"cmp"
	"maps"
	"slices"
	"strings"

	"moot/api"
	"moot/block"
	"moot/tree"
)

// heard is what was taken: blocks by their names, and statements, each once.
type heard struct {
	blocks *tree.Tree
	stated map[api.Vote]api.Vote // each by all its fields but Sig
}

// newHeard answers what was taken at first.
func newHeard() heard {
	return heard{blocks: tree.New(), stated: map[api.Vote]api.Vote{}}
}

// plant keeps a block, and says if none of its name was there.
func (h *heard) plant(b api.Block) bool {
	return h.blocks.Put(b)
}

// note keeps a statement, and says if none that says the same was there.
func (h *heard) note(v api.Vote) bool {
	said := v
	said.Sig = ""
	if _, ok := h.stated[said]; ok {
		return false
	}
	h.stated[said] = v
	return true
}

// statements answers all statements in their order.
func (h *heard) statements() []api.Vote {
	return slices.SortedFunc(maps.Values(h.stated), compare)
}

// isKnown says if a mark is of a block whose chain is known, with its view and height.
func (h *heard) isKnown(m api.Mark) bool {
	// The first block is kept nowhere: its View and Height are 0, as the zero block's.
	b, _ := h.blocks.Get(m.Block)
	return b.View == m.View && b.Height == m.Height && h.blocks.Extends(m.Block, block.Genesis())
}

// isUnder says if all of these marks' blocks extend a block.
func (h *heard) isUnder(name string, l []api.Mark) bool {
	isElsewhere := func(m api.Mark) bool {
		return !h.blocks.Extends(m.Block, name)
	}
	return !slices.ContainsFunc(l, isElsewhere)
}

// compare answers how two statements stand in their order, in which their Sigs do not count.
func compare(a, b api.Vote) int {
	return cmp.Or(
		cmp.Compare(a.Kind, b.Kind),
		cmp.Compare(a.View, b.View),
		cmp.Compare(a.Height, b.Height),
		strings.Compare(a.Block, b.Block),
		cmp.Compare(a.Ticks, b.Ticks),
		cmp.Compare(a.Signer, b.Signer),
	)
}
