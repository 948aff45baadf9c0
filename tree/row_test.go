package tree_test

import (
	"math/rand"
	"slices"
	"testing"

	"moot/api"
	"moot/tree"
)

// grown is a drawn block behind one of those that are there, the first block or a stranger; it stands on most as it should.
func grown(r *rand.Rand, p page) api.Block {
	if len(p) == 0 || r.Intn(6) == 0 {
		return first(r.Intn(3), 1+r.Intn(1000))
	}
	// The later ones have more children, so that some chains are long.
	on := p[max(r.Intn(len(p)), r.Intn(len(p)))].b
	b := child(on, on.View+r.Intn(3), 1+r.Intn(1000))
	switch r.Intn(30) {
	case 0:
		return with(b, func(b *api.Block) { b.Parent, b.Justify.Block = stranger, stranger })
	case 1:
		return with(b, func(b *api.Block) { b.Parent, b.Justify.Block = zeros, zeros })
	case 2:
		return with(b, func(b *api.Block) { b.Height, b.Justify.Height = b.Height+1, b.Justify.Height+1 })
	case 3:
		return with(b, func(b *api.Block) { b.Height, b.Justify.Height = on.Height, on.Height-1 })
	case 4:
		return with(b, func(b *api.Block) { b.View, b.Justify.View = b.View+1, b.Justify.View+1 })
	case 5:
		return with(b, func(b *api.Block) { b.Justify.View = 0 })
	}
	return b
}

// grove is so many drawn blocks, no two of one name, in a drawn order.
func grove(r *rand.Rand, count int) page {
	var p page
	for len(p) < count {
		b := grown(r, p)
		if _, ok := p.find(nameOf(b)); !ok {
			p = append(p, entry{nameOf(b), b})
		}
	}
	r.Shuffle(len(p), func(i, j int) { p[i], p[j] = p[j], p[i] })
	return p
}

// count tells how many of a page's blocks are of each kind.
func count(p page, times map[string]int) {
	for _, a := range p {
		if p.known(a.name) {
			times["known"]++
			times["high"] += a.b.Height / 4
		} else if p.missing(a.name) == "" {
			times["standing wrong"]++
		} else if p.missing(a.name) != a.b.Parent {
			times["an earlier one lacks"]++
		}
		for _, b := range p {
			if p.conflict(a.name, b.name) {
				times["conflicts"]++
			}
		}
	}
}

// Whatever comes, in whatever order, a tree tells behind each Put what the page does.
func TestRows(t *testing.T) {
	r := rand.New(rand.NewSource(14))
	times := map[string]int{}
	for range 250 {
		p := grove(r, 1+r.Intn(14))
		x := tree.New()
		for i, e := range p {
			put(t, x, e.b)
			if again := p[r.Intn(i+1)].b; x.Put(again) || x.Put(with(again, func(b *api.Block) { b.Sig = "again" })) {
				t.Error("P14.1: Put of a block that is there = true")
			}
			isAs(t, "a row of blocks", x, p[:i+1])
			count(p[:i+1], times)
			if t.Failed() {
				return
			}
		}
	}
	for _, what := range []string{"known", "high", "standing wrong", "an earlier one lacks", "conflicts"} {
		if times[what] < 100 {
			t.Errorf("%s: only %d times", what, times[what])
		}
	}
}

// The order in which blocks came is not to be seen.
func TestOrderIsNotToBeSeen(t *testing.T) {
	r := rand.New(rand.NewSource(41))
	for range 20 {
		p := grove(r, 10)
		for range 5 {
			x := tree.New()
			r.Shuffle(len(p), func(i, j int) { p[i], p[j] = p[j], p[i] })
			for _, e := range p {
				put(t, x, e.b)
			}
			isAs(t, "blocks in another order", x, p)
		}
	}
}

// Of two that a third one extends one extends the other; else two known ones conflict.
func TestTwoOfOneChain(t *testing.T) {
	r := rand.New(rand.NewSource(142))
	both := 0
	for range 40 {
		p := grove(r, 12)
		x := tree.New()
		for _, e := range p {
			put(t, x, e.b)
		}
		for _, third := range p.names() {
			extended := slices.DeleteFunc(p.names(), func(name string) bool { return !x.Extends(third, name) })
			both += len(extended) * (len(extended) - 1)
			for _, a := range extended {
				for _, b := range extended {
					if x.Conflict(a, b) || !x.Extends(a, b) && !x.Extends(b, a) {
						t.Fatalf("P14.2: %x extends %x and %x, of which neither extends the other", third, a, b)
					}
				}
			}
		}
		for _, a := range p.names() {
			for _, b := range p.names() {
				isKnown := x.Extends(a, a) && x.Extends(b, b)
				if isKnown != (x.Conflict(a, b) || x.Extends(a, b) || x.Extends(b, a)) {
					t.Fatalf("P14.2: %x and %x neither conflict, nor extends one the other", a, b)
				}
			}
		}
	}
	if both < 1000 {
		t.Errorf("only %d times two of one chain", both)
	}
}
