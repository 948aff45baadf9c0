package held_test

import (
	"math"
	"slices"
	"testing"
	"time"

	"moot/api"
	"moot/held"
)

// The limit, as the document tells it.
const maxAmount = 1 << 40

// sizes are numbers at the edges of what may be, and far from it.
var sizes = []int{
	math.MinInt, math.MinInt + 1, -1 << 62, -1 << 40, -1 << 32, -65, -2, -1, 0, 1, 2, 3, 4, 5, 6, 7, 8, 9, 15, 16, 17, 31, 32, 33, 62, 63, 64, 65, 66, 67,
	1000, 1 << 20, 1<<31 - 1, 1 << 31, 1 << 32, 1<<32 + 5, maxAmount - 66, maxAmount - 65, maxAmount - 64, maxAmount - 2, maxAmount - 1, maxAmount, maxAmount + 1, maxAmount + 2,
	2 * maxAmount, 1 << 62, math.MaxInt - 1, math.MaxInt,
}

// marks are marks that may be and marks that may not, all of a Block.
var marks = []api.Mark{
	{View: 3, Height: 2, Block: "the name of a block, of 32 octets"[:32]},
	{Block: "x"},
	{Block: "\x00"},
	{View: -1, Height: math.MinInt, Block: "\xff\xfe of a view that may not be"},
	{View: math.MaxInt, Height: 1<<20 + 1, Block: string(make([]byte, 5000))},
}

// bare are marks without a Block.
var bare = []api.Mark{{}, {View: 3, Height: 2}, {View: -1}, {Height: -1}, {View: math.MaxInt, Height: math.MinInt}}

// fullOf is what Full has to answer.
func fullOf(since, now int) int {
	switch {
	case since < 0, since > maxAmount, now < 0, now > maxAmount, now <= since:
		return 0
	}
	return now - since - 1
}

// dueOf is what Tick has to report.
func dueOf(h held.Held, now int) []int {
	all := []int{1, 2, 4, 8, 16, 32, 64}
	if h.Mark.Block == "" || h.Told < 0 || h.Told > len(all) {
		return nil
	}
	var due []int
	for _, ticks := range all[h.Told:] {
		if fullOf(h.Since, now) >= ticks {
			due = append(due, ticks)
		}
	}
	return due
}

// isTick says if Tick answers these reports, and what is held with as many more told and all else as it was.
func isTick(t *testing.T, what string, h held.Held, now int, want ...int) held.Held {
	t.Helper()
	next, got := held.Tick(h, now)
	if !slices.Equal(got, want) {
		t.Errorf("P19.1: %s: since %d, %d told: at %d due are %v, want %v", what, h.Since, h.Told, now, got, want)
	}
	if next.Mark != h.Mark || next.Since != h.Since || next.Told != h.Told+len(want) {
		t.Errorf("P19.1: %s: at %d behind %v is %v, want %d more told and all else as it was", what, now, h, next, len(want))
	}
	return next
}

// ends calls f and says if it panicked, or does not end (P1).
func ends(t *testing.T, what string, f func()) {
	t.Helper()
	over := make(chan any, 1)
	go func() {
		defer func() { over <- recover() }()
		f()
	}()
	select {
	case x := <-over:
		if x != nil {
			t.Errorf("P1: %s panicked: %v", what, x)
		}
	case <-time.After(time.Minute):
		t.Fatalf("P1: %s does not end", what)
	}
}
