package held_test

import (
	"math"
	"slices"
	"testing"

	"moot/api"
	"moot/held"
)

// TestStart: P19.1: a mark as it is, a now of any size as it is, nothing told.
func TestStart(t *testing.T) {
	for _, m := range slices.Concat(marks, bare) {
		for _, now := range sizes {
			if got, want := held.Start(m, now), (held.Held{Mark: m, Since: now}); got != want {
				t.Errorf("P19.1: Start(%v, %d) = %v", m, now, got)
			}
		}
	}
}

// TestRunning: P19.1: a Block that is empty and one that is not; nothing else counts.
func TestRunning(t *testing.T) {
	if held.Running(held.Held{}) {
		t.Error("P19.1: what was never started is running")
	}
	for _, n := range sizes {
		for _, m := range marks {
			for _, h := range []held.Held{{Mark: m, Since: n}, {Mark: m, Told: n}, {Mark: m, Since: n, Told: n}, held.Start(m, n)} {
				if !held.Running(h) {
					t.Errorf("P19.1: Running(%v) = false", h)
				}
			}
		}
		for _, m := range bare {
			for _, h := range []held.Held{{Mark: m, Since: n}, {Mark: m, Told: n}, {Mark: m, Since: n, Told: n}, held.Start(m, n)} {
				if held.Running(h) {
					t.Errorf("P19.1: Running(%v) = true", h)
				}
			}
		}
		if h := (held.Held{Mark: api.Mark{View: n, Height: n}}); held.Running(h) {
			t.Errorf("P19.1: Running(%v) = true", h)
		}
		if h := (held.Held{Mark: api.Mark{View: n, Height: n, Block: "x"}}); !held.Running(h) {
			t.Errorf("P19.1: Running(%v) = false", h)
		}
	}
}

// TestFull: P19.1, by numbers written out.
func TestFull(t *testing.T) {
	for _, c := range []struct {
		what             string
		since, now, want int
	}{
		{"the chapter's example", 5, 8, 2},

		{"a now of the least number", 5, math.MinInt, 0},
		{"a now far below Since", 500, 5, 0},
		{"a now two below Since", 5, 3, 0},
		{"a now one below Since", 5, 4, 0},
		{"a now at Since", 5, 5, 0},
		{"a now one above Since", 5, 6, 0},
		{"a now two above Since", 5, 7, 1},
		{"a now far above Since", 5, 1005, 999},
		{"a now 2^32 above Since", 5, 5 + 1<<32, 1<<32 - 1},

		{"0 and 0", 0, 0, 0},
		{"0 and 1", 0, 1, 0},
		{"0 and 2", 0, 2, 1},
		{"1 and 0", 1, 0, 0},
		{"0 and MaxAmount", 0, maxAmount, maxAmount - 1},
		{"0 and just below MaxAmount", 0, maxAmount - 1, maxAmount - 2},
		{"1 and MaxAmount", 1, maxAmount, maxAmount - 2},
		{"MaxAmount and 0", maxAmount, 0, 0},
		{"MaxAmount and MaxAmount", maxAmount, maxAmount, 0},
		{"just below MaxAmount and MaxAmount", maxAmount - 1, maxAmount, 0},
		{"two below MaxAmount and MaxAmount", maxAmount - 2, maxAmount, 1},

		{"a Since of -1", -1, 5, 0},
		{"a Since of -1, a now of MaxAmount", -1, maxAmount, 0},
		{"a Since of -1, a now of -1", -1, -1, 0},
		{"a Since and a now below 0", -5, -1, 0},
		{"a Since of the least number", math.MinInt, 5, 0},
		{"a Since of the least number, a now of the greatest", math.MinInt, math.MaxInt, 0},
		{"a Since of the least number, a now below 0", math.MinInt, -1, 0},
		{"a Since just above MaxAmount", maxAmount + 1, maxAmount + 9, 0},
		{"a Since just above MaxAmount, a now of 0", maxAmount + 1, 0, 0},
		{"a Since of the greatest number", math.MaxInt, 5, 0},
		{"a Since of the greatest number, a now of the least", math.MaxInt, math.MinInt, 0},
		{"a Since of the greatest number, a now of it", math.MaxInt, math.MaxInt, 0},

		{"a now of -1", 0, -1, 0},
		{"a now just above MaxAmount", 5, maxAmount + 1, 0},
		{"a now just above MaxAmount, a Since just below it", maxAmount - 1, maxAmount + 1, 0},
		{"a now of 2^62", 5, 1 << 62, 0},
		{"a now of the greatest number", 5, math.MaxInt, 0},
		{"a now of the greatest number, a Since of 0", 0, math.MaxInt, 0},
		{"a now of the least number, a Since of MaxAmount", maxAmount, math.MinInt, 0},
		{"a now of the least number, a Since of 0", 0, math.MinInt, 0},
	} {
		if got := held.Full(held.Start(api.Mark{Block: "x"}, c.since), c.now); got != c.want {
			t.Errorf("P19.1: %s: Full since %d at %d = %d, want %d", c.what, c.since, c.now, got, c.want)
		}
	}
}

// TestFullOfSizes: P19.1, P1: any Since and any now; neither the mark nor what is told counts.
func TestFullOfSizes(t *testing.T) {
	ends(t, "Full", func() {
		for i, since := range sizes {
			for k, now := range sizes {
				m, told := slices.Concat(marks, bare)[(i+k)%len(slices.Concat(marks, bare))], sizes[(7*i+k)%len(sizes)]
				for _, h := range []held.Held{{Since: since}, {Mark: m, Since: since, Told: told}, {Since: since, Told: -1}, {Mark: marks[0], Since: since, Told: 8}} {
					if got, want := held.Full(h, now), fullOf(since, now); got != want {
						t.Errorf("P19.1: Full(%v, %d) = %d, want %d", h, now, got, want)
					}
				}
			}
		}
	})
}

// TestFullCounted: P19.1: ticks behind Since and ahead of now, counted one by one.
func TestFullCounted(t *testing.T) {
	for since := range 80 {
		for now := range 80 {
			between := 0
			for tick := range 80 {
				if since < tick && tick < now {
					between++
				}
			}
			for _, from := range []int{0, 1 << 32, maxAmount - 79} {
				if got := held.Full(held.Held{Since: from + since}, from+now); got != between {
					t.Errorf("P19.1: Full since %d at %d = %d, want %d", from+since, from+now, got, between)
				}
			}
		}
	}
}
