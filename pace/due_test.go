package pace_test

import (
	"math"
	"math/rand"
	"testing"

	"moot/pace"
)

// TestDue: P18.1, by numbers written out.
func TestDue(t *testing.T) {
	for _, c := range []struct {
		what                         string
		now, base, tries, most, want int
	}{
		{"the least number", math.MinInt, 2, 3, 10, 10},
		{"far below 0", -1 << 40, 2, 0, 10, 2},
		{"below 0", -1, 2, 3, 10, 10},
		{"0", 0, 2, 3, 10, 10},
		{"1", 1, 2, 3, 10, 11},
		{"between", 1000, 2, 1, 10, 1004},
		{"MaxTicks", maxTicks, 2, 1, 10, maxTicks + 4},
		{"just above MaxTicks", maxTicks + 1, maxTicks, 5, maxTicks, 2*maxTicks + 1},
		{"2^32 and 5", 1<<32 + 5, 3, 0, 10, 1<<32 + 8},
		{"just below MaxAmount", maxAmount - 1, 2, 3, 10, maxAmount + 9},
		{"MaxAmount", maxAmount, 2, 3, 10, maxAmount + 10},
		{"just above MaxAmount", maxAmount + 1, 2, 3, 10, maxAmount + 10},
		{"MaxAmount, of the longest wait", maxAmount, math.MaxInt, math.MaxInt, math.MaxInt, maxAmount + maxTicks},
		{"2^62", 1 << 62, 2, 3, 10, maxAmount + 10},
		{"the greatest number", math.MaxInt, 2, 3, 10, maxAmount + 10},
		{"the greatest number, of the shortest wait", math.MaxInt, math.MinInt, math.MinInt, math.MinInt, maxAmount + 1},

		{"a base below 1", 50, -5, 0, 100, 51},
		{"a base of 1", 50, 1, 0, 100, 51},
		{"a base of MaxTicks", 50, maxTicks, 0, maxTicks, 50 + maxTicks},
		{"a base above MaxTicks", 50, maxTicks + 1, 0, maxTicks + 1, 50 + maxTicks},
		{"tries below 0", 50, 5, -1, 100, 55},
		{"no tries", 50, 5, 0, 100, 55},
		{"one try", 50, 5, 1, 100, 60},
		{"tries to just below most", 50, 5, 3, 41, 90},
		{"tries to most", 50, 5, 3, 40, 90},
		{"tries to just above most", 50, 5, 3, 39, 89},
		{"tries beyond any number", 50, 5, 64, 100, 150},
		{"tries of the greatest number", 50, 5, math.MaxInt, 100, 150},
		{"a most below 1", 50, 5, 3, 0, 51},
		{"a most of 1", 50, 5, 3, 1, 51},
		{"a most above MaxTicks", 50, 5, 30, math.MaxInt, 50 + maxTicks},
		{"a most below the base", 50, 9, 3, 8, 58},
	} {
		if got := pace.Due(c.now, c.base, c.tries, c.most); got != c.want {
			t.Errorf("P18.1: of %s: Due(%d, %d, %d, %d) = %d, want %d", c.what, c.now, c.base, c.tries, c.most, got, c.want)
		}
	}
}

// TestDueOfSizes: P18.1, P1: any four numbers, held against now and Wait.
func TestDueOfSizes(t *testing.T) {
	ends(t, "Due", func() {
		for _, now := range sizes {
			for _, base := range sizes {
				for _, tries := range sizes {
					for _, most := range sizes {
						if got, want := pace.Due(now, base, tries, most), nearest(now, 0, maxAmount)+pace.Wait(base, tries, most); got != want {
							t.Fatalf("P18.1: Due(%d, %d, %d, %d) = %d, now and Wait are %d", now, base, tries, most, got, want)
						}
					}
				}
			}
		}
	})
}

// TestDueDrawn: P18.1: drawn numbers, held against the reckoning.
func TestDueDrawn(t *testing.T) {
	r := rand.New(rand.NewSource(182))
	below, between, above := 0, 0, 0
	for range 20000 {
		now := drawn(r, 2*maxAmount)
		isDue(t, now, drawn(r, maxTicks), r.Intn(30)-4, drawn(r, 2*maxTicks))
		switch {
		case now < 0:
			below++
		case now > maxAmount:
			above++
		default:
			between++
		}
	}
	// drawn halves up to 19 times, so that few of 2 * MaxAmount are below 0.
	for range 2000 {
		now := -r.Intn(100)
		isDue(t, now, drawn(r, maxTicks), r.Intn(30)-4, drawn(r, 2*maxTicks))
		below++
	}
	if below < 1000 || between < 1000 || above < 200 {
		t.Errorf("of the drawn %d are below 0, %d between, %d above MaxAmount", below, between, above)
	}
}
