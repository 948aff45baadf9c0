package pace_test

import (
	"math"
	"math/rand"
	"testing"

	"moot/pace"
)

// TestWait: P18.1, by numbers written out.
func TestWait(t *testing.T) {
	for _, c := range []struct {
		what                    string
		base, tries, most, want int
	}{
		{"the chapter's example", 2, 3, 10, 10},

		{"a base of the least number", math.MinInt, 0, 100, 1},
		{"a base below 0", -1, 3, 100, 8},
		{"a base of 0", 0, 0, 100, 1},
		{"a base of 0, doubled", 0, 5, 100, 32},
		{"a base of 1", 1, 0, 100, 1},
		{"a base of 1, doubled", 1, 5, 100, 32},
		{"a base between", 7, 0, 100, 7},
		{"a base between, doubled", 7, 2, 100, 28},
		{"a base just below MaxTicks", maxTicks - 1, 0, maxTicks, maxTicks - 1},
		{"a base of MaxTicks", maxTicks, 0, maxTicks, maxTicks},
		{"a base above MaxTicks", maxTicks + 1, 0, maxTicks, maxTicks},
		{"a base above MaxTicks, doubled", maxTicks + 1, 1, maxTicks, maxTicks},
		{"a base of 2^32 and 5", 1<<32 + 5, 0, maxTicks, maxTicks},
		{"a base of 2^62, which doubled twice is 0", 1 << 62, 2, maxTicks, maxTicks},
		{"a base of the greatest number", math.MaxInt, 0, maxTicks, maxTicks},
		{"a base of the greatest number, doubled", math.MaxInt, 1, 100, 100},

		{"tries of the least number", 5, math.MinInt, 100, 5},
		{"tries below 0", 5, -1, 100, 5},
		{"tries of -64", 5, -64, 100, 5},
		{"no tries", 5, 0, 100, 5},
		{"one try", 5, 1, 100, 10},
		{"two tries", 5, 2, 100, 20},
		{"tries to just below most", 5, 4, 81, 80},
		{"tries to most", 5, 4, 80, 80},
		{"tries to just above most", 5, 4, 79, 79},
		{"a try behind most", 5, 5, 80, 80},
		{"19 tries, below MaxTicks", 1, 19, maxTicks, maxTicks / 2},
		{"20 tries, MaxTicks", 1, 20, maxTicks, maxTicks},
		{"21 tries, above MaxTicks", 1, 21, maxTicks, maxTicks},
		{"of one above a half of MaxTicks one try", maxTicks/2 + 1, 1, maxTicks, maxTicks},
		{"of one below a half of MaxTicks one try", maxTicks/2 - 1, 1, maxTicks, maxTicks - 2},
		{"32 tries", 1, 32, maxTicks, maxTicks},
		{"62 tries", 1, 62, maxTicks, maxTicks},
		{"63 tries", 1, 63, maxTicks, maxTicks},
		{"64 tries", 1, 64, maxTicks, maxTicks},
		{"64 tries of 3", 3, 64, 100, 100},
		{"1000 tries", 3, 1000, 100, 100},
		{"2^32 tries", 3, 1 << 32, 100, 100},
		{"2^32 tries of 1, of most 1", 1, 1 << 32, 1, 1},
		{"tries of the greatest number", 3, math.MaxInt, 100, 100},
		{"tries of the greatest number, of all MaxTicks", 1, math.MaxInt, maxTicks, maxTicks},
		{"tries of the greatest number, of base and most below 1", -3, math.MaxInt, -3, 1},

		{"a most of the least number", 5, 3, math.MinInt, 1},
		{"a most below 0", 5, 0, -1, 1},
		{"a most of 0", 5, 3, 0, 1},
		{"a most of 1", 5, 3, 1, 1},
		{"a most of 2", 1, 3, 2, 2},
		{"a most just below MaxTicks", maxTicks, 0, maxTicks - 1, maxTicks - 1},
		{"a most of MaxTicks", 3, 30, maxTicks, maxTicks},
		{"a most above MaxTicks", 3, 30, maxTicks + 1, maxTicks},
		{"a most above MaxTicks, of a base above it", 2 * maxTicks, 0, 2 * maxTicks, maxTicks},
		{"a most of 2^32", 3, 30, 1 << 32, maxTicks},
		{"a most of the greatest number", 3, 100, math.MaxInt, maxTicks},
		{"a most of the greatest number, far off", 3, 2, math.MaxInt, 12},
		{"a most that is below the base", 9, 0, 8, 8},
		{"a most that is below the base, tries below 0", 9, -1, 8, 8},
		{"a most that is below the base, doubled", 9, 4, 8, 8},
		{"a most that is the base", 9, 4, 9, 9},
		{"a most that is just above the base", 9, 1, 10, 10},
	} {
		if got := pace.Wait(c.base, c.tries, c.most); got != c.want {
			t.Errorf("P18.1: %s: Wait(%d, %d, %d) = %d, want %d", c.what, c.base, c.tries, c.most, got, c.want)
		}
	}
}

// TestWaitOfSizes: P18.1, P1: any three numbers, held against the reckoning; no Wait is below 1 or above MaxTicks.
func TestWaitOfSizes(t *testing.T) {
	ends(t, "Wait", func() {
		for _, base := range sizes {
			for _, tries := range sizes {
				for _, most := range sizes {
					isWait(t, base, tries, most)
					if w := pace.Wait(base, tries, most); w < 1 || w > maxTicks {
						t.Errorf("P18.1: Wait(%d, %d, %d) = %d, which is not from 1 to MaxTicks", base, tries, most, w)
					}
				}
			}
		}
	})
}

// TestWaitAtMost: P18.1: doubled to just below, at and just above a most, of all tries that meet one.
func TestWaitAtMost(t *testing.T) {
	for tries := range 21 {
		for _, base := range []int{1, 2, 3, 5, 7, 1000, 4095} {
			at := base << tries
			if at > maxTicks {
				continue
			}
			for most, want := range map[int]int{at + 1: at, at: at, at - 1: at - 1} {
				if want < 1 {
					continue
				}
				if got := pace.Wait(base, tries, most); got != want {
					t.Errorf("P18.1: Wait(%d, %d, %d) = %d, want %d", base, tries, most, got, want)
				}
			}
		}
	}
}

// TestOneTryMore: P18.1: with one try more Wait is no less, at most twice as much, and never above most.
func TestOneTryMore(t *testing.T) {
	doubled, stopped, stays := 0, 0, 0
	for _, base := range sizes {
		for _, most := range sizes {
			for tries := -3; tries < 70; tries++ {
				one, two := pace.Wait(base, tries, most), pace.Wait(base, tries+1, most)
				if two < one || two > 2*one || two > max(1, most) {
					t.Errorf("P18.1: Wait(%d, %d, %d) = %d, and with one try more %d", base, tries, most, one, two)
				}
				switch {
				case two == 2*one:
					doubled++
				case two > one:
					stopped++
				default:
					stays++
				}
			}
		}
	}
	if doubled < 500 || stopped < 100 || stays < 500 {
		t.Errorf("one try more doubled %d, stopped at most %d, changed nothing %d", doubled, stopped, stays)
	}
}

// TestWaitDrawn: P18.1: drawn numbers, held against the reckoning.
func TestWaitDrawn(t *testing.T) {
	r := rand.New(rand.NewSource(181))
	first, between, last := 0, 0, 0
	for range 20000 {
		base, tries, most := drawn(r, maxTicks), r.Intn(30)-4, drawn(r, 2*maxTicks)
		isWait(t, base, tries, most)
		switch pace.Wait(base, tries, most) {
		case nearest(base, 1, maxTicks):
			first++
		case nearest(most, 1, maxTicks):
			last++
		default:
			between++
		}
	}
	if first < 1000 || between < 1000 || last < 1000 {
		t.Errorf("of the drawn %d are the base, %d between, %d most", first, between, last)
	}
}

// drawn is a number up to high, small ones as likely as great ones, at times below 0.
func drawn(r *rand.Rand, high int) int {
	return r.Intn(high>>r.Intn(20)+1) - r.Intn(3)
}
