package pace_test

import (
	"math"
	"testing"

	"moot/pace"
)

// TestLate: P18.1: now below, at and above due, by numbers written out.
func TestLate(t *testing.T) {
	for _, c := range []struct {
		now, due int
		want     bool
	}{
		{9, 10, false}, {10, 10, true}, {11, 10, true},
		{-1, 0, false}, {0, 0, true}, {1, 0, true}, {0, 1, false},
		{-2, -1, false}, {-1, -1, true}, {0, -1, true}, {-1, 1, false}, {1, -1, true},
		{maxAmount - 1, maxAmount, false}, {maxAmount, maxAmount, true}, {maxAmount + 1, maxAmount, true},
		{maxAmount + maxTicks - 1, maxAmount + maxTicks, false}, {maxAmount + maxTicks, maxAmount + maxTicks, true},
		{5, 1<<32 + 5, false}, {1<<32 + 5, 5, true}, {1 << 32, 1, true}, {1, 1 << 32, false},
		{math.MinInt, math.MinInt, true}, {math.MinInt, math.MinInt + 1, false}, {math.MinInt + 1, math.MinInt, true},
		{math.MaxInt, math.MaxInt, true}, {math.MaxInt - 1, math.MaxInt, false}, {math.MaxInt, math.MaxInt - 1, true},
		// Their difference is beyond what an int can tell.
		{math.MinInt, math.MaxInt, false}, {math.MaxInt, math.MinInt, true}, {math.MinInt, 1, false}, {-2, math.MaxInt, false},
		{math.MaxInt, -1, true}, {0, math.MinInt, true},
	} {
		if got := pace.Late(c.now, c.due); got != c.want {
			t.Errorf("P18.1: Late(%d, %d) = %v", c.now, c.due, got)
		}
	}
}

// TestLateOfSizes: P18.1, P1: any two numbers, and those beside them.
func TestLateOfSizes(t *testing.T) {
	ends(t, "Late", func() {
		for i, now := range sizes {
			for k, due := range sizes {
				// sizes rise.
				if got := pace.Late(now, due); got != (i >= k) {
					t.Errorf("P18.1: Late(%d, %d) = %v", now, due, got)
				}
			}
		}
	})
}

// TestLateWhenDue: P18.1: what is not late at once is late when Due says, and not a tick ahead of it.
func TestLateWhenDue(t *testing.T) {
	waits, atOnce := 0, 0
	for _, now := range sizes {
		for _, base := range sizes {
			for _, tries := range []int{math.MinInt, -1, 0, 1, 5, 64, math.MaxInt} {
				for _, most := range sizes {
					due := pace.Due(now, base, tries, most)
					if pace.Late(now, due) != (now >= maxAmount+pace.Wait(base, tries, most)) {
						t.Fatalf("P18.1: Late(%d, Due(%d, %d, %d, %d)) = %v", now, now, base, tries, most, pace.Late(now, due))
					}
					if pace.Late(now, due) {
						atOnce++
						continue
					}
					waits++
					if pace.Late(due-1, due) || !pace.Late(due, due) || !pace.Late(due+1, due) {
						t.Fatalf("P18.1: Due(%d, %d, %d, %d) = %d, but late is %v a tick ahead, %v then, %v a tick behind", now, base, tries, most, due,
							pace.Late(due-1, due), pace.Late(due, due), pace.Late(due+1, due))
					}
				}
			}
		}
	}
	if waits < 1000 || atOnce < 1000 {
		t.Errorf("not late at once are %d, late at once %d", waits, atOnce)
	}
}

// TestLateTickByTick: P18.1: ticks that go by from now on: none of them is late ahead of Due, all are from then on.
func TestLateTickByTick(t *testing.T) {
	for tries := range 8 {
		now := 100 * tries
		due, wait := pace.Due(now, 3, tries, 50), waits(3, tries, 50)
		for k := range 100 {
			if got := pace.Late(now+k, due); got != (k >= wait) {
				t.Errorf("P18.1: of a wait of %d from %d on Late is %v %d ticks on", wait, now, got, k)
			}
		}
	}
}
