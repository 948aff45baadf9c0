package pace_test

import (
	"math"
	"math/big"
	"testing"
	"time"

	"moot/pace"
)

// The limits, as the document tells them.
const (
	maxTicks  = 1 << 20
	maxAmount = 1 << 40
)

// sizes are numbers at the edges of what may be, and far from it.
var sizes = []int{
	math.MinInt, math.MinInt + 1, -1 << 40, -1 << 32, -1 << 20, -2, -1, 0, 1, 2, 3, 4, 5, 19, 20, 21, 31, 32, 33, 62, 63, 64, 65, 100, 1000,
	maxTicks/2 - 1, maxTicks / 2, maxTicks/2 + 1, maxTicks - 1, maxTicks, maxTicks + 1, 2 * maxTicks,
	1<<31 - 1, 1 << 31, 1 << 32, 1<<32 + 5, maxAmount - 1, maxAmount, maxAmount + 1, 1 << 62, math.MaxInt - 1, math.MaxInt,
}

// nearest is the number from low to high that is nearest to n.
func nearest(n, low, high int) int {
	if n < low {
		return low
	}
	if n > high {
		return high
	}
	return n
}

// waits is what Wait has to answer, reckoned with numbers that have no end.
func waits(base, tries, most int) int {
	// More than a thousand doublings are as a thousand: both are far above MaxTicks.
	times := uint(nearest(tries, 0, 1000))
	n := big.NewInt(int64(nearest(base, 1, maxTicks)))
	n.Lsh(n, times)
	if m := big.NewInt(int64(nearest(most, 1, maxTicks))); n.Cmp(m) > 0 {
		n = m
	}
	return int(n.Int64())
}

// ends calls f and says if it panicked, or does not end (P1).
func ends(t *testing.T, what string, f func()) {
	t.Helper()
	over := make(chan any, 1)
	go func() {
		defer func() { over <- recover() }()
		f()
	}()
	select {
	case x := <-over:
		if x != nil {
			t.Errorf("P1: %s panicked: %v", what, x)
		}
	case <-time.After(time.Minute):
		t.Fatalf("P1: %s does not end", what)
	}
}

// isWait says if Wait answers what it has to.
func isWait(t *testing.T, base, tries, most int) {
	t.Helper()
	if got, want := pace.Wait(base, tries, most), waits(base, tries, most); got != want {
		t.Errorf("P18.1: Wait(%d, %d, %d) = %d, want %d", base, tries, most, got, want)
	}
}

// isDue says if Due answers what it has to.
func isDue(t *testing.T, now, base, tries, most int) {
	t.Helper()
	if got, want := pace.Due(now, base, tries, most), nearest(now, 0, maxAmount)+waits(base, tries, most); got != want {
		t.Errorf("P18.1: Due(%d, %d, %d, %d) = %d, want %d", now, base, tries, most, got, want)
	}
}
