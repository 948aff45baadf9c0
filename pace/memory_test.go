package pace_test

import (
	"math"
	"math/rand"
	"sync"
	"testing"

	"moot/pace"
)

// TestNothingKept: P18.2, P3: what is called ahead changes no answer.
func TestNothingKept(t *testing.T) {
	r := rand.New(rand.NewSource(183))
	for range 2000 {
		now, base, tries, most := drawn(r, 2*maxAmount), drawn(r, maxTicks), r.Intn(30)-4, drawn(r, 2*maxTicks)
		wait, due, late := pace.Wait(base, tries, most), pace.Due(now, base, tries, most), pace.Late(now, most)
		pace.Wait(sizes[r.Intn(len(sizes))], sizes[r.Intn(len(sizes))], sizes[r.Intn(len(sizes))])
		pace.Due(sizes[r.Intn(len(sizes))], math.MaxInt, sizes[r.Intn(len(sizes))], math.MinInt)
		pace.Late(math.MaxInt, sizes[r.Intn(len(sizes))])
		if pace.Wait(base, tries, most) != wait || pace.Due(now, base, tries, most) != due || pace.Late(now, most) != late {
			t.Fatalf("P18.2: the answers of %d, %d, %d, %d are other ones when they are asked again", now, base, tries, most)
		}
	}
}

// TestTogether: P3: calls at one time answer as calls one behind the other.
func TestTogether(t *testing.T) {
	var wg sync.WaitGroup
	for k := range 8 {
		wg.Go(func() {
			r := rand.New(rand.NewSource(int64(k)))
			for range 1000 {
				now, base, tries, most := drawn(r, 2*maxAmount), drawn(r, maxTicks), r.Intn(30)-4, drawn(r, 2*maxTicks)
				isWait(t, base, tries, most)
				isDue(t, now, base, tries, most)
				if got := pace.Late(base, most); got != (base >= most) {
					t.Errorf("P18.1: Late(%d, %d) = %v", base, most, got)
				}
			}
		})
	}
	wg.Wait()
}
