package held_test

import (
	"math"
	"math/rand"
	"slices"
	"testing"

	"moot/api"
	"moot/held"
)

// TestTick: P19.1, by numbers written out.
func TestTick(t *testing.T) {
	isTick(t, "the chapter's example", held.Start(api.Mark{Block: "x"}, 5), 8, 1, 2)
	for _, c := range []struct {
		what             string
		since, told, now int
		want             []int
	}{
		{"a now below Since", 5, 0, 4, nil},
		{"a now at Since", 5, 0, 5, nil},
		{"a now one above Since", 5, 0, 6, nil},
		{"Full of 1", 5, 0, 7, []int{1}},
		{"Full of 2", 5, 0, 8, []int{1, 2}},
		{"Full just below 4", 5, 0, 9, []int{1, 2}},
		{"Full of 4", 5, 0, 10, []int{1, 2, 4}},
		{"Full just above 4", 5, 0, 11, []int{1, 2, 4}},
		{"Full just below 8", 5, 0, 13, []int{1, 2, 4}},
		{"Full of 8", 5, 0, 14, []int{1, 2, 4, 8}},
		{"Full just above 8", 5, 0, 15, []int{1, 2, 4, 8}},
		{"Full just below 16", 5, 0, 21, []int{1, 2, 4, 8}},
		{"Full of 16", 5, 0, 22, []int{1, 2, 4, 8, 16}},
		{"Full just above 16", 5, 0, 23, []int{1, 2, 4, 8, 16}},
		{"Full just below 32", 5, 0, 37, []int{1, 2, 4, 8, 16}},
		{"Full of 32", 5, 0, 38, []int{1, 2, 4, 8, 16, 32}},
		{"Full just above 32", 5, 0, 39, []int{1, 2, 4, 8, 16, 32}},
		{"Full just below 64", 5, 0, 69, []int{1, 2, 4, 8, 16, 32}},
		{"Full of 64", 5, 0, 70, []int{1, 2, 4, 8, 16, 32, 64}},
		{"Full just above 64", 5, 0, 71, []int{1, 2, 4, 8, 16, 32, 64}},
		{"Full just below 128", 5, 0, 133, []int{1, 2, 4, 8, 16, 32, 64}},
		{"Full of 128", 5, 0, 134, []int{1, 2, 4, 8, 16, 32, 64}},
		{"Full far above 64", 5, 0, 1 << 30, []int{1, 2, 4, 8, 16, 32, 64}},
		{"Full as great as it may be", 0, 0, maxAmount, []int{1, 2, 4, 8, 16, 32, 64}},

		{"told is one", 5, 1, 8, []int{2}},
		{"told is one, the next is not due", 5, 1, 7, nil},
		{"told are two", 5, 2, 8, nil},
		{"told are two, some more due", 5, 2, 30, []int{4, 8, 16}},
		{"told are more than are due", 5, 5, 8, nil},
		{"told are more than are due, at Since", 5, 7, 5, nil},
		{"told are six, Full just below 64", 5, 6, 69, nil},
		{"told are six, Full of 64", 5, 6, 70, []int{64}},
		{"told are six, Full far above 64", 5, 6, 1 << 30, []int{64}},
		{"told are seven", 5, 7, 70, nil},
		{"told are seven, Full of 128", 5, 7, 134, nil},
		{"told are seven, Full far above 64", 5, 7, 1 << 30, nil},
		{"told are eight", 5, 8, 1 << 30, nil},
		{"told are 64", 5, 64, 1 << 30, nil},
		{"told is -1", 5, -1, 1 << 30, nil},
		{"told is -64", 5, -64, 1 << 30, nil},
		{"told is 2^32", 5, 1 << 32, 1 << 30, nil},
		{"told is the greatest number", 5, math.MaxInt, 1 << 30, nil},
		{"told is the least number", 5, math.MinInt, 1 << 30, nil},

		{"a Since of -1", -1, 0, 100, nil},
		{"a Since of 0", 0, 0, 100, []int{1, 2, 4, 8, 16, 32, 64}},
		{"a Since of the least number", math.MinInt, 0, 100, nil},
		{"a Since just above MaxAmount", maxAmount + 1, 0, maxAmount + 200, nil},
		{"a Since of the greatest number", math.MaxInt, 0, math.MinInt, nil},
		{"a now of -1", 0, 0, -1, nil},
		{"a now of MaxAmount", maxAmount - 10, 0, maxAmount, []int{1, 2, 4, 8}},
		{"a now just above MaxAmount", maxAmount - 10, 0, maxAmount + 1, nil},
		{"a now of the greatest number", 5, 0, math.MaxInt, nil},
		{"a now of the least number", 5, 0, math.MinInt, nil},
	} {
		for _, m := range marks {
			isTick(t, c.what, held.Held{Mark: m, Since: c.since, Told: c.told}, c.now, c.want...)
		}
		for _, m := range bare {
			isTick(t, c.what+", not running", held.Held{Mark: m, Since: c.since, Told: c.told}, c.now)
		}
	}
}

// TestTickAtEdges: P19.1: Full just below, at and just above each report, of each Told.
func TestTickAtEdges(t *testing.T) {
	for k := range 8 {
		for _, full := range []int{1<<k - 1, 1 << k, 1<<k + 1} {
			for told := -2; told < 12; told++ {
				for _, since := range []int{0, 5, 1 << 32, maxAmount - 200} {
					h := held.Held{Mark: marks[k%len(marks)], Since: since, Told: told}
					if got := held.Full(h, since+full+1); got != full {
						t.Errorf("P19.1: Full since %d at %d = %d, want %d", since, since+full+1, got, full)
					}
					isTick(t, "of an edge", h, since+full+1, dueOf(h, since+full+1)...)
				}
			}
		}
	}
}

// TestTickOfSizes: P19.1, P1: any Since, Told and now.
func TestTickOfSizes(t *testing.T) {
	ends(t, "Tick", func() {
		some, none := 0, 0
		for _, since := range sizes {
			for _, told := range sizes {
				for _, now := range sizes {
					h := held.Held{Mark: marks[0], Since: since, Told: told}
					want := dueOf(h, now)
					isTick(t, "of sizes", h, now, want...)
					isTick(t, "of sizes, not running", held.Held{Mark: bare[1], Since: since, Told: told}, now)
					if len(want) > 0 {
						some++
					} else {
						none++
					}
				}
			}
		}
		if some < 1000 || none < 1000 {
			t.Errorf("%d have reports that are due, %d none", some, none)
		}
	})
}

// TestTickDrawn: P19.1: drawn ones, held against the reckoning, as many of each number of reports.
func TestTickDrawn(t *testing.T) {
	r := rand.New(rand.NewSource(191))
	times := map[int]int{}
	for range 20000 {
		h, now := drawn(r)
		want := dueOf(h, now)
		isTick(t, "drawn", h, now, want...)
		times[len(want)]++
	}
	for k := range 8 {
		if times[k] < 100 {
			t.Errorf("%d reports were due %d times", k, times[k])
		}
	}
}

// drawn is a held that may be, mostly, and a tick at which most of it is not told.
func drawn(r *rand.Rand) (held.Held, int) {
	h := held.Held{Mark: marks[r.Intn(len(marks))], Since: r.Intn(1<<r.Intn(40)+1) - r.Intn(2), Told: r.Intn(1+r.Intn(10)) - r.Intn(2)*r.Intn(2)*r.Intn(2)}
	if r.Intn(20) == 0 {
		h.Mark = bare[r.Intn(len(bare))]
	}
	return h, h.Since + r.Intn(1<<r.Intn(9)+2)
}

// TestTickByTick: P19.1: from Start on, at every tick: each report once, at its time.
func TestTickByTick(t *testing.T) {
	for _, since := range []int{0, 1, 5, 1 << 32, maxAmount - 300} {
		for _, m := range marks {
			h := held.Start(m, since)
			for k := range 300 {
				var want []int
				// The report of a tick is due when that one has wholly gone by.
				if at := slices.Index([]int{2, 3, 5, 9, 17, 33, 65}, k); at >= 0 {
					want = []int{1 << at}
				}
				h = isTick(t, "tick by tick", h, since+k, want...)
				h = isTick(t, "the same tick again", h, since+k)
			}
			if h.Told != 7 {
				t.Errorf("P19.1: behind 300 ticks %d are told, want all 7", h.Told)
			}
		}
	}
}

// TestTicksLeftOut: P19.1: of whichever ticks come, each report comes once, rising, at the first of them that is not ahead of its time.
func TestTicksLeftOut(t *testing.T) {
	r := rand.New(rand.NewSource(192))
	atOnce := 0
	for range 3000 {
		since := r.Intn(1 << r.Intn(39))
		h, now := held.Start(marks[r.Intn(len(marks))], since), since
		var all []int
		for now < since+66 {
			last := now
			now += r.Intn(1<<r.Intn(7) + 1)
			next, due := held.Tick(h, now)
			for _, ticks := range due {
				if now-since-1 < ticks {
					t.Fatalf("P19.1: since %d at %d due are %v, ahead of their time", since, now, due)
				}
				if last-since-1 >= ticks && last > since {
					t.Fatalf("P19.1: since %d at %d due are %v, which were due at %d", since, now, due, last)
				}
			}
			if len(due) > 1 {
				atOnce++
			}
			all, h = append(all, due...), next
		}
		if !slices.Equal(all, []int{1, 2, 4, 8, 16, 32, 64}) || h.Told != 7 {
			t.Fatalf("P19.1: since %d up to %d due were %v, told are %d", since, now, all, h.Told)
		}
	}
	if atOnce < 1000 {
		t.Errorf("more than one at once were due only %d times", atOnce)
	}
}

// TestNowGoesBack: P19.1: nothing is told again when now goes back and comes on again.
func TestNowGoesBack(t *testing.T) {
	r := rand.New(rand.NewSource(193))
	backs := 0
	for range 2000 {
		since := r.Intn(1 << r.Intn(39))
		h := held.Start(marks[r.Intn(len(marks))], since)
		farthest, now, seen := since, since, 0
		for range 40 {
			now = since - 5 + r.Intn(1<<r.Intn(8)+5)
			if now < farthest {
				backs++
				h = isTick(t, "a now that went back", h, now)
				continue
			}
			farthest = now
			want := dueOf(h, now)
			seen += len(want)
			h = isTick(t, "a now that came on", h, now, want...)
		}
		if h.Told != seen || seen > 7 {
			t.Fatalf("P19.1: told are %d, due were %d", h.Told, seen)
		}
	}
	if backs < 1000 {
		t.Errorf("now went back only %d times", backs)
	}
	h, due := held.Tick(held.Start(marks[0], 5), 1000)
	for _, now := range slices.Concat(sizes, sizes) {
		h = isTick(t, "all are told", h, now)
	}
	if len(due) != 7 || h.Told != 7 {
		t.Errorf("P19.1: due were %v, told are %d", due, h.Told)
	}
}
