package held_test

import (
	"math"
	"math/rand"
	"slices"
	"strings"
	"sync"
	"testing"

	"moot/api"
	"moot/held"
)

// all is what is due when nothing is told and 64 ticks have gone by.
var all = []int{1, 2, 4, 8, 16, 32, 64}

// TestAnswersAreNew: P19.2, P2: an answer's list, changed behind, also the room behind its end, changes no later answer and no earlier one.
func TestAnswersAreNew(t *testing.T) {
	for _, m := range marks {
		h := held.Start(m, 5)
		_, first := held.Tick(h, 70)
		_, second := held.Tick(h, 70)
		spoil(first)
		if !slices.Equal(second, all) {
			t.Errorf("P19.2: an answer's list, changed, changes another answer: %v", second)
		}
		spoil(second)
		for now := range 80 {
			_, l := held.Tick(h, now)
			if want := dueOf(h, now); !slices.Equal(l, want) {
				t.Errorf("P19.2: answers' lists, changed, change a later one: %v, want %v", l, want)
			}
			spoil(l)
		}
	}
}

// spoil changes a list, and the room behind its end.
func spoil(l []int) {
	l = l[:cap(l)]
	for i := range l {
		l[i] = -9
	}
}

// TestArgumentsStay: P19.2, P2: what is handed in is as it was.
func TestArgumentsStay(t *testing.T) {
	name := strings.Repeat("n", 32)
	h := held.Held{Mark: api.Mark{View: 3, Height: 2, Block: name}, Since: 5, Told: 1}
	was := h
	for _, now := range sizes {
		held.Tick(h, now)
		held.Full(h, now)
		held.Running(h)
		held.Start(h.Mark, now)
		if h != was || name != strings.Repeat("n", 32) {
			t.Fatalf("P19.2: what was handed in is %v, was %v", h, was)
		}
	}
}

// TestNothingKept: P19.2, P3: what is called ahead changes no answer.
func TestNothingKept(t *testing.T) {
	r := rand.New(rand.NewSource(194))
	for range 2000 {
		h, now := drawn(r)
		next, due := held.Tick(h, now)
		full, running, begun := held.Full(h, now), held.Running(h), held.Start(h.Mark, now)
		held.Tick(held.Start(marks[r.Intn(len(marks))], 0), maxAmount)
		held.Tick(held.Held{Mark: marks[0], Since: math.MinInt, Told: sizes[r.Intn(len(sizes))]}, math.MaxInt)
		held.Full(held.Held{Since: sizes[r.Intn(len(sizes))]}, sizes[r.Intn(len(sizes))])
		held.Start(bare[r.Intn(len(bare))], math.MinInt)
		again, more := held.Tick(h, now)
		if again != next || !slices.Equal(more, due) || held.Full(h, now) != full || held.Running(h) != running || held.Start(h.Mark, now) != begun {
			t.Fatalf("P19.2: the answers of %v at %d are other ones when they are asked again", h, now)
		}
	}
}

// TestTogether: P3: calls at one time answer as calls one behind the other.
func TestTogether(t *testing.T) {
	var wg sync.WaitGroup
	for k := range 8 {
		wg.Go(func() {
			r := rand.New(rand.NewSource(int64(k)))
			for range 1000 {
				h, now := drawn(r)
				isTick(t, "at one time", h, now, dueOf(h, now)...)
				if got, want := held.Full(h, now), fullOf(h.Since, now); got != want {
					t.Errorf("P19.1: Full(%v, %d) = %d, want %d", h, now, got, want)
				}
				if got, want := held.Start(h.Mark, now), (held.Held{Mark: h.Mark, Since: now}); got != want || held.Running(got) != (h.Mark.Block != "") {
					t.Errorf("P19.1: Start(%v, %d) = %v, Running %v", h.Mark, now, got, held.Running(got))
				}
			}
		})
	}
	wg.Wait()
}
