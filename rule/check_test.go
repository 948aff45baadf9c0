package rule_test

import (
	"math"
	"testing"

	"moot/api"
	"moot/rule"
)

// TestCheckOfTheExample: the chapter's example: fewer than the replicas' quorum.
func TestCheckOfTheExample(t *testing.T) {
	isChecked(t, "the chapter's example", api.Rule{Kind: 1, N: 2}, 4, 3, api.ErrRule)
	isChecked(t, "as many as the replicas' quorum", api.Rule{Kind: 1, N: 3}, 4, 3, api.OK)
}

// TestCheck: P21.1, by numbers written out.
func TestCheck(t *testing.T) {
	for _, c := range []struct {
		what             string
		kind, n          int
		replicas, quorum int
		want             api.Errno
	}{
		{"a quorum below 1, Kind 1", 1, 1, 4, 0, api.ErrRule},
		{"a quorum below 1, Kind 1, as N", 1, 0, 4, 0, api.ErrRule},
		{"a quorum below 1, Kind 2", 2, 1, 4, 0, api.ErrRule},
		{"a quorum below 0, Kind 1", 1, 1, 4, -1, api.ErrRule},
		{"a quorum below 0, Kind 2", 2, 1, 4, -1, api.ErrRule},
		{"the least quorum, Kind 2", 2, 1, 4, math.MinInt, api.ErrRule},
		{"a quorum of 1, Kind 1", 1, 1, 4, 1, api.OK},
		{"a quorum of 1, Kind 2", 2, 1, 4, 1, api.OK},
		{"a quorum of as many as replicas, Kind 1", 1, 4, 4, 4, api.OK},
		{"a quorum of as many as replicas, Kind 2", 2, 1, 4, 4, api.OK},
		{"a quorum of one more than replicas, Kind 1", 1, 4, 4, 5, api.ErrRule},
		{"a quorum of one more than replicas, Kind 1, as N", 1, 5, 4, 5, api.ErrRule},
		{"a quorum of one more than replicas, Kind 2", 2, 1, 4, 5, api.ErrRule},
		{"the greatest quorum, Kind 2", 2, 1, 4, math.MaxInt, api.ErrRule},

		{"no replicas, Kind 1", 1, 1, 0, 1, api.ErrRule},
		{"no replicas, Kind 1, N and quorum of 0", 1, 0, 0, 0, api.ErrRule},
		{"no replicas, Kind 2", 2, 1, 0, 1, api.ErrRule},
		{"no replicas, Kind 2, a quorum of 0", 2, 1, 0, 0, api.ErrRule},
		{"replicas below 0, Kind 1", 1, -1, -1, -1, api.ErrRule},
		{"replicas below 0, Kind 2", 2, 1, -1, 1, api.ErrRule},
		{"1 replica, Kind 1", 1, 1, 1, 1, api.OK},
		{"1 replica, Kind 2", 2, 1, 1, 1, api.OK},
		{"1 replica, a quorum of 2", 2, 1, 1, 2, api.ErrRule},
		{"MaxReplicas, Kind 1", 1, 7, 7, 7, api.OK},
		{"MaxReplicas, Kind 1, a quorum of 1", 1, 1, 7, 1, api.OK},
		{"MaxReplicas, Kind 2", 2, 32, 7, 7, api.OK},
		{"one more than MaxReplicas, Kind 1", 1, 8, 8, 8, api.ErrRule},
		{"one more than MaxReplicas, Kind 1, a quorum of 1", 1, 1, 8, 1, api.ErrRule},
		{"one more than MaxReplicas, Kind 1, a quorum below", 1, 7, 8, 7, api.ErrRule},
		{"one more than MaxReplicas, Kind 2", 2, 1, 8, 8, api.ErrRule},
		{"one more than MaxReplicas, Kind 2, a quorum below", 2, 1, 8, 3, api.ErrRule},
		{"the most replicas, Kind 2", 2, 1, math.MaxInt, 3, api.ErrRule},
		{"replicas of 2^32 and 4", 2, 1, 1<<32 + 4, 3, api.ErrRule},

		{"Kind 1, N one below the quorum", 1, 2, 5, 3, api.ErrRule},
		{"Kind 1, N at the quorum", 1, 3, 5, 3, api.OK},
		{"Kind 1, N between", 1, 4, 5, 3, api.OK},
		{"Kind 1, N at replicas", 1, 5, 5, 3, api.OK},
		{"Kind 1, N one above replicas", 1, 6, 5, 3, api.ErrRule},
		{"Kind 1, N of 0, a quorum of 1", 1, 0, 5, 1, api.ErrRule},
		{"Kind 1, N far above, that would do for Kind 2", 1, 32, 5, 3, api.ErrRule},
		{"Kind 1, N of 2^32 and 3", 1, 1<<32 + 3, 5, 3, api.ErrRule},
		{"Kind 1, the least N", 1, math.MinInt, 5, 3, api.ErrRule},
		{"Kind 1, the greatest N", 1, math.MaxInt, 5, 3, api.ErrRule},

		{"Kind 2, N of 0", 2, 0, 5, 3, api.ErrRule},
		{"Kind 2, N of -1", 2, -1, 5, 3, api.ErrRule},
		{"Kind 2, N of 1, below the quorum", 2, 1, 5, 3, api.OK},
		{"Kind 2, N above replicas", 2, 6, 5, 3, api.OK},
		{"Kind 2, N of 31", 2, 31, 5, 3, api.OK},
		{"Kind 2, N of 32", 2, 32, 5, 3, api.OK},
		{"Kind 2, N of 33", 2, 33, 5, 3, api.ErrRule},
		{"Kind 2, N of 2^32 and 3", 2, 1<<32 + 3, 5, 3, api.ErrRule},
		{"Kind 2, the least N", 2, math.MinInt, 5, 3, api.ErrRule},
		{"Kind 2, the greatest N", 2, math.MaxInt, 5, 3, api.ErrRule},

		{"Kind 0", 0, 3, 5, 3, api.ErrRule},
		{"Kind 3", 3, 3, 5, 3, api.ErrRule},
		{"Kind 4", 4, 3, 5, 3, api.ErrRule},
		{"a Kind of -1", -1, 3, 5, 3, api.ErrRule},
		{"a Kind of -2", -2, 3, 5, 3, api.ErrRule},
		{"the least Kind", math.MinInt, 3, 5, 3, api.ErrRule},
		{"the greatest Kind", math.MaxInt, 3, 5, 3, api.ErrRule},
		{"a Kind of 2^32 and 1", 1<<32 + 1, 3, 5, 3, api.ErrRule},
		{"a Kind of 2^32 and 2", 1<<32 + 2, 3, 5, 3, api.ErrRule},
		{"the zero rule", 0, 0, 5, 3, api.ErrRule},
		{"nothing at all", 0, 0, 0, 0, api.ErrRule},
	} {
		isChecked(t, c.what, api.Rule{Kind: c.kind, N: c.n}, c.replicas, c.quorum, c.want)
	}
}

// TestCheckOfAllThatMayBe: P21.1: each number of replicas, each quorum, each N from below to above what may be.
func TestCheckOfAllThatMayBe(t *testing.T) {
	for kind := -1; kind < 5; kind++ {
		for replicas := -1; replicas < 10; replicas++ {
			for quorum := -1; quorum < 11; quorum++ {
				for n := -2; n < 36; n++ {
					r := api.Rule{Kind: kind, N: n}
					isChecked(t, "numbers of what may be", r, replicas, quorum, checkOf(r, replicas, quorum))
				}
			}
		}
	}
}

// TestCheckOfDelays: P21.1: of Kind 2 N alone counts, whatever replicas and quorum are, if they may be.
func TestCheckOfDelays(t *testing.T) {
	for replicas := 1; replicas <= 7; replicas++ {
		for quorum := 1; quorum <= replicas; quorum++ {
			for n, want := range map[int]api.Errno{0: api.ErrRule, 1: api.OK, 32: api.OK, 33: api.ErrRule} {
				isChecked(t, "a delay", api.Rule{Kind: 2, N: n}, replicas, quorum, want)
			}
		}
	}
}

// TestCheckOfSizes: P21.1, P1: any numbers in all places.
func TestCheckOfSizes(t *testing.T) {
	ends(t, "Check", func() {
		good, bad := 0, 0
		for _, kind := range kinds {
			for _, n := range sizes {
				for _, replicas := range sizes {
					for _, quorum := range sizes {
						r := api.Rule{Kind: kind, N: n}
						want := checkOf(r, replicas, quorum)
						if got := rule.Check(r, replicas, quorum); got != want {
							t.Fatalf("P21.1: Check(%v, %d, %d) = %d, want %d", r, replicas, quorum, got, want)
						}
						if want == api.OK {
							good++
						} else {
							bad++
						}
					}
				}
			}
		}
		if good < 100 || bad < 1000 {
			t.Errorf("%d may be, %d may not", good, bad)
		}
	})
}
