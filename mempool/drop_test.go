package mempool_test

import (
	"math"
	"slices"
	"testing"

	"moot/api"
	"moot/mempool"
)

// stay says if Drop leaves the transactions of l at those places.
func stay(t *testing.T, what string, l []api.Tx, a []api.Account, places ...int) {
	t.Helper()
	var want []api.Tx
	for _, i := range places {
		want = append(want, l[i])
	}
	if got := mempool.Drop(l, a); !slices.Equal(got, want) {
		t.Errorf("P15.1: Drop, %s, of %v by %v = %v, want %v", what, slots(l), a, slots(got), slots(want))
	}
}

func TestDropOfNothing(t *testing.T) {
	for _, a := range [][]api.Account{nil, {}, accounts(0), accounts(0, 0, 0, 0), accounts(1, 2, 3, 4, 5)} {
		stay(t, "of nothing", nil, a)
		stay(t, "of nothing", []api.Tx{}, a)
	}
	for _, l := range [][]api.Tx{row(1), row(7), row(30)} {
		stay(t, "with no accounts", l, nil)
		stay(t, "with no accounts", l, []api.Account{})
	}
}

func TestDropOfOne(t *testing.T) {
	for nonce, places := range map[int][]int{0: {0}, 4: {0}, 5: {0}, 6: nil, 7: nil, maxAmount: nil, -5: {0}} {
		stay(t, "of a Nonce below, at or above", pays([2]int{2, 5}), accounts(9, 9, nonce, 9), places...)
		stay(t, "of a Nonce below, at or above", pays([2]int{0, 5}), accounts(nonce, 9, 9, 9), places...)
		stay(t, "of a Nonce below, at or above", pays([2]int{3, 5}), accounts(9, 9, 9, nonce), places...)
	}
}

func TestDropOfNoAccount(t *testing.T) {
	for _, from := range []int{-1, -2, -4, math.MinInt, 4, 5, 8, math.MaxInt} {
		for _, nonce := range []int{0, 1, -1, math.MaxInt} {
			lone := with(pay(1, nonce), func(t *api.Tx) { t.From = from })
			stay(t, "of no account", []api.Tx{lone}, accounts(0, 0, 0, 0))
			stay(t, "of no account", []api.Tx{lone, pay(2, 0), lone, pay(0, 1), lone}, accounts(0, 0, 0, 0), 1, 3)
		}
	}
	l := pays([2]int{3, 0}, [2]int{1, 0}, [2]int{2, 0}, [2]int{0, 0})
	stay(t, "with one account", l, accounts(0), 3)
	stay(t, "with two accounts", l, accounts(0, 0), 1, 3)
	stay(t, "with all accounts", l, accounts(0, 0, 0, 0), 0, 1, 2, 3)
	stay(t, "with more accounts", l, accounts(0, 0, 0, 0, 0, 0), 0, 1, 2, 3)
	beyond := []api.Tx{with(pay(1, 0), func(t *api.Tx) { t.From = 5 }), pay(0, 0)}
	stay(t, "with more accounts, of one beyond the clients", beyond, accounts(0, 0, 0, 0, 0, 0), 0, 1)
	stay(t, "with just no account for it", beyond, accounts(0, 0, 0, 0, 0), 1)
}

// What stays stays in its order, as often as it is there.
func TestDropKeepsTheOrder(t *testing.T) {
	l := pays([2]int{1, 7}, [2]int{2, 0}, [2]int{1, 3}, [2]int{3, 9}, [2]int{1, 4}, [2]int{2, 1}, [2]int{1, 7}, [2]int{0, 0})
	stay(t, "of all at or above", l, accounts(0, 3, 0, 9), 0, 1, 2, 3, 4, 5, 6, 7)
	stay(t, "of some below", l, accounts(0, 4, 1, 9), 0, 3, 4, 5, 6, 7)
	stay(t, "of more below", l, accounts(1, 5, 2, 9), 0, 3, 6)
	stay(t, "of all below", l, accounts(1, 8, 2, 10))
	stay(t, "of more than may wait", row(100), accounts(24, 25, 25, 24), 96, 99)
	for at := range 27 {
		drops(t, "of many", row(100), accounts(at, 0, 2*at, 24-at))
	}
}

func TestDropOfAnyNonce(t *testing.T) {
	sizes := []int{0, 1, -1, maxAmount - 1, maxAmount, maxAmount + 1, 1 << 32, 1<<32 + 1, math.MaxInt, math.MaxInt - 1, math.MinInt, math.MinInt + 1}
	for _, nonce := range sizes {
		l := []api.Tx{with(pay(1, 0), func(t *api.Tx) { t.Nonce = nonce })}
		for _, at := range sizes {
			var places []int
			if nonce >= at {
				places = []int{0}
			}
			stay(t, "of a Nonce of any size", l, accounts(at, at, at, at), places...)
		}
	}
}
