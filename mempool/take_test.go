package mempool_test

import (
	"math"
	"slices"
	"testing"

	"moot/api"
	"moot/mempool"
)

// pick says if Take tells the transactions of l at those places.
func pick(t *testing.T, what string, l []api.Tx, a []api.Account, places ...int) {
	t.Helper()
	var want []api.Tx
	for _, i := range places {
		want = append(want, l[i])
	}
	if got := mempool.Take(l, a); !slices.Equal(got, want) {
		t.Errorf("P15.1: Take, %s, of %v by %v = %v, want %v", what, slots(l), a, slots(got), slots(want))
	}
}

func TestTakeOfNothing(t *testing.T) {
	for _, a := range [][]api.Account{nil, {}, accounts(0), accounts(0, 0, 0, 0), accounts(1, 2, 3, 4, 5)} {
		pick(t, "of nothing", nil, a)
		pick(t, "of nothing", []api.Tx{}, a)
	}
	for _, l := range [][]api.Tx{row(1), row(7), row(30)} {
		pick(t, "with no accounts", l, nil)
		pick(t, "with no accounts", l, []api.Account{})
	}
}

func TestTakeOfOne(t *testing.T) {
	for nonce, places := range map[int][]int{0: nil, 4: nil, 5: {0}, 6: nil, 7: nil, maxAmount: nil, -5: nil} {
		pick(t, "of a Nonce below, at or above", pays([2]int{2, 5}), accounts(9, 9, nonce, 9), places...)
		pick(t, "of a Nonce below, at or above", pays([2]int{0, 5}), accounts(nonce, 9, 9, 9), places...)
		pick(t, "of a Nonce below, at or above", pays([2]int{3, 5}), accounts(9, 9, 9, nonce), places...)
	}
	// Balances tell nothing: what has not enough can be done all the same (16).
	for _, balance := range []int{0, -1, math.MinInt, math.MaxInt} {
		pick(t, "of any Balance", pays([2]int{1, 0}), []api.Account{{Balance: balance}, {Balance: balance}}, 0)
	}
}

// A transaction whose From has no account is never the next one.
func TestTakeOfNoAccount(t *testing.T) {
	for _, from := range []int{-1, -2, -4, math.MinInt, 4, 5, 8, math.MaxInt} {
		for _, nonce := range []int{0, 1, -1} {
			lone := with(pay(1, nonce), func(t *api.Tx) { t.From = from })
			pick(t, "of no account", []api.Tx{lone}, accounts(0, 0, 0, 0))
			pick(t, "of no account", []api.Tx{lone, pay(2, 0), lone}, accounts(0, 0, 0, 0), 1)
		}
	}
}

func TestTakeWithFewerOrMoreAccounts(t *testing.T) {
	l := pays([2]int{3, 0}, [2]int{1, 0}, [2]int{2, 0}, [2]int{0, 0}, [2]int{1, 1})
	pick(t, "with one account", l, accounts(0), 3)
	pick(t, "with two accounts", l, accounts(0, 0), 1, 3, 4)
	pick(t, "with three accounts", l, accounts(0, 0, 0), 1, 2, 3, 4)
	pick(t, "with all accounts", l, accounts(0, 0, 0, 0), 0, 1, 2, 3)
	pick(t, "with more accounts", l, accounts(0, 0, 0, 0, 0, 0, 0), 0, 1, 2, 3)
	pick(t, "with more accounts", l, accounts(1, 1, 1, 1, 0, 0), 4)
	pick(t, "with very many accounts", l, make([]api.Account, 1<<16), 0, 1, 2, 3)
	// Whatever From has an account: it is asked for no more.
	beyond := []api.Tx{with(pay(1, 0), func(t *api.Tx) { t.From = 5 }), pay(0, 0)}
	pick(t, "with more accounts, of one beyond the clients", beyond, accounts(0, 0, 0, 0, 0, 0), 0, 1)
	pick(t, "with just no account for it", beyond, accounts(0, 0, 0, 0, 0), 1)
}

func TestTakeInTurn(t *testing.T) {
	at0 := accounts(0, 0, 0, 0)
	pick(t, "of rising Nonces", pays([2]int{1, 0}, [2]int{1, 1}, [2]int{1, 2}), at0, 0, 1, 2)
	pick(t, "of falling Nonces", pays([2]int{1, 2}, [2]int{1, 1}, [2]int{1, 0}), at0, 2, 1, 0)
	pick(t, "of mixed Nonces", pays([2]int{1, 2}, [2]int{1, 0}, [2]int{1, 3}, [2]int{1, 1}), at0, 1, 3, 0, 2)
	pick(t, "of Nonces of which one lacks", pays([2]int{1, 3}, [2]int{1, 0}, [2]int{1, 1}, [2]int{1, 4}), at0, 1, 2)
	pick(t, "of Nonces that begin above", pays([2]int{1, 1}, [2]int{1, 2}, [2]int{1, 3}), at0)
	pick(t, "of Nonces that begin below", pays([2]int{1, 3}, [2]int{1, 4}, [2]int{1, 5}), accounts(0, 4, 0, 0), 1, 2)
	pick(t, "of Nonces of one and accounts of another", pays([2]int{1, 0}, [2]int{2, 5}), accounts(0, 5, 0, 0))
}

// Of several of one From and Nonce the first one counts.
func TestTakeOfTwins(t *testing.T) {
	at0 := accounts(0, 0, 0, 0)
	twin := func(x api.Tx) api.Tx {
		return with(x, func(t *api.Tx) { t.Amount, t.Sig = t.Amount+1, "another one's" })
	}
	pick(t, "of twins", []api.Tx{pay(1, 0), twin(pay(1, 0)), pay(1, 0)}, at0, 0)
	pick(t, "of twins in the other order", []api.Tx{twin(pay(1, 0)), pay(1, 0), pay(1, 0)}, at0, 0)
	pick(t, "of one twice", []api.Tx{pay(1, 0), pay(1, 0), pay(2, 0), pay(2, 0)}, at0, 0, 2)
	pick(t, "of twins of two Nonces", []api.Tx{twin(pay(1, 1)), pay(1, 1), twin(pay(1, 0)), pay(1, 0)}, at0, 2, 0)
	pick(t, "of twins of which the other one is next", []api.Tx{pay(1, 0), pay(1, 1), twin(pay(1, 1)), twin(pay(1, 0))}, accounts(0, 1, 0, 0), 1)
}

// Again and again it is the first one of all that are next, of whatever client.
func TestTakeByTurns(t *testing.T) {
	at0 := accounts(0, 0, 0, 0)
	pick(t, "of clients by turns", pays([2]int{2, 0}, [2]int{1, 0}, [2]int{2, 1}, [2]int{1, 1}), at0, 0, 1, 2, 3)
	pick(t, "of clients one behind the other", pays([2]int{2, 0}, [2]int{2, 1}, [2]int{1, 0}, [2]int{1, 1}), at0, 0, 1, 2, 3)
	// Behind 1's first its second is the first that is next, as it stands ahead of the others.
	pick(t, "of one that is the next one only then", pays([2]int{1, 1}, [2]int{1, 0}, [2]int{2, 0}, [2]int{3, 0}), at0, 1, 0, 2, 3)
	pick(t, "of two that are the next ones only then", pays([2]int{2, 1}, [2]int{1, 1}, [2]int{1, 0}, [2]int{2, 0}), at0, 2, 1, 3, 0)
	pick(t, "of one that is the next one at the end", pays([2]int{3, 1}, [2]int{0, 0}, [2]int{1, 0}, [2]int{3, 0}), at0, 1, 2, 3, 0)
	pick(t, "of the highest client ahead", pays([2]int{3, 6}, [2]int{2, 8}, [2]int{1, 9}, [2]int{0, 7}), accounts(7, 9, 8, 6), 0, 1, 2, 3)
}

func TestTakeOfManyMore(t *testing.T) {
	at0 := accounts(0, 0, 0, 0)
	one := pays([2]int{1, 0}, [2]int{1, 1}, [2]int{1, 2}, [2]int{1, 3}, [2]int{1, 4}, [2]int{1, 5})
	pick(t, "of three of one client", one[:3], at0, 0, 1, 2)
	pick(t, "of four of one client", one[:4], at0, 0, 1, 2, 3)
	pick(t, "of five of one client", one[:5], at0, 0, 1, 2, 3)
	pick(t, "of six of one client", one, at0, 0, 1, 2, 3)
	pick(t, "of sixteen", row(maxPool), at0, 0, 1, 2, 3)
	pick(t, "of sixteen, behind the first", row(maxPool), accounts(1, 2, 1, 1), 4, 6, 7, 8)
	pick(t, "of more than may wait", row(100), accounts(24, 24, 24, 24), 96, 97, 98, 99)
	falling := slices.Clone(one)
	slices.Reverse(falling)
	pick(t, "of six of falling Nonces", falling, at0, 5, 4, 3, 2)
}

// Nonces are held against each other as they are, of whatever size.
func TestTakeOfAnyNonce(t *testing.T) {
	sizes := []int{0, 1, -1, maxAmount - 1, maxAmount, maxAmount + 1, 1 << 32, 1<<32 + 1, math.MaxInt, math.MaxInt - 1, math.MinInt, math.MinInt + 1}
	for _, nonce := range sizes {
		l := []api.Tx{with(pay(1, 0), func(t *api.Tx) { t.Nonce = nonce })}
		for _, at := range sizes {
			var places []int
			if at == nonce {
				places = []int{0}
			}
			pick(t, "of a Nonce of any size", l, accounts(at, at, at, at), places...)
		}
	}
	at := accounts(0, maxAmount-1, 0, 0)
	pick(t, "up to the greatest that may be", pays([2]int{1, maxAmount}, [2]int{1, maxAmount - 1}), at, 1, 0)
	lone := func(nonce int) api.Tx { return with(pay(2, 0), func(t *api.Tx) { t.Nonce = nonce }) }
	pick(t, "of Nonces below 0", []api.Tx{lone(0), lone(-1), lone(-2)}, accounts(0, 0, -2), 2, 1, 0)
	pick(t, "of the greatest Nonces", []api.Tx{lone(math.MaxInt), lone(math.MaxInt - 1)}, accounts(0, 0, math.MaxInt-1), 1, 0)
}

// Only From and Nonce are looked at: what may not be else is no matter.
func TestTakeOfWhatMayNotBe(t *testing.T) {
	for what, wrong := range wrongs() {
		l := []api.Tx{wrong, pay(2, 3), wrong}
		for _, a := range [][]api.Account{nil, accounts(3), accounts(3, 3, 3, 3), accounts(0, 0, 0, 0), accounts(3, 3, 3, 3, 3, 3)} {
			takes(t, "of "+what, l, a)
			drops(t, "of "+what, l, a)
			ends(t, "Take of "+what, func() { mempool.Take(l, a) })
		}
	}
}
