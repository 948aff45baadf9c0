package mempool_test

import (
	"math"
	"slices"
	"strings"
	"testing"

	"moot/api"
	"moot/mempool"
)

// The limits, as the document tells them.
const (
	maxAmount  = 1 << 40
	maxField   = 1 << 12
	maxClients = 4
	maxTxs     = 4
	maxPool    = 16
	supply     = 1000
	share      = supply / maxClients
)

// mayBe says if a transaction may be, as chapter 7 tells it.
func mayBe(t api.Tx) bool {
	isClient := func(n int) bool { return n >= 0 && n < maxClients }
	return isClient(t.From) && isClient(t.To) && t.From != t.To && t.Amount >= 1 && t.Amount <= supply &&
		t.Nonce >= 0 && t.Nonce <= maxAmount && len(t.Sig) <= maxField
}

// added is what Add has to tell.
func added(l []api.Tx, t api.Tx) ([]api.Tx, bool) {
	for _, x := range l {
		if x.From == t.From && x.Nonce == t.Nonce {
			return nil, false
		}
	}
	if !mayBe(t) || len(l) >= maxPool {
		return nil, false
	}
	return append(append([]api.Tx{}, l...), t), true
}

// taken is what Take has to tell.
func taken(l []api.Tx, a []api.Account) []api.Tx {
	var told []api.Tx
	rest, left := append([]api.Tx{}, l...), append([]api.Account{}, a...)
	for i := 0; i < len(rest) && len(told) < maxTxs; i++ {
		x := rest[i]
		if x.From >= 0 && x.From < len(left) && left[x.From].Nonce == x.Nonce {
			told = append(told, x)
			left[x.From].Nonce++
			rest = append(rest[:i], rest[i+1:]...)
			i = -1
		}
	}
	return told
}

// dropped is what Drop has to tell.
func dropped(l []api.Tx, a []api.Account) []api.Tx {
	var told []api.Tx
	for _, x := range l {
		for client, account := range a {
			if x.From == client && x.Nonce >= account.Nonce {
				told = append(told, x)
			}
		}
	}
	return told
}

// done is the accounts behind a transaction, and if it has neither ErrState nor ErrNonce, as chapter 16 tells it.
func done(a []api.Account, t api.Tx) ([]api.Account, bool) {
	a = slices.Clone(a)
	if !mayBe(t) || t.From >= len(a) || t.To >= len(a) || a[t.From].Nonce != t.Nonce {
		return a, false
	}
	a[t.From].Nonce++
	if a[t.From].Balance >= t.Amount {
		a[t.From].Balance -= t.Amount
		a[t.To].Balance += t.Amount
	}
	return a, true
}

// allDone is the accounts behind transactions, and if each can be done, one behind the other.
func allDone(a []api.Account, l []api.Tx) ([]api.Account, bool) {
	for _, t := range l {
		var ok bool
		if a, ok = done(a, t); !ok {
			return a, false
		}
	}
	return a, true
}

// pay is a transaction that may be.
func pay(from, nonce int) api.Tx {
	return api.Tx{From: from, To: (from + 1) % maxClients, Amount: 1 + (7*from+nonce)%supply, Nonce: nonce, Sig: "a client's"}
}

// pays are transactions that may be, of those From and Nonce.
func pays(l ...[2]int) []api.Tx {
	var told []api.Tx
	for _, x := range l {
		told = append(told, pay(x[0], x[1]))
	}
	return told
}

// row is so many transactions that may be, of several clients, none of which has another one's From and Nonce.
func row(count int) []api.Tx {
	var l []api.Tx
	for i := range count {
		l = append(l, pay(i%maxClients, i/maxClients))
	}
	return l
}

// with is a transaction as change leaves it.
func with(t api.Tx, change func(t *api.Tx)) api.Tx {
	change(&t)
	return t
}

// accounts are some with these Nonces.
func accounts(nonces ...int) []api.Account {
	var a []api.Account
	for _, n := range nonces {
		a = append(a, api.Account{Balance: share, Nonce: n})
	}
	return a
}

// wrongs are transactions that may not be, by what is wrong with them.
func wrongs() map[string]api.Tx {
	l := map[string]api.Tx{"nothing": {}}
	some := pay(1, 3)
	one := func(what string, change func(t *api.Tx)) {
		l[what] = with(some, change)
	}
	for what, n := range map[string]int{"below 0": -1, "the least": math.MinInt, "too great": maxClients, "the greatest": math.MaxInt} {
		one("From "+what, func(t *api.Tx) { t.From = n })
		one("To "+what, func(t *api.Tx) { t.To = n })
	}
	for what, n := range map[string]int{"0": 0, "below 0": -1, "the least": math.MinInt, "too great": supply + 1, "the greatest": math.MaxInt} {
		one("Amount "+what, func(t *api.Tx) { t.Amount = n })
	}
	for what, n := range map[string]int{"below 0": -1, "the least": math.MinInt, "too great": maxAmount + 1, "the greatest": math.MaxInt} {
		one("Nonce "+what, func(t *api.Tx) { t.Nonce = n })
	}
	one("From and To the same", func(t *api.Tx) { t.To = t.From })
	one("Sig too long", func(t *api.Tx) { t.Sig = strings.Repeat("s", maxField+1) })
	return l
}

// ends calls f and says if it panicked (P1).
func ends(t *testing.T, what string, f func()) {
	t.Helper()
	defer func() {
		if x := recover(); x != nil {
			t.Errorf("P1: %s panicked: %v", what, x)
		}
	}()
	f()
}

// slots are the From and Nonce of transactions, to be told.
func slots(l []api.Tx) [][2]int {
	var told [][2]int
	for _, t := range l {
		told = append(told, [2]int{t.From, t.Nonce})
	}
	return told
}

// adds says if Add tells what it has to, and answers that.
func adds(t *testing.T, what string, l []api.Tx, x api.Tx) []api.Tx {
	t.Helper()
	want, isAdded := added(l, x)
	got, ok := mempool.Add(l, x)
	if ok != isAdded || !slices.Equal(got, want) {
		t.Errorf("P15.1: Add, %s, of From %d, Nonce %d to %d = %v, %v, want %v, %v", what, x.From, x.Nonce, len(l), slots(got), ok, slots(want), isAdded)
	}
	return got
}

// takes says if Take tells what it has to, and answers that.
func takes(t *testing.T, what string, l []api.Tx, a []api.Account) []api.Tx {
	t.Helper()
	got := mempool.Take(l, a)
	if want := taken(l, a); !slices.Equal(got, want) {
		t.Errorf("P15.1: Take, %s, of %v by %v = %v, want %v", what, slots(l), a, slots(got), slots(want))
	}
	return got
}

// drops says if Drop tells what it has to, and answers that.
func drops(t *testing.T, what string, l []api.Tx, a []api.Account) []api.Tx {
	t.Helper()
	got := mempool.Drop(l, a)
	if want := dropped(l, a); !slices.Equal(got, want) {
		t.Errorf("P15.1: Drop, %s, of %v by %v = %v, want %v", what, slots(l), a, slots(got), slots(want))
	}
	return got
}
