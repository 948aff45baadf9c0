package bank_test

import (
	"math"
	"slices"
	"strings"
	"testing"

	"moot/api"
	"moot/bank"
)

// The limits and the errors, as the document tells them.
const (
	maxAmount  = 1 << 40
	maxField   = 1 << 12
	maxClients = 4
	maxTxs     = 4
	supply     = 1000
	share      = 250

	ok       = api.Errno(0)
	errState = api.Errno(9)
	errNonce = api.Errno(72)
	errFunds = api.Errno(73)
)

// mayBe says if a transaction may be, as chapter 7 tells it.
func mayBe(t api.Tx) bool {
	isClient := func(n int) bool { return n >= 0 && n < maxClients }
	return isClient(t.From) && isClient(t.To) && t.From != t.To && t.Amount >= 1 && t.Amount <= supply &&
		t.Nonce >= 0 && t.Nonce <= maxAmount && len(t.Sig) <= maxField
}

// errorOf is the error of a transaction by these accounts.
func errorOf(a []api.Account, t api.Tx) api.Errno {
	switch {
	case !mayBe(t) || t.From > len(a)-1 || t.To > len(a)-1:
		return errState
	case a[t.From].Nonce != t.Nonce:
		return errNonce
	case a[t.From].Balance < t.Amount:
		return errFunds
	}
	return ok
}

// behind is the accounts behind a transaction, one by one from those ahead of it.
func behind(a []api.Account, t api.Tx) []api.Account {
	err := errorOf(a, t)
	var told []api.Account
	for client, has := range a {
		if client == t.From && (err == ok || err == errFunds) {
			has.Nonce = t.Nonce + 1
		}
		if client == t.From && err == ok {
			has.Balance = has.Balance - t.Amount
		}
		if client == t.To && err == ok {
			has.Balance = has.Balance + t.Amount
		}
		told = append(told, has)
	}
	return told
}

// folded is what Fold has to tell, of accounts that are not Genesis' too.
func folded(a []api.Account, l []api.Block) ([]api.Account, []api.Errno) {
	var errs []api.Errno
	for _, t := range allOf(l) {
		errs = append(errs, errorOf(a, t))
		a = behind(a, t)
	}
	return a, errs
}

// allOf is all transactions of blocks, in their order.
func allOf(l []api.Block) []api.Tx {
	var told []api.Tx
	for _, b := range l {
		told = append(told, b.Txs...)
	}
	return told
}

// canAll says what Next has to.
func canAll(a []api.Account, l []api.Tx) bool {
	_, errs := folded(a, []api.Block{{Txs: l}})
	return !slices.Contains(errs, errState) && !slices.Contains(errs, errNonce)
}

// total is all balances together, reckoned modulo 2^64.
func total(a []api.Account) int {
	sum := uint64(0)
	for _, has := range a {
		sum += uint64(has.Balance)
	}
	return int(sum)
}

// first is the accounts ahead of any transaction.
func first() []api.Account {
	return []api.Account{{Balance: 250}, {Balance: 250}, {Balance: 250}, {Balance: 250}}
}

// accounts are some of these Balances and Nonces, one behind the other.
func accounts(l ...int) []api.Account {
	var a []api.Account
	for pair := range slices.Chunk(l, 2) {
		a = append(a, api.Account{Balance: pair[0], Nonce: pair[1]})
	}
	return a
}

// pay is a transaction.
func pay(from, to, amount, nonce int) api.Tx {
	return api.Tx{From: from, To: to, Amount: amount, Nonce: nonce, Sig: "a client's"}
}

// with is a transaction as change leaves it.
func with(t api.Tx, change func(t *api.Tx)) api.Tx {
	change(&t)
	return t
}

// wrongs are transactions that may not be, by what is wrong with them; all else of them is as in some.
func wrongs(some api.Tx) map[string]api.Tx {
	l := map[string]api.Tx{"nothing": {}}
	one := func(what string, change func(t *api.Tx)) {
		l[what] = with(some, change)
	}
	for what, n := range map[string]int{"below 0": -1, "the least": math.MinInt, "too great": maxClients, "greater": maxClients + 1, "the greatest": math.MaxInt} {
		one("From "+what, func(t *api.Tx) { t.From = n })
		one("To "+what, func(t *api.Tx) { t.To = n })
	}
	for what, n := range map[string]int{"0": 0, "below 0": -1, "the least": math.MinInt, "too great": supply + 1, "the greatest": math.MaxInt} {
		one("Amount "+what, func(t *api.Tx) { t.Amount = n })
	}
	for what, n := range map[string]int{"below 0": -1, "the least": math.MinInt, "too great": maxAmount + 1, "the greatest": math.MaxInt} {
		one("Nonce "+what, func(t *api.Tx) { t.Nonce = n })
	}
	one("From and To the same", func(t *api.Tx) { t.To = t.From })
	one("Sig too long", func(t *api.Tx) { t.Sig = strings.Repeat("s", maxField+1) })
	return l
}

// ends calls f and says if it panicked (P1).
func ends(t *testing.T, what string, f func()) {
	t.Helper()
	defer func() {
		if x := recover(); x != nil {
			t.Errorf("P1: %s panicked: %v", what, x)
		}
	}()
	f()
}

// facts are a transaction's numbers, to be told.
func facts(t api.Tx) [4]int {
	return [4]int{t.From, t.To, t.Amount, t.Nonce}
}

// applies says if Apply tells what it has to, and answers that.
func applies(t *testing.T, what string, a []api.Account, x api.Tx) ([]api.Account, api.Errno) {
	t.Helper()
	got, err := bank.Apply(a, x)
	if want := behind(a, x); err != errorOf(a, x) || !slices.Equal(got, want) {
		t.Errorf("P16.1: Apply, %s, of %v to %v = %v, %d, want %v, %d", what, facts(x), a, got, err, want, errorOf(a, x))
	}
	return got, err
}

// folds says if Fold tells what it has to, and answers that.
func folds(t *testing.T, what string, l []api.Block) ([]api.Account, []api.Errno) {
	t.Helper()
	got, errs := bank.Fold(l)
	want, wanted := folded(first(), l)
	if !slices.Equal(got, want) || !slices.Equal(errs, wanted) {
		t.Errorf("P16.1: Fold, %s = %v, %v, want %v, %v", what, got, errs, want, wanted)
	}
	return got, errs
}

// follows says if Next tells what it has to, and answers that.
func follows(t *testing.T, what string, a []api.Account, l []api.Tx) bool {
	t.Helper()
	got := bank.Next(a, l)
	if want := canAll(a, l); got != want {
		t.Errorf("P16.1: Next, %s, of %v = %v, want %v", what, a, got, want)
	}
	return got
}
