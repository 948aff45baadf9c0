package bank_test

import (
	"math"
	"slices"
	"strings"
	"testing"

	"moot/api"
	"moot/bank"
)

// gives says if Apply tells those accounts and that error.
func gives(t *testing.T, what string, a []api.Account, x api.Tx, want []api.Account, err api.Errno) {
	t.Helper()
	if got, e := bank.Apply(a, x); e != err || !slices.Equal(got, want) {
		t.Errorf("P16.1: Apply, %s, of %v to %v = %v, %d, want %v, %d", what, facts(x), a, got, e, want, err)
	}
}

// stays says if Apply tells the accounts as they are, and that error.
func stays(t *testing.T, what string, a []api.Account, x api.Tx, err api.Errno) {
	t.Helper()
	gives(t, what, a, x, slices.Clone(a), err)
}

func TestApplyMoves(t *testing.T) {
	gives(t, "to Genesis", first(), pay(0, 1, 1, 0), accounts(249, 1, 251, 0, 250, 0, 250, 0), ok)
	gives(t, "of all but one", first(), pay(1, 2, 249, 0), accounts(250, 0, 1, 1, 499, 0, 250, 0), ok)
	gives(t, "of all", first(), pay(3, 0, 250, 0), accounts(500, 0, 250, 0, 250, 0, 0, 1), ok)
	gives(t, "of the whole supply", accounts(0, 0, 0, 0, 1000, 7, 0, 0), pay(2, 1, 1000, 7), accounts(0, 0, 1000, 0, 0, 8, 0, 0), ok)
	gives(t, "of less than the whole supply", accounts(0, 0, 0, 0, 1000, 7, 0, 0), pay(2, 1, 999, 7), accounts(0, 0, 999, 0, 1, 8, 0, 0), ok)
	gives(t, "of one to one that has a Nonce", accounts(5, 3, 6, 4, 7, 5, 8, 6), pay(3, 2, 8, 6), accounts(5, 3, 6, 4, 15, 5, 0, 7), ok)
	for from := range maxClients {
		for to := range maxClients {
			if from == to {
				continue
			}
			want := first()
			want[from] = api.Account{Balance: 239, Nonce: 1}
			want[to].Balance = 261
			gives(t, "of each to each", first(), pay(from, to, 11, 0), want, ok)
		}
	}
}

// The greatest Nonce and the longest Sig that may be are done as others are.
func TestApplyOfTheEdgesOfWhatMayBe(t *testing.T) {
	a := accounts(9, maxAmount, 9, maxAmount-1, 9, 0, 9, 0)
	gives(t, "of the greatest Nonce", a, pay(0, 3, 9, maxAmount), accounts(0, maxAmount+1, 9, maxAmount-1, 9, 0, 18, 0), ok)
	gives(t, "of the greatest Nonce, without funds", a, pay(0, 3, 10, maxAmount), accounts(9, maxAmount+1, 9, maxAmount-1, 9, 0, 9, 0), errFunds)
	gives(t, "of the Nonce below", a, pay(1, 0, 1, maxAmount-1), accounts(10, maxAmount, 8, maxAmount, 9, 0, 9, 0), ok)
	for _, sig := range []string{"", "s", strings.Repeat("s", maxField)} {
		x := with(pay(2, 3, 4, 0), func(t *api.Tx) { t.Sig = sig })
		gives(t, "of any Sig", a, x, accounts(9, maxAmount, 9, maxAmount-1, 5, 1, 13, 0), ok)
	}
}

func TestApplyOfWhatMayNotBe(t *testing.T) {
	lists := [][]api.Account{nil, {}, first(), accounts(9, 3), accounts(0, 0, 9, 3), accounts(9, 3, 9, 3, 9, 3, 9, 3, 9, 3, 9, 3)}
	for what, x := range wrongs(pay(1, 2, 5, 3)) {
		for _, a := range lists {
			stays(t, what, a, x, errState)
			// Whatever Nonces and Balances the accounts have: what may not be goes ahead.
			for _, nonce := range []int{x.Nonce, 0, -1, 3} {
				for _, balance := range []int{0, -1, math.MinInt, math.MaxInt} {
					b := slices.Clone(a)
					for i := range b {
						b[i] = api.Account{Balance: balance, Nonce: nonce}
					}
					stays(t, what, b, x, errState)
				}
			}
		}
	}
}

func TestApplyWithNoAccount(t *testing.T) {
	for from := range maxClients {
		for to := range maxClients {
			for count := range 10 {
				a := make([]api.Account, count)
				for i := range a {
					a[i] = api.Account{Balance: 10 + i, Nonce: 2}
				}
				if from == to || from >= count || to >= count {
					stays(t, "with no account for it", a, pay(from, to, 5, 2), errState)
					stays(t, "with no account for it, nor the Nonce", a, pay(from, to, 5, 1), errState)
					stays(t, "with no account for it, nor the funds", a, pay(from, to, 500, 2), errState)
					continue
				}
				want := slices.Clone(a)
				want[from] = api.Account{Balance: 5 + from, Nonce: 3}
				want[to].Balance = 15 + to
				gives(t, "with the accounts for it", a, pay(from, to, 5, 2), want, ok)
				stays(t, "with the accounts for it, of another Nonce", a, pay(from, to, 5, 1), errNonce)
			}
		}
	}
	// No client stands behind the fourth account.
	many := accounts(9, 0, 9, 0, 9, 0, 9, 0, 9, 0, 9, 0)
	for _, far := range []int{4, 5, 6, -1, -4} {
		stays(t, "with more accounts than clients", many, pay(far, 0, 1, 0), errState)
		stays(t, "with more accounts than clients", many, pay(0, far, 1, 0), errState)
	}
}

func TestApplyOfAnotherNonce(t *testing.T) {
	a := accounts(9, 5, 0, 6, 9, 0, 9, maxAmount)
	for _, c := range []struct{ from, nonce int }{
		{0, 0}, {0, 4}, {0, 6}, {0, 7}, {0, maxAmount}, {1, 5}, {1, 7}, {2, 1}, {2, 5}, {2, maxAmount}, {3, maxAmount - 1}, {3, 0},
	} {
		to := (c.from + 1) % maxClients
		stays(t, "of a Nonce below or above", a, pay(c.from, to, 1, c.nonce), errNonce)
		stays(t, "of a Nonce below or above, without funds", a, pay(c.from, to, supply, c.nonce), errNonce)
	}
	// To's Nonce tells nothing.
	stays(t, "of To's Nonce", a, pay(0, 1, 1, 6), errNonce)
	gives(t, "of From's Nonce", a, pay(0, 1, 1, 5), accounts(8, 6, 1, 6, 9, 0, 9, maxAmount), ok)
	for _, nonce := range []int{-1, math.MinInt, maxAmount + 1, math.MaxInt, 1 << 32, 5 + 1<<32} {
		stays(t, "to a Nonce of any size", accounts(9, nonce, 9, nonce), pay(0, 1, 1, 5), errNonce)
		stays(t, "to a Nonce of any size", accounts(9, nonce, 9, nonce), pay(1, 0, 1, 0), errNonce)
	}
}

func TestApplyWithoutFunds(t *testing.T) {
	gives(t, "of one more than all", first(), pay(0, 1, 251, 0), accounts(250, 1, 250, 0, 250, 0, 250, 0), errFunds)
	gives(t, "of far more than all", first(), pay(2, 3, 1000, 0), accounts(250, 0, 250, 0, 250, 1, 250, 0), errFunds)
	gives(t, "of one, of nothing", accounts(0, 4, 1000, 9), pay(0, 1, 1, 4), accounts(0, 5, 1000, 9), errFunds)
	gives(t, "of one, of less than nothing", accounts(-1, 4, 1000, 9), pay(0, 1, 1, 4), accounts(-1, 5, 1000, 9), errFunds)
	gives(t, "of one less than the supply", accounts(999, 0, 1, 0), pay(0, 1, 1000, 0), accounts(999, 1, 1, 0), errFunds)
	// What To has tells nothing.
	gives(t, "of what To has", accounts(3, 0, 100, 0), pay(0, 1, 4, 0), accounts(3, 1, 100, 0), errFunds)
}

func TestApplyToAnyBalance(t *testing.T) {
	for _, c := range []struct {
		what             string
		from, to, amount int
		left, has        int
		err              api.Errno
	}{
		{"To below 0", 10, -3, 4, 6, 1, ok},
		{"To below 0 behind it too", 10, -30, 4, 6, -26, ok},
		{"To the least", 10, math.MinInt, 4, 6, math.MinInt + 4, ok},
		{"To the greatest", 10, math.MaxInt, 1, 9, math.MinInt, ok},
		{"To near the greatest", 10, math.MaxInt - 4, 5, 5, math.MinInt, ok},
		{"To the greatest behind it", 10, math.MaxInt - 4, 4, 6, math.MaxInt, ok},
		{"From the greatest", math.MaxInt, 0, supply, math.MaxInt - supply, supply, ok},
		{"both the greatest", math.MaxInt, math.MaxInt, supply, math.MaxInt - supply, math.MinInt + supply - 1, ok},
		{"From above 2^32", 1 << 32, 0, supply, 1<<32 - supply, supply, ok},
		{"From below 0", -1, 5, 1, -1, 5, errFunds},
		{"From the least", math.MinInt, 5, 1, math.MinInt, 5, errFunds},
		{"From the least, of the most", math.MinInt, math.MaxInt, supply, math.MinInt, math.MaxInt, errFunds},
		{"From near the least", math.MinInt + 1, 0, 2, math.MinInt + 1, 0, errFunds},
		{"From a multiple of 2^32 below 0", -1 << 32, 0, 1, -1 << 32, 0, errFunds},
	} {
		gives(t, c.what, accounts(c.from, 7, c.to, 1), pay(0, 1, c.amount, 7), accounts(c.left, 8, c.has, 1), c.err)
		gives(t, c.what, accounts(1, 1, c.to, 1, 2, 2, c.from, 7), pay(3, 1, c.amount, 7), accounts(1, 1, c.has, 1, 2, 2, c.left, 8), c.err)
	}
}

// Of several errors that could be told, the first one that the chapter names is.
func TestApplyTellsTheFirstError(t *testing.T) {
	poor := accounts(0, 5, 0, 5)
	stays(t, "without funds, of another Nonce, that may not be", poor, pay(0, 0, 5, 4), errState)
	stays(t, "without funds, of another Nonce, with no account for To", poor, pay(0, 2, 5, 4), errState)
	stays(t, "without funds, of another Nonce, with no account for From", poor, pay(2, 0, 5, 4), errState)
	stays(t, "of another Nonce, with no account for To", poor, pay(0, 3, 5, 4), errState)
	stays(t, "without funds, with no account for To", poor, pay(0, 3, 5, 5), errState)
	stays(t, "without funds, of another Nonce", poor, pay(0, 1, 5, 4), errNonce)
	gives(t, "without funds", poor, pay(0, 1, 5, 5), accounts(0, 6, 0, 5), errFunds)
}

// Each of a client's comes once: without funds too, its Nonce is used.
func TestApplyInTurn(t *testing.T) {
	a := first()
	for _, c := range []struct {
		t    api.Tx
		want []api.Account
		err  api.Errno
	}{
		{pay(0, 1, 200, 0), accounts(50, 1, 450, 0, 250, 0, 250, 0), ok},
		{pay(0, 1, 200, 0), accounts(50, 1, 450, 0, 250, 0, 250, 0), errNonce},
		{pay(0, 1, 200, 1), accounts(50, 2, 450, 0, 250, 0, 250, 0), errFunds},
		{pay(0, 1, 20, 1), accounts(50, 2, 450, 0, 250, 0, 250, 0), errNonce},
		{pay(1, 0, 450, 0), accounts(500, 2, 0, 1, 250, 0, 250, 0), ok},
		{pay(0, 1, 200, 2), accounts(300, 3, 200, 1, 250, 0, 250, 0), ok},
		{pay(0, 0, 200, 3), accounts(300, 3, 200, 1, 250, 0, 250, 0), errState},
		{pay(0, 3, 300, 3), accounts(0, 4, 200, 1, 250, 0, 550, 0), ok},
		{pay(0, 3, 1, 4), accounts(0, 5, 200, 1, 250, 0, 550, 0), errFunds},
	} {
		gives(t, "in turn", a, c.t, c.want, c.err)
		a, _ = bank.Apply(a, c.t)
	}
}
