package bank_test

import (
	"math"
	"slices"
	"testing"

	"moot/api"
	"moot/bank"
)

// can says if Next tells that of transactions.
func can(t *testing.T, what string, a []api.Account, want bool, l ...api.Tx) {
	t.Helper()
	if got := bank.Next(a, l); got != want {
		t.Errorf("P16.1: Next, %s, of %v = %v", what, a, got)
	}
}

func TestNextOfNone(t *testing.T) {
	for _, a := range [][]api.Account{nil, {}, first(), accounts(-1, -1), make([]api.Account, 9)} {
		for _, l := range [][]api.Tx{nil, {}, make([]api.Tx, 0, 3)} {
			can(t, "of none", a, true, l...)
		}
	}
}

func TestNextOfOne(t *testing.T) {
	a := accounts(9, 5, 0, 6, -9, 0, math.MaxInt, maxAmount)
	can(t, "of the Nonce", a, true, pay(0, 1, 1, 5))
	can(t, "of the Nonce, of all", a, true, pay(0, 1, 9, 5))
	can(t, "of the Nonce, without funds", a, true, pay(0, 1, 10, 5))
	can(t, "of the Nonce, of nothing", a, true, pay(1, 0, 1, 6))
	can(t, "of the Nonce, below 0", a, true, pay(2, 0, 1, 0))
	can(t, "of the greatest Nonce", a, true, pay(3, 0, 1000, maxAmount))
	can(t, "of a Nonce below", a, false, pay(0, 1, 1, 4))
	can(t, "of a Nonce above", a, false, pay(0, 1, 1, 6))
	can(t, "of another Nonce, without funds", a, false, pay(1, 0, 1, 5))
	for what, x := range wrongs(pay(0, 1, 1, 5)) {
		can(t, what, a, false, x)
	}
}

func TestNextWithNoAccount(t *testing.T) {
	for count := range 8 {
		a := make([]api.Account, count)
		can(t, "of one to another", a, count > 2, pay(1, 2, 1, 0))
		can(t, "of another to one", a, count > 2, pay(2, 1, 1, 0))
		can(t, "of the last two", a, count > 3, pay(2, 3, 1, 0))
		can(t, "of nobody's", a, false, pay(4, 3, 1, 0))
		can(t, "of one to nobody", a, false, pay(0, 4, 1, 0))
	}
}

// Each is asked of the accounts behind those ahead of it.
func TestNextOfSeveral(t *testing.T) {
	a := accounts(9, 5, 9, 0, 9, 0, 9, 2)
	one, two, three := pay(0, 1, 1, 5), pay(0, 2, 1, 6), pay(0, 3, 1, 7)
	can(t, "of two that build", a, true, one, two)
	can(t, "of three that build", a, true, one, two, three)
	can(t, "of two, the first lacking", a, false, two)
	can(t, "of two, the first behind the other", a, false, two, one)
	can(t, "of three, the middle one lacking", a, false, one, three)
	can(t, "of three, the last one ahead", a, false, three, one, two)
	can(t, "of one twice", a, false, one, one)
	can(t, "of one twice, another between", a, false, one, two, one)
	can(t, "of two alike", a, false, one, with(one, func(t *api.Tx) { t.To, t.Amount = 3, 2 }))
	can(t, "of several clients", a, true, pay(3, 0, 1, 2), one, pay(1, 0, 1, 0), two, pay(3, 1, 1, 3), pay(2, 0, 1, 0))
	can(t, "of several clients, one's lacking", a, false, pay(3, 0, 1, 2), one, pay(1, 0, 1, 1), two)
	// What one has by those ahead of it tells nothing: without funds it may come too.
	can(t, "without funds among them", a, true, one, with(two, func(t *api.Tx) { t.Amount = 1000 }), three)
	can(t, "without funds first", a, true, with(one, func(t *api.Tx) { t.Amount = 10 }), two, three)
	can(t, "without funds last", a, true, one, two, with(three, func(t *api.Tx) { t.Amount = 8 }))
	can(t, "without funds alone", a, true, with(one, func(t *api.Tx) { t.Amount = 10 }), with(two, func(t *api.Tx) { t.Amount = 10 }))
	can(t, "without funds twice", a, false, with(one, func(t *api.Tx) { t.Amount = 10 }), with(one, func(t *api.Tx) { t.Amount = 10 }))
	for what, x := range wrongs(two) {
		can(t, what+" first", a, false, x, one)
		can(t, what+" among them", a, false, one, x, two)
		can(t, what+" last", a, false, one, x)
	}
}

func TestNextOfMany(t *testing.T) {
	var l []api.Tx
	for i := range 2000 {
		l = append(l, pay(i%maxClients, (i+2)%maxClients, 1+i%supply, i/maxClients))
	}
	can(t, "of many", first(), true, l...)
	for _, at := range []int{0, 1, 999, 1995} {
		can(t, "of many but one", first(), false, slices.Delete(slices.Clone(l), at, at+1)...)
		can(t, "of many and one twice", first(), false, slices.Insert(slices.Clone(l), at, l[at])...)
	}
	can(t, "of many but the last one", first(), true, l[:1999]...)
	can(t, "of many, by many accounts", make([]api.Account, 1<<16), true, l...)
}
