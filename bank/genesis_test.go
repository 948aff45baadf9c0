package bank_test

import (
	"math"
	"slices"
	"testing"

	"moot/api"
	"moot/bank"
)

func TestGenesis(t *testing.T) {
	if got := bank.Genesis(); !slices.Equal(got, first()) {
		t.Errorf("P16.1: Genesis = %v", got)
	}
	if got := bank.Total(bank.Genesis()); got != supply {
		t.Errorf("P16.1: Total of Genesis = %d", got)
	}
}

// A change of what Genesis told changes no later answer.
func TestGenesisIsNew(t *testing.T) {
	one, two := bank.Genesis(), bank.Genesis()
	for i := range one {
		one[i] = api.Account{Balance: -1, Nonce: 9}
	}
	_ = append(one[:2], api.Account{Balance: -3})
	folded, _ := bank.Fold(nil)
	for what, got := range map[string][]api.Account{"another": two, "a later": bank.Genesis(), "Fold's": folded} {
		if !slices.Equal(got, first()) {
			t.Errorf("P16.3: a change of what Genesis told changes %s answer: %v", what, got)
		}
	}
}

func TestTotal(t *testing.T) {
	for what, c := range map[string]struct {
		l    []api.Account
		want int
	}{
		"nil":                     {nil, 0},
		"none":                    {[]api.Account{}, 0},
		"one of 0":                {accounts(0, 0), 0},
		"one":                     {accounts(7, 9), 7},
		"Nonces alone":            {accounts(0, 5, 0, 6, 0, math.MaxInt), 0},
		"fewer than clients":      {accounts(1, 2, 10, 20), 11},
		"as many as clients":      {accounts(1, 2, 10, 20, 100, 200, 1000, 2000), 1111},
		"more than clients":       {accounts(1, 0, 2, 0, 4, 0, 8, 0, 16, 0, 32, 0), 63},
		"below 0":                 {accounts(-5, 1), -5},
		"below 0 and above":       {accounts(-5, 1, 7, 1, -9, 1, 3, 1), -4},
		"as many below as above":  {accounts(-5, 1, 5, 1), 0},
		"above 2^32":              {accounts(1<<32, 0, 1<<32, 0, 3, 0), 1<<33 + 3},
		"the greatest":            {accounts(math.MaxInt, 0), math.MaxInt},
		"the least":               {accounts(math.MinInt, 0), math.MinInt},
		"one above the greatest":  {accounts(math.MaxInt, 0, 1, 0), math.MinInt},
		"one below the least":     {accounts(math.MinInt, 0, -1, 0), math.MaxInt},
		"the greatest twice":      {accounts(math.MaxInt, 0, math.MaxInt, 0), -2},
		"the least twice":         {accounts(math.MinInt, 0, math.MinInt, 0), 0},
		"the least and greatest":  {accounts(math.MinInt, 0, math.MaxInt, 0), -1},
		"round and back":          {accounts(math.MaxInt, 0, 10, 0, -10, 0), math.MaxInt},
		"the greatest four times": {accounts(math.MaxInt, 0, math.MaxInt, 0, math.MaxInt, 0, math.MaxInt, 0), -4},
	} {
		if got := bank.Total(c.l); got != c.want {
			t.Errorf("P16.1: Total of %s = %d, want %d", what, got, c.want)
		}
	}
}

func TestTotalOfMany(t *testing.T) {
	l := make([]api.Account, 1<<16)
	for i := range l {
		l[i] = api.Account{Balance: i, Nonce: -i}
	}
	for _, count := range []int{5, 255, 256, 257, 1 << 16} {
		if got, want := bank.Total(l[:count]), count*(count-1)/2; got != want {
			t.Errorf("P16.1: Total of %d = %d, want %d", count, got, want)
		}
	}
}
