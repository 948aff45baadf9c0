package bank_test

import (
	"math"
	"slices"
	"strings"
	"testing"

	"moot/api"
	"moot/bank"
)

// blocks are blocks of nothing but these transactions.
func blocks(l ...[]api.Tx) []api.Block {
	var told []api.Block
	for _, txs := range l {
		told = append(told, api.Block{Txs: txs})
	}
	return told
}

// makes says if Fold tells those accounts and those errors.
func makes(t *testing.T, what string, l []api.Block, want []api.Account, wanted ...api.Errno) {
	t.Helper()
	if got, errs := bank.Fold(l); !slices.Equal(got, want) || !slices.Equal(errs, wanted) {
		t.Errorf("P16.1: Fold %s = %v, %v, want %v, %v", what, got, errs, want, wanted)
	}
}

func TestFoldOfNothing(t *testing.T) {
	for what, l := range map[string][]api.Block{
		"of nil":                           nil,
		"of none":                          {},
		"of none, with room":               make([]api.Block, 0, 4),
		"of one with no transactions":      {{View: 1, Height: 1}},
		"of one with none of them":         {{Txs: []api.Tx{}}},
		"of several with no transactions":  make([]api.Block, 9),
		"of some nil and some with nobody": blocks(nil, []api.Tx{}, nil, make([]api.Tx, 0, 3)),
	} {
		makes(t, what, l, first())
	}
}

func TestFold(t *testing.T) {
	makes(t, "of one in one", blocks([]api.Tx{pay(2, 0, 30, 0)}), accounts(280, 0, 250, 0, 220, 1, 250, 0), ok)
	makes(t, "of several in one",
		blocks([]api.Tx{pay(0, 1, 250, 0), pay(1, 2, 500, 0), pay(2, 3, 750, 0), pay(3, 0, 1000, 0)}),
		accounts(1000, 1, 0, 1, 0, 1, 0, 1), ok, ok, ok, ok)
	makes(t, "of several in several",
		blocks([]api.Tx{pay(0, 1, 100, 0), pay(0, 1, 100, 1)}, nil, []api.Tx{pay(0, 1, 100, 2)}, []api.Tx{pay(1, 0, 1, 0), pay(0, 2, 51, 3), pay(0, 2, 1, 4)}),
		accounts(0, 5, 449, 1, 301, 0, 250, 0), ok, ok, errFunds, ok, ok, errFunds)
	makes(t, "of each error",
		blocks([]api.Tx{pay(0, 0, 1, 0), pay(0, 1, 1, 1), pay(0, 1, 251, 0)}, []api.Tx{pay(0, 1, 1, 1), {}, pay(4, 0, 1, 0)}),
		accounts(249, 2, 251, 0, 250, 0, 250, 0), errState, errNonce, errFunds, ok, errState, errState)
	makes(t, "of one of each client's",
		blocks([]api.Tx{pay(3, 0, 1, 0)}, []api.Tx{pay(2, 0, 2, 0)}, []api.Tx{pay(1, 0, 3, 0)}, []api.Tx{pay(0, 3, 256, 0)}),
		accounts(0, 1, 247, 1, 248, 1, 505, 1), ok, ok, ok, ok)
}

// One transaction is done once, wherever it comes again.
func TestFoldOfOneTwice(t *testing.T) {
	x := pay(1, 3, 100, 0)
	once := accounts(250, 0, 150, 1, 250, 0, 350, 0)
	makes(t, "of one twice in one block", blocks([]api.Tx{x, x}), once, ok, errNonce)
	makes(t, "of one twice in two blocks", blocks([]api.Tx{x}, []api.Tx{x}), once, ok, errNonce)
	makes(t, "of one twice, others between", blocks([]api.Tx{x, pay(3, 1, 1, 0)}, nil, []api.Tx{pay(1, 3, 1, 1), x}),
		accounts(250, 0, 150, 2, 250, 0, 350, 1), ok, ok, ok, errNonce)
	poor := pay(1, 3, 300, 0)
	makes(t, "of one without funds twice", blocks([]api.Tx{poor}, []api.Tx{pay(0, 1, 250, 0)}, []api.Tx{poor}),
		accounts(0, 1, 500, 1, 250, 0, 250, 0), errFunds, ok, errNonce)
	early := pay(1, 3, 100, 1)
	makes(t, "of one too early, and again", blocks([]api.Tx{early, x, early}), accounts(250, 0, 50, 2, 250, 0, 450, 0), errNonce, ok, ok)
}

// A block's other parts tell nothing, nor how many transactions it has.
func TestFoldOfBlocksThatMayNotBe(t *testing.T) {
	some := []api.Tx{pay(0, 1, 5, 0), pay(0, 1, 5, 1), pay(0, 1, 5, 3)}
	want := accounts(240, 2, 260, 0, 250, 0, 250, 0)
	for _, n := range []int{math.MinInt, -1, 0, 1, 1 << 20, 1<<20 + 1, math.MaxInt} {
		for _, b := range []api.Block{
			{View: n}, {Height: n}, {View: n, Height: n, Parent: strings.Repeat("p", 32)},
			{Justify: api.Cert{View: n, Height: n, Votes: make([]api.Vote, 9)}}, {Sig: strings.Repeat("s", maxField+1)},
		} {
			b.Txs = some
			makes(t, "of a block that may not be", []api.Block{b}, want, ok, ok, errNonce)
			makes(t, "of one twice that may not be", []api.Block{b, b}, want, ok, ok, errNonce, errNonce, errNonce, errNonce)
		}
	}
	var many []api.Tx
	var errs []api.Errno
	for nonce := range 300 {
		many, errs = append(many, pay(2, 3, 1, nonce)), append(errs, ok)
	}
	for i := 250; i < 300; i++ {
		errs[i] = errFunds
	}
	makes(t, "of more than a block may have", blocks(many), accounts(250, 0, 250, 0, 0, 300, 500, 0), errs...)
}

func TestFoldOfManyBlocks(t *testing.T) {
	var l []api.Block
	for i := range 4000 {
		l = append(l, api.Block{Txs: []api.Tx{pay(i%maxClients, (i+1)%maxClients, 1+i%7, i/maxClients)}})
	}
	a, errs := folds(t, "of many blocks", l)
	if len(errs) != 4000 || a[0].Nonce != 1000 || bank.Total(a) != supply {
		t.Errorf("P16.1: Fold of many blocks = %v, and %d errors", a, len(errs))
	}
}

// Fold starts from Genesis each time: one call's blocks are nothing to the next one.
func TestFoldForgets(t *testing.T) {
	l := blocks([]api.Tx{pay(0, 1, 5, 0)}, []api.Tx{pay(0, 1, 5, 1)})
	for range 3 {
		makes(t, "of two", l, accounts(240, 2, 260, 0, 250, 0, 250, 0), ok, ok)
		makes(t, "of the first alone", l[:1], accounts(245, 1, 255, 0, 250, 0, 250, 0), ok)
		makes(t, "of the other alone", l[1:], first(), errNonce)
		makes(t, "of none", nil, first())
	}
}
