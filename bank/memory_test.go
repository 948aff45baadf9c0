package bank_test

import (
	"slices"
	"testing"

	"moot/api"
	"moot/bank"
)

// rooms are how much room a list has behind its end.
var rooms = []int{0, 1, 2, 40}

// roomy is a list with room behind its end, and all of it.
func roomy[T any](l []T, room int, mark T) ([]T, []T) {
	whole := slices.Clone(l)
	for range room {
		whole = append(whole, mark)
	}
	whole = slices.Clip(whole)
	return whole[:len(l)], whole
}

// overwrite changes accounts, and the room behind them.
func overwrite(l []api.Account) {
	for i := range l[:cap(l)] {
		l[:cap(l)][i] = api.Account{Balance: -9, Nonce: -9}
	}
}

// aside stands behind the end of accounts that are handed in.
var aside = api.Account{Balance: -7, Nonce: -7}

// kinds are transactions to first(), by what comes of them.
func kinds() map[string]api.Tx {
	return map[string]api.Tx{
		"moved":     pay(1, 2, 5, 0),
		"all moved": pay(0, 3, 250, 0),
		"ErrState":  pay(1, 1, 5, 0),
		"ErrNonce":  pay(1, 2, 5, 1),
		"ErrFunds":  pay(1, 2, 500, 0),
	}
}

// starts are accounts, as many as clients and not.
func starts() [][]api.Account {
	return [][]api.Account{nil, {}, accounts(9, 0), accounts(9, 0, 9, 0), first(), append(first(), first()...)}
}

// Neither accounts that were handed in, nor what stands behind their end, are changed.
func TestAccountsStay(t *testing.T) {
	for what, x := range kinds() {
		for _, a := range starts() {
			for _, room := range rooms {
				had, whole := roomy(a, room, aside)
				all := slices.Clone(whole)
				bank.Apply(had, x)
				bank.Next(had, []api.Tx{x, x, pay(2, 1, 7, 0)})
				bank.Total(had)
				if !slices.Equal(whole, all) {
					t.Errorf("P16.3: %s changed accounts that were handed in: %v, before %v", what, whole, all)
				}
			}
		}
	}
}

// Neither transactions nor blocks that were handed in are changed, nor what stands behind their ends.
func TestTransactionsStay(t *testing.T) {
	mark, last := api.Tx{From: -7, Sig: "behind the end"}, api.Block{Sig: "behind the end"}
	for _, room := range rooms {
		some := []api.Tx{pay(1, 2, 5, 0), pay(1, 1, 1, 1), pay(1, 2, 500, 1), pay(3, 0, 1, 9)}
		txs, whole := roomy(some, room, mark)
		was := slices.Clone(whole)
		bank.Next(first(), txs)
		l, all := roomy([]api.Block{{View: 1, Txs: txs}, {View: 2, Txs: txs[:2]}, {View: 3}}, room, last)
		bank.Fold(l)
		if !slices.Equal(whole, was) {
			t.Error("P16.3: transactions that were handed in were changed")
		}
		for i, b := range l {
			if b.View != i+1 || len(b.Txs) != []int{4, 2, 0}[i] {
				t.Error("P16.3: blocks that were handed in were changed")
			}
		}
		for _, b := range all[len(l):] {
			if b.Sig != last.Sig || b.Txs != nil {
				t.Error("P16.3: what stands behind the end of blocks was changed")
			}
		}
	}
}

// A change of what Apply told changes nothing else, nor does one of what was handed in.
func TestApplyAnswersNewMemory(t *testing.T) {
	for what, x := range kinds() {
		for _, a := range starts() {
			for _, room := range rooms {
				had, whole := roomy(a, room, aside)
				was := slices.Clone(whole)
				told, _ := bank.Apply(had, x)
				again, _ := bank.Apply(had, x)
				want := slices.Clone(told)
				_ = append(told, api.Account{Balance: 77})
				overwrite(told)
				if !slices.Equal(whole, was) {
					t.Errorf("P16.3: what Apply told, %s, shares memory with what was handed in", what)
				}
				if !slices.Equal(again, want) {
					t.Errorf("P16.3: two answers of Apply, %s, share memory", what)
				}
				_ = append(had, api.Account{Balance: 78})
				overwrite(whole)
				if !slices.Equal(again, want) {
					t.Errorf("P16.3: Apply, %s, keeps what was handed in", what)
				}
				if later, _ := bank.Apply(a, x); !slices.Equal(later, want) {
					t.Errorf("P16.3: a change of what was told, %s, changes a later answer", what)
				}
			}
		}
	}
}

// Of two that are applied to the same accounts neither sees the other.
func TestTwoOfTheSameAccounts(t *testing.T) {
	base, _ := bank.Apply(first(), pay(0, 1, 10, 0))
	one, _ := bank.Apply(base, pay(1, 2, 260, 0))
	two, _ := bank.Apply(base, pay(1, 3, 260, 0))
	three, _ := bank.Apply(base, pay(1, 3, 261, 0))
	for what, l := range map[string][2][]api.Account{
		"those":     {base, accounts(240, 1, 260, 0, 250, 0, 250, 0)},
		"the one":   {one, accounts(240, 1, 0, 1, 510, 0, 250, 0)},
		"the two":   {two, accounts(240, 1, 0, 1, 250, 0, 510, 0)},
		"the three": {three, accounts(240, 1, 260, 1, 250, 0, 250, 0)},
	} {
		if !slices.Equal(l[0], l[1]) {
			t.Errorf("P16.3: %s accounts are %v, want %v", what, l[0], l[1])
		}
	}
}

// A change of what Fold told changes no other answer, nor does one of what was handed in.
func TestFoldAnswersNewMemory(t *testing.T) {
	txs := []api.Tx{pay(1, 2, 5, 0), pay(1, 2, 500, 1), pay(1, 2, 5, 0), {}}
	for _, l := range [][]api.Block{nil, blocks(nil, nil), blocks(txs), blocks(txs[:1], txs[1:], txs)} {
		one, errs := bank.Fold(l)
		two, others := bank.Fold(l)
		want, wanted := slices.Clone(one), slices.Clone(errs)
		overwrite(one)
		for i := range errs[:cap(errs)] {
			errs[:cap(errs)][i] = -9
		}
		_, _ = append(one, api.Account{}), append(errs, -9)
		three, more := bank.Fold(l)
		for _, b := range l {
			clear(b.Txs)
		}
		clear(l)
		if !slices.Equal(two, want) || !slices.Equal(three, want) || !slices.Equal(bank.Genesis(), first()) {
			t.Error("P16.3: accounts that Fold told share memory")
		}
		if !slices.Equal(others, wanted) || !slices.Equal(more, wanted) {
			t.Error("P16.3: errors that Fold told share memory")
		}
		txs = []api.Tx{pay(1, 2, 5, 0), pay(1, 2, 500, 1), pay(1, 2, 5, 0), {}}
	}
}
