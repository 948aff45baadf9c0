package bank_test

import (
	"math"
	"math/rand"
	"slices"
	"sync"
	"testing"

	"moot/api"
	"moot/bank"
)

// sizes are numbers at the edges of what may be, and far from it.
var sizes = []int{math.MinInt, math.MinInt + 1, -1 << 32, -1, 0, 1, 2, 3, 4, 5, 249, 250, 251, supply - 1, supply, supply + 1, maxAmount - 1, maxAmount, maxAmount + 1, 1 << 32, math.MaxInt - 1, math.MaxInt}

// size is one of them.
func size(r *rand.Rand) int {
	return sizes[r.Intn(len(sizes))]
}

// drawn is a transaction of a low Nonce; some may not be.
func drawn(r *rand.Rand, nonces int) api.Tx {
	from := r.Intn(maxClients)
	t := pay(from, (from+1+r.Intn(maxClients-1))%maxClients, 1+r.Intn(400), r.Intn(nonces))
	switch r.Intn(40) {
	case 0:
		t.From = size(r)
	case 1:
		t.To = size(r)
	case 2:
		t.Amount = size(r)
	case 3:
		t.Nonce = size(r)
	case 4:
		t.To = t.From
	}
	return t
}

// drawnAccounts are some, most often as many as there are clients, of low Nonces.
func drawnAccounts(r *rand.Rand) []api.Account {
	a := make([]api.Account, 7)
	for i := range a {
		a[i] = api.Account{Balance: r.Intn(500), Nonce: r.Intn(3)}
		switch r.Intn(20) {
		case 0:
			a[i].Balance = size(r)
		case 1:
			a[i].Nonce = size(r)
		}
	}
	if r.Intn(4) == 0 {
		return a[:r.Intn(len(a)+1)]
	}
	return a[:maxClients]
}

// Whatever is handed in, Apply tells what the page does, and the total stays.
func TestApplyOfDrawn(t *testing.T) {
	r := rand.New(rand.NewSource(16))
	times := map[api.Errno]int{}
	for range 20000 {
		a, x := drawnAccounts(r), drawn(r, 3)
		had := slices.Clone(a)
		got, err := applies(t, "of a drawn one", a, x)
		times[err]++
		if bank.Total(got) != bank.Total(a) || bank.Total(a) != total(a) {
			t.Fatalf("P16.2: Apply of %v: the total of %v is %d, that of %v is %d", facts(x), a, bank.Total(a), got, bank.Total(got))
		}
		if (err == ok || err == errFunds) == slices.Equal(got, a) {
			t.Fatalf("P16.1: Apply of %v to %v = %v, %d", facts(x), a, got, err)
		}
		if !slices.Equal(a, had) {
			t.Fatal("P16.3: what was handed in was changed")
		}
	}
	for _, err := range []api.Errno{ok, errState, errNonce, errFunds} {
		if times[err] < 1000 {
			t.Errorf("%d was told only %d times", err, times[err])
		}
	}
}

// drawnBlocks are blocks of transactions most of which are their client's next ones.
func drawnBlocks(r *rand.Rand) []api.Block {
	l := make([]api.Block, r.Intn(12))
	var next [maxClients]int
	for i := range l {
		for range r.Intn(maxTxs + 2) {
			t := drawn(r, 3)
			if t.From >= 0 && t.From < maxClients && r.Intn(5) > 0 {
				t.Nonce = next[t.From]
				next[t.From]++
			}
			l[i].Txs = append(l[i].Txs, t)
		}
	}
	return l
}

// Whatever blocks are handed in, Fold tells what the page does; the total stays, and nobody owes.
func TestFoldOfDrawn(t *testing.T) {
	r := rand.New(rand.NewSource(161))
	times := map[api.Errno]int{}
	for range 3000 {
		l := drawnBlocks(r)
		a, errs := folds(t, "of drawn blocks", l)
		for _, err := range errs {
			times[err]++
		}
		if len(errs) != len(allOf(l)) || len(a) != maxClients || bank.Total(a) != supply {
			t.Fatalf("P16.2: Fold tells %v, and %d errors of %d", a, len(errs), len(allOf(l)))
		}
		for _, has := range a {
			if has.Balance < 0 || has.Balance > supply {
				t.Fatalf("P16.2: Fold tells %v", a)
			}
		}
	}
	for _, err := range []api.Errno{ok, errState, errNonce, errFunds} {
		if times[err] < 1000 {
			t.Errorf("%d was told only %d times", err, times[err])
		}
	}
}

// Fold is Apply of one behind the other from Genesis on, however they are dealt out to blocks.
func TestFoldIsApplyInTurn(t *testing.T) {
	r := rand.New(rand.NewSource(162))
	for range 1000 {
		l := drawnBlocks(r)
		a, errs := bank.Fold(l)
		b := bank.Genesis()
		for i, x := range allOf(l) {
			var err api.Errno
			if b, err = bank.Apply(b, x); err != errs[i] {
				t.Fatalf("P16.1: Fold tells %d of transaction %d, Apply %d", errs[i], i, err)
			}
		}
		if !slices.Equal(a, b) {
			t.Fatalf("P16.1: Fold tells %v, Apply %v", a, b)
		}
		one, same := bank.Fold([]api.Block{{Txs: allOf(l)}})
		if !slices.Equal(a, one) || !slices.Equal(errs, same) {
			t.Fatalf("P16.1: Fold of many blocks tells %v, of one %v", a, one)
		}
	}
}

// Whatever is handed in, Next tells what the page does.
func TestNextOfDrawn(t *testing.T) {
	r := rand.New(rand.NewSource(163))
	times, poor := map[int]int{}, 0
	for range 6000 {
		a, l := drawnAccounts(r), allOf(drawnBlocks(r))
		l = l[:min(len(l), r.Intn(6))]
		for i := range l {
			if from := l[i].From; from >= 0 && from < len(a) && r.Intn(12) > 0 {
				now, _ := folded(a, []api.Block{{Txs: l[:i]}})
				l[i].Nonce = now[from].Nonce
			}
		}
		had, was := slices.Clone(a), slices.Clone(l)
		if follows(t, "of drawn ones", a, l) {
			times[len(l)]++
			if _, errs := folded(a, []api.Block{{Txs: l}}); slices.Contains(errs, errFunds) {
				poor++
			}
		} else {
			times[-1]++
		}
		if !slices.Equal(a, had) || !slices.Equal(l, was) {
			t.Fatal("P16.3: what was handed in was changed")
		}
	}
	for _, count := range []int{-1, 0, 1, 2, 3} {
		if times[count] < 100 {
			t.Errorf("%d: only %d times (-1: false)", count, times[count])
		}
	}
	if poor < 100 {
		t.Errorf("without funds only %d times", poor)
	}
}

// Whatever is handed in, each call ends.
func TestNothingPanics(t *testing.T) {
	lists := [][]api.Account{nil, {}, make([]api.Account, 1), make([]api.Account, 1000)}
	for _, n := range sizes {
		lists = append(lists, accounts(n, n, n, n, n, n), accounts(n, 0, n, 1, n, 2, n, 3, n, 4))
	}
	for _, n := range sizes {
		for _, m := range sizes {
			txs := []api.Tx{{From: n, To: m, Amount: n, Nonce: m}, {From: m, To: n, Amount: m, Nonce: n}, {From: 1, To: 2, Amount: n, Nonce: m}}
			ends(t, "Fold", func() { bank.Fold(blocks(txs, nil, txs[1:])) })
			for _, a := range lists {
				for _, x := range txs {
					ends(t, "Apply", func() { bank.Apply(a, x) })
				}
				ends(t, "Next", func() { bank.Next(a, txs[2:]) })
				ends(t, "Next", func() { bank.Next(a, txs) })
			}
		}
	}
	for _, a := range lists {
		ends(t, "Total", func() { bank.Total(a) })
	}
}

// Answers hang on arguments alone: not on what was asked ahead, nor on what is asked beside.
func TestAnswersHangOnArguments(t *testing.T) {
	r := rand.New(rand.NewSource(164))
	l, a := drawnBlocks(r), first()
	txs := allOf(l)
	var all sync.WaitGroup
	for range 8 {
		all.Go(func() {
			for range 50 {
				folds(t, "beside others", l)
				follows(t, "beside others", a, txs[:2])
				for _, x := range txs {
					applies(t, "beside others", a, x)
				}
				if bank.Total(bank.Genesis()) != supply {
					t.Error("P16.1: Total of Genesis, beside others")
				}
			}
		})
	}
	all.Wait()
	if !slices.Equal(a, first()) || !slices.Equal(txs, allOf(l)) {
		t.Error("P16.3: what was handed in was changed")
	}
}

// Nil and empty lists are one to every call (P5).
func TestNilAndEmpty(t *testing.T) {
	for _, a := range [][]api.Account{nil, {}, make([]api.Account, 0, 4)} {
		got, err := bank.Apply(a, pay(0, 1, 1, 0))
		if len(got) != 0 || err != errState || bank.Total(a) != 0 || bank.Next(a, []api.Tx{pay(0, 1, 1, 0)}) {
			t.Error("P5: nil and empty accounts are not one")
		}
		for _, txs := range [][]api.Tx{nil, {}, make([]api.Tx, 0, 4)} {
			if !bank.Next(a, txs) {
				t.Error("P5: nil and empty transactions are not one")
			}
			if got, errs := bank.Fold(blocks(txs)); !slices.Equal(got, first()) || len(errs) != 0 {
				t.Error("P5: nil and empty transactions are not one")
			}
		}
	}
}
