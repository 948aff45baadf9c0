package mempool_test

import (
	"math"
	"math/rand"
	"slices"
	"sync"
	"testing"

	"moot/api"
	"moot/mempool"
)

// drawn is a transaction of a low From and Nonce; some may not be.
func drawn(r *rand.Rand) api.Tx {
	t := with(pay(r.Intn(maxClients), r.Intn(5)), func(t *api.Tx) { t.Amount = 1 + r.Intn(400) })
	sizes := []int{-1, 0, 4, 6, supply + 1, maxAmount, maxAmount + 1, math.MaxInt, math.MinInt}
	size := sizes[r.Intn(len(sizes))]
	switch r.Intn(30) {
	case 0:
		t.From = size
	case 1:
		t.To = size
	case 2:
		t.Amount = size
	case 3:
		t.Nonce = size
	}
	return t
}

// drawnList is so many of them.
func drawnList(r *rand.Rand, count int) []api.Tx {
	var l []api.Tx
	for range count {
		l = append(l, drawn(r))
	}
	return l
}

// drawnAccounts are some, most often as many as there are clients.
func drawnAccounts(r *rand.Rand) []api.Account {
	a := accounts(r.Intn(4), r.Intn(4), r.Intn(4), r.Intn(4), r.Intn(4), r.Intn(4), r.Intn(4))
	if r.Intn(8) == 0 {
		a[r.Intn(maxClients)].Nonce = []int{-1, maxAmount, math.MaxInt, math.MinInt}[r.Intn(4)]
	}
	if r.Intn(4) == 0 {
		return a[:r.Intn(len(a)+1)]
	}
	return a[:maxClients]
}

// Whatever is handed in, the calls tell what the page does.
func TestRows(t *testing.T) {
	r := rand.New(rand.NewSource(15))
	times := map[int]int{}
	for range 4000 {
		l, a := drawnList(r, r.Intn(25)), drawnAccounts(r)
		was, had := slices.Clone(l), slices.Clone(a)
		adds(t, "of a drawn row", l, drawn(r))
		adds(t, "of a short drawn row", l[:len(l)/2], drawn(r))
		times[len(takes(t, "of a drawn row", l, a))]++
		drops(t, "of a drawn row", l, a)
		if !slices.Equal(l, was) || !slices.Equal(a, had) {
			t.Fatal("P15.3: what was handed in was changed")
		}
	}
	for count := range maxTxs + 1 {
		if times[count] < 100 {
			t.Errorf("%d were taken only %d times", count, times[count])
		}
	}
}

// grown is a pool of as many as Add lets in of drawn ones.
func grown(t *testing.T, r *rand.Rand, count int) []api.Tx {
	var l []api.Tx
	for range count {
		if more, ok := mempool.Add(l, drawn(r)); ok {
			l = more
		}
	}
	for i, x := range l {
		if !mayBe(x) || slices.ContainsFunc(l[:i], func(y api.Tx) bool { return x.From == y.From && x.Nonce == y.Nonce }) {
			t.Fatal("P15.1: Add let in what may not wait")
		}
	}
	if len(l) > maxPool {
		t.Fatalf("P15.1: %d wait", len(l))
	}
	return l
}

// What is taken of what Add let in can be done, and no more could be taken.
func TestWhatIsTakenCanBeDone(t *testing.T) {
	r := rand.New(rand.NewSource(152))
	full := 0
	for range 2000 {
		l := grown(t, r, r.Intn(40))
		a := accounts(r.Intn(3), r.Intn(3), r.Intn(3), r.Intn(3))
		for i := range a {
			a[i].Balance = r.Intn(supply)
		}
		told := mempool.Take(l, a)
		behind, ok := allDone(a, told)
		if !ok {
			t.Fatalf("P15.2: of %v by %v is taken %v, which can't be done", slots(l), a, slots(told))
		}
		if len(told) == maxTxs {
			full++
			continue
		}
		for _, x := range l {
			if _, ok := done(behind, x); ok {
				t.Fatalf("P15.1: of %v by %v is taken %v, and not From %d, Nonce %d", slots(l), a, slots(told), x.From, x.Nonce)
			}
		}
	}
	if full < 100 || full > 1900 {
		t.Errorf("as many as may be were taken %d times", full)
	}
}

// Each that waits is taken once; what was done, and dropped, is not taken again.
func TestTakenDoneDropped(t *testing.T) {
	r := rand.New(rand.NewSource(153))
	for range 300 {
		a := accounts(0, 0, 0, 0)
		var l, all []api.Tx
		for round := range 30 {
			if more, ok := mempool.Add(l, drawn(r)); ok && more[len(more)-1].Nonce >= a[more[len(more)-1].From].Nonce {
				l = more
			}
			told := takes(t, "of a pool", l, a)
			var ok bool
			if a, ok = allDone(a, told); !ok {
				t.Fatalf("P15.2: in round %d is taken what can't be done: %v", round, slots(told))
			}
			left := drops(t, "of what was done", l, a)
			if len(left) != len(l)-len(told) || slices.ContainsFunc(left, func(x api.Tx) bool { return slices.Contains(told, x) }) {
				t.Fatalf("P15.1: of %v was taken %v, and %v is left", slots(l), slots(told), slots(left))
			}
			l, all = left, append(all, told...)
		}
		for i, x := range all {
			if slices.ContainsFunc(all[:i], func(y api.Tx) bool { return x.From == y.From && x.Nonce == y.Nonce }) {
				t.Fatalf("P15.1: From %d, Nonce %d was taken twice", x.From, x.Nonce)
			}
		}
		if _, ok := allDone(accounts(0, 0, 0, 0), all); !ok {
			t.Fatalf("P15.2: %v, one behind the other, can't be done", slots(all))
		}
	}
}

// A whole pool of four clients gets done in four takes.
func TestAllGetsDone(t *testing.T) {
	r := rand.New(rand.NewSource(154))
	for range 50 {
		want := row(maxPool)
		r.Shuffle(len(want), func(i, j int) { want[i], want[j] = want[j], want[i] })
		var l []api.Tx
		for _, x := range want {
			l = adds(t, "of a whole pool", l, x)
		}
		a := accounts(0, 0, 0, 0)
		for range maxPool / maxTxs {
			told := takes(t, "of a whole pool", l, a)
			if len(told) != maxTxs {
				t.Fatalf("P15.1: of %v by %v only %v is taken", slots(l), a, slots(told))
			}
			a, _ = allDone(a, told)
			l = drops(t, "of a whole pool", l, a)
		}
		if len(l) != 0 {
			t.Errorf("P15.1: %v is left of a whole pool", slots(l))
		}
		for client, account := range a {
			if account.Nonce != maxPool/maxClients {
				t.Errorf("P15.2: client %d did %d", client, account.Nonce)
			}
		}
	}
}

// Whatever is handed in, each call ends.
func TestNothingPanics(t *testing.T) {
	sizes := []int{math.MinInt, -1, 0, 1, 3, 4, maxPool, supply, maxAmount, maxAmount + 1, math.MaxInt}
	lists := [][]api.Tx{nil, {}, {{}}, make([]api.Tx, maxPool), make([]api.Tx, 1000)}
	for _, n := range sizes {
		for _, m := range sizes {
			lists = append(lists, []api.Tx{{From: n, To: m, Amount: n, Nonce: m}, {From: m, To: n, Amount: m, Nonce: n}})
		}
	}
	for _, l := range lists {
		for _, a := range [][]api.Account{nil, {}, {{}}, accounts(sizes...), make([]api.Account, 1000)} {
			ends(t, "Take", func() { mempool.Take(l, a) })
			ends(t, "Drop", func() { mempool.Drop(l, a) })
		}
		for _, x := range lists[5:] {
			ends(t, "Add", func() { mempool.Add(l, x[0]) })
		}
	}
}

// Answers hang on arguments alone: not on what was asked ahead, nor on what is asked beside.
func TestAnswersHangOnArguments(t *testing.T) {
	r := rand.New(rand.NewSource(155))
	l, a, x := grown(t, r, 12), accounts(0, 1, 0, 1), pay(3, 77)
	was, had := slices.Clone(l), slices.Clone(a)
	var all sync.WaitGroup
	for range 8 {
		all.Go(func() {
			for range 200 {
				adds(t, "beside others", l, x)
				takes(t, "beside others", l, a)
				drops(t, "beside others", l, a)
			}
		})
	}
	all.Wait()
	if !slices.Equal(l, was) || !slices.Equal(a, had) {
		t.Error("P15.3: what was handed in was changed")
	}
}

// Nil and empty lists are one to every call (P5).
func TestNilAndEmpty(t *testing.T) {
	for _, a := range [][]api.Account{nil, {}, make([]api.Account, 0, 4)} {
		for _, l := range [][]api.Tx{nil, {}, make([]api.Tx, 0, 4), row(3)} {
			if len(mempool.Take(l, a)) != 0 || len(mempool.Drop(l, a)) != 0 {
				t.Error("P5: nil and empty lists are not one")
			}
		}
	}
}
