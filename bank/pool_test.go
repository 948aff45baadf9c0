package bank_test

import (
	"math/rand"
	"testing"

	"moot/api"
	"moot/bank"
	"moot/mempool"
)

// What is taken of what waits can be done, one behind the other, and is gone then; what was done can't be done again.
func TestWhatIsTakenIsNext(t *testing.T) {
	r := rand.New(rand.NewSource(165))
	done := 0
	for range 200 {
		a := bank.Genesis()
		var l []api.Tx
		for range 20 {
			if more, added := mempool.Add(l, drawn(r, 4)); added {
				l = more
			}
			taken := mempool.Take(l, a)
			if !bank.Next(a, taken) {
				t.Fatalf("P15.2: of %v is taken %v, which can't be done by %v", l, taken, a)
			}
			for _, x := range taken {
				a, _ = bank.Apply(a, x)
				done++
			}
			left := mempool.Drop(l, a)
			for _, x := range taken {
				if bank.Next(a, []api.Tx{x}) {
					t.Fatalf("P16.1: %v can be done twice", facts(x))
				}
				for _, y := range left {
					if x.From == y.From && x.Nonce == y.Nonce {
						t.Fatalf("P15.1: %v is left when it is done", facts(x))
					}
				}
			}
			l = left
		}
		if bank.Total(a) != supply {
			t.Fatalf("P16.2: the total is %d", bank.Total(a))
		}
	}
	if done < 1000 {
		t.Errorf("only %d were done", done)
	}
}
