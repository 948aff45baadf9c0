package mempool_test

import (
	"slices"
	"strings"
	"testing"

	"moot/api"
	"moot/mempool"
)

// is says if Add tells that list, and true.
func is(t *testing.T, what string, l []api.Tx, x api.Tx, want []api.Tx) {
	t.Helper()
	if got, ok := mempool.Add(l, x); !ok || !slices.Equal(got, want) {
		t.Errorf("P15.1: Add %s = %v, %v, want %v, true", what, slots(got), ok, slots(want))
	}
}

// refuses says if Add tells nothing, and false.
func refuses(t *testing.T, what string, l []api.Tx, x api.Tx) {
	t.Helper()
	if got, ok := mempool.Add(l, x); ok || len(got) != 0 {
		t.Errorf("P15.1: Add %s = %v, %v, want nothing, false", what, slots(got), ok)
	}
}

func TestAddToNothing(t *testing.T) {
	for _, l := range [][]api.Tx{nil, {}, make([]api.Tx, 0, 5)} {
		is(t, "to nothing", l, pay(2, 7), []api.Tx{pay(2, 7)})
		// The least and the greatest of what may be.
		for _, x := range []api.Tx{
			{From: 0, To: 3, Amount: 1},
			{From: 3, To: 0, Amount: supply, Nonce: maxAmount, Sig: strings.Repeat("s", maxField)},
			{From: 0, To: 1, Amount: supply, Nonce: 0, Sig: ""},
			{From: 2, To: 1, Amount: 1, Nonce: maxAmount, Sig: "s"},
		} {
			is(t, "of the edges of what may be", l, x, []api.Tx{x})
		}
	}
}

func TestAddBehindOthers(t *testing.T) {
	all := row(maxPool)
	l := []api.Tx(nil)
	for i, x := range all {
		is(t, "behind others", l, x, all[:i+1])
		l, _ = mempool.Add(l, x)
	}
	// Not in the order of From, nor of Nonce.
	is(t, "of the lowest From and Nonce", pays([2]int{3, 9}, [2]int{2, 8}), pay(0, 0), pays([2]int{3, 9}, [2]int{2, 8}, [2]int{0, 0}))
	is(t, "behind falling Nonces", pays([2]int{1, 9}, [2]int{1, 8}), pay(1, 7), pays([2]int{1, 9}, [2]int{1, 8}, [2]int{1, 7}))
}

func TestAddOfWhatMayNotBe(t *testing.T) {
	for what, x := range wrongs() {
		refuses(t, "to nothing, "+what, nil, x)
		refuses(t, "behind others, "+what, pays([2]int{0, 1}, [2]int{2, 1}), x)
		refuses(t, "to as many as may wait, "+what, row(maxPool), x)
		refuses(t, "to itself, "+what, []api.Tx{x}, x)
	}
}

func TestAddToMany(t *testing.T) {
	for count := range 40 {
		l := row(count)
		for _, x := range []api.Tx{pay(1, 100), pay(3, maxAmount)} {
			if count < maxPool {
				is(t, "to fewer than 16", l, x, append(slices.Clone(l), x))
			} else {
				refuses(t, "to 16 and more", l, x)
			}
		}
	}
	refuses(t, "to very many", make([]api.Tx, 1<<16), pay(1, 1))
}

// What has From and Nonce of one that waits is there, whatever else it has.
func TestAddOfWhatIsThere(t *testing.T) {
	for _, count := range []int{1, 2, 5, maxPool - 1, maxPool} {
		l := row(count)
		for _, x := range l {
			refuses(t, "of what is there", l, x)
			for what, change := range map[string]func(t *api.Tx){
				"another To":     func(t *api.Tx) { t.To = (t.From + 2) % maxClients },
				"another Amount": func(t *api.Tx) { t.Amount++ },
				"another Sig":    func(t *api.Tx) { t.Sig = "another one's" },
				"no Sig":         func(t *api.Tx) { t.Sig = "" },
				"all else unlike": func(t *api.Tx) {
					t.To, t.Amount, t.Sig = (t.From+2)%maxClients, supply, "another one's"
				},
			} {
				refuses(t, "of one that is there with "+what, l, with(x, change))
			}
		}
	}
	// The chapter's example, and that of its test.
	l, _ := mempool.Add(nil, pay(1, 2))
	refuses(t, "of one twice", l, pay(1, 2))
	l, _ = mempool.Add(nil, api.Tx{To: 1, Amount: 1})
	refuses(t, "of one twice", l, api.Tx{To: 2, Amount: 1})
}

// What has not both of one that waits is not there.
func TestAddOfOther(t *testing.T) {
	l := []api.Tx{pay(1, 5)}
	for _, nonce := range []int{0, 4, 6, maxAmount} {
		x := with(pay(1, 5), func(t *api.Tx) { t.Nonce = nonce })
		is(t, "of the same From with another Nonce", l, x, []api.Tx{l[0], x})
	}
	for _, from := range []int{0, 3} {
		x := with(pay(1, 5), func(t *api.Tx) { t.From = from })
		is(t, "of the same Nonce with another From", l, x, []api.Tx{l[0], x})
	}
	x := pay(2, 1)
	is(t, "of From and Nonce in each other's place", []api.Tx{pay(1, 2)}, x, []api.Tx{pay(1, 2), x})
	is(t, "of a From of one and a Nonce of another one", pays([2]int{1, 2}, [2]int{3, 4}), pay(1, 4), pays([2]int{1, 2}, [2]int{3, 4}, [2]int{1, 4}))
	// No two of them have one text of both, if no place is between.
	is(t, "of From 1 and Nonce 11", pays([2]int{1, 1}, [2]int{1, 111}), pay(1, 11), pays([2]int{1, 1}, [2]int{1, 111}, [2]int{1, 11}))
}

// What waits is neither looked through nor thrown away.
func TestAddToWhatMayNotBe(t *testing.T) {
	for what, wrong := range wrongs() {
		l := []api.Tx{wrong, wrong, pay(0, 9)}
		adds(t, "to "+what, l, pay(1, 3))
		is(t, "to "+what, l, pay(2, 5), append(slices.Clone(l), pay(2, 5)))
	}
	// They count: those of From and Nonce, and all together.
	l := make([]api.Tx, maxPool-1)
	refuses(t, "to 15 that may not be, of From and Nonce 0", l, pay(0, 0))
	is(t, "to 15 that may not be", l, pay(0, 1), append(slices.Clone(l), pay(0, 1)))
	refuses(t, "to 16 that may not be", make([]api.Tx, maxPool), pay(0, 1))
	twins := pays([2]int{1, 1}, [2]int{1, 1}, [2]int{2, 2})
	refuses(t, "to twins, of another one", twins, pay(1, 1))
	is(t, "to twins", twins, pay(1, 2), append(slices.Clone(twins), pay(1, 2)))
}
