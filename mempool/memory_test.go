package mempool_test

import (
	"slices"
	"testing"

	"moot/api"
	"moot/mempool"
)

// rooms are how much room a list has behind its end.
var rooms = []int{0, 1, 2, 40}

// roomy is a list with room behind its end, and all of it.
func roomy[T any](l []T, room int, mark T) ([]T, []T) {
	whole := slices.Clone(l)
	for range room {
		whole = append(whole, mark)
	}
	whole = slices.Clip(whole)
	return whole[:len(l)], whole
}

// overwrite changes a list, and the room behind it.
func overwrite(l []api.Tx) {
	for i := range l[:cap(l)] {
		l[:cap(l)][i] = api.Tx{From: -9, Sig: "overwritten"}
	}
}

// call is one that answers a list, of a list and accounts.
type call struct {
	name string
	do   func(l []api.Tx, a []api.Account) []api.Tx
}

// calls are all of them.
func calls() []call {
	return []call{
		{"Add", func(l []api.Tx, a []api.Account) []api.Tx {
			told, _ := mempool.Add(l, pay(2, 99))
			return told
		}},
		{"Add that is refused", func(l []api.Tx, a []api.Account) []api.Tx {
			told, _ := mempool.Add(l, api.Tx{})
			return told
		}},
		{"Take", mempool.Take},
		{"Drop", mempool.Drop},
	}
}

// cases are lists and accounts of which all, some and none is told.
func cases() map[string][]api.Account {
	return map[string][]api.Account{
		"all accounts at 0": accounts(0, 0, 0, 0),
		"some above 0":      accounts(1, 0, 2, 0),
		"all above":         accounts(9, 9, 9, 9),
		"no accounts":       nil,
	}
}

// Neither what was handed in, nor what stands behind its end, is changed.
func TestArgumentsStay(t *testing.T) {
	mark, filler := api.Tx{From: -7, Sig: "behind the end"}, api.Account{Nonce: -7}
	for _, c := range calls() {
		for what, a := range cases() {
			for _, room := range rooms {
				for _, count := range []int{0, 1, 5, maxPool - 1, maxPool} {
					l, whole := roomy(row(count), room, mark)
					has, all := roomy(a, room, filler)
					c.do(l, has)
					if !slices.Equal(l, row(count)) || !slices.Equal(has, a) {
						t.Errorf("P15.3: %s with %s changed what was handed in", c.name, what)
					}
					for i := range room {
						if whole[count+i] != mark || all[len(a)+i] != filler {
							t.Errorf("P15.3: %s with %s changed what stands behind the end", c.name, what)
						}
					}
				}
			}
		}
	}
}

// A change of what was handed in changes nothing of what was told, nor the other way round.
func TestAnswersAreNewMemory(t *testing.T) {
	mark := api.Tx{From: -7, Sig: "behind the end"}
	for _, c := range calls() {
		for what, a := range cases() {
			for _, room := range rooms {
				for _, count := range []int{0, 1, 5, maxPool - 1, maxPool} {
					l, whole := roomy(row(count), room, mark)
					told, again := c.do(l, a), c.do(l, a)
					want := slices.Clone(told)
					overwrite(told)
					if !slices.Equal(l, row(count)) || len(whole) > count && whole[count] != mark {
						t.Errorf("P15.3: %s with %s shares memory with what was handed in", c.name, what)
					}
					if !slices.Equal(again, want) {
						t.Errorf("P15.3: two answers of %s with %s share memory", c.name, what)
					}
					overwrite(whole)
					clear(a)
					if !slices.Equal(again, want) {
						t.Errorf("P15.3: %s with %s keeps what was handed in", c.name, what)
					}
					a = cases()[what]
				}
			}
		}
	}
}

// What is appended to what was handed in, or to what was told, is not to be seen in the other one.
func TestAppendsAreApart(t *testing.T) {
	mark, other := api.Tx{From: -7, Sig: "behind the end"}, api.Tx{From: -8, Sig: "appended"}
	for _, c := range calls() {
		for what, a := range cases() {
			for _, room := range rooms {
				for _, count := range []int{0, 1, 5} {
					l, whole := roomy(row(count), room, mark)
					told := c.do(l, a)
					want := slices.Clone(told)
					more := append(told, other)
					if room > 0 && whole[count] != mark {
						t.Errorf("P15.3: an append to an answer of %s with %s changes what was handed in", c.name, what)
					}
					_ = append(l, api.Tx{Sig: "handed in"})
					if !slices.Equal(more[:len(told)], want) || more[len(told)] != other {
						t.Errorf("P15.3: an append to what was handed to %s with %s changes an answer", c.name, what)
					}
				}
			}
		}
	}
}

// Two lists of one beginning, with room behind it, do not take each other's place.
func TestTwoOfOneBeginning(t *testing.T) {
	base, _ := mempool.Add(nil, pay(0, 0))
	for range 5 {
		base, _ = mempool.Add(base, pay(1, len(base)))
		one, _ := mempool.Add(base, pay(2, 1))
		two, _ := mempool.Add(base, pay(3, 1))
		if one[len(base)] != pay(2, 1) || two[len(base)] != pay(3, 1) {
			t.Error("P15.3: two answers of Add share memory")
		}
	}
}

// Later calls change nothing of what was told ahead of them.
func TestAnswersStay(t *testing.T) {
	l, a := row(8), accounts(0, 0, 0, 0)
	longer, _ := mempool.Add(l, pay(2, 50))
	first := mempool.Take(longer, a)
	behind, _ := allDone(a, first)
	left := mempool.Drop(longer, behind)
	want := [][]api.Tx{slices.Clone(longer), slices.Clone(first), slices.Clone(left)}
	last, _ := mempool.Add(left, pay(3, 60))
	overwrite(mempool.Take(last, behind))
	overwrite(mempool.Drop(last, a))
	overwrite(last)
	for i, got := range [][]api.Tx{longer, first, left} {
		if !slices.Equal(got, want[i]) {
			t.Errorf("P15.3: later calls change answer %d", i)
		}
	}
}
