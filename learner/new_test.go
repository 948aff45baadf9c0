package learner_test

import (
	"fmt"
	"math"
	"testing"

	"moot/api"
	"moot/learner"
)

// TestExample: the chapter's example: nothing heard: nothing, OK.
func TestExample(t *testing.T) {
	x, err := learner.New(api.Config{Roots: []string{"r"}, Quorum: 1}, api.Rule{Kind: byQuorum, N: 1})
	if err != api.OK || x == nil {
		t.Fatalf("P22.1: New = %v, %d", x != nil, err)
	}
	l := labOf(t, 1, 1)
	l.stands("nothing heard", x, l.pageOf(byQuorum, 1))
	if blocks, err := x.Ledger(); len(blocks) != 0 || err != api.OK {
		t.Errorf("P22.1: Ledger of nothing heard = %d blocks, %d", len(blocks), err)
	}
	if names, err := x.Names(); len(names) != 0 || err != api.OK {
		t.Errorf("P22.1: Names of nothing heard = %d, %d", len(names), err)
	}
}

// errorOf is what New has to answer, word by word.
func errorOf(replicas, quorum int, r api.Rule) api.Errno {
	switch {
	case replicas < 1, replicas > maxReplicas, quorum < 1, quorum > replicas:
		return api.ErrCount
	case r.Kind == byQuorum && r.N >= quorum && r.N <= replicas, r.Kind == byDelay && r.N >= 1 && r.N <= 32:
		return api.OK
	}
	return api.ErrRule
}

// isMade says if New answers what it has to.
func (l lab) isMade(r api.Rule) {
	l.t.Helper()
	what := fmt.Sprintf("New of %d Roots, a quorum of %d, a rule of kind %d, %d", len(l.c.Roots), l.c.Quorum, r.Kind, r.N)
	want := errorOf(len(l.c.Roots), l.c.Quorum, r)
	ends(l.t, what, func() {
		x, err := learner.New(l.c, r)
		if err != want || (x != nil) != (want == api.OK) {
			l.t.Fatalf("P22.1: %s = %v, %d, want %d", what, x != nil, err, want)
		}
		if x != nil {
			l.stands(what, x, l.pageOf(r.Kind, r.N))
		}
	})
}

// TestNew: P22.1: the replicas' number, the quorum and the rule at their edges, all against each other: ErrCount goes ahead of ErrRule.
func TestNew(t *testing.T) {
	full := labOf(t, maxReplicas, 1)
	for n := range maxReplicas + 3 {
		l := full
		l.c.Roots = make([]string, n)
		copy(l.c.Roots, full.c.Roots)
		for _, quorum := range []int{math.MinInt, -1, 0, 1, 2, n - 1, n, n + 1, maxReplicas, maxReplicas + 1, 1 << 32, 1 + 1<<32, math.MaxInt} {
			l.c.Quorum = quorum
			for _, kind := range []int{math.MinInt, -1, 0, 1, 2, 3, 4, 1<<32 + 1, math.MaxInt} {
				for _, size := range []int{math.MinInt, -1, 0, 1, 2, 3, quorum - 1, quorum, quorum + 1, n - 1, n, n + 1, 7, 8, 31, 32, 33, 1<<32 + 1, math.MaxInt} {
					l.isMade(api.Rule{Kind: kind, N: size})
				}
			}
		}
	}
}

// TestNewByHand: P22.1: errors written out.
func TestNewByHand(t *testing.T) {
	four := labOf(t, 4, 3).c
	seven := labOf(t, 7, 7).c
	eight := seven
	eight.Roots = append(eight.Roots[:7:7], "one more")
	with := func(quorum int) api.Config {
		c := four
		c.Quorum = quorum
		return c
	}
	good, other := api.Rule{Kind: byQuorum, N: 4}, api.Rule{Kind: byDelay, N: 5}
	for what, x := range map[string]struct {
		c    api.Config
		r    api.Rule
		want api.Errno
	}{
		"nothing":                                {api.Config{}, api.Rule{}, api.ErrCount},
		"no Roots, and a rule that may be":       {api.Config{Quorum: 1}, other, api.ErrCount},
		"MaxReplicas":                            {seven, api.Rule{Kind: byQuorum, N: 7}, api.OK},
		"one more":                               {eight, api.Rule{Kind: byQuorum, N: 7}, api.ErrCount},
		"a quorum of 0":                          {with(0), good, api.ErrCount},
		"a quorum below 0":                       {with(-1), good, api.ErrCount},
		"a quorum of 1":                          {with(1), good, api.OK},
		"a quorum of as many as there are Roots": {with(4), good, api.OK},
		"a quorum of one more":                   {with(5), good, api.ErrCount},
		"a delay":                                {four, other, api.OK},
		"fewer than the quorum":                  {four, api.Rule{Kind: byQuorum, N: 2}, api.ErrRule},
		"as many as the quorum":                  {four, api.Rule{Kind: byQuorum, N: 3}, api.OK},
		"more than there are":                    {four, api.Rule{Kind: byQuorum, N: 5}, api.ErrRule},
		"a delay of 0":                           {four, api.Rule{Kind: byDelay}, api.ErrRule},
		"a delay of 1":                           {four, api.Rule{Kind: byDelay, N: 1}, api.OK},
		"a delay of 32":                          {four, api.Rule{Kind: byDelay, N: 32}, api.OK},
		"a delay of 33":                          {four, api.Rule{Kind: byDelay, N: 33}, api.ErrRule},
		"another kind":                           {four, api.Rule{Kind: 3, N: 3}, api.ErrRule},
		"no kind":                                {four, api.Rule{}, api.ErrRule},
		"a quorum of 0, and another kind":        {with(0), api.Rule{Kind: 3, N: 3}, api.ErrCount},
		"one more, and another kind":             {eight, api.Rule{}, api.ErrCount},
	} {
		got, err := learner.New(x.c, x.r)
		if err != x.want || (got != nil) != (x.want == api.OK) {
			t.Errorf("P22.1: New of %s = %v, %d, want %d", what, got != nil, err, x.want)
		}
	}
}

// TestNewOfAnyConfig: P22.1, P1: neither the clients nor the patience nor what the roots are is asked.
func TestNewOfAnyConfig(t *testing.T) {
	for _, n := range sizes {
		for _, roots := range [][]string{{""}, {"r"}, {"r", "r"}, {zeros, "", stranger}} {
			for _, clients := range [][]string{nil, {}, {""}, make([]string, 9)} {
				c := api.Config{Roots: roots, Clients: clients, Quorum: 1, Base: n, Cap: -n}
				if x, err := learner.New(c, api.Rule{Kind: byDelay, N: 1}); x == nil || err != api.OK {
					t.Errorf("P22.1: New of Roots %q, Clients %q, Base %d, Cap %d = %v, %d", roots, clients, n, -n, x != nil, err)
				}
			}
		}
	}
}

// TestNobodyMade: P22.1: of a learner that nobody made nothing, and ErrState, whatever it hears.
func TestNobodyMade(t *testing.T) {
	l := labOf(t, 1, 1)
	b := l.first(0, 1)
	for what, x := range map[string]*learner.Learner{"nil": nil, "zero": {}, "new": new(learner.Learner)} {
		ends(t, what, func() {
			for range 2 {
				l.refuses(what, x, ofBlock(b), ofVote(l.commit(markOf(b), 0)), ofVote(l.report(markOf(b), 4, 0)))
				l.hears(what, x, nil, false)
				l.tellsNothing(what, x, nameOf(b), b.Parent, stranger, "")
			}
		})
	}
}

// tellsNothing says if a learner that nobody made tells nothing.
func (l lab) tellsNothing(what string, x *learner.Learner, names ...string) {
	l.t.Helper()
	if got := x.Tips(); len(got) != 0 {
		l.t.Errorf("P22.1: %s: Tips = %v", what, got)
	}
	if got, err := x.Ledger(); len(got) != 0 || err != api.ErrState {
		l.t.Errorf("P22.1: %s: Ledger = %v, %d", what, got, err)
	}
	if got, err := x.Names(); len(got) != 0 || err != api.ErrState {
		l.t.Errorf("P22.1: %s: Names = %v, %d", what, got, err)
	}
	if got := x.Statements(); len(got) != 0 {
		l.t.Errorf("P22.1: %s: Statements = %v", what, got)
	}
	if got := x.Blocks(); got != 0 {
		l.t.Errorf("P22.1: %s: Blocks = %d", what, got)
	}
	for _, name := range names {
		if got, ok := x.Chain(name); len(got) != 0 || ok {
			l.t.Errorf("P22.1: %s: Chain of %x = %v, %v", what, name, got, ok)
		}
	}
}
