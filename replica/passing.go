package replica

import (
	"maps"
	"slices"

	"moot/api"
	"moot/held"
	"moot/vote"
)

// passing is what no record tells, and is as at first behind a crash.
type passing struct {
	pool      []api.Tx
	met       map[api.Mark][]api.Vote // votes and blames, by what they are about
	held      held.Held
	hasBlamed bool
	tries     int
	due       int
}

// newPassing answers what a replica has at first.
func newPassing() passing {
	return passing{met: map[api.Mark][]api.Vote{}}
}

// meet answers the statements that were met about what this one is about, with it if it is its signer's first.
func (p *passing) meet(v api.Vote) []api.Vote {
	about := vote.About(v)
	isHis := func(other api.Vote) bool {
		return other.Signer == v.Signer
	}
	if !slices.ContainsFunc(p.met[about], isHis) {
		p.met[about] = append(p.met[about], v)
	}
	return p.met[about]
}

// forget lets go of the statements about all that does not count any more.
func (p *passing) forget(counts func(m api.Mark) bool) {
	maps.DeleteFunc(p.met, func(m api.Mark, _ []api.Vote) bool { return !counts(m) })
}
