package replica

import (
	"slices"

	"moot/api"
	"moot/bank"
	"moot/block"
	"moot/cert"
	"moot/guard"
	"moot/pack"
	"moot/tree"
)

// The kinds of records. Their numbers are on disks: none may move. They are written in this order, so that a crash that cuts them leaves
// what binds the replica ahead of what it is bound to: a vote without its block keeps it from others, a block without its vote would not.
const (
	recordView = 1 + iota
	recordVoted
	recordCommit
	recordLock
	recordNext
	recordBlock
	recordHigh
)

// lasting is what records tell, and is as they say behind a crash.
type lasting struct {
	state guard.State
	key   api.Key
	tree  *tree.Tree
	came  []arrival
	high  api.Cert
	told  extent
}

// arrival is a block of the tree by its mark; it is a first one if its Justify is of a view below.
type arrival struct {
	api.Mark
	isFirst bool
}

// extent is how far the records tell what lasts.
type extent struct {
	state  guard.State
	next   int
	blocks int
	high   api.Mark
}

// newLasting answers what lasts of a replica with that key, and without any record.
func newLasting(key api.Key) lasting {
	key.Next = 0
	return lasting{state: guard.Begin(), key: key, tree: tree.New(), high: cert.First()}
}

// plant puts a block into the tree, and says if it was not there.
func (l *lasting) plant(b api.Block) bool {
	if !l.tree.Put(b) {
		return false
	}
	l.came = append(l.came, arrival{block.Mark(b), b.Justify.View < b.View})
	return true
}

// rivals answers the first two blocks of a view, as they came, that its leader may not both have signed, or false where there are none.
func (l *lasting) rivals(view int) (string, string, bool) {
	var ahead []arrival
	for _, other := range l.came {
		if other.View != view {
			continue
		}
		isRival := func(one arrival) bool {
			return one.Height == other.Height || one.isFirst && other.isFirst
		}
		if i := slices.IndexFunc(ahead, isRival); i >= 0 {
			return ahead[i].Block, other.Block, true
		}
		ahead = append(ahead, other)
	}
	return "", "", false
}

// accounts answers those behind a block's chain, or false where that is not known.
func (l *lasting) accounts(name string) ([]api.Account, bool) {
	chain, ok := l.tree.Chain(name)
	if !ok {
		return nil, false
	}
	a, _ := bank.Fold(chain)
	return a, true
}

// all answers how far records tell what lasts when they tell all of it.
func (l *lasting) all() extent {
	return extent{l.state, l.key.Next, len(l.came), cert.Mark(l.high)}
}

// news answers the records of all that they do not tell yet.
func (l *lasting) news() [][]byte {
	var records [][]byte
	add := func(isNew bool, kind int, put func(w *pack.Writer)) {
		if isNew {
			records = append(records, record(kind, put))
		}
	}
	s, old := l.state, l.told.state
	add(s.View != old.View, recordView, func(w *pack.Writer) { w.Num(s.View) })
	add(s.Voted != old.Voted, recordVoted, func(w *pack.Writer) { putMark(w, s.Voted) })
	add(s.Commit != old.Commit, recordCommit, func(w *pack.Writer) { putMark(w, s.Commit) })
	add(s.Lock != old.Lock, recordLock, func(w *pack.Writer) { putMark(w, s.Lock) })
	add(l.key.Next != l.told.next, recordNext, func(w *pack.Writer) { w.Num(l.key.Next) })
	for _, m := range l.came[l.told.blocks:] {
		b, _ := l.tree.Get(m.Block)
		add(true, recordBlock, func(w *pack.Writer) { block.Put(w, b) })
	}
	add(cert.Mark(l.high) != l.told.high, recordHigh, func(w *pack.Writer) { cert.Put(w, l.high) })
	return records
}

// read makes what lasts as a record says.
func (l *lasting) read(record []byte) {
	r := pack.Open(record)
	switch r.Num(recordHigh) {
	case recordView:
		l.state.View = r.Num(api.MaxAmount)
	case recordVoted:
		l.state.Voted = readMark(r)
	case recordCommit:
		l.state.Commit = readMark(r)
	case recordLock:
		l.state.Lock = readMark(r)
	case recordNext:
		l.key.Next = r.Num(len(l.key.Leaves))
	case recordBlock:
		l.plant(block.Read(r))
	case recordHigh:
		l.high = cert.Read(r)
	}
}

// record answers the octets of a record of that kind.
func record(kind int, put func(w *pack.Writer)) []byte {
	w := pack.New()
	w.Num(kind)
	put(w)
	b, _ := w.Done()
	return b
}

// putMark writes a mark's octets.
func putMark(w *pack.Writer, m api.Mark) {
	w.Num(m.View)
	w.Num(m.Height)
	w.Text(m.Block)
}

// readMark answers the mark whose octets are next.
func readMark(r *pack.Reader) api.Mark {
	return api.Mark{View: r.Num(api.MaxAmount), Height: r.Num(api.MaxAmount), Block: r.Text(api.Long)}
}
