package replica

import (
	"bytes"
	"cmp"
	"slices"

	"moot/api"
	"moot/bank"
	"moot/block"
	"moot/cert"
	"moot/guard"
	"moot/held"
	"moot/mempool"
	"moot/message"
	"moot/pace"
	"moot/tx"
	"moot/vote"
)

// The kinds of messages, by what they bear.
const (
	ofBlock = 1 + iota
	ofVote
	ofCert
	ofBlames
	ofAsked
	ofTx
)

// The kinds of statements.
const (
	voted = 1 + iota
	committed
	reported
	blamed
)

// turn is what a replica does in one call: all of it at one time, and said when it is on the disk.
type turn struct {
	*Replica
	now   int
	said  [][]byte
	texts []string // of what was signed
}

// hear hears a message's octets.
func (t *turn) hear(b []byte) {
	m, err := message.Read(b)
	if err != api.OK {
		return
	}
	t.watch()
	switch m.Kind {
	case ofBlock:
		t.hearBlock(m.Block)
	case ofVote:
		t.hearStatement(m.Vote)
	case ofCert:
		t.hearCert(m.Cert)
	case ofBlames:
		for _, v := range m.Blames {
			t.hearBlame(v)
		}
	case ofAsked:
		t.sayBlock(m.Asked)
	case ofTx:
		t.hearTx(m.Tx)
	}
}

// tick does what is done at a tick.
func (t *turn) tick() {
	t.watch()
	t.drop()
	t.report()
	if pace.Late(t.now, t.due) && len(t.pool) > 0 {
		t.blame()
	}
	t.vote()
	t.lead()
}

// hearBlock hears a block, which counts when it is valid and new.
func (t *turn) hearBlock(b api.Block) {
	if !block.Valid(b, t.config) || !t.plant(b) {
		return
	}
	t.watch()
	isNew := t.heed(b.Justify)
	if lacks := t.tree.Missing(block.Name(b)); lacks != "" {
		t.say(api.Message{Kind: ofAsked, Asked: lacks})
	}
	// The highest cert may have come ahead of its block.
	t.commit(cert.Mark(t.high))
	t.vote()
	if isNew {
		t.lead()
	}
}

// hearCert hears a cert.
func (t *turn) hearCert(c api.Cert) {
	if t.heed(c) {
		t.lead()
	}
}

// hearStatement hears a statement: commit-votes and reports are for learners.
func (t *turn) hearStatement(v api.Vote) {
	switch v.Kind {
	case voted:
		t.hearVote(v)
	case blamed:
		t.hearBlame(v)
	}
}

// hearVote hears a vote; as many as a quorum are a cert.
func (t *turn) hearVote(v api.Vote) {
	about := vote.About(v)
	if !t.counts(about) || !vote.Valid(v, t.config.Roots) {
		return
	}
	if c, ok := cert.Make(t.meet(v), about, t.config.Quorum); ok {
		t.hearCert(c)
	}
}

// hearBlame hears a blame; as many as a quorum end their view.
func (t *turn) hearBlame(v api.Vote) {
	if v.Kind != blamed || !t.counts(vote.About(v)) || !vote.Valid(v, t.config.Roots) {
		return
	}
	l := t.meet(v)
	if len(l) < t.config.Quorum {
		return
	}
	slices.SortFunc(l, func(a, b api.Vote) int { return cmp.Compare(a.Signer, b.Signer) })
	t.say(api.Message{Kind: ofBlames, Blames: l})
	t.enter(v.View + 1)
	t.vote()
}

// hearTx hears a transaction, which waits if it is valid.
func (t *turn) hearTx(x api.Tx) {
	if !tx.Valid(x, t.config.Clients) {
		return
	}
	if l, ok := mempool.Add(t.pool, x); ok {
		t.pool = l
	}
}

// heed does what a cert asks for if it is right, and says if it is the highest one from now on.
func (t *turn) heed(c api.Cert) bool {
	if cert.Check(c, t.config.Roots, t.config.Quorum) != api.OK {
		return false
	}
	m := cert.Mark(c)
	s, isHigher := guard.Lock(t.state, m)
	if isHigher {
		t.state, t.high = s, c
		t.sayHigh()
		t.begin(t.now)
	}
	t.enter(m.View)
	t.commit(m)
	return isHigher
}

// enter enters a view that is above.
func (t *turn) enter(view int) {
	s, isAbove := guard.Enter(t.state, view)
	if !isAbove {
		return
	}
	t.state = s
	t.held, t.hasBlamed = held.Held{}, false
	t.forget(t.counts)
	t.sayHigh()
	t.tries++
	t.begin(t.now)
	t.watch()
}

// watch looks if the view's leader signed two blocks that it may not both have signed.
func (t *turn) watch() {
	one, other, ok := t.rivals(t.state.View)
	if t.state.Spoilt || !ok {
		return
	}
	t.state.Spoilt = true
	t.held = held.Held{}
	t.sayBlock(one)
	t.sayBlock(other)
	t.blame()
}

// counts says if a quorum of statements about that may still change anything.
func (t *turn) counts(m api.Mark) bool {
	isBlame := m.Block == ""
	return m.View >= t.state.View || !isBlame && cert.Higher(m, t.state.Lock)
}

// vote votes for the blocks of the view, as they came, as far as it may.
func (t *turn) vote() {
	// What is voted may bring more blocks, and another view.
	for i := 0; i < len(t.came); i++ {
		m := t.came[i].Mark
		if m.View == t.state.View && t.mayVote(m.Block) {
			t.state = guard.Vote(t.state, m)
			t.sayBlock(m.Block)
			t.sign(api.Vote{Kind: voted, View: m.View, Height: m.Height, Block: m.Block})
		}
	}
}

// mayVote says if the replica may vote for a block of its tree, and all transactions of it can be done.
func (t *turn) mayVote(name string) bool {
	b, _ := t.tree.Get(name)
	if !guard.MayVote(t.state, t.tree, b) {
		return false
	}
	a, _ := t.accounts(b.Parent)
	return bank.Next(a, b.Txs)
}

// commit commit-votes a block, if it may, and holds it from now on.
func (t *turn) commit(m api.Mark) {
	if !guard.MayCommit(t.state, t.tree, m) {
		return
	}
	t.state = guard.Commit(t.state, m)
	t.held = held.Start(m, t.now)
	t.sign(api.Vote{Kind: committed, View: m.View, Height: m.Height, Block: m.Block})
}

// blame blames the view's leader, once a view.
func (t *turn) blame() {
	if t.hasBlamed {
		return
	}
	t.hasBlamed = true
	t.sign(api.Vote{Kind: blamed, View: t.state.View})
}

// report tells for how long a block was held, as far as that is due.
func (t *turn) report() {
	h, due := held.Tick(t.held, t.now)
	t.held = h
	for _, ticks := range due {
		t.sign(api.Vote{Kind: reported, View: h.Mark.View, Height: h.Mark.Height, Block: h.Mark.Block, Ticks: ticks})
	}
}

// drop lets go of the transactions that are done.
func (t *turn) drop() {
	if a, ok := t.accounts(t.high.Block); ok {
		t.pool = mempool.Drop(t.pool, a)
	}
}

// lead proposes what waits behind the highest cert, if the replica leads its view.
func (t *turn) lead() {
	if !t.mayLead() {
		return
	}
	// Of no accounts nothing can be taken.
	a, _ := t.accounts(t.high.Block)
	txs := mempool.Take(t.pool, a)
	if len(txs) == 0 {
		return
	}
	b := api.Block{View: t.state.View, Height: t.high.Height + 1, Parent: t.high.Block, Justify: t.high, Txs: txs}
	b, key, err := block.Sign(t.key, b)
	// What it would not hear itself is not said: it would not know of it at the next tick, and sign another one.
	if err != api.OK || !block.Valid(b, t.config) {
		return
	}
	t.key = key
	t.texts = append(t.texts, block.Name(b))
	t.say(api.Message{Kind: ofBlock, Block: b})
	t.hearBlock(b)
}

// mayLead says if the replica leads its view, and no block of that view is above its highest cert.
func (t *turn) mayLead() bool {
	high := cert.Mark(t.high)
	if block.Leader(t.state.View, len(t.config.Roots)) != t.id || t.state.Spoilt || cert.Higher(t.state.Lock, high) {
		return false
	}
	// No mark without a block is above a cert.
	isAbove := func(m api.Mark) bool {
		return m.View == t.state.View && cert.Higher(m, high)
	}
	// Blocks of the view are its own: what it signed but may not vote for must not get a sibling.
	isOwnAbove := func(own arrival) bool {
		return isAbove(own.Mark)
	}
	return !isAbove(t.state.Voted) && !slices.ContainsFunc(t.came, isOwnAbove)
}

// sign signs a statement, says it and hears it, if a leaf of the key is left.
func (t *turn) sign(v api.Vote) {
	v.Signer = t.id
	v, key, err := vote.Sign(t.key, v)
	if err != api.OK {
		return
	}
	t.key = key
	t.texts = append(t.texts, string(vote.Text(v)))
	t.say(api.Message{Kind: ofVote, Vote: v})
	t.hearStatement(v)
}

// sayHigh says the highest cert.
func (t *turn) sayHigh() {
	t.say(api.Message{Kind: ofCert, Cert: t.high})
}

// sayBlock says a block, if the replica has it.
func (t *turn) sayBlock(name string) {
	if b, ok := t.tree.Get(name); ok {
		t.say(api.Message{Kind: ofBlock, Block: b})
	}
}

// say says a message, once in a turn: nobody learns more by hearing it again.
func (t *turn) say(m api.Message) {
	b, err := message.Put(m)
	isSame := func(other []byte) bool {
		return bytes.Equal(other, b)
	}
	if err == api.OK && !slices.ContainsFunc(t.said, isSame) {
		t.said = append(t.said, b)
	}
}
