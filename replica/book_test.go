package replica_test

import (
	"cmp"
	"slices"

	"moot/api"
	"moot/bank"
	"moot/block"
	"moot/cert"
	"moot/guard"
	"moot/held"
	"moot/mempool"
	"moot/pace"
	"moot/tree"
	"moot/tx"
	"moot/vote"
)

// disc is what of a replica lasts over a crash, as the chapter tells it.
type disc struct {
	state  guard.State
	next   int
	blocks []api.Block
	high   api.Cert
}

// book is a replica as the chapter tells it, reckoned word by word from all that came, with no thought of what that costs.
type book struct {
	disc
	l      lab
	id     int
	pool   []api.Tx
	came   []api.Vote
	held   held.Held
	blamed bool
	tries  int
	due    int
	down   bool
	signed []string

	now   int
	out   []api.Message
	texts []string
}

// bookOf is a replica that is new at tick 0.
func (l lab) bookOf(id int) *book {
	k := &book{l: l, id: id, disc: disc{state: guard.Begin(), high: cert.First()}}
	k.begin()
	return k
}

// begin lets the leader's time begin.
func (k *book) begin() {
	k.due = pace.Due(k.now, k.l.c.Base, k.tries, k.l.c.Cap)
}

// wood is a tree of all blocks that came.
func (k *book) wood() *tree.Tree {
	x := tree.New()
	for _, b := range k.blocks {
		x.Put(b)
	}
	return x
}

// say says a message, but not twice in one call.
func (k *book) say(m api.Message) {
	for _, other := range k.out {
		if string(k.l.octets(other)) == string(k.l.octets(m)) {
			return
		}
	}
	k.out = append(k.out, m)
}

// sayBlock says the block of that name.
func (k *book) sayBlock(name string) {
	for _, b := range k.blocks {
		if nameOf(b) == name {
			k.say(ofBlock(b))
		}
	}
}

// sign signs a statement, where a leaf is left.
func (k *book) sign(v api.Vote) {
	v.Signer = k.id
	v, _, err := vote.Sign(at(keys[k.id], k.next), v)
	if err != api.OK {
		return
	}
	k.next++
	k.texts = append(k.texts, textOf(v))
	k.say(ofVote(v))
	k.hearVote(v)
}

// call does one call at that time: what is said, and what was on the disk ahead of it.
func (k *book) call(now int, do func()) ([]api.Message, disc) {
	if k.down {
		return nil, k.disc
	}
	ahead := k.disc
	ahead.blocks = slices.Clone(ahead.blocks)
	k.now, k.out, k.texts = now, nil, nil
	k.spoil()
	do()
	return k.out, ahead
}

// hear, tick, fail and up are what the calls of these names do.
func (k *book) hear(m api.Message, now int) []api.Message {
	out, _ := k.call(now, func() { k.take(m) })
	if !k.down {
		k.signed = append(k.signed, k.texts...)
	}
	return out
}

func (k *book) tick(now int) []api.Message {
	out, _ := k.call(now, func() {
		if a, ok := k.accounts(k.high.Block); ok {
			k.pool = mempool.Drop(k.pool, a)
		}
		h, l := held.Tick(k.held, now)
		k.held = h
		for _, ticks := range l {
			v := about(reported, h.Mark, k.id)
			v.Ticks = ticks
			k.sign(v)
		}
		if now >= k.due && len(k.pool) > 0 {
			k.blame()
		}
		k.vote()
		k.lead()
	})
	if !k.down {
		k.signed = append(k.signed, k.texts...)
	}
	return out
}

func (k *book) fail(m api.Message, now int, all bool) {
	if k.down {
		return
	}
	_, ahead := k.call(now, func() { k.take(m) })
	if !all {
		k.disc = ahead
	}
	k.state.Spoilt = false
	k.pool, k.came, k.held, k.blamed, k.tries, k.down = nil, nil, held.Held{}, false, 0, true
}

func (k *book) up(now int) api.Errno {
	if !k.down {
		return api.ErrState
	}
	k.down, k.now = false, now
	k.begin()
	return api.OK
}

// take hears a message.
func (k *book) take(m api.Message) {
	switch m.Kind {
	case aBlock:
		k.hearBlock(m.Block)
	case aVote:
		k.hearVote(m.Vote)
	case aCert:
		isNew := k.hearCert(m.Cert)
		k.vote()
		if isNew {
			k.lead()
		}
	case blames:
		for _, v := range m.Blames {
			if v.Kind == blamed {
				k.hearVote(v)
			}
		}
	case asked:
		k.sayBlock(m.Asked)
	case aTx:
		if l, ok := mempool.Add(k.pool, m.Tx); ok && tx.Valid(m.Tx, k.l.c.Clients) {
			k.pool = l
		}
	}
}

// hearBlock hears a block.
func (k *book) hearBlock(b api.Block) {
	isSame := func(other api.Block) bool { return nameOf(other) == nameOf(b) }
	if !block.Valid(b, k.l.c) || slices.ContainsFunc(k.blocks, isSame) {
		return
	}
	k.blocks = append(k.blocks, b)
	k.spoil()
	isNew := k.hearCert(b.Justify)
	if name := k.wood().Missing(nameOf(b)); name != "" {
		k.say(ofAsked(name))
	}
	k.commit(cert.Mark(k.high))
	k.vote()
	if isNew {
		k.lead()
	}
}

// spoil looks if the view's leader signed two.
func (k *book) spoil() {
	for i, b := range k.blocks {
		for _, a := range k.blocks[:i] {
			isTwo := a.Height == b.Height || a.Justify.View < a.View && b.Justify.View < b.View
			if a.View == k.state.View && b.View == k.state.View && isTwo && !k.state.Spoilt {
				k.state.Spoilt, k.held = true, held.Held{}
				k.sayBlock(nameOf(a))
				k.sayBlock(nameOf(b))
				k.blame()
			}
		}
	}
}

// blame blames the leader, once a view.
func (k *book) blame() {
	if !k.blamed {
		k.blamed = true
		k.sign(api.Vote{Kind: blamed, View: k.state.View})
	}
}

// hearCert hears a cert, and says if it is the highest from now on.
func (k *book) hearCert(c api.Cert) bool {
	if cert.Check(c, k.l.c.Roots, k.l.c.Quorum) != api.OK {
		return false
	}
	m := api.Mark{View: c.View, Height: c.Height, Block: c.Block}
	isNew := m.View > k.state.Lock.View || m.View == k.state.Lock.View && m.Height > k.state.Lock.Height
	if isNew {
		k.state.Lock, k.high = m, c
		k.say(ofCert(c))
		k.begin()
	}
	k.enter(m.View)
	k.commit(m)
	return isNew
}

// enter enters a view above.
func (k *book) enter(view int) {
	if view <= k.state.View {
		return
	}
	k.state.View, k.state.Spoilt, k.held, k.blamed = view, false, held.Held{}, false
	k.say(ofCert(k.high))
	k.tries++
	k.begin()
	k.spoil()
}

// commit commit-votes a block, if it may.
func (k *book) commit(m api.Mark) {
	if guard.MayCommit(k.state, k.wood(), m) {
		k.state.Commit, k.held = m, held.Held{Mark: m, Since: k.now}
		k.sign(about(committed, m, k.id))
	}
}

// accounts are those behind a block.
func (k *book) accounts(name string) ([]api.Account, bool) {
	l, ok := k.wood().Chain(name)
	a, _ := bank.Fold(l)
	return a, ok
}

// vote votes for what it may, as it came.
func (k *book) vote() {
	for _, b := range slices.Clone(k.blocks) {
		a, ok := k.accounts(b.Parent)
		if ok && guard.MayVote(k.state, k.wood(), b) && bank.Next(a, b.Txs) {
			k.state.Voted = markOf(b)
			k.say(ofBlock(b))
			k.sign(about(voted, markOf(b), k.id))
		}
	}
}

// hearVote hears a statement.
func (k *book) hearVote(v api.Vote) {
	if !vote.Valid(v, k.l.c.Roots) || v.Kind != voted && v.Kind != blamed || v.Kind == blamed && v.View < k.state.View {
		return
	}
	k.came = append(k.came, v)
	var l []api.Vote
	for _, other := range k.came {
		isHis := func(x api.Vote) bool { return x.Signer == other.Signer }
		if other.Kind == v.Kind && vote.About(other) == vote.About(v) && !slices.ContainsFunc(l, isHis) {
			l = append(l, other)
		}
	}
	if len(l) < k.l.c.Quorum {
		return
	}
	slices.SortFunc(l, func(a, b api.Vote) int { return cmp.Compare(a.Signer, b.Signer) })
	if v.Kind == blamed {
		k.say(ofBlames(l...))
		k.enter(v.View + 1)
		k.vote()
		return
	}
	isNew := k.hearCert(api.Cert{View: v.View, Height: v.Height, Block: v.Block, Votes: l[:k.l.c.Quorum]})
	k.vote()
	if isNew {
		k.lead()
	}
}

// lead proposes, if it leads.
func (k *book) lead() {
	a, ok := k.accounts(k.high.Block)
	if !ok || k.state.View%len(k.l.c.Roots) != k.id || k.state.Spoilt || cert.Higher(k.state.Lock, cert.Mark(k.high)) {
		return
	}
	l := []api.Mark{k.state.Voted}
	for _, b := range k.blocks {
		l = append(l, markOf(b))
	}
	for _, m := range l {
		if m.Block != "" && m.View == k.state.View && (k.high.View < m.View || k.high.Height < m.Height) {
			return
		}
	}
	txs := mempool.Take(k.pool, a)
	if len(txs) == 0 || k.next >= leaves || k.high.Height >= maxHeight || k.state.View > maxView {
		return
	}
	b := k.l.proposed(k.id, k.next, k.state.View, k.high, txs...)
	k.next++
	k.texts = append(k.texts, nameOf(b))
	k.say(ofBlock(b))
	k.hearBlock(b)
}
