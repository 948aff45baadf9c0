package learner_test

import (
	"crypto/sha256"
	"fmt"
	"math"
	"slices"
	"testing"
	"time"

	"moot/api"
	"moot/block"
	"moot/cert"
	"moot/learner"
	"moot/message"
	"moot/signer"
	"moot/tx"
	"moot/vote"
)

// The limits, and the first block's name, as the document tells them.
const (
	maxReplicas = 7
	maxHeight   = 1 << 20
	maxView     = 1 << 20
	maxTicks    = 1 << 20
	leaves      = 16
	zeros       = "\x00\x00\x00\x00\x00\x00\x00\x00\x00\x00\x00\x00\x00\x00\x00\x00\x00\x00\x00\x00\x00\x00\x00\x00\x00\x00\x00\x00\x00\x00\x00\x00"
	stranger    = "the name of what nobody ever put"
)

// The kinds of messages, of statements and of rules, by their numbers in the document.
const (
	aBlock, aVote, aCert, blames, asked, aTx = 1, 2, 3, 4, 5, 6
	voted, committed, reported, blamed       = 1, 2, 3, 4
	byQuorum, byDelay                        = 1, 2
)

// sizes are numbers at the edges of what may be, and far from it.
var sizes = []int{math.MinInt, math.MinInt + 1, -1 << 32, -1, 0, 1, 2, 3, 4, 7, 8, 31, 32, 33, maxView, maxView + 1, 1 << 32, 1<<32 + 1, 1<<32 + 3, math.MaxInt - 1, math.MaxInt}

// keys are the replicas' keys, and purses the clients'.
var keys, purses = func() (l []api.Key, m []api.Key) {
	for i := range maxReplicas {
		l = append(l, vote.Key(i))
	}
	for i := range api.MaxClients {
		m = append(m, tx.Key(i))
	}
	return l, m
}()

// lab is a setup, all keys of which are at hand.
type lab struct {
	t *testing.T
	c api.Config
}

// labOf is a lab of so many replicas, and a quorum.
func labOf(t *testing.T, replicas, quorum int) lab {
	c := api.Config{Quorum: quorum, Base: 4, Cap: 32}
	for _, k := range keys[:replicas] {
		root, _ := signer.Root(k)
		c.Roots = append(c.Roots, root)
	}
	for _, k := range purses {
		root, _ := signer.Root(k)
		c.Clients = append(c.Clients, root)
	}
	return lab{t, c}
}

// new is a learner of that rule, which heard nothing.
func (l lab) new(kind, n int) *learner.Learner {
	l.t.Helper()
	x, err := learner.New(l.c, api.Rule{Kind: kind, N: n})
	if err != api.OK || x == nil {
		l.t.Fatalf("P22.1: New of %d replicas, a quorum of %d, a rule of kind %d, %d = %v, %d", len(l.c.Roots), l.c.Quorum, kind, n, x != nil, err)
	}
	return x
}

// at is a key whose next leaf is that one.
func at(k api.Key, leaf int) api.Key {
	k.Next = leaf
	return k
}

// sign signs a statement, by its Signer's key, with that leaf.
func (l lab) sign(leaf int, v api.Vote) api.Vote {
	l.t.Helper()
	return l.signBy(v.Signer, leaf, v)
}

// signBy signs a statement by that replica's key, whoever it says its Signer is.
func (l lab) signBy(id, leaf int, v api.Vote) api.Vote {
	l.t.Helper()
	v, _, err := vote.Sign(at(keys[id], leaf), v)
	if err != api.OK {
		l.t.Fatalf("P8.1: Sign of %+v = %d", v, err)
	}
	return v
}

// about is a statement of that kind about a block, of nobody's yet.
func about(kind int, m api.Mark, by int) api.Vote {
	return api.Vote{Kind: kind, View: m.View, Height: m.Height, Block: m.Block, Signer: by}
}

// commit is a commit-vote of that replica's about a block.
func (l lab) commit(m api.Mark, by int) api.Vote {
	l.t.Helper()
	return l.sign(9, about(committed, m, by))
}

// commits are commit-votes of these about a block.
func (l lab) commits(m api.Mark, by ...int) []api.Vote {
	l.t.Helper()
	var out []api.Vote
	for _, id := range by {
		out = append(out, l.commit(m, id))
	}
	return out
}

// report is a report of that replica's about a block, of so many ticks.
func (l lab) report(m api.Mark, ticks, by int) api.Vote {
	l.t.Helper()
	v := about(reported, m, by)
	v.Ticks = ticks
	return l.sign(10, v)
}

// reports are reports of these about a block, of so many ticks.
func (l lab) reports(m api.Mark, ticks int, by ...int) []api.Vote {
	l.t.Helper()
	var out []api.Vote
	for _, id := range by {
		out = append(out, l.report(m, ticks, id))
	}
	return out
}

// certBy is a cert of a block, of the votes of these, which they sign with that leaf.
func (l lab) certBy(leaf int, m api.Mark, by ...int) api.Cert {
	l.t.Helper()
	c := api.Cert{View: m.View, Height: m.Height, Block: m.Block}
	for _, id := range by {
		c.Votes = append(c.Votes, l.sign(leaf, about(voted, m, id)))
	}
	return c
}

// cert is one of a block, of the votes of as many as a quorum, from the first one on.
func (l lab) cert(m api.Mark) api.Cert {
	l.t.Helper()
	var by []int
	for id := range l.c.Quorum {
		by = append(by, id)
	}
	return l.certBy(8, m, by...)
}

// low is the lowest octets of n, so many, the highest first.
func low(n int, size int) string {
	var b []byte
	for i := size - 1; i >= 0; i-- {
		b = append(b, byte(uint64(n)>>(8*i)))
	}
	return string(b)
}

// field is a text's octets.
func field(s string) string {
	return low(len(s), 2) + s
}

// nameOf is the name that a block has to have, reckoned not by the program's own.
func nameOf(b api.Block) string {
	text := field("block") + low(b.View, 6) + low(b.Height, 6) + field(b.Parent) + low(b.Justify.View, 6) + low(len(b.Txs), 6)
	for _, x := range b.Txs {
		text += field("tx") + low(x.From, 6) + low(x.To, 6) + low(x.Amount, 6) + low(x.Nonce, 6) + field(x.Sig)
	}
	sum := sha256.Sum256([]byte(text))
	return string(sum[:])
}

// markOf is a block's mark.
func markOf(b api.Block) api.Mark {
	return api.Mark{View: b.View, Height: b.Height, Block: nameOf(b)}
}

// pay is a transaction of a client's to the next one.
func (l lab) pay(from, amount int) api.Tx {
	l.t.Helper()
	x, _, err := tx.Make(purses[from], api.Tx{From: from, To: (from + 1) % 4, Amount: amount})
	if err != api.OK {
		l.t.Fatalf("P7.2: Make = %d", err)
	}
	return x
}

// signed is a block, signed by its leader with that leaf.
func (l lab) signed(leaf int, b api.Block) api.Block {
	l.t.Helper()
	return l.signedBy(b.View%len(l.c.Roots), leaf, b)
}

// signedBy is a block, signed by that replica with that leaf, whoever leads its view.
func (l lab) signedBy(id, leaf int, b api.Block) api.Block {
	l.t.Helper()
	b, _, err := block.Sign(at(keys[id], leaf), b)
	if err != api.OK {
		l.t.Fatalf("P10.1: Sign of a block of View %d, Height %d = %d", b.View, b.Height, err)
	}
	return b
}

// behind is a block of that view behind a cert; its amount makes it unlike its siblings.
func (l lab) behind(c api.Cert, view, amount int) api.Block {
	l.t.Helper()
	return l.signed(7, api.Block{View: view, Height: c.Height + 1, Parent: c.Block, Justify: c, Txs: []api.Tx{l.pay(amount%4, amount)}})
}

// first is a block of that view behind the first block.
func (l lab) first(view, amount int) api.Block {
	l.t.Helper()
	return l.behind(cert.First(), view, amount)
}

// child is a block of that view behind another one, as it should be.
func (l lab) child(b api.Block, view, amount int) api.Block {
	l.t.Helper()
	return l.behind(l.cert(markOf(b)), view, amount)
}

// row is so many blocks of one view, one behind the other, from the first block on.
func (l lab) row(view, amount, n int) []api.Block {
	l.t.Helper()
	out := []api.Block{l.first(view, amount)}
	for len(out) < n {
		out = append(out, l.child(out[len(out)-1], view, amount))
	}
	return out[:n]
}

// octets are a message's.
func (l lab) octets(m api.Message) []byte {
	l.t.Helper()
	b, err := message.Put(m)
	if err != api.OK {
		l.t.Fatalf("P11.1: Put of a message of kind %d = %d", m.Kind, err)
	}
	return b
}

// The messages that bear these.
func ofBlock(b api.Block) api.Message { return api.Message{Kind: aBlock, Block: b} }
func ofVote(v api.Vote) api.Message   { return api.Message{Kind: aVote, Vote: v} }

// ofBlocks are the messages of blocks.
func ofBlocks(l ...api.Block) []api.Message {
	var out []api.Message
	for _, b := range l {
		out = append(out, ofBlock(b))
	}
	return out
}

// ofVotes are the messages of statements.
func ofVotes(l ...api.Vote) []api.Message {
	var out []api.Message
	for _, v := range l {
		out = append(out, ofVote(v))
	}
	return out
}

// takes tells a learner messages, each of which it has to take.
func (l lab) takes(what string, x *learner.Learner, messages ...api.Message) {
	l.t.Helper()
	for i, m := range messages {
		l.hears(fmt.Sprintf("%s, message %d", what, i), x, l.octets(m), true)
	}
}

// refuses tells a learner messages, none of which it may take.
func (l lab) refuses(what string, x *learner.Learner, messages ...api.Message) {
	l.t.Helper()
	for i, m := range messages {
		l.hears(fmt.Sprintf("%s, message %d", what, i), x, l.octets(m), false)
	}
}

// hears tells a learner octets, and says if it takes them as it has to.
func (l lab) hears(what string, x *learner.Learner, b []byte, want bool) {
	l.t.Helper()
	ends(l.t, "Hear", func() {
		l.t.Helper()
		if got := x.Hear(b); got != want {
			l.t.Errorf("P22.1: Hear of %s = %v", what, got)
		}
	})
}

// ends calls f and says if it panicked, or does not end (P1).
func ends(t *testing.T, what string, f func()) {
	t.Helper()
	over := make(chan any, 1)
	go func() {
		defer func() { over <- recover() }()
		f()
	}()
	select {
	case x := <-over:
		if x != nil {
			t.Errorf("P1: %s panicked: %v", what, x)
		}
	case <-time.After(time.Minute):
		t.Fatalf("P1: %s does not end", what)
	}
}

// same says if two blocks are, in all fields, nil and empty lists being one (P5).
func same(a, b api.Block) bool {
	if a.View != b.View || a.Height != b.Height || a.Parent != b.Parent || a.Sig != b.Sig || !slices.Equal(a.Txs, b.Txs) {
		return false
	}
	return a.Justify.View == b.Justify.View && a.Justify.Height == b.Justify.Height && a.Justify.Block == b.Justify.Block &&
		slices.Equal(a.Justify.Votes, b.Justify.Votes)
}

// page is what a learner of a rule and a quorum has to have: blocks and statements that it took.
type page struct {
	rule   api.Rule
	quorum int
	blocks map[string]api.Block
	votes  []api.Vote
}

// pageOf is the page of a learner that took these, ahead of whose blocks and statements there were none like them.
func (l lab) pageOf(kind, n int, taken ...api.Message) page {
	p := page{api.Rule{Kind: kind, N: n}, l.c.Quorum, map[string]api.Block{}, nil}
	for _, m := range taken {
		p.take(m)
	}
	return p
}

// take puts a message on the page, if it is new, and says if it is; it has to be valid.
func (p *page) take(m api.Message) bool {
	switch m.Kind {
	case aBlock:
		name := nameOf(m.Block)
		if _, ok := p.blocks[name]; !ok {
			p.blocks[name] = m.Block
			return true
		}
	case aVote:
		isLike := func(v api.Vote) bool { return order(v, m.Vote) == 0 }
		if m.Vote.Kind != committed && m.Vote.Kind != reported || slices.ContainsFunc(p.votes, isLike) {
			return false
		}
		p.votes = append(p.votes, m.Vote)
		return true
	}
	return false
}

// order is how two statements stand: below 0, if the first one is told ahead.
func order(a, b api.Vote) int {
	for _, f := range []func(v api.Vote) int{
		func(v api.Vote) int { return v.Kind },
		func(v api.Vote) int { return v.View },
		func(v api.Vote) int { return v.Height },
	} {
		if f(a) != f(b) {
			return f(a) - f(b)
		}
	}
	if a.Block != b.Block {
		return map[bool]int{true: -1, false: 1}[a.Block < b.Block]
	}
	if a.Ticks != b.Ticks {
		return a.Ticks - b.Ticks
	}
	return a.Signer - b.Signer
}

// chain is the names of a block's chain from Height 1 on, and if it is known, word by word.
func (p page) chain(name string) ([]string, bool) {
	if name == zeros {
		return nil, true
	}
	b, ok := p.blocks[name]
	// Of the first block View and Height are 0, as of the zero block.
	parent := p.blocks[b.Parent]
	if !ok || parent.Height != b.Height-1 || parent.View != b.Justify.View {
		return nil, false
	}
	ahead, ok := p.chain(b.Parent)
	if !ok {
		return nil, false
	}
	return append(slices.Clone(ahead), name), true
}

// enough says if there is enough of a mark.
func (p page) enough(m api.Mark) bool {
	met := map[int]bool{}
	for _, v := range p.votes {
		if v.View != m.View || v.Height != m.Height || v.Block != m.Block {
			continue
		}
		if p.rule.Kind == byQuorum && v.Kind == committed || p.rule.Kind == byDelay && v.Kind == reported && v.Ticks >= 2*p.rule.N {
			met[v.Signer] = true
		}
	}
	if p.rule.Kind == byQuorum {
		return len(met) >= p.rule.N
	}
	return len(met) >= p.quorum
}

// tips are the marks of the page's tips, in their order.
func (p page) tips() []api.Mark {
	all := []api.Mark{{Block: zeros}}
	for name, b := range p.blocks {
		all = append(all, api.Mark{View: b.View, Height: b.Height, Block: name})
	}
	var out []api.Mark
	for _, m := range all {
		if _, ok := p.chain(m.Block); ok && p.enough(m) {
			out = append(out, m)
		}
	}
	slices.SortFunc(out, func(a, b api.Mark) int {
		return order(api.Vote{View: a.View, Height: a.Height, Block: a.Block}, api.Vote{View: b.View, Height: b.Height, Block: b.Block})
	})
	return out
}

// names are those of the page's ledger, and its error.
func (p page) names() ([]string, api.Errno) {
	var chains [][]string
	var err api.Errno
	for _, m := range p.tips() {
		chain, _ := p.chain(m.Block)
		for _, other := range chains {
			if n := min(len(chain), len(other)); !slices.Equal(chain[:n], other[:n]) {
				err = api.ErrFork
			}
		}
		chains = append(chains, chain)
	}
	if len(chains) == 0 {
		return nil, api.OK
	}
	slices.SortFunc(chains, func(a, b []string) int { return len(a) - len(b) })
	if err == api.OK {
		return chains[len(chains)-1], api.OK
	}
	var common []string
	for i, name := range chains[0] {
		isThere := func(l []string) bool { return l[i] == name }
		if slices.ContainsFunc(chains, func(l []string) bool { return !isThere(l) }) {
			break
		}
		common = append(common, name)
	}
	return common, err
}

// bare is a block without Justify's Votes, and without Sig.
func bare(b api.Block) api.Block {
	b.Sig, b.Justify.Votes = "", nil
	return b
}

// ledger is the page's blocks of these names, each as change leaves it.
func (p page) ledger(names []string, change func(b api.Block) api.Block) []api.Block {
	var out []api.Block
	for _, name := range names {
		out = append(out, change(p.blocks[name]))
	}
	return out
}

// asIs leaves a block as it is.
func asIs(b api.Block) api.Block { return b }

// stands says if a learner is as the page tells, however often it is asked.
func (l lab) stands(what string, x *learner.Learner, p page) {
	l.t.Helper()
	ends(l.t, what, func() {
		l.t.Helper()
		for range 2 {
			l.tells(what, x, p)
		}
	})
}

// tells says if a learner tells what is on the page.
func (l lab) tells(what string, x *learner.Learner, p page) {
	l.t.Helper()
	if got, want := x.Tips(), p.tips(); !slices.Equal(got, want) {
		l.t.Errorf("P22.1: %s: Tips = %s, want %s", what, brief(got), brief(want))
	}
	names, want := p.names()
	if got, err := x.Names(); !slices.Equal(got, names) || err != want {
		l.t.Errorf("P22.1: %s: Names = %s, %d, want %s, %d", what, brief(got), err, brief(names), want)
	}
	if got, err := x.Ledger(); !slices.EqualFunc(got, p.ledger(names, bare), same) || err != want {
		l.t.Errorf("P22.1: %s: Ledger = %s, %d, want that of %s, %d", what, brief(got), err, brief(names), want)
	}
	votes := slices.SortedFunc(slices.Values(p.votes), order)
	if got := x.Statements(); !slices.Equal(got, votes) {
		l.t.Errorf("P22.1: %s: Statements = %s, want %s", what, brief(got), brief(votes))
	}
	if got := x.Blocks(); got != len(p.blocks) {
		l.t.Errorf("P22.1: %s: Blocks = %d, want %d", what, got, len(p.blocks))
	}
	asked := []string{zeros, stranger, "", "short", zeros[1:], zeros + "\x00"}
	for name, b := range p.blocks {
		asked = append(asked, name, b.Parent)
	}
	for _, name := range asked {
		chain, known := p.chain(name)
		if got, ok := x.Chain(name); ok != known || !slices.EqualFunc(got, p.ledger(chain, asIs), same) {
			l.t.Errorf("P22.1: %s: Chain of %x = %s, %v, want %d blocks, %v", what, name, brief(got), ok, len(chain), known)
		}
	}
}

// brief is how what may be long begins.
func brief(x any) string {
	s := fmt.Sprintf("%+q", fmt.Sprintf("%+v", x))
	return s[:min(len(s), 700)]
}
