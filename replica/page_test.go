package replica_test

import (
	"crypto/sha256"
	"math"
	"slices"
	"strings"
	"testing"
	"time"

	"moot/api"
	"moot/block"
	"moot/cert"
	"moot/message"
	"moot/replica"
	"moot/signer"
	"moot/tx"
	"moot/vote"
)

// The limits, the first block's name, and how many octets a name has, as the document tells them.
const (
	maxReplicas = 7
	maxHeight   = 1 << 20
	maxView     = 1 << 20
	maxAmount   = 1 << 40
	maxDisk     = 1 << 18
	maxPool     = 16
	maxTxs      = 4
	leaves      = 16
	zeros       = "\x00\x00\x00\x00\x00\x00\x00\x00\x00\x00\x00\x00\x00\x00\x00\x00\x00\x00\x00\x00\x00\x00\x00\x00\x00\x00\x00\x00\x00\x00\x00\x00"
	stranger    = "the name of what nobody ever put"
)

// The kinds of messages, and of statements, by their numbers in the document.
const (
	aBlock, aVote, aCert, blames, asked, aTx = 1, 2, 3, 4, 5, 6
	voted, committed, reported, blamed       = 1, 2, 3, 4
)

// roomy is a room in which all has room that these tests write; base and most are how patient their replicas are.
const (
	room = 1 << 16
	base = 4
	most = 32
)

// sizes are numbers at the edges of what may be, and far from it.
var sizes = []int{math.MinInt, math.MinInt + 1, -1 << 32, -1, 0, 1, 2, 5, maxView, maxView + 1, 1 << 32, maxAmount - 1, maxAmount, maxAmount + 1, math.MaxInt - 1, math.MaxInt}

// ends calls f and says if it panicked, or did not end at once (P1).
func ends(t *testing.T, what string, f func()) {
	t.Helper()
	done := make(chan any, 1)
	go func() {
		defer func() { done <- recover() }()
		f()
	}()
	select {
	case x := <-done:
		if x != nil {
			t.Errorf("P1: %s panicked: %v", what, x)
		}
	case <-time.After(time.Minute):
		t.Fatalf("P1: %s did not end", what)
	}
}

// lab is a setup, and all keys of it.
type lab struct {
	t *testing.T
	c api.Config
}

// keys are the replicas' keys, and the clients'.
var keys, purses = func() (l []api.Key, m []api.Key) {
	for i := range maxReplicas {
		l = append(l, vote.Key(i))
	}
	for i := range api.MaxClients {
		m = append(m, tx.Key(i))
	}
	return l, m
}()

// labOf is a lab of so many replicas, and a quorum.
func labOf(t *testing.T, replicas, quorum int) lab {
	c := api.Config{Quorum: quorum, Base: base, Cap: most}
	for _, k := range keys[:replicas] {
		root, _ := signer.Root(k)
		c.Roots = append(c.Roots, root)
	}
	for _, k := range purses {
		root, _ := signer.Root(k)
		c.Clients = append(c.Clients, root)
	}
	return lab{t, c}
}

// new is a replica of that number, made at tick 0.
func (l lab) new(id int) *replica.Replica {
	l.t.Helper()
	r, err := replica.New(l.c, id, room, 0)
	if err != api.OK || r == nil {
		l.t.Fatalf("P20.1: New of replica %d of %d = %d", id, len(l.c.Roots), err)
	}
	return r
}

// at is a key whose next leaf is that one.
func at(k api.Key, leaf int) api.Key {
	k.Next = leaf
	return k
}

// state signs a statement, by its Signer's key, with that leaf.
func (l lab) state(leaf int, v api.Vote) api.Vote {
	l.t.Helper()
	v, _, err := vote.Sign(at(keys[v.Signer], leaf), v)
	if err != api.OK {
		l.t.Fatalf("P8.1: Sign of %+v = %d", v, err)
	}
	return v
}

// about is a statement of that kind about a block.
func about(kind int, m api.Mark, by int) api.Vote {
	return api.Vote{Kind: kind, View: m.View, Height: m.Height, Block: m.Block, Signer: by}
}

// votes are signed votes about a block, one of each.
func (l lab) votes(m api.Mark, by ...int) []api.Vote {
	l.t.Helper()
	var out []api.Vote
	for _, i := range by {
		out = append(out, l.state(9, about(voted, m, i)))
	}
	return out
}

// blame is a signed blame of a view.
func (l lab) blame(view, by int) api.Vote {
	l.t.Helper()
	return l.state(8, api.Vote{Kind: blamed, View: view, Signer: by})
}

// cert is one of a block, of the votes of so many replicas as a quorum, from the first one on.
func (l lab) cert(m api.Mark) api.Cert {
	l.t.Helper()
	var by []int
	for i := range l.c.Quorum {
		by = append(by, i)
	}
	return l.certBy(m, by...)
}

// certBy is a cert of a block, of the votes of these.
func (l lab) certBy(m api.Mark, by ...int) api.Cert {
	l.t.Helper()
	return api.Cert{View: m.View, Height: m.Height, Block: m.Block, Votes: l.votes(m, by...)}
}

// markOf is a block's mark.
func markOf(b api.Block) api.Mark {
	return api.Mark{View: b.View, Height: b.Height, Block: nameOf(b)}
}

// low is the lowest octets of n, so many, the highest first.
func low(n int, size int) string {
	var b []byte
	for i := size - 1; i >= 0; i-- {
		b = append(b, byte(uint64(n)>>(8*i)))
	}
	return string(b)
}

// field is a text's octets.
func field(s string) string {
	return low(len(s), 2) + s
}

// nameOf is the name that a block has to have, reckoned not by the program's own.
func nameOf(b api.Block) string {
	text := field("block") + low(b.View, 6) + low(b.Height, 6) + field(b.Parent) + low(b.Justify.View, 6) + low(len(b.Txs), 6)
	for _, x := range b.Txs {
		text += field("tx") + low(x.From, 6) + low(x.To, 6) + low(x.Amount, 6) + low(x.Nonce, 6) + field(x.Sig)
	}
	sum := sha256.Sum256([]byte(text))
	return string(sum[:])
}

// behind is a block of that view behind a cert, signed by its leader with that leaf.
func (l lab) behind(c api.Cert, view, leaf int, txs ...api.Tx) api.Block {
	l.t.Helper()
	b := api.Block{View: view, Height: c.Height + 1, Parent: c.Block, Justify: c, Txs: txs}
	b, _, err := block.Sign(at(keys[view%len(l.c.Roots)], leaf), b)
	if err != api.OK {
		l.t.Fatalf("P10.1: Sign of a block of View %d, Height %d = %d", view, b.Height, err)
	}
	return b
}

// child is a block of that view behind another one, which is certified.
func (l lab) child(b api.Block, view int, txs ...api.Tx) api.Block {
	l.t.Helper()
	return l.behind(l.cert(markOf(b)), view, 7, txs...)
}

// pay is a transaction of a client's to the next one.
func (l lab) pay(from, amount, nonce int) api.Tx {
	l.t.Helper()
	x, _, err := tx.Make(at(purses[from], nonce%4), api.Tx{From: from, To: (from + 1) % 4, Amount: amount, Nonce: nonce})
	if err != api.OK {
		l.t.Fatalf("P7.2: Make = %d", err)
	}
	return x
}

// first is a block of that view, behind the first block, in which client 0 pays that amount.
func (l lab) first(view, amount int) api.Block {
	l.t.Helper()
	return l.behind(cert.First(), view, 7, l.pay(0, amount, 0))
}

// row is so many blocks of one view, one behind the other, from the first block on.
func (l lab) row(view, n int) []api.Block {
	l.t.Helper()
	out := []api.Block{l.first(view, 1)}
	for i := 1; i < n; i++ {
		out = append(out, l.child(out[i-1], view, l.pay(i%4, 1+i, i/4)))
	}
	return out
}

// octets are a message's.
func (l lab) octets(m api.Message) []byte {
	l.t.Helper()
	b, err := message.Put(m)
	if err != api.OK {
		l.t.Fatalf("P11.1: Put of a message of kind %d = %d", m.Kind, err)
	}
	return b
}

// The messages that bear these.
func ofBlock(b api.Block) api.Message    { return api.Message{Kind: aBlock, Block: b} }
func ofVote(v api.Vote) api.Message      { return api.Message{Kind: aVote, Vote: v} }
func ofCert(c api.Cert) api.Message      { return api.Message{Kind: aCert, Cert: c} }
func ofBlames(l ...api.Vote) api.Message { return api.Message{Kind: blames, Blames: l} }
func ofAsked(name string) api.Message    { return api.Message{Kind: asked, Asked: name} }
func ofTx(x api.Tx) api.Message          { return api.Message{Kind: aTx, Tx: x} }
func (l lab) its(id, leaf int, v api.Vote) api.Message {
	v.Signer = id
	return ofVote(l.state(leaf, v))
}

// kindsOf names messages.
func kindsOf(l [][]byte) string {
	var out []string
	for _, b := range l {
		m, err := message.Read(b)
		name := []string{"none", "block", "statement", "cert", "blames", "asked", "tx"}[m.Kind]
		if m.Kind == aVote {
			name = []string{"none", "vote", "commit-vote", "report", "blame"}[m.Vote.Kind]
		}
		if err != api.OK {
			name = "no message"
		}
		out = append(out, name)
	}
	return strings.Join(out, " ")
}

// says says if these were said, no more and no less, in that order.
func (l lab) says(what string, got [][]byte, want ...api.Message) {
	l.t.Helper()
	var octets [][]byte
	for _, m := range want {
		octets = append(octets, l.octets(m))
	}
	isSame := func(a, b []byte) bool { return string(a) == string(b) }
	if !slices.EqualFunc(got, octets, isSame) {
		l.t.Errorf("P20.1: %s: it says [%s], want [%s]", what, kindsOf(got), kindsOf(octets))
	}
}

// hear tells a replica a message, and says if it says these.
func (l lab) hear(what string, r *replica.Replica, m api.Message, now int, want ...api.Message) {
	l.t.Helper()
	ends(l.t, "Hear", func() {
		l.says("Hear of "+what, r.Hear(l.octets(m), now), want...)
	})
}

// tick ticks a replica, and says if it says these.
func (l lab) tick(what string, r *replica.Replica, now int, want ...api.Message) {
	l.t.Helper()
	ends(l.t, "Tick", func() {
		l.says("Tick "+what, r.Tick(now), want...)
	})
}

// messageOf is the message whose octets these are.
func messageOf(b []byte) api.Message {
	m, _ := message.Read(b)
	return m
}

// leafOf is the leaf with which a statement is signed.
func (l lab) leafOf(v api.Vote) int {
	l.t.Helper()
	leaf, ok := signer.Verify(l.c.Roots[v.Signer], 4, []byte(textOf(v)), v.Sig)
	if !ok {
		l.t.Errorf("P20.1: a statement of kind %d of replica %d is not signed", v.Kind, v.Signer)
	}
	return leaf
}
