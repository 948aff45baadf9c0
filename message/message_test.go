package message_test

import (
	"math"
	"slices"
	"strings"
	"testing"

	"moot/api"
	"moot/message"
)

// The limits, and names of blocks, as the document tells them.
const (
	maxAmount = 1 << 40
	maxField  = 1 << 12
	maxOctets = 1 << 14
	maxHeight = 1 << 20
	maxView   = 1 << 20
	maxTicks  = 1 << 20
	parent    = "the parent's name: 32 octets ..."
	zeros     = "\x00\x00\x00\x00\x00\x00\x00\x00\x00\x00\x00\x00\x00\x00\x00\x00\x00\x00\x00\x00\x00\x00\x00\x00\x00\x00\x00\x00\x00\x00\x00\x00"
)

// ends calls f and says if it panicked (P1).
func ends(t *testing.T, what string, f func()) {
	t.Helper()
	defer func() {
		if x := recover(); x != nil {
			t.Errorf("P1: %s panicked: %v", what, x)
		}
	}()
	f()
}

// copied is a message that shares no list with another one.
func copied(m api.Message) api.Message {
	m.Block.Txs, m.Block.Justify.Votes = slices.Clone(m.Block.Txs), slices.Clone(m.Block.Justify.Votes)
	m.Cert.Votes, m.Blames = slices.Clone(m.Cert.Votes), slices.Clone(m.Blames)
	return m
}

// with is a message as change leaves it.
func with(m api.Message, change func(m *api.Message)) api.Message {
	m = copied(m)
	change(&m)
	return m
}

// equal says if two messages are one, not by the program's Same; nil and empty lists are one (P5).
func equal(a, b api.Message) bool {
	certs := func(a, b api.Cert) bool {
		return a.View == b.View && a.Height == b.Height && a.Block == b.Block && slices.Equal(a.Votes, b.Votes)
	}
	blocks := a.Block.View == b.Block.View && a.Block.Height == b.Block.Height && a.Block.Parent == b.Block.Parent &&
		certs(a.Block.Justify, b.Block.Justify) && slices.Equal(a.Block.Txs, b.Block.Txs) && a.Block.Sig == b.Block.Sig
	return a.Kind == b.Kind && blocks && a.Vote == b.Vote && certs(a.Cert, b.Cert) && slices.Equal(a.Blames, b.Blames) && a.Asked == b.Asked && a.Tx == b.Tx
}

// pay is a transaction that may be.
func pay(nonce int) api.Tx {
	return api.Tx{From: 1, To: 3, Amount: 250, Nonce: nonce, Sig: "a client's"}
}

// by is a vote of that replica.
func by(replica int) api.Vote {
	return api.Vote{Kind: 1, View: 6, Height: 8, Block: parent, Signer: replica, Sig: "a vote's"}
}

// report is a statement unlike the zero one in every field.
func report() api.Vote {
	return api.Vote{Kind: 3, View: 6, Height: 8, Block: parent, Ticks: 5, Signer: 4, Sig: "a report's"}
}

// blame is a blame of that replica.
func blame(replica int) api.Vote {
	return api.Vote{Kind: 4, View: 6, Signer: replica, Sig: "a blame's"}
}

// behind is a block that may be, unlike the zero one in every field.
func behind() api.Block {
	justify := api.Cert{View: 6, Height: 8, Block: parent, Votes: []api.Vote{by(0), by(2)}}
	return api.Block{View: 7, Height: 9, Parent: parent, Justify: justify, Txs: []api.Tx{pay(0), pay(1)}, Sig: "a block's"}
}

// some is a message of that kind that may be, unlike zero in every field that it bears; of no such kind it bears nothing.
func some(kind int) api.Message {
	m := api.Message{Kind: kind}
	switch kind {
	case 1:
		m.Block = behind()
	case 2:
		m.Vote = report()
	case 3:
		m.Cert = api.Cert{View: 6, Height: 8, Block: parent, Votes: []api.Vote{by(1), by(5), by(6)}}
	case 4:
		m.Blames = []api.Vote{blame(0), blame(3)}
	case 5:
		m.Asked = parent
	case 6:
		m.Tx = pay(7)
	}
	return m
}

// all bears what each kind bears.
func all() api.Message {
	return api.Message{Block: behind(), Vote: report(), Cert: some(3).Cert, Blames: some(4).Blames, Asked: parent, Tx: pay(7)}
}

// of is a message of that kind, as change leaves it.
func of(kind int, change func(m *api.Message)) api.Message {
	return with(some(kind), change)
}

// ofVotes are so many votes, of replica after replica.
func ofVotes(count int) []api.Vote {
	var l []api.Vote
	for i := range count {
		l = append(l, by(i%7))
	}
	return l
}

// sized is a text of so many octets.
func sized(size int) string {
	return strings.Repeat("s", size)
}

// statements are those that may be, with every edge of each of their fields.
func statements() []api.Vote {
	l := []api.Vote{report(), blame(0), by(0)}
	one := func(change func(v *api.Vote)) {
		v := report()
		change(&v)
		l = append(l, v)
	}
	for _, n := range []int{0, 1, 255, 256, maxView - 1, maxView} {
		one(func(v *api.Vote) { v.View = n })
		one(func(v *api.Vote) { v.Height = n })
		one(func(v *api.Vote) { v.Ticks = max(n, 1) })
		l = append(l, api.Vote{Kind: 4, View: n}, api.Vote{Kind: 2, View: n, Height: n, Block: zeros})
	}
	for replica := range 7 {
		one(func(v *api.Vote) { v.Signer = replica })
	}
	for _, size := range []int{0, 1, 122, maxField} {
		one(func(v *api.Vote) { v.Sig = sized(size) })
	}
	return l
}

// noStatements are those that may not be.
func noStatements() []api.Vote {
	l := []api.Vote{{}, {Kind: 4, Height: 1}, {Kind: 4, Block: parent}, {Kind: 4, Ticks: 1}, {Kind: 1, Block: parent, Ticks: 1}, {Kind: 3, Block: parent}, {Kind: 2}}
	one := func(change func(v *api.Vote)) {
		v := report()
		change(&v)
		l = append(l, v)
	}
	for _, n := range []int{math.MinInt, -1, maxView + 1, 1<<32 + 4, maxAmount, maxAmount + 1, math.MaxInt} {
		one(func(v *api.Vote) { v.Kind = n })
		one(func(v *api.Vote) { v.View = n })
		one(func(v *api.Vote) { v.Height = n })
		one(func(v *api.Vote) { v.Ticks = n })
		one(func(v *api.Vote) { v.Signer = n })
	}
	one(func(v *api.Vote) { v.Kind = 0 })
	one(func(v *api.Vote) { v.Kind = 5 })
	one(func(v *api.Vote) { v.Signer = 7 })
	for _, name := range []string{"", parent[:31], parent + "p"} {
		one(func(v *api.Vote) { v.Block = name })
	}
	one(func(v *api.Vote) { v.Sig = sized(maxField + 1) })
	return l
}

// rights are messages that may be, with what each kind bears at its edges.
func rights() []api.Message {
	var l []api.Message
	for kind := range 7 {
		if kind > 0 {
			l = append(l, some(kind))
		}
	}
	l = append(l, rightBlocks()...)
	for _, v := range statements() {
		l = append(l, of(2, func(m *api.Message) { m.Vote = v }),
			of(3, func(m *api.Message) { m.Cert.Votes[1] = v }),
			of(4, func(m *api.Message) { m.Blames[1] = v }),
			of(1, func(m *api.Message) { m.Block.Justify.Votes[1] = v }))
	}
	for _, n := range []int{0, 1, 255, 256, maxView - 1, maxView} {
		l = append(l, of(3, func(m *api.Message) { m.Cert.View = n }), of(3, func(m *api.Message) { m.Cert.Height = n }))
	}
	for count := range 8 {
		l = append(l, of(3, func(m *api.Message) { m.Cert.Votes = ofVotes(count) }),
			of(4, func(m *api.Message) { m.Blames = ofVotes(count) }),
			of(1, func(m *api.Message) { m.Block.Justify.Votes = ofVotes(count) }))
	}
	for _, name := range []string{zeros, strings.Repeat("\xff", 32), parent} {
		l = append(l, of(3, func(m *api.Message) { m.Cert.Block = name }), of(5, func(m *api.Message) { m.Asked = name }))
	}
	for _, tx := range []api.Tx{{From: 0, To: 1, Amount: 1}, {From: 3, To: 0, Amount: 1000, Nonce: maxAmount, Sig: sized(maxField)}} {
		l = append(l, of(6, func(m *api.Message) { m.Tx = tx }))
	}
	return l
}

// rightBlocks are messages of blocks that may be, at their edges.
func rightBlocks() []api.Message {
	l := []api.Message{{Kind: 1, Block: api.Block{Height: 1, Parent: zeros, Justify: api.Cert{Block: zeros}}}}
	one := func(change func(b *api.Block)) {
		l = append(l, of(1, func(m *api.Message) { change(&m.Block) }))
	}
	for _, n := range []int{1, 2, 256, maxView - 1, maxView} {
		one(func(b *api.Block) { b.View, b.Justify.View = n, n })
		one(func(b *api.Block) { b.View, b.Justify.View = n, 0 })
		one(func(b *api.Block) { b.Height, b.Justify.Height = n, n-1 })
	}
	for count := range 5 {
		one(func(b *api.Block) { b.Txs = slices.Repeat([]api.Tx{pay(1)}, count) })
	}
	for _, size := range []int{0, 122, maxField} {
		one(func(b *api.Block) { b.Sig = sized(size) })
		one(func(b *api.Block) { b.Txs[1].Sig = sized(size) })
	}
	return l
}

// wrongs are messages whose kind there is, and that bear nothing else, but what may not be.
func wrongs() []api.Message {
	l := wrongBlocks()
	for kind := 1; kind <= 6; kind++ {
		// No blames at all may be.
		if kind != 4 {
			l = append(l, api.Message{Kind: kind})
		}
	}
	for _, v := range noStatements() {
		l = append(l, of(2, func(m *api.Message) { m.Vote = v }))
		for place := range 3 {
			l = append(l, of(3, func(m *api.Message) { m.Cert.Votes[place] = v }),
				of(4, func(m *api.Message) { m.Blames = append(m.Blames, blame(5)); m.Blames[place] = v }))
		}
		l = append(l, of(3, func(m *api.Message) { m.Cert.Votes = append(ofVotes(6), v) }),
			of(4, func(m *api.Message) { m.Blames = append(ofVotes(6), v) }))
	}
	for _, n := range []int{math.MinInt, -1, maxView + 1, 1<<32 + 6, maxAmount, maxAmount + 1, math.MaxInt} {
		l = append(l, of(3, func(m *api.Message) { m.Cert.View = n }), of(3, func(m *api.Message) { m.Cert.Height = n }))
	}
	for _, count := range []int{8, 9, 300} {
		l = append(l, of(3, func(m *api.Message) { m.Cert.Votes = ofVotes(count) }), of(4, func(m *api.Message) { m.Blames = ofVotes(count) }))
	}
	for _, name := range []string{"", "p", parent[:31], parent + "p", parent + parent, sized(maxField), sized(maxField + 1)} {
		l = append(l, of(3, func(m *api.Message) { m.Cert.Block = name }), of(5, func(m *api.Message) { m.Asked = name }))
	}
	for _, tx := range []api.Tx{{From: -1, To: 1, Amount: 1}, {From: 4, To: 1, Amount: 1}, {From: 1, To: 4, Amount: 1}, {From: 1, To: 1, Amount: 1}, {From: 1, To: 2}, {From: 1, To: 2, Amount: 1001},
		{From: 1, To: 2, Amount: 1, Nonce: -1}, {From: 1, To: 2, Amount: 1, Nonce: maxAmount + 1}, {From: 1, To: 2, Amount: 1, Sig: sized(maxField + 1)}} {
		l = append(l, of(6, func(m *api.Message) { m.Tx = tx }), of(1, func(m *api.Message) { m.Block.Txs[1] = tx }))
	}
	return l
}

// wrongBlocks are messages of blocks that may not be, or whose Justify may not.
func wrongBlocks() []api.Message {
	var l []api.Message
	one := func(change func(b *api.Block)) {
		l = append(l, of(1, func(m *api.Message) { change(&m.Block) }))
	}
	for _, n := range []int{math.MinInt, -1, maxView + 1, maxAmount, math.MaxInt} {
		one(func(b *api.Block) { b.View = n })
		one(func(b *api.Block) { b.View, b.Justify.View = n, n })
		one(func(b *api.Block) { b.Height = n })
		one(func(b *api.Block) { b.Justify.View = n })
		one(func(b *api.Block) { b.Justify.Height = n })
	}
	one(func(b *api.Block) { b.Height, b.Justify.Height = 0, -1 })
	one(func(b *api.Block) { b.Height, b.Justify.Height = maxHeight+1, maxHeight })
	one(func(b *api.Block) { b.Justify.View = 8 })
	one(func(b *api.Block) { b.Justify.Block = zeros })
	one(func(b *api.Block) { b.Parent = zeros })
	for _, name := range []string{"", parent[:31], parent + "p"} {
		one(func(b *api.Block) { b.Parent, b.Justify.Block = name, name })
	}
	for _, count := range []int{5, 9, 300} {
		one(func(b *api.Block) { b.Txs = slices.Repeat([]api.Tx{pay(1)}, count) })
	}
	one(func(b *api.Block) { b.Sig = sized(maxField + 1) })
	// Justify is a cert, of no more votes than there are replicas, each of which may be: else it would not come back.
	for _, count := range []int{8, 9, 300} {
		one(func(b *api.Block) { b.Justify.Votes = ofVotes(count) })
	}
	for _, v := range noStatements() {
		one(func(b *api.Block) { b.Justify.Votes[0] = v })
		one(func(b *api.Block) { b.Justify.Votes[1] = v })
		one(func(b *api.Block) { b.Justify.Votes = append(ofVotes(6), v) })
	}
	return l
}

// noKinds are numbers that are no message's Kind.
func noKinds() []int {
	return []int{math.MinInt, -1 << 32, -7, -1, 0, 7, 8, 255, 257, 1 << 16, 1<<16 + 1, 1<<32 + 1, 1<<48 + 2, maxAmount, maxAmount + 1, math.MaxInt}
}

// part is a field, whose message's kind bears it, made unlike zero.
type part struct {
	kind  int
	what  string
	alter func(m *api.Message)
}

// parts are all fields but Kind, each by itself.
func parts() []part {
	return []part{
		{1, "Block", func(m *api.Message) { m.Block = behind() }},
		{1, "Block.View", func(m *api.Message) { m.Block.View++ }},
		{1, "Block.Height", func(m *api.Message) { m.Block.Height++ }},
		{1, "Block.Parent", func(m *api.Message) { m.Block.Parent += "p" }},
		{1, "Block.Justify.View", func(m *api.Message) { m.Block.Justify.View++ }},
		{1, "Block.Justify.Height", func(m *api.Message) { m.Block.Justify.Height++ }},
		{1, "Block.Justify.Block", func(m *api.Message) { m.Block.Justify.Block += "p" }},
		{1, "Block.Justify.Votes", func(m *api.Message) { m.Block.Justify.Votes = append(m.Block.Justify.Votes, api.Vote{}) }},
		{1, "Block.Txs", func(m *api.Message) { m.Block.Txs = append(m.Block.Txs, api.Tx{}) }},
		{1, "Block.Sig", func(m *api.Message) { m.Block.Sig += "s" }},
		{2, "Vote", func(m *api.Message) { m.Vote = by(1) }},
		{2, "Vote.Kind", func(m *api.Message) { m.Vote.Kind++ }},
		{2, "Vote.View", func(m *api.Message) { m.Vote.View++ }},
		{2, "Vote.Height", func(m *api.Message) { m.Vote.Height++ }},
		{2, "Vote.Block", func(m *api.Message) { m.Vote.Block += "p" }},
		{2, "Vote.Ticks", func(m *api.Message) { m.Vote.Ticks++ }},
		{2, "Vote.Signer", func(m *api.Message) { m.Vote.Signer++ }},
		{2, "Vote.Sig", func(m *api.Message) { m.Vote.Sig += "s" }},
		{3, "Cert", func(m *api.Message) { m.Cert = behind().Justify }},
		{3, "Cert.View", func(m *api.Message) { m.Cert.View++ }},
		{3, "Cert.Height", func(m *api.Message) { m.Cert.Height++ }},
		{3, "Cert.Block", func(m *api.Message) { m.Cert.Block += "p" }},
		{3, "Cert.Votes", func(m *api.Message) { m.Cert.Votes = append(m.Cert.Votes, api.Vote{}) }},
		{4, "Blames", func(m *api.Message) { m.Blames = append(m.Blames, blame(1)) }},
		{4, "Blames of zero", func(m *api.Message) { m.Blames = append(m.Blames, api.Vote{}) }},
		{5, "Asked", func(m *api.Message) { m.Asked = zeros }},
		{5, "Asked of an octet", func(m *api.Message) { m.Asked += "\x00" }},
		{6, "Tx", func(m *api.Message) { m.Tx = pay(1) }},
		{6, "Tx.From", func(m *api.Message) { m.Tx.From++ }},
		{6, "Tx.To", func(m *api.Message) { m.Tx.To++ }},
		{6, "Tx.Amount", func(m *api.Message) { m.Tx.Amount++ }},
		{6, "Tx.Nonce", func(m *api.Message) { m.Tx.Nonce-- }},
		{6, "Tx.Sig", func(m *api.Message) { m.Tx.Sig += "s" }},
	}
}

// checks says if Check answers this, and if Put goes by it.
func checks(t *testing.T, what string, m api.Message, want api.Errno) {
	t.Helper()
	ends(t, what, func() {
		if err := message.Check(m); err != want {
			t.Errorf("P11.1: Check of %s, %.400v = %d, want %d", what, m, err, want)
		}
		if b, err := message.Put(m); want != api.OK && (len(b) != 0 || err != want) {
			t.Errorf("P11.1: Put of %s, %.400v = %.100x, %d, want nothing and %d", what, m, b, err, want)
		}
	})
}

func TestCheck(t *testing.T) {
	for _, m := range rights() {
		checks(t, "what may be", m, api.OK)
	}
	for _, m := range wrongs() {
		checks(t, "what may not be", m, api.ErrState)
	}
}

// Of no kind is a message of what no kind bears, nor of what each bears, nor of nothing.
func TestCheckOfNoKind(t *testing.T) {
	checks(t, "the zero message", api.Message{}, api.ErrState)
	for _, kind := range noKinds() {
		checks(t, "no kind, bearing nothing", api.Message{Kind: kind}, api.ErrState)
		for other := 1; other <= 6; other++ {
			checks(t, "no kind", of(other, func(m *api.Message) { m.Kind = kind }), api.ErrState)
		}
		checks(t, "no kind, bearing all", with(all(), func(m *api.Message) { m.Kind = kind }), api.ErrState)
	}
}

// What another kind bears a message may not bear, not even in one field.
func TestCheckOfWhatIsNotBorne(t *testing.T) {
	for kind := 1; kind <= 6; kind++ {
		for _, p := range parts() {
			if p.kind != kind {
				checks(t, "another kind's "+p.what, of(kind, p.alter), api.ErrState)
			}
		}
		for other := 1; other <= 6; other++ {
			if other != kind {
				checks(t, "another kind's", of(other, func(m *api.Message) { m.Kind = kind }), api.ErrState)
			}
		}
		checks(t, "bearing all", with(all(), func(m *api.Message) { m.Kind = kind }), api.ErrState)
	}
}

// An empty list is none.
func TestCheckOfEmptyLists(t *testing.T) {
	for kind := 1; kind <= 6; kind++ {
		m := of(kind, func(m *api.Message) {
			m.Blames = append([]api.Vote{}, m.Blames...)
			m.Cert.Votes = append([]api.Vote{}, m.Cert.Votes...)
			m.Block.Txs = append([]api.Tx{}, m.Block.Txs...)
			m.Block.Justify.Votes = append([]api.Vote{}, m.Block.Justify.Votes...)
		})
		checks(t, "empty lists", m, api.OK)
	}
	for _, l := range [][]api.Vote{nil, {}} {
		checks(t, "no Blames", api.Message{Kind: 4, Blames: l}, api.OK)
		checks(t, "a cert of no Votes", of(3, func(m *api.Message) { m.Cert.Votes = l }), api.OK)
		checks(t, "a Justify of no Votes", of(1, func(m *api.Message) { m.Block.Justify.Votes = l }), api.OK)
	}
}

// The edges each by itself, with the numbers as the document tells them.
func TestCheckAtTheEdges(t *testing.T) {
	cert := func(change func(c *api.Cert)) api.Message {
		return of(3, func(m *api.Message) { change(&m.Cert) })
	}
	edges := []struct {
		what string
		m    api.Message
		want api.Errno
	}{
		{"a cert's View -1", cert(func(c *api.Cert) { c.View = -1 }), api.ErrState},
		{"a cert's View 0", cert(func(c *api.Cert) { c.View = 0 }), api.OK},
		{"a cert's View 2^20", cert(func(c *api.Cert) { c.View = 1048576 }), api.OK},
		{"a cert's View 2^20 + 1", cert(func(c *api.Cert) { c.View = 1048577 }), api.ErrState},
		{"a cert's Height -1", cert(func(c *api.Cert) { c.Height = -1 }), api.ErrState},
		{"a cert's Height 0", cert(func(c *api.Cert) { c.Height = 0 }), api.OK},
		{"a cert's Height 2^20", cert(func(c *api.Cert) { c.Height = 1048576 }), api.OK},
		{"a cert's Height 2^20 + 1", cert(func(c *api.Cert) { c.Height = 1048577 }), api.ErrState},
		{"a cert's Block of 31 octets", cert(func(c *api.Cert) { c.Block = sized(31) }), api.ErrState},
		{"a cert's Block of 32 octets", cert(func(c *api.Cert) { c.Block = sized(32) }), api.OK},
		{"a cert's Block of 33 octets", cert(func(c *api.Cert) { c.Block = sized(33) }), api.ErrState},
		{"a cert of no votes", cert(func(c *api.Cert) { c.Votes = nil }), api.OK},
		{"a cert of 7 votes", cert(func(c *api.Cert) { c.Votes = ofVotes(7) }), api.OK},
		{"a cert of 8 votes", cert(func(c *api.Cert) { c.Votes = ofVotes(8) }), api.ErrState},
		{"no blames", api.Message{Kind: 4}, api.OK},
		{"7 blames", api.Message{Kind: 4, Blames: slices.Repeat([]api.Vote{blame(1)}, 7)}, api.OK},
		{"8 blames", api.Message{Kind: 4, Blames: slices.Repeat([]api.Vote{blame(1)}, 8)}, api.ErrState},
		{"no Asked", api.Message{Kind: 5}, api.ErrState},
		{"Asked of 31 octets", api.Message{Kind: 5, Asked: sized(31)}, api.ErrState},
		{"Asked of 32 octets", api.Message{Kind: 5, Asked: sized(32)}, api.OK},
		{"Asked of 33 octets", api.Message{Kind: 5, Asked: sized(33)}, api.ErrState},
	}
	for _, e := range edges {
		checks(t, e.what, e.m, e.want)
	}
}

// A cert need not be right, nor signed, nor need votes be about it, or blames of one view.
func TestCheckOfWhatIsNotRight(t *testing.T) {
	for _, l := range [][]api.Vote{{by(3), by(3)}, {by(5), by(1)}, {blame(1)}, {report()}, {{Kind: 2, View: 1, Height: 99, Block: zeros, Signer: 6}}} {
		checks(t, "a cert of other statements", of(3, func(m *api.Message) { m.Cert.Votes = l }), api.OK)
		checks(t, "a Justify of other statements", of(1, func(m *api.Message) { m.Block.Justify.Votes = l }), api.OK)
		checks(t, "Blames of other statements", api.Message{Kind: 4, Blames: l}, api.OK)
	}
}
