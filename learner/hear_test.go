package learner_test

import (
	"fmt"
	"math"
	"slices"
	"strings"
	"testing"

	"moot/api"
	"moot/cert"
	"moot/learner"
	"moot/tx"
)

// TestHearBlock: P22.1: a block that is valid and new is taken, once, by learners of each kind.
func TestHearBlock(t *testing.T) {
	l := labOf(t, 4, 3)
	for _, kind := range []int{byQuorum, byDelay} {
		x := l.new(kind, 4)
		var taken []api.Message
		for _, b := range []api.Block{l.first(0, 1), l.first(0, 2), l.first(3, 1), l.first(maxView, 1), l.signed(5, api.Block{View: 2, Height: 1, Parent: zeros, Justify: cert.First()})} {
			taken = append(taken, ofBlock(b))
			l.takes("a block", x, ofBlock(b))
			l.refuses("a block again", x, taken...)
			l.stands("blocks", x, l.pageOf(kind, 4, taken...))
		}
	}
}

// TestHearBlockOfOneName: P22.1, P10, P14: a block that differs from one in its Sig, or in its Justify's Votes, alone is of its name, and not new, whichever comes first: the first one stays.
func TestHearBlockOfOneName(t *testing.T) {
	l := labOf(t, 4, 2)
	parent := l.first(0, 1)
	pays := []api.Tx{l.pay(2, 3)}
	on := func(c api.Cert, leaf int) api.Block {
		return l.signed(leaf, api.Block{View: 1, Height: 2, Parent: c.Block, Justify: c, Txs: pays})
	}
	m := markOf(parent)
	alike := []api.Block{on(l.certBy(8, m, 0, 1), 7), on(l.certBy(8, m, 0, 1), 6), on(l.certBy(8, m, 2, 3), 7), on(l.certBy(3, m, 0, 1), 7), on(l.certBy(8, m, 0, 2), 15)}
	for i, b := range alike {
		x := l.new(byQuorum, 3)
		l.takes("the first one of its name", x, ofBlock(b))
		l.refuses("another one of its name", x, ofBlocks(alike...)...)
		l.takes("its parent", x, ofBlock(parent))
		l.refuses("another one of its name", x, ofBlocks(alike...)...)
		p := l.pageOf(byQuorum, 3, ofBlock(b), ofBlock(parent))
		l.stands(fmt.Sprintf("block %d, and others of its name", i), x, p)
		chain, _ := x.Chain(nameOf(b))
		if len(chain) != 2 || !same(chain[1], b) {
			t.Errorf("P22.1: Chain does not end with the block %d that came first", i)
		}
	}
}

// TestHearUnlikeBlock: P22.1: a block that differs in what its name tells is new.
func TestHearUnlikeBlock(t *testing.T) {
	l := labOf(t, 4, 2)
	first := l.first(0, 1)
	x := l.new(byQuorum, 2)
	all := []api.Block{first}
	add := func(b api.Block) { all = append(all, l.signed(7, b)) }
	on := func(parent api.Block, view int, txs ...api.Tx) api.Block {
		return api.Block{View: view, Height: parent.Height + 1, Parent: nameOf(parent), Justify: l.cert(markOf(parent)), Txs: txs}
	}
	add(on(first, 0))
	add(on(first, 0, l.pay(1, 1)))
	add(on(first, 0, l.pay(1, 2)))
	add(on(first, 0, l.pay(1, 1), l.pay(1, 2)))
	add(on(first, 0, l.pay(1, 2), l.pay(1, 1)))
	add(on(first, 1))
	add(on(first, 4))
	add(on(all[1], 0))
	add(on(all[2], 0))
	// Another Justify: a cert of another View of the same block, which its parent is not of.
	m := api.Mark{View: 1, Height: 1, Block: nameOf(first)}
	add(api.Block{View: 1, Height: 2, Parent: m.Block, Justify: l.cert(m)})
	// The same transaction, signed with another leaf.
	again, _, err := tx.Make(at(purses[1], 2), api.Tx{From: 1, To: 2, Amount: 1})
	if err != api.OK {
		t.Fatalf("P7.2: Make = %d", err)
	}
	add(on(first, 0, again))
	for i, b := range all {
		l.takes(fmt.Sprintf("block %d", i), x, ofBlock(b))
	}
	l.stands("unlike blocks", x, l.pageOf(byQuorum, 2, ofBlocks(all...)...))
}

// wrongBlocks are blocks that are not valid, each like this one, which is, but for what is told; it has a parent of its own view, and a transaction.
func (l lab) wrongBlocks(b api.Block) map[string]api.Block {
	m := cert.Mark(b.Justify)
	leader := b.View % len(l.c.Roots)
	out := map[string]api.Block{}
	add := func(what string, leaf int, change func(b *api.Block)) {
		other := b
		other.Txs, other.Justify.Votes = slices.Clone(b.Txs), slices.Clone(b.Justify.Votes)
		change(&other)
		if leaf >= 0 {
			other = l.signed(leaf, other)
		}
		out[what] = other
	}
	add("no Sig", -1, func(b *api.Block) { b.Sig = "" })
	add("an octet of Sig changed", -1, func(b *api.Block) { b.Sig = b.Sig[:70] + string([]byte{b.Sig[70] ^ 1}) + b.Sig[71:] })
	add("another one's Sig", -1, func(b *api.Block) { b.Sig = l.signed(7, l.first(b.View, 77)).Sig })
	add("the Sig of who does not lead", -1, func(b *api.Block) { *b = l.signedBy((leader+1)%len(l.c.Roots), 7, *b) })
	add("a Justify without Votes", 7, func(b *api.Block) { b.Justify.Votes = nil })
	add("a Justify of fewer Votes", 7, func(b *api.Block) { b.Justify = l.certBy(8, m, 0) })
	add("a Justify of more Votes", 7, func(b *api.Block) { b.Justify = l.certBy(8, m, 0, 1, 2) })
	add("a Justify of Votes that do not rise", 7, func(b *api.Block) { b.Justify = l.certBy(8, m, 1, 0) })
	add("a Justify of one's Votes", 7, func(b *api.Block) { b.Justify = l.certBy(8, m, 1, 1) })
	add("a Vote that nobody signed", 7, func(b *api.Block) { b.Justify.Votes[1].Sig = b.Justify.Votes[0].Sig })
	add("a Vote about another block", 7, func(b *api.Block) {
		b.Justify.Votes[1] = l.sign(8, about(voted, api.Mark{View: m.View, Height: m.Height, Block: stranger}, 1))
	})
	add("a commit-vote for a Vote", 7, func(b *api.Block) { b.Justify.Votes[1] = l.sign(8, about(committed, m, 1)) })
	add("a transaction that nobody signed", 7, func(b *api.Block) { b.Txs[0].Sig = "" })
	add("a transaction of another's Sig", 7, func(b *api.Block) { b.Txs[0].Sig = l.pay(3, 30).Sig })
	return out
}

// TestHearWrongBlock: P22.1: a block that is not valid is not taken, and does not stand in the way of one of its name that is.
func TestHearWrongBlock(t *testing.T) {
	l := labOf(t, 4, 2)
	parent := l.first(1, 1)
	b := l.child(parent, 1, 2)
	for what, wrong := range l.wrongBlocks(b) {
		x := l.new(byQuorum, 2)
		l.refuses(what, x, ofBlock(wrong))
		l.stands(what, x, l.pageOf(byQuorum, 2))
		taken := []api.Message{ofBlock(b), ofBlock(parent)}
		l.takes("what is valid, behind "+what, x, taken...)
		l.refuses(what+", behind what is valid", x, ofBlock(wrong))
		l.stands(what+", behind what is valid", x, l.pageOf(byQuorum, 2, taken...))
	}
}

// TestHearBlockOfOtherConfig: P22.1, P10: what is valid hangs on the learner's config.
func TestHearBlockOfOtherConfig(t *testing.T) {
	four := labOf(t, 4, 2)
	b := four.child(four.first(1, 1), 1, 2)
	change := func(what string, want bool, f func(c *api.Config)) {
		l := labOf(t, 4, 2)
		l.c.Roots, l.c.Clients = slices.Clone(l.c.Roots), slices.Clone(l.c.Clients)
		f(&l.c)
		l.hears("a block by a config of "+what, l.new(byDelay, 1), l.octets(ofBlock(b)), want)
	}
	change("no change", true, func(c *api.Config) {})
	change("other patience", true, func(c *api.Config) { c.Base, c.Cap = -1, math.MaxInt })
	change("a higher quorum", false, func(c *api.Config) { c.Quorum = 3 })
	change("a lower quorum", false, func(c *api.Config) { c.Quorum = 1 })
	change("five replicas", true, func(c *api.Config) { c.Roots = append(c.Roots, "r") })
	change("another leader", false, func(c *api.Config) { c.Roots[1] = c.Roots[2] })
	change("fewer replicas", true, func(c *api.Config) { c.Roots = c.Roots[:2] })
	change("a replica, which another one leads", false, func(c *api.Config) { c.Roots, c.Quorum = c.Roots[:1], 1 })
	change("another voter", false, func(c *api.Config) { c.Roots[0] = "r" })
	change("another one that neither led nor voted", true, func(c *api.Config) { c.Roots[3] = "r" })
	change("no clients", false, func(c *api.Config) { c.Clients = nil })
	change("another client", false, func(c *api.Config) { c.Clients[2] = c.Clients[1] })
	change("another client, who does not pay", true, func(c *api.Config) { c.Clients[1] = "r" })
}

// TestHearAheadOfParents: P22.1: blocks are taken ahead of their parents; their chains are known when the last one of these is there.
func TestHearAheadOfParents(t *testing.T) {
	l := labOf(t, 2, 2)
	row := l.row(0, 1, 6)
	x := l.new(byQuorum, 2)
	var taken []api.Message
	for i := len(row) - 1; i >= 0; i-- {
		taken = append(taken, ofBlock(row[i]))
		l.takes("a block ahead of its parent", x, ofBlock(row[i]))
		l.stands(fmt.Sprintf("blocks down to Height %d", i+1), x, l.pageOf(byQuorum, 2, taken...))
		if _, ok := x.Chain(nameOf(row[5])); ok != (i == 0) || x.Blocks() != 6-i {
			t.Errorf("P22.1: of blocks down to Height %d: Chain is known: %v, Blocks = %d", i+1, ok, x.Blocks())
		}
	}
	if chain, _ := x.Chain(nameOf(row[5])); !slices.EqualFunc(chain, row, same) {
		t.Error("P22.1: Chain is not of all blocks as they came")
	}
}

// otherMessages are messages that bear neither blocks nor statements of the kinds that learners take.
func (l lab) otherMessages(m api.Mark) map[string]api.Message {
	blame := l.sign(4, api.Vote{Kind: blamed, View: m.View, Signer: 1})
	return map[string]api.Message{
		"a vote":                    ofVote(l.sign(4, about(voted, m, 1))),
		"a blame":                   ofVote(blame),
		"a cert":                    {Kind: aCert, Cert: l.cert(m)},
		"the first cert":            {Kind: aCert, Cert: cert.First()},
		"a cert of commit-votes":    {Kind: aCert, Cert: api.Cert{View: m.View, Height: m.Height, Block: m.Block, Votes: l.commits(m, 0, 1, 2)}},
		"blames":                    {Kind: blames, Blames: []api.Vote{blame, l.sign(4, api.Vote{Kind: blamed, View: m.View, Signer: 2})}},
		"no blames":                 {Kind: blames},
		"blames of commit-votes":    {Kind: blames, Blames: l.commits(m, 0, 1, 2, 3)},
		"blames of one commit-vote": {Kind: blames, Blames: l.commits(m, 1)},
		"blames of reports":         {Kind: blames, Blames: l.reports(m, 64, 0, 1, 2)},
		"an asked block":            {Kind: asked, Asked: m.Block},
		"a transaction":             {Kind: aTx, Tx: l.pay(1, 5)},
	}
}

// TestHearOtherMessages: P22.1: messages of other kinds, and statements of other kinds, are not taken, however valid.
func TestHearOtherMessages(t *testing.T) {
	l := labOf(t, 4, 3)
	b := l.first(0, 1)
	for _, kind := range []int{byQuorum, byDelay} {
		empty, full := l.new(kind, 3), l.new(kind, 3)
		taken := append([]api.Message{ofBlock(b)}, ofVotes(append(l.commits(markOf(b), 0, 1), l.reports(markOf(b), 16, 0, 1)...)...)...)
		l.takes("what counts", full, taken...)
		for what, m := range l.otherMessages(markOf(b)) {
			l.refuses(what, empty, m)
			l.refuses(what, full, m)
			l.stands(what, empty, l.pageOf(kind, 3))
			l.stands(what, full, l.pageOf(kind, 3, taken...))
		}
	}
}

// TestHearNoMessage: P22.1: octets that are no message's are not taken.
func TestHearNoMessage(t *testing.T) {
	l := labOf(t, 4, 1)
	b := l.first(0, 1)
	x := l.new(byQuorum, 1)
	for _, m := range []api.Message{ofBlock(b), ofVote(l.commit(markOf(b), 0)), ofVote(l.report(markOf(b), 4, 0))} {
		octets := l.octets(m)
		for i := range octets {
			l.hears(fmt.Sprintf("the first %d octets of %d", i, len(octets)), x, octets[:i], false)
			for _, bit := range []byte{1, 0x80, 0xff} {
				spoilt := slices.Clone(octets)
				spoilt[i] ^= bit
				l.hears(fmt.Sprintf("octets of which number %d is spoilt", i), x, spoilt, false)
			}
		}
		for _, more := range []string{"\x00", "x", "\x00\x00", string(octets)} {
			l.hears("octets with more behind", x, append(slices.Clone(octets), more...), false)
			l.hears("octets with more ahead", x, append([]byte(more), octets...), false)
		}
	}
	for _, s := range []string{"", "\x00", "\x00\x00\x00\x00\x00\x01", "\x00\x00\x00\x00\x00\x02", "\x00\x00\x00\x00\x00\x00", "\x00\x00\x00\x00\x00\x07", strings.Repeat("\x00", 500), strings.Repeat("\xff", 500), strings.Repeat("\x00", 1<<14), strings.Repeat("a", 1<<20)} {
		l.hears("octets", x, []byte(s), false)
	}
	l.hears("nil", x, nil, false)
	l.stands("octets that are no message's", x, l.pageOf(byQuorum, 1))
}

// TestHearStatement: P22.1: a statement of kind 2 or 3 that is valid and new is taken, whatever is known of its block, whatever the rule.
func TestHearStatement(t *testing.T) {
	l := labOf(t, 4, 3)
	marks := []api.Mark{{View: 3, Height: 2, Block: stranger}, {Block: zeros}, {View: 3, Height: 2, Block: zeros}, {View: maxView, Height: maxHeight, Block: stranger}}
	for _, kind := range []int{byQuorum, byDelay} {
		x := l.new(kind, 3)
		var taken []api.Message
		for _, m := range marks {
			votes := slices.Concat(l.commits(m, 0, 1, 2, 3), l.reports(m, 1, 0, 1, 2, 3), l.reports(m, 64, 0, 1), l.reports(m, 5, 2), l.reports(m, maxTicks, 3))
			for _, v := range votes {
				taken = append(taken, ofVote(v))
				l.takes("a statement", x, ofVote(v))
				l.refuses("a statement again", x, ofVote(v))
			}
			l.refuses("statements again", x, taken...)
			l.stands("statements", x, l.pageOf(kind, 3, taken...))
		}
	}
}

// TestHearStatementOfOtherSig: P22.1: new is of all fields but Sig: with another Sig that is valid it is not, and the first one stays.
func TestHearStatementOfOtherSig(t *testing.T) {
	l := labOf(t, 4, 3)
	m := api.Mark{View: 3, Height: 2, Block: stranger}
	for _, v := range []api.Vote{about(committed, m, 2), {Kind: reported, View: 3, Height: 2, Block: stranger, Ticks: 8, Signer: 1}} {
		for first := range leaves {
			x := l.new(byQuorum, 3)
			l.takes("a statement", x, ofVote(l.sign(first, v)))
			for leaf := range leaves {
				l.refuses(fmt.Sprintf("a statement signed with leaf %d, and then with %d", first, leaf), x, ofVote(l.sign(leaf, v)))
			}
			l.stands("a statement with other Sigs", x, l.pageOf(byQuorum, 3, ofVote(l.sign(first, v))))
		}
	}
}

// TestHearUnlikeStatement: P22.1: a statement that differs in one field alone is new.
func TestHearUnlikeStatement(t *testing.T) {
	l := labOf(t, 7, 5)
	commit := api.Vote{Kind: committed, View: 3, Height: 2, Block: stranger, Signer: 1}
	report := api.Vote{Kind: reported, View: 3, Height: 2, Block: stranger, Ticks: 8, Signer: 1}
	other := func(v api.Vote, change func(v *api.Vote)) api.Vote {
		change(&v)
		return v
	}
	all := []api.Vote{commit, report}
	for _, v := range []api.Vote{commit, report} {
		for _, n := range []int{0, 1, 4, 259, maxView} {
			all = append(all, other(v, func(v *api.Vote) { v.View = n }), other(v, func(v *api.Vote) { v.Height = n }))
		}
		for _, block := range []string{zeros, stranger[:31] + "u", "T" + stranger[1:]} {
			all = append(all, other(v, func(v *api.Vote) { v.Block = block }))
		}
		for _, signer := range []int{0, 2, 3, 4, 5, 6} {
			all = append(all, other(v, func(v *api.Vote) { v.Signer = signer }))
		}
	}
	for _, ticks := range []int{1, 7, 9, 16, 264, maxTicks} {
		all = append(all, other(report, func(v *api.Vote) { v.Ticks = ticks }))
	}
	for i := range all {
		all[i] = l.sign(i%leaves, all[i])
	}
	x, y := l.new(byQuorum, 5), l.new(byDelay, 5)
	for i, v := range all {
		l.takes(fmt.Sprintf("statement %d", i), x, ofVote(v))
		l.takes(fmt.Sprintf("statement %d from behind", i), y, ofVote(all[len(all)-1-i]))
	}
	l.stands("unlike statements", x, l.pageOf(byQuorum, 5, ofVotes(all...)...))
	l.stands("unlike statements from behind", y, l.pageOf(byDelay, 5, ofVotes(all...)...))
	l.refuses("unlike statements again", x, ofVotes(all...)...)
}

// TestHearWrongStatement: P22.1: a statement that is not valid is not taken, and does not stand in the way of one that is.
func TestHearWrongStatement(t *testing.T) {
	l := labOf(t, 4, 3)
	m := api.Mark{View: 3, Height: 2, Block: stranger}
	for _, v := range []api.Vote{l.commit(m, 2), l.report(m, 8, 2)} {
		unsigned := v
		unsigned.Sig = ""
		sig := func(s string) api.Vote {
			v := unsigned
			v.Sig = s
			return v
		}
		of := func(signer int) api.Vote {
			v := unsigned
			v.Signer = signer
			return v
		}
		later := unsigned
		later.Height = 3
		for what, wrong := range map[string]api.Vote{
			"no Sig":                          unsigned,
			"a Sig that is too short":         sig(v.Sig[:121]),
			"a Sig that is too long":          sig(v.Sig + "\x00"),
			"an octet of Sig changed":         sig(v.Sig[:121] + string([]byte{v.Sig[121] ^ 1})),
			"the Sig of another statement":    sig(l.sign(9, later).Sig),
			"the Sig of another replica":      l.signBy(1, 9, unsigned),
			"another Signer's Sig":            sig(l.sign(9, of(3)).Sig),
			"a Signer that has no root":       l.sign(9, of(4)),
			"the last Signer, without a root": l.sign(9, of(6)),
		} {
			x := l.new(byQuorum, 3)
			l.refuses(what, x, ofVote(wrong))
			l.stands(what, x, l.pageOf(byQuorum, 3))
			l.takes("what is valid, behind "+what, x, ofVote(v))
			l.refuses(what+", behind what is valid", x, ofVote(wrong))
			l.stands(what+", behind what is valid", x, l.pageOf(byQuorum, 3, ofVote(v)))
		}
	}
}

// TestHearBySigners: P22.1: a replica's statements are valid by its own root alone.
func TestHearBySigners(t *testing.T) {
	l := labOf(t, 4, 3)
	m := api.Mark{View: 3, Height: 2, Block: stranger}
	v := l.commit(m, 1)
	l.c.Roots = []string{l.c.Roots[0], l.c.Roots[2], l.c.Roots[1], l.c.Roots[3]}
	l.refuses("a statement of one whose root is another one's", l.new(byQuorum, 3), ofVote(v))
	l.takes("a statement by another one's key, whose root it has", l.new(byQuorum, 3), ofVote(l.signBy(2, 9, about(committed, m, 1))))
	x, err := learner.New(api.Config{Roots: l.c.Roots[:1], Quorum: 1}, api.Rule{Kind: byQuorum, N: 1})
	if err != api.OK {
		t.Fatalf("P22.1: New = %d", err)
	}
	l.refuses("a statement of one without a root", x, ofVote(v))
	l.takes("a statement of the only one", x, ofVote(l.commit(m, 0)))
}
