package block_test

import (
	"math"
	"slices"
	"strings"
	"sync"
	"testing"

	"moot/api"
	"moot/block"
	"moot/cert"
	"moot/pack"
	"moot/signer"
	"moot/tx"
	"moot/vote"
)

// rootOf is a key's root.
func rootOf(t *testing.T, k api.Key) string {
	t.Helper()
	root, err := signer.Root(k)
	if err != api.OK {
		t.Fatalf("signer.Root: %d", err)
	}
	return root
}

// config is that of so many replicas, and of all clients.
func config(t *testing.T, replicas int, quorum int) api.Config {
	t.Helper()
	c := api.Config{Quorum: quorum}
	for replica := range replicas {
		c.Roots = append(c.Roots, rootOf(t, vote.Key(replica)))
	}
	for client := range 4 {
		c.Clients = append(c.Clients, rootOf(t, tx.Key(client)))
	}
	return c
}

// signedBy is a block as the key of a replica signs it with that leaf.
func signedBy(t *testing.T, replica int, leaf int, b api.Block) api.Block {
	t.Helper()
	k := vote.Key(replica)
	k.Next = leaf
	one, _, err := block.Sign(k, b)
	if err != api.OK {
		t.Fatalf("P10.1: Sign of %.300v: %d", b, err)
	}
	return one
}

// paid is a transaction that its client signed.
func paid(t *testing.T, from int, nonce int) api.Tx {
	t.Helper()
	k := tx.Key(from)
	k.Next = nonce
	one, _, err := tx.Make(k, api.Tx{From: from, To: (from + 1) % 4, Amount: 10 + from, Nonce: nonce})
	if err != api.OK {
		t.Fatalf("tx.Make: %d", err)
	}
	return one
}

// voted is a cert about a block of these replicas' valid votes, in this order.
func voted(t *testing.T, m api.Mark, replicas ...int) api.Cert {
	t.Helper()
	c := api.Cert{View: m.View, Height: m.Height, Block: m.Block}
	for _, replica := range replicas {
		v, _, err := vote.Sign(vote.Key(replica), api.Vote{Kind: 1, View: m.View, Height: m.Height, Block: m.Block, Signer: replica})
		if err != api.OK {
			t.Fatalf("vote.Sign: %d", err)
		}
		c.Votes = append(c.Votes, v)
	}
	return c
}

// unsigned is a block of view 6, which replica 2 of four leads, with all that a valid one has but its Sig.
func unsigned(t *testing.T) api.Block {
	t.Helper()
	c := voted(t, api.Mark{View: 5, Height: 8, Block: parent}, 0, 1, 3)
	return api.Block{View: 6, Height: 9, Parent: parent, Justify: c, Txs: []api.Tx{paid(t, 0, 0), paid(t, 1, 0), paid(t, 0, 1), paid(t, 3, 2)}}
}

// valid is that block as its leader signs it.
func valid(t *testing.T) api.Block {
	t.Helper()
	return signedBy(t, 2, 0, unsigned(t))
}

// isValid says if Valid answers what is wanted.
func isValid(t *testing.T, what string, b api.Block, c api.Config, want bool) {
	t.Helper()
	ends(t, "Valid", func() {
		if got := block.Valid(b, c); got != want {
			t.Errorf("P10.1: Valid of %s = %v, want %v", what, got, want)
		}
	})
}

// sameKey says if two keys are, nil and empty leaves being one (P5).
func sameKey(a, b api.Key) bool {
	return a.Seed == b.Seed && slices.Equal(a.Leaves, b.Leaves) && a.Next == b.Next
}

func TestSign(t *testing.T) {
	k := vote.Key(3)
	root := rootOf(t, k)
	for leaf := range 16 {
		b := with(some(), func(b *api.Block) { b.View = 7 + leaf })
		want, _, _ := signer.Sign(k, []byte(sum(textOf(b))))
		one, used, err := block.Sign(k, b)
		if err != api.OK || one.Sig != want || !same(one, with(b, func(b *api.Block) { b.Sig = want })) {
			t.Errorf("P10.1: Sign with leaf %d = %.300v, %d", leaf, one, err)
		}
		if at, ok := signer.Verify(root, 4, []byte(sum(textOf(b))), one.Sig); !ok || at != leaf {
			t.Errorf("P10.1: Sign with leaf %d: signer.Verify = %d, %v", leaf, at, ok)
		}
		next := vote.Key(3)
		next.Next = leaf + 1
		if !sameKey(used, next) {
			t.Errorf("P10.1: Sign with leaf %d answers the key %v", leaf, used)
		}
		k = used
	}
	for range 2 {
		if one, used, err := block.Sign(k, some()); err != api.ErrFull || !same(one, api.Block{}) || !sameKey(used, api.Key{}) {
			t.Errorf("P10.1: Sign with no leaf left = %.300v, %v, %d, want zeros and ErrFull", one, used, err)
		}
	}
}

// A Sig that was there ahead, and keys of other heights, change nothing.
func TestSignOfAnySigAndHeight(t *testing.T) {
	for height := range 5 {
		k, _ := signer.New("any", height)
		a, _, err := block.Sign(k, some())
		b, _, again := block.Sign(k, with(some(), func(b *api.Block) { b.Sig = strings.Repeat("s", maxField) }))
		if err != api.OK || again != api.OK || !same(a, b) || len(a.Sig) != signer.Size(height) {
			t.Errorf("P10.1: Sign with a key of height %d = %.300v, %d", height, a, err)
		}
	}
	for _, right := range rights() {
		one, _, err := block.Sign(vote.Key(1), right)
		if err != api.OK || block.Name(one) != sum(textOf(right)) {
			t.Errorf("P10.1: Sign of %.300v: %d", right, err)
		}
	}
}

func TestSignErrors(t *testing.T) {
	none := func(what string, k api.Key, b api.Block, want api.Errno) {
		t.Helper()
		ends(t, "Sign", func() {
			if one, used, err := block.Sign(k, b); err != want || !same(one, api.Block{}) || !sameKey(used, api.Key{}) {
				t.Errorf("P10.1: Sign of %s = %.300v, %v, %d, want zeros and %d", what, one, used, err, want)
			}
		})
	}
	free, full, wrong := vote.Key(1), vote.Key(1), vote.Key(1)
	full.Next, wrong.Next = 16, 17
	keys := map[string]api.Key{"no key": {}, "a key beyond its leaves": wrong, "a key of three leaves": {Leaves: free.Leaves[:3]}, "a key below its leaves": {Leaves: free.Leaves, Next: -1}, "a seed too long": {Seed: strings.Repeat("s", 65), Leaves: free.Leaves}, "a short leaf": {Leaves: []string{"leaf"}}}
	for what, k := range keys {
		none(what, k, some(), api.ErrState)
		none(what+" and no block", k, api.Block{}, api.ErrState)
	}
	none("no leaf", full, some(), api.ErrFull)
	for what, b := range wrongs() {
		none(what, free, b, api.ErrState)
		// Check's error goes ahead of the signer's.
		none(what+" with no leaf", full, b, api.ErrState)
	}
}

func TestValid(t *testing.T) {
	c := config(t, 4, 3)
	isValid(t, "a valid block", valid(t), c, true)
	for leaf := range 16 {
		isValid(t, "a block signed with any leaf", signedBy(t, 2, leaf, unsigned(t)), c, true)
	}
	for count := range 5 {
		b := with(unsigned(t), func(b *api.Block) { b.Txs = b.Txs[:count] })
		isValid(t, "a block of so many transactions", signedBy(t, 2, 0, b), c, true)
	}
	edge := with(unsigned(t), func(b *api.Block) {
		b.View, b.Height = maxView, maxHeight
		b.Justify = voted(t, api.Mark{View: maxView, Height: maxHeight - 1, Block: parent}, 1, 2, 3)
	})
	isValid(t, "a block of the most", signedBy(t, 0, 0, edge), c, true)
}

func TestValidOfTheLeaderAlone(t *testing.T) {
	for replicas := 1; replicas <= 7; replicas++ {
		c := config(t, replicas, 1)
		for view := 3; view < 11; view++ {
			b := api.Block{View: view, Height: 1, Parent: zeros, Justify: cert.First(), Txs: []api.Tx{paid(t, 1, 0)}}
			for replica := range 7 {
				isValid(t, "a block of view "+low(view, 1)+" by replica "+low(replica, 1), signedBy(t, replica, 5, b), c, replica == view%replicas)
			}
		}
	}
}

func TestValidOfAnotherSig(t *testing.T) {
	c := config(t, 4, 3)
	b := valid(t)
	for place := range len(b.Sig) {
		isValid(t, "a Sig with an octet changed", with(b, func(b *api.Block) {
			sig := []byte(b.Sig)
			sig[place] ^= 1
			b.Sig = string(sig)
		}), c, false)
	}
	for _, sig := range []string{"", b.Sig[1:], b.Sig[:121], b.Sig + "\x00", b.Justify.Votes[0].Sig, b.Txs[0].Sig, strings.Repeat("\x00", 122), strings.Repeat("s", maxField)} {
		isValid(t, "another Sig", with(b, func(b *api.Block) { b.Sig = sig }), c, false)
	}
	// What is signed is the name, not the text, nor nothing.
	for _, text := range []string{textOf(b), "", octetsOf(b), "block", sum(textOf(b))[:31]} {
		sig, _, _ := signer.Sign(vote.Key(2), []byte(text))
		isValid(t, "a Sig of another text", with(b, func(b *api.Block) { b.Sig = sig }), c, false)
	}
	sig, _, _ := signer.Sign(vote.Key(2), []byte(sum(textOf(b))))
	isValid(t, "a Sig of the name", with(b, func(b *api.Block) { b.Sig = sig }), c, true)
	// What is named is signed: nothing of it may be another.
	for what, change := range map[string]func(b *api.Block){
		"View": func(b *api.Block) { b.View += 4 },
		"Height": func(b *api.Block) {
			b.Height = 10
			b.Justify = voted(t, api.Mark{View: 5, Height: 9, Block: parent}, 0, 1, 3)
		},
		"Parent": func(b *api.Block) {
			b.Parent = zeros
			b.Justify = voted(t, api.Mark{View: 5, Height: 8, Block: zeros}, 0, 1, 3)
		},
		"Justify's View":   func(b *api.Block) { b.Justify = voted(t, api.Mark{View: 4, Height: 8, Block: parent}, 0, 1, 3) },
		"Txs":              func(b *api.Block) { b.Txs = b.Txs[:3] },
		"the order of Txs": func(b *api.Block) { slices.Reverse(b.Txs) },
	} {
		other := with(b, change)
		isValid(t, "another "+what+", not signed again", other, c, false)
		isValid(t, "another "+what+", signed again", signedBy(t, other.View%4, 0, other), c, true)
	}
	// What is not named may be, as long as it is right.
	isValid(t, "another quorum's Justify", with(b, func(b *api.Block) { b.Justify = voted(t, cert.Mark(b.Justify), 1, 2, 3) }), c, true)
}

func TestValidOfOtherRoots(t *testing.T) {
	b := valid(t)
	c := config(t, 4, 3)
	roots := func(l ...string) api.Config {
		other := c
		other.Roots = l
		return other
	}
	for _, root := range []string{"", c.Roots[0], c.Roots[2][:7], c.Roots[2] + "\x00", "12345678", rootOf(t, vote.Key(6)), rootOf(t, tx.Key(2))} {
		isValid(t, "a block by another root", b, roots(c.Roots[0], c.Roots[1], root, c.Roots[3]), false)
	}
	// Fewer roots: the leader's is not there, or another one leads.
	for count := range 4 {
		isValid(t, "a block with fewer roots", b, roots(c.Roots[:count]...), false)
	}
	isValid(t, "a block with no roots", b, roots(), false)
	isValid(t, "a block of no config", b, api.Config{}, false)
	isValid(t, "a block with more roots", b, config(t, 5, 3), false)
	isValid(t, "a block with far more roots", b, roots(append(slices.Clone(c.Roots), make([]string, 300)...)...), false)

	low := with(unsigned(t), func(b *api.Block) { b.View, b.Justify, b.Parent, b.Height = 2, cert.First(), zeros, 1 })
	low = signedBy(t, 2, 0, low)
	isValid(t, "a block of view 2", low, c, true)
	for count := range 4 {
		isValid(t, "a block with roots up to its leader's", low, roots(c.Roots[:count]...), count == 3)
	}
	isValid(t, "a block with no other root", low, roots("", "", c.Roots[2]), true)
}

func TestValidOfAJustifyThatIsNotRight(t *testing.T) {
	c := config(t, 4, 3)
	m := api.Mark{View: 5, Height: 8, Block: parent}
	// Votes are not named, so the Sig stands in all of these.
	justified := func(what string, change func(x *api.Cert), want bool) {
		t.Helper()
		isValid(t, "a Justify with "+what, with(valid(t), func(b *api.Block) { change(&b.Justify) }), c, want)
	}
	justified("a quorum", func(x *api.Cert) { *x = voted(t, m, 0, 2, 3) }, true)
	justified("one vote fewer", func(x *api.Cert) { x.Votes = x.Votes[:2] }, false)
	justified("one vote more", func(x *api.Cert) { *x = voted(t, m, 0, 1, 2, 3) }, false)
	justified("no votes", func(x *api.Cert) { x.Votes = nil }, false)
	justified("votes that fall", func(x *api.Cert) { slices.Reverse(x.Votes) }, false)
	justified("a vote twice", func(x *api.Cert) { x.Votes[1] = x.Votes[0] }, false)
	justified("a vote of nobody", func(x *api.Cert) { *x = voted(t, m, 0, 1, 4) }, false)
	for at := range 3 {
		justified("a vote that is not signed", func(x *api.Cert) { x.Votes[at].Sig = "" }, false)
		justified("a vote of another's Sig", func(x *api.Cert) { x.Votes[at].Sig = x.Votes[(at+1)%3].Sig }, false)
		justified("a commit-vote", func(x *api.Cert) {
			v := x.Votes[at]
			v.Kind = 2
			x.Votes[at], _, _ = vote.Sign(vote.Key(v.Signer), v)
		}, false)
		justified("a vote for another block", func(x *api.Cert) {
			v := x.Votes[at]
			v.Block = zeros
			x.Votes[at], _, _ = vote.Sign(vote.Key(v.Signer), v)
		}, false)
		justified("a zero vote", func(x *api.Cert) { x.Votes[at] = api.Vote{} }, false)
	}
	for _, quorum := range []int{math.MinInt, -3, -1, 0, 1, 2, 3, 4, 1<<32 + 3, math.MaxInt} {
		other := c
		other.Quorum = quorum
		isValid(t, "a Justify of another quorum", valid(t), other, quorum == 3)
		isValid(t, "a Justify of another quorum, without votes", with(valid(t), func(b *api.Block) { b.Justify.Votes = nil }), other, false)
	}
}

func TestValidOfTheFirstBlocksChild(t *testing.T) {
	b := api.Block{View: 1, Height: 1, Parent: block.Genesis(), Justify: cert.First()}
	b = signedBy(t, 1, 0, b)
	c := config(t, 4, 3)
	isValid(t, "the first block's child", b, c, true)
	// The first cert is right of any quorum, but nobody leads where there are no replicas.
	for _, quorum := range []int{math.MinInt, -1, 0, 1, 4, 7, math.MaxInt} {
		other := c
		other.Quorum = quorum
		isValid(t, "the first block's child, of any quorum", b, other, true)
		other.Roots = nil
		isValid(t, "the first block's child, of no replicas", b, other, false)
	}
	isValid(t, "the first block's child with no clients", b, api.Config{Roots: c.Roots}, true)
	voters := with(b, func(b *api.Block) { b.Justify = voted(t, cert.Mark(cert.First()), 0, 1, 2) })
	isValid(t, "the first block's child with votes", voters, c, true)
	isValid(t, "the first block's child with a vote less", with(voters, func(b *api.Block) { b.Justify.Votes = b.Justify.Votes[1:] }), c, false)
	later := with(b, func(b *api.Block) { b.Justify.View = 1 })
	isValid(t, "the first block's child of a later cert without votes", signedBy(t, 1, 0, later), c, false)
}

func TestValidOfATransactionThatIsNot(t *testing.T) {
	c := config(t, 4, 3)
	for place := range 4 {
		for what, change := range map[string]func(t *api.Tx){
			"no Sig":         func(t *api.Tx) { t.Sig = "" },
			"another Amount": func(t *api.Tx) { t.Amount++ },
			"another To":     func(t *api.Tx) { t.To = (t.From + 2) % 4 },
			"another From":   func(t *api.Tx) { t.From = (t.From + 3) % 4 },
			"another Nonce":  func(t *api.Tx) { t.Nonce++ },
			"a long Sig":     func(t *api.Tx) { t.Sig += "s" },
		} {
			b := with(unsigned(t), func(b *api.Block) { change(&b.Txs[place]) })
			if block.Check(b) != api.OK {
				t.Fatalf("a transaction with %s may not be: %v", what, b.Txs[place])
			}
			isValid(t, "a transaction with "+what, signedBy(t, 2, 0, b), c, false)
		}
	}
	b := valid(t)
	for client := range 4 {
		other := c
		other.Clients = slices.Clone(c.Clients)
		other.Clients[client] = rootOf(t, tx.Key((client+1)%4))
		// Client 2 has none in it.
		isValid(t, "a transaction by another root", b, other, client == 2)
		other.Clients[client] = ""
		isValid(t, "a transaction by no root", b, other, client == 2)
		other.Clients = c.Clients[:client]
		isValid(t, "a transaction whose client has no root", b, other, false)
	}
	b = signedBy(t, 2, 0, with(unsigned(t), func(b *api.Block) { b.Txs = b.Txs[:3] }))
	for count := range 4 {
		other := c
		other.Clients = c.Clients[:count]
		isValid(t, "transactions with roots up to their clients'", b, other, count >= 2)
	}
}

// A block that may not be is not valid, whatever its leader signed.
func TestValidOfWhatMayNotBe(t *testing.T) {
	for what, wrong := range wrongs() {
		for _, quorum := range []int{0, 2} {
			c := config(t, 4, quorum)
			isValid(t, what, wrong, c, false)
			for _, text := range []string{"", sum(""), textOf(wrong), sum(textOf(wrong))} {
				sig, _, _ := signer.Sign(vote.Key(max(0, wrong.View)%4), []byte(text))
				isValid(t, what+", signed", with(wrong, func(b *api.Block) { b.Sig = sig }), c, false)
			}
		}
	}
	// All else is right: five transactions, a Justify above, a Sig too long.
	c := config(t, 4, 3)
	five := with(unsigned(t), func(b *api.Block) { b.Txs = append(b.Txs, paid(t, 2, 0)) })
	above := with(unsigned(t), func(b *api.Block) { b.Justify = voted(t, api.Mark{View: 7, Height: 8, Block: parent}, 0, 1, 3) })
	beside := with(unsigned(t), func(b *api.Block) { b.Justify = voted(t, api.Mark{View: 5, Height: 8, Block: zeros}, 0, 1, 3) })
	for _, b := range []api.Block{five, above, beside} {
		for _, text := range []string{sum(textOf(b)), sum(""), ""} {
			sig, _, _ := signer.Sign(vote.Key(2), []byte(text))
			isValid(t, "what may not be, all else being right", with(b, func(b *api.Block) { b.Sig = sig }), c, false)
		}
	}
}

// Sign, Valid, Check, Text, Name, Mark and Put change nothing that was handed in.
func TestArgumentsStay(t *testing.T) {
	c := config(t, 4, 3)
	wasRoots, wasClients := slices.Clone(c.Roots), slices.Clone(c.Clients)
	k := vote.Key(2)
	wasKey := vote.Key(2)
	for _, b := range []api.Block{valid(t), some(), behind(5), {}} {
		was := copied(b)
		block.Check(b)
		block.Text(b)
		block.Name(b)
		block.Mark(b)
		block.Sign(k, b)
		block.Valid(b, c)
		block.Put(pack.New(), b)
		if !same(b, was) || !sameKey(k, wasKey) || !slices.Equal(c.Roots, wasRoots) || !slices.Equal(c.Clients, wasClients) {
			t.Errorf("P10.2: what was handed in was changed: %.300v", b)
		}
	}
}

// A change of what was handed in, or told, changes nothing that was told ahead.
func TestAnswersAreNew(t *testing.T) {
	k, b := vote.Key(2), unsigned(t)
	// Lists with room behind them, which an answer that shares them would write to.
	b.Txs, b.Justify.Votes = slices.Grow(b.Txs, 9), slices.Grow(b.Justify.Votes, 9)
	one, used, _ := block.Sign(k, b)
	two, again, _ := block.Sign(k, b)
	was, wasUsed := copied(two), again
	wasUsed.Leaves = slices.Clone(again.Leaves)
	text := block.Text(b)
	wasText := string(text)

	one.Txs[0].Amount, one.Justify.Votes[0].Signer, used.Leaves[0] = 999, 6, "12345678"
	_ = append(one.Txs, pay(9))
	_ = append(one.Justify.Votes, api.Vote{Kind: 9})
	if !same(two, was) || !sameKey(again, wasUsed) || b.Txs[0].Amount == 999 || b.Justify.Votes[0].Signer == 6 || b.Txs[:5][4] != (api.Tx{}) || b.Justify.Votes[:4][3] != (api.Vote{}) {
		t.Errorf("P10.2: an answer of Sign shares its lists: %.300v", two)
	}
	b.Txs[1].Amount, b.Justify.Votes[1].Signer, k.Leaves[1] = 998, 5, "87654321"
	if !same(two, was) || !sameKey(again, wasUsed) {
		t.Errorf("P10.2: an answer of Sign hangs on what was handed in: %.300v", two)
	}
	if string(text) != wasText {
		t.Error("P10.2: an answer of Text hangs on what was handed in")
	}
	text[0] ^= 1
	if b := unsigned(t); string(block.Text(b)) != textOf(b) {
		t.Error("P10.2: an answer of Text is kept")
	}
}

func TestAnswersHangOnArgumentsAlone(t *testing.T) {
	c, b, k := config(t, 4, 3), unsigned(t), vote.Key(2)
	signed := valid(t)
	var group sync.WaitGroup
	for range 8 {
		group.Go(func() {
			for range 10 {
				one, _, err := block.Sign(k, b)
				if err != api.OK || !same(one, signed) || !block.Valid(one, c) || block.Valid(b, c) || block.Name(b) != sum(textOf(b)) {
					t.Error("P3: Sign, Valid or Name has another answer beside other calls")
					return
				}
			}
		})
	}
	group.Wait()
}
