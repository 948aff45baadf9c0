package message_test

import (
	"encoding/hex"
	"math/rand"
	"slices"
	"strings"
	"testing"

	"moot/api"
	"moot/message"
)

// low is n in so many octets, the highest first; a number that has no room there is spelt as octets 255.
func low(n int, size int) string {
	if n < 0 || n >= 1<<(8*size) {
		return strings.Repeat("\xff", size)
	}
	var b []byte
	for i := size - 1; i >= 0; i-- {
		b = append(b, byte(uint64(n)>>(8*i)))
	}
	return string(b)
}

// field is a text's octets.
func field(s string) string {
	return low(len(s), 2) + s
}

// voteOctets are the octets that a statement has to have.
func voteOctets(v api.Vote) string {
	return field("vote") + low(v.Kind, 6) + low(v.View, 6) + low(v.Height, 6) + field(v.Block) + low(v.Ticks, 6) + low(v.Signer, 6) + field(v.Sig)
}

// listOctets are those of how many statements there are, and of each.
func listOctets(l []api.Vote) string {
	told := low(len(l), 6)
	for _, v := range l {
		told += voteOctets(v)
	}
	return told
}

// certOctets are the octets that a cert has to have.
func certOctets(c api.Cert) string {
	return low(c.View, 6) + low(c.Height, 6) + field(c.Block) + listOctets(c.Votes)
}

// txOctets are the octets that a transaction has to have.
func txOctets(t api.Tx) string {
	return field("tx") + low(t.From, 6) + low(t.To, 6) + low(t.Amount, 6) + low(t.Nonce, 6) + field(t.Sig)
}

// blockOctets are the octets that a block has to have.
func blockOctets(b api.Block) string {
	told := field("block") + low(b.View, 6) + low(b.Height, 6) + field(b.Parent) + low(b.Justify.View, 6) + low(len(b.Txs), 6)
	for _, t := range b.Txs {
		told += txOctets(t)
	}
	return told + certOctets(b.Justify) + field(b.Sig)
}

// octetsOf are the octets that a message has to have, whether or not it may be.
func octetsOf(m api.Message) string {
	kind := low(m.Kind, 6)
	switch m.Kind {
	case 1:
		return kind + blockOctets(m.Block)
	case 2:
		return kind + voteOctets(m.Vote)
	case 3:
		return kind + certOctets(m.Cert)
	case 4:
		return kind + listOctets(m.Blames)
	case 5:
		return kind + field(m.Asked)
	case 6:
		return kind + txOctets(m.Tx)
	}
	return kind
}

// unhex is the text that these digits tell.
func unhex(t *testing.T, s string) string {
	t.Helper()
	b, err := hex.DecodeString(s)
	if err != nil {
		t.Fatal(err)
	}
	return string(b)
}

// puts says if Put tells these octets.
func puts(t *testing.T, what string, m api.Message, want string) {
	t.Helper()
	ends(t, "Put", func() {
		if b, err := message.Put(m); string(b) != want || err != api.OK {
			t.Errorf("P11.1: Put of %s, %.300v = %.300x, %d, want %.300x", what, m, b, err, want)
		}
	})
}

// reads says if these octets are read as this message.
func reads(t *testing.T, what string, octets string, want api.Message) {
	t.Helper()
	ends(t, "Read", func() {
		if m, err := message.Read([]byte(octets)); !equal(m, want) || err != api.OK {
			t.Errorf("P11.1: Read of %s, %.300x = %.300v, %d, want %.300v", what, octets, m, err, want)
		}
	})
}

// isNone says if these octets are no message's.
func isNone(t *testing.T, what string, octets string) {
	t.Helper()
	ends(t, "Read", func() {
		if m, err := message.Read([]byte(octets)); !equal(m, api.Message{}) || err != api.ErrSyntax {
			t.Errorf("P11.1: Read of %s, %.300x = %.300v, %d, want zero and ErrSyntax", what, octets, m, err)
		}
	})
}

// The chapter's example.
func TestAnAskedBlock(t *testing.T) {
	spelt := "000000000005" + "0020" + strings.Repeat("00", 32)
	m := api.Message{Kind: 5, Asked: zeros}
	puts(t, "an asked block", m, unhex(t, spelt))
	reads(t, "an asked block", unhex(t, spelt), m)
}

func TestPutOctetByOctet(t *testing.T) {
	name := strings.Repeat("ab", 32)
	voted := "0004766f7465" + "000000000001" + "000000000709" + "000000040505" + "0020" + name + "000000000000" + "000000000005" + "000176"
	held := "0004766f7465" + "000000000003" + "000000010000" + "000000000100" + "0020" + name + "000000000102" + "000000000006" + "0003736967"
	blamed := "0004766f7465" + "000000000004" + "000000010203" + "000000000000" + "0000" + "000000000000" + "000000000002" + "0000"
	cert := "000000000709" + "000000040505" + "0020" + name + "000000000001" + voted
	tx := "00027478" + "000000000003" + "000000000002" + "0000000003e8" + "010000000000" + "0003616263"
	block := "0005626c6f636b" + "000000010203" + "000000040506" + "0020" + name + "000000000709" + "000000000001" + tx + cert + "0003736967"

	about := unhex(t, name)
	v := api.Vote{Kind: 1, View: 0x0709, Height: 0x040505, Block: about, Signer: 5, Sig: "v"}
	h := api.Vote{Kind: 3, View: 0x010000, Height: 0x0100, Block: about, Ticks: 0x0102, Signer: 6, Sig: "sig"}
	b := api.Vote{Kind: 4, View: 0x010203, Signer: 2}
	c := api.Cert{View: 0x0709, Height: 0x040505, Block: about, Votes: []api.Vote{v}}
	x := api.Tx{From: 3, To: 2, Amount: 1000, Nonce: maxAmount, Sig: "abc"}
	next := api.Block{View: 0x010203, Height: 0x040506, Parent: about, Justify: c, Txs: []api.Tx{x}, Sig: "sig"}
	spelt := []struct {
		what   string
		m      api.Message
		digits string
	}{
		{"a block", api.Message{Kind: 1, Block: next}, "000000000001" + block},
		{"a report", api.Message{Kind: 2, Vote: h}, "000000000002" + held},
		{"a blame", api.Message{Kind: 2, Vote: b}, "000000000002" + blamed},
		{"a cert", api.Message{Kind: 3, Cert: c}, "000000000003" + cert},
		{"the first cert", api.Message{Kind: 3, Cert: api.Cert{Block: zeros}}, "000000000003" + "000000000000" + "000000000000" + "0020" + strings.Repeat("00", 32) + "000000000000"},
		{"no blames", api.Message{Kind: 4}, "000000000004" + "000000000000"},
		{"a blame of a list", api.Message{Kind: 4, Blames: []api.Vote{b}}, "000000000004" + "000000000001" + blamed},
		{"three blames", api.Message{Kind: 4, Blames: []api.Vote{b, h, v}}, "000000000004" + "000000000003" + blamed + held + voted},
		{"an asked block", api.Message{Kind: 5, Asked: about}, "000000000005" + "0020" + name},
		{"a transaction", api.Message{Kind: 6, Tx: x}, "000000000006" + tx},
	}
	for _, one := range spelt {
		puts(t, one.what, one.m, unhex(t, one.digits))
		reads(t, one.what, unhex(t, one.digits), one.m)
	}
}

func TestMessagesComeBack(t *testing.T) {
	for _, m := range rights() {
		if len(octetsOf(m)) > maxOctets {
			t.Fatalf("of %d octets", len(octetsOf(m)))
		}
		puts(t, "what may be", m, octetsOf(m))
		reads(t, "what was put", octetsOf(m), m)
		b, _ := message.Put(m)
		if back, err := message.Read(b); !message.Same(back, m) || !equal(back, m) || err != api.OK {
			t.Errorf("P11.2: %.300v comes back as %.300v, %d", m, back, err)
		}
	}
}

// long are messages that may be, whose octets are as many as asked for, of each kind that can have so many.
func long(size int) []api.Message {
	full := sized(maxField)
	l := []api.Message{
		of(3, func(m *api.Message) { m.Cert.Votes = ofVotes(5) }),
		of(4, func(m *api.Message) { m.Blames = ofVotes(7) }),
		of(1, func(m *api.Message) { m.Block.Txs = slices.Repeat([]api.Tx{pay(1)}, 4) }),
		of(1, func(m *api.Message) { m.Block.Justify.Votes = ofVotes(7) }),
	}
	// Each of a list with room for the longest Sigs: filled one by one, till the size is met.
	sigs := []func(m *api.Message, place int) *string{
		func(m *api.Message, place int) *string { return &m.Cert.Votes[place].Sig },
		func(m *api.Message, place int) *string { return &m.Blames[place].Sig },
		func(m *api.Message, place int) *string { return &m.Block.Txs[place].Sig },
		func(m *api.Message, place int) *string { return &m.Block.Justify.Votes[place].Sig },
	}
	for i := range l {
		l[i].Block.Sig = sized(122 * (1 - l[i].Kind/3))
		for place := range 4 {
			sig := sigs[i](&l[i], place)
			*sig = ""
			*sig = full[:max(0, min(maxField, size-len(octetsOf(l[i]))))]
		}
	}
	return l
}

func TestPutOfTooManyOctets(t *testing.T) {
	for _, size := range []int{maxOctets - 1, maxOctets} {
		for _, m := range long(size) {
			if len(octetsOf(m)) != size {
				t.Fatalf("of %d octets, not %d", len(octetsOf(m)), size)
			}
			checks(t, "a long message", m, api.OK)
			puts(t, "a long message", m, octetsOf(m))
			reads(t, "a long message", octetsOf(m), m)
		}
	}
	for _, size := range []int{maxOctets + 1, maxOctets + 2, maxOctets + 100} {
		for _, m := range long(size) {
			tooLong(t, m, size)
		}
	}
	for _, m := range []api.Message{of(3, func(m *api.Message) { m.Cert.Votes = ofVotes(7) }), of(4, func(m *api.Message) { m.Blames = ofVotes(7) }), of(1, func(m *api.Message) { m.Block.Justify.Votes = ofVotes(7) })} {
		for _, l := range [][]api.Vote{m.Cert.Votes, m.Blames, m.Block.Justify.Votes} {
			for i := range l {
				l[i].Sig = sized(maxField)
			}
		}
		tooLong(t, m, len(octetsOf(m)))
	}
}

// tooLong says if a message may be, but has too many octets to be put, or read.
func tooLong(t *testing.T, m api.Message, size int) {
	t.Helper()
	if len(octetsOf(m)) != size || size <= maxOctets {
		t.Fatalf("of %d octets, not %d", len(octetsOf(m)), size)
	}
	checks(t, "a message too long", m, api.OK)
	if b, err := message.Put(m); len(b) != 0 || err != api.ErrLong {
		t.Errorf("P11.1: Put of a message of %d octets = %.100x, %d, want nothing and ErrLong", size, b, err)
	}
	isNone(t, "octets of a message too long", octetsOf(m))
}

// A message that may not be is ErrState ahead of its octets being too many.
func TestPutTellsWhatMayNotBeFirst(t *testing.T) {
	for _, m := range long(maxOctets + 9) {
		checks(t, "a message too long, with an Asked", with(m, func(m *api.Message) { m.Asked = parent }), api.ErrState)
		checks(t, "a message too long, with an Amount", with(m, func(m *api.Message) { m.Tx.Amount = 1 }), api.ErrState)
	}
	checks(t, "far too many blames", api.Message{Kind: 4, Blames: slices.Repeat([]api.Vote{blame(1)}, 1<<16)}, api.ErrState)
}

func TestReadOfOtherOctets(t *testing.T) {
	for kind := 1; kind <= 6; kind++ {
		whole := octetsOf(some(kind))
		for size := range len(whole) {
			isNone(t, "a beginning", whole[:size])
		}
		for _, more := range []string{"\x00", "x", "\xff", low(0, 6), low(1, 6), whole, octetsOf(some(7 - kind)), sized(maxOctets)} {
			isNone(t, "octets with more behind", whole+more)
			isNone(t, "octets with more ahead", more+whole)
		}
		isNone(t, "all but the first octet", whole[1:])
	}
	for _, b := range [][]byte{nil, {}} {
		if m, err := message.Read(b); !equal(m, api.Message{}) || err != api.ErrSyntax {
			t.Errorf("P11.1: Read of no octets = %v, %d", m, err)
		}
	}
	for size := range 200 {
		isNone(t, "octets 0", string(make([]byte, size)))
		isNone(t, "octets 255", strings.Repeat("\xff", size))
	}
	isNone(t, "many octets 0", string(make([]byte, 1<<20)))
}

func TestReadOfAnotherKind(t *testing.T) {
	for kind := 1; kind <= 6; kind++ {
		rest := octetsOf(some(kind))[6:]
		for _, other := range append(noKinds(), 1, 2, 3, 4, 5, 6) {
			told := low(other, 6)
			if told != low(kind, 6) {
				isNone(t, "another kind", told+rest)
				isNone(t, "another kind, and its own", told+octetsOf(some(kind)))
			}
		}
	}
	for _, kind := range noKinds() {
		isNone(t, "no kind alone", low(kind, 6))
	}
	for kind := 1; kind <= 6; kind++ {
		isNone(t, "a kind alone", low(kind, 6))
	}
}

// What may not be has no octets that are taken, though they can be spelt.
func TestReadOfWhatMayNotBe(t *testing.T) {
	for _, m := range wrongs() {
		isNone(t, "what may not be", octetsOf(m))
	}
}

func TestReadBeyondTheMost(t *testing.T) {
	numbers := []struct {
		what string
		most int
		m    func(n int) api.Message
	}{
		{"a cert's View", maxView, func(n int) api.Message { return of(3, func(m *api.Message) { m.Cert.View = n }) }},
		{"a cert's Height", maxHeight, func(n int) api.Message { return of(3, func(m *api.Message) { m.Cert.Height = n }) }},
		{"a statement's View", maxView, func(n int) api.Message { return of(2, func(m *api.Message) { m.Vote.View = n }) }},
		{"a statement's Height", maxHeight, func(n int) api.Message { return of(2, func(m *api.Message) { m.Vote.Height = n }) }},
		{"a statement's Ticks", maxTicks, func(n int) api.Message { return of(2, func(m *api.Message) { m.Vote.Ticks = n }) }},
		{"a statement's Signer", 6, func(n int) api.Message { return of(2, func(m *api.Message) { m.Vote.Signer = n }) }},
		{"a blame's View", maxView, func(n int) api.Message { return of(4, func(m *api.Message) { m.Blames[1].View = n }) }},
		{"a block's View", maxView, func(n int) api.Message { return of(1, func(m *api.Message) { m.Block.View = n }) }},
		{"a block's Height", maxHeight, func(n int) api.Message {
			return of(1, func(m *api.Message) { m.Block.Height, m.Block.Justify.Height = n, n-1 })
		}},
		{"Justify's View", maxView, func(n int) api.Message {
			return of(1, func(m *api.Message) { m.Block.View, m.Block.Justify.View = n, n })
		}},
		{"a transaction's From", 3, func(n int) api.Message { return of(6, func(m *api.Message) { m.Tx.From, m.Tx.To = n, 0 }) }},
		{"a transaction's To", 3, func(n int) api.Message { return of(6, func(m *api.Message) { m.Tx.To, m.Tx.From = n, 0 }) }},
		{"a transaction's Amount", 1000, func(n int) api.Message { return of(6, func(m *api.Message) { m.Tx.Amount = n }) }},
		{"a transaction's Nonce", maxAmount, func(n int) api.Message { return of(6, func(m *api.Message) { m.Tx.Nonce = n }) }},
	}
	for _, one := range numbers {
		for _, n := range []int{one.most - 1, one.most} {
			reads(t, one.what+" at its most", octetsOf(one.m(n)), one.m(n))
		}
		for _, n := range []int{one.most + 1, one.most + 2, one.most + 1<<32, maxAmount + 1, 1<<48 - 1} {
			isNone(t, one.what+" beyond its most", octetsOf(one.m(n)))
		}
	}
}

// Told are more or fewer votes, blames and transactions than there are.
func TestReadOfAnotherCount(t *testing.T) {
	name := field(parent)
	heads := map[string]string{
		"votes":        low(3, 6) + low(6, 6) + low(8, 6) + name,
		"blames":       low(4, 6),
		"transactions": low(1, 6) + field("block") + low(7, 6) + low(9, 6) + name + low(6, 6),
	}
	rests := map[string]string{"votes": voteOctets(by(1)) + voteOctets(by(2)), "blames": voteOctets(blame(1)) + voteOctets(blame(2)), "transactions": txOctets(pay(0)) + txOctets(pay(1))}
	behinds := map[string]string{"transactions": certOctets(behind().Justify) + field("a block's")}
	for what, head := range heads {
		for _, n := range []int{0, 1, 2, 3, 7, 8, 9, 255, 258, 1<<32 + 2, maxAmount, maxAmount + 1, 1<<48 - 1} {
			octets := head + low(n, 6) + rests[what] + behinds[what]
			if m, err := message.Read([]byte(octets)); (err == api.OK) != (n == 2) || err == api.OK && octetsOf(m) != octets || err != api.OK && (err != api.ErrSyntax || !equal(m, api.Message{})) {
				t.Errorf("P11.1: Read of 2 %s, told to be %d = %.300v, %d", what, n, m, err)
			}
		}
	}
	for count := range 12 {
		l := ofVotes(count)
		for _, m := range []api.Message{of(3, func(m *api.Message) { m.Cert.Votes = l }), of(4, func(m *api.Message) { m.Blames = l }), of(1, func(m *api.Message) { m.Block.Justify.Votes = l })} {
			if count > 7 {
				isNone(t, "more statements than there may be", octetsOf(m))
			} else {
				reads(t, "so many statements", octetsOf(m), m)
			}
		}
	}
}

func TestReadOfOtherWords(t *testing.T) {
	for kind, words := range map[int][]string{1: {"block", "vote", "tx"}, 2: {"vote"}, 3: {"vote"}, 4: {"vote"}, 6: {"tx"}} {
		whole := octetsOf(some(kind))
		for _, word := range words {
			for _, other := range []string{"", word[1:], word + "s", strings.ToUpper(word), "text"} {
				first := strings.Replace(whole, field(word), field(other), 1)
				last := strings.LastIndex(whole, field(word))
				isNone(t, "another word", first)
				isNone(t, "another last word", whole[:last]+field(other)+whole[last+len(field(word)):])
			}
		}
	}
	// Justify's View stands twice in a block's octets.
	for _, n := range []int{0, 5, 7, maxView, maxView + 1} {
		whole := octetsOf(some(1))
		place := len(low(1, 6) + field("block") + low(7, 6) + low(9, 6) + field(parent))
		isNone(t, "two Views of Justify", whole[:place]+low(n, 6)+whole[place+6:])
	}
}

// Octets that are taken are told again, whatever was changed of octets that are a message's.
func TestOctetsComeBack(t *testing.T) {
	r := rand.New(rand.NewSource(11))
	taken := 0
	for range 60000 {
		b := []byte(octetsOf(some(1 + r.Intn(6))))
		for range 1 + r.Intn(3) {
			b[r.Intn(len(b))] = byte([]int{r.Intn(256), r.Intn(8)}[r.Intn(2)])
		}
		b = b[:len(b)-r.Intn(2)*r.Intn(2)*r.Intn(len(b))]
		ends(t, "Read", func() {
			m, err := message.Read(b)
			if err != api.OK {
				if err != api.ErrSyntax || !equal(m, api.Message{}) {
					t.Errorf("P11.1: Read of %x = %v, %d", b, m, err)
				}
				return
			}
			taken++
			told, err := message.Put(m)
			if string(told) != string(b) || err != api.OK || octetsOf(m) != string(b) || message.Check(m) != api.OK {
				t.Errorf("P11.2: Read of %x = %v, of which Put = %x, %d", b, m, told, err)
			}
		})
	}
	if taken < 1000 {
		t.Errorf("only %d of what was changed were taken", taken)
	}
}

// Octets that are none at all, of any length.
func TestReadOfAnyOctets(t *testing.T) {
	r := rand.New(rand.NewSource(12))
	for range 20000 {
		b := make([]byte, r.Intn(120))
		for i := range b {
			b[i] = byte(r.Intn(256) * r.Intn(2))
		}
		if len(b) > 5 {
			copy(b, low(r.Intn(8), 6))
		}
		ends(t, "Read", func() {
			m, err := message.Read(b)
			if err == api.OK && octetsOf(m) != string(b) || err != api.OK && (err != api.ErrSyntax || !equal(m, api.Message{})) {
				t.Errorf("P11.2: Read of %x = %v, %d", b, m, err)
			}
		})
	}
}
