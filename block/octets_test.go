package block_test

import (
	"math"
	"math/rand"
	"slices"
	"strings"
	"testing"

	"moot/api"
	"moot/block"
	"moot/pack"
)

// put is what a writer tells behind Put, other fields standing around it.
func put(t *testing.T, b api.Block) (string, api.Errno) {
	t.Helper()
	w := pack.New()
	w.Text("ahead")
	ends(t, "Put", func() { block.Put(w, b) })
	w.Num(9)
	all, err := w.Done()
	return string(all), err
}

// reads says if these octets are read as a block, and those behind them stay.
func reads(t *testing.T, what string, octets string, want api.Block) {
	t.Helper()
	for _, more := range []string{"", "x", low(1, 6), octets} {
		ends(t, "Read", func() {
			r := pack.Open([]byte(octets + more))
			if got := block.Read(r); !same(got, want) || r.Err() != api.OK || r.Left() != len(more) {
				t.Errorf("P10.1: Read of %s = %.300v, Err %d, Left %d, want %.300v, Left %d", what, got, r.Err(), r.Left(), want, len(more))
			}
		})
	}
}

// fails says if these octets are read as the zero block, and the reader tells this error.
func fails(t *testing.T, what string, octets string, want api.Errno) {
	t.Helper()
	ends(t, "Read", func() {
		r := pack.Open([]byte(octets))
		if got := block.Read(r); !same(got, api.Block{}) || r.Err() != want || r.Left() != 0 {
			t.Errorf("P10.1: Read of %s = %.300v, Err %d, want zero and %d", what, got, r.Err(), want)
		}
	})
}

// isSmall says if a writer takes a block's octets, and a cert is read that has its Votes.
func isSmall(b api.Block) bool {
	isLong := func(v api.Vote) bool { return v.View < 0 || len(v.Sig) > maxField }
	return len(octetsOf(b)) <= maxOctets && len(b.Justify.Votes) <= 7 && !slices.ContainsFunc(b.Justify.Votes, isLong)
}

func TestPutOctetByOctet(t *testing.T) {
	name := strings.Repeat("ab", 32)
	b := api.Block{View: 0x010203, Height: 0x040506, Parent: unhex(t, name), Justify: api.Cert{View: 0x000709, Height: 0x040505, Block: unhex(t, name)}, Sig: "sig"}
	b.Justify.Votes = []api.Vote{{Kind: 1, View: 0x000709, Height: 0x040505, Block: unhex(t, name), Signer: 5, Sig: "v"}}
	b.Txs = []api.Tx{{From: 3, To: 2, Amount: 1000, Nonce: 0x010000000000, Sig: "abc"}}
	text := "0005626c6f636b" + "000000010203" + "000000040506" + "0020" + name + "000000000709" + "000000000001" +
		"00027478" + "000000000003" + "000000000002" + "0000000003e8" + "010000000000" + "0003616263"
	justify := "000000000709" + "000000040505" + "0020" + name + "000000000001" +
		"0004766f7465" + "000000000001" + "000000000709" + "000000040505" + "0020" + name + "000000000000" + "000000000005" + "000176"
	digits := text + justify + "0003736967"
	if got, err := put(t, b); got != field("ahead")+unhex(t, digits)+low(9, 6) || err != api.OK {
		t.Errorf("P10.1: Put of %v = %x, %d, want %s", b, got, err, digits)
	}
	reads(t, "octets spelt out", unhex(t, digits), b)
	zero := strings.Repeat("00", 32)
	digits = "0005626c6f636b" + "000000000000" + "000000000001" + "0020" + zero + "000000000000" + "000000000000" +
		"000000000000" + "000000000000" + "0020" + zero + "000000000000" + "0000"
	if got, err := put(t, first()); got != field("ahead")+unhex(t, digits)+low(9, 6) || err != api.OK {
		t.Errorf("P10.1: Put of the first block's child = %x, %d, want %s", got, err, digits)
	}
	reads(t, "the first block's child spelt out", unhex(t, digits), first())
}

func TestPutAndRead(t *testing.T) {
	l := append(rights(), valid(t), signedBy(t, 1, 3, first()))
	for _, b := range l {
		if !isSmall(b) {
			continue
		}
		if got, err := put(t, b); got != field("ahead")+octetsOf(b)+low(9, 6) || err != api.OK {
			t.Errorf("P10.1: Put of %.300v = %.300x, %d", b, got, err)
		}
		// A vote that may not be is read as a zero one: all others as they were.
		want := with(b, func(b *api.Block) {
			for i, v := range b.Justify.Votes {
				if v.Kind == 0 {
					b.Justify.Votes[i] = api.Vote{}
				}
			}
		})
		reads(t, "what was put", octetsOf(b), want)
		if got := block.Read(pack.Open([]byte(octetsOf(b)))); block.Name(got) != block.Name(b) || block.Name(got) == "" {
			t.Errorf("P10.1: the Name of what was put and read is %x, was %x", block.Name(got), block.Name(b))
		}
	}
	c := config(t, 4, 3)
	isValid(t, "what was put and read", block.Read(pack.Open([]byte(octetsOf(valid(t))))), c, true)
}

func TestReadersAndWritersGoOn(t *testing.T) {
	a, b := some(), behind(4)
	w := pack.New()
	block.Put(w, a)
	told, _ := w.Done()
	block.Put(w, b)
	all, err := w.Done()
	if string(told) != octetsOf(a) || string(all) != octetsOf(a)+octetsOf(b) || err != api.OK {
		t.Errorf("P10.1: Put of two blocks: %x, then %x, %d", told, all, err)
	}
	r := pack.Open(all)
	one := block.Read(r)
	if two := block.Read(r); !same(one, a) || !same(two, b) || r.Left() != 0 {
		t.Errorf("P10.1: Read of two blocks: %v, then %v", one, two)
	}
	if got := block.Read(r); !same(got, api.Block{}) || r.Err() != api.ErrShort {
		t.Errorf("P10.1: Read of nothing = %v, Err %d", got, r.Err())
	}
}

// Put writes what may not be too, as far as pack can; the writer keeps the error of what it can't.
func TestPutOfWhatMayNotBe(t *testing.T) {
	writable := []api.Block{{}, {View: maxAmount, Height: maxAmount}, {Parent: strings.Repeat("p", maxField), Sig: "s"}, behind(5), with(some(), func(b *api.Block) { b.Justify.View = maxAmount }), {Txs: make([]api.Tx, 9), Justify: api.Cert{Votes: make([]api.Vote, 9)}}}
	for _, b := range writable {
		if got, err := put(t, b); got != field("ahead")+octetsOf(b)+low(9, 6) || err != api.OK {
			t.Errorf("P10.1: Put of %.300v = %.300x, %d", b, got, err)
		}
	}
	long := strings.Repeat("s", maxField+1)
	wrong := []struct {
		b    api.Block
		want api.Errno
	}{
		{api.Block{View: -1}, api.ErrRange}, {api.Block{View: math.MaxInt}, api.ErrRange}, {api.Block{Height: -1}, api.ErrRange}, {api.Block{Height: maxAmount + 1}, api.ErrRange},
		{api.Block{Parent: long}, api.ErrLong}, {api.Block{Sig: long}, api.ErrLong}, {api.Block{Justify: api.Cert{View: -1}}, api.ErrRange}, {api.Block{Justify: api.Cert{Block: long}}, api.ErrLong},
		{api.Block{Txs: []api.Tx{{From: -1}}}, api.ErrRange}, {api.Block{Txs: []api.Tx{{}, {Sig: long}}}, api.ErrLong}, {api.Block{Height: math.MinInt, Sig: long}, api.ErrRange},
		{api.Block{Justify: api.Cert{Votes: []api.Vote{{Sig: long}}}}, api.ErrLong}, {api.Block{Txs: make([]api.Tx, 1<<14)}, api.ErrLong},
		{with(behind(4), func(b *api.Block) {
			for i := range b.Txs {
				b.Txs[i].Sig = long[1:]
			}
		}), api.ErrLong},
	}
	for _, one := range wrong {
		if got, err := put(t, one.b); got != "" || err != one.want {
			t.Errorf("P10.1: Put of %.300v = %.300x, %d, want nothing and %d", one.b, got, err, one.want)
		}
	}
	failed := pack.New()
	failed.Num(-1)
	for w, want := range map[*pack.Writer]api.Errno{nil: api.ErrState, new(pack.Writer): api.ErrState, failed: api.ErrRange} {
		ends(t, "Put", func() { block.Put(w, some()) })
		if b, err := w.Done(); len(b) != 0 || err != want {
			t.Errorf("P10.1: Put to a writer with error %d: %x, %d", want, b, err)
		}
	}
}

func TestReadOfTooFewOctets(t *testing.T) {
	for _, b := range []api.Block{first(), some(), behind(4), valid(t)} {
		all := octetsOf(b)
		for size := range len(all) {
			fails(t, "too few octets", all[:size], api.ErrShort)
		}
	}
}

// At the most a number is read; beyond it the block may not be, or a cert can't be read.
func TestReadBeyondTheMost(t *testing.T) {
	for _, n := range []int{0, 1, 7, maxView - 1, maxView} {
		b := with(some(), func(b *api.Block) { b.View, b.Justify.View = max(n, 6), min(n, 6) })
		reads(t, "a View at its most", octetsOf(b), b)
	}
	for _, n := range []int{1, maxHeight - 1, maxHeight} {
		reads(t, "a Height at its most", octetsOf(at(n)), at(n))
	}
	b := with(some(), func(b *api.Block) { b.Justify.View = b.View })
	reads(t, "Justify's View at its most", octetsOf(b), b)
	b = with(some(), func(b *api.Block) { b.Sig = strings.Repeat("s", maxField) })
	reads(t, "a Sig at its most", octetsOf(b), b)

	for _, n := range []int{maxView + 1, 2 * maxView, 1 << 32, maxAmount} {
		reads(t, "a View beyond the most", octetsOf(with(some(), func(b *api.Block) { b.View = n })), api.Block{})
		reads(t, "a Height beyond the most", octetsOf(with(some(), func(b *api.Block) { b.Height = n })), api.Block{})
		fails(t, "a Height beyond the most, and Justify's", octetsOf(at(n+1)), api.ErrRange)
		fails(t, "Justify's View beyond the most", octetsOf(with(some(), func(b *api.Block) { b.View, b.Justify.View = n, n })), api.ErrRange)
	}
	reads(t, "a Height one beyond the most", octetsOf(at(maxHeight+1)), api.Block{})
	reads(t, "a Height of 0", octetsOf(with(some(), func(b *api.Block) { b.Height = 0 })), api.Block{})
	reads(t, "Justify's View above its own", octetsOf(with(some(), func(b *api.Block) { b.Justify.View = 8 })), api.Block{})
	for _, n := range []int{maxAmount + 1, 1<<48 - 1} {
		fails(t, "a View beyond pack", octetsOf(with(some(), func(b *api.Block) { b.View = n })), api.ErrRange)
		fails(t, "a Height beyond pack", octetsOf(with(some(), func(b *api.Block) { b.Height = n })), api.ErrRange)
		fails(t, "Justify's View beyond pack", octetsOf(with(some(), func(b *api.Block) { b.Justify.View = n })), api.ErrRange)
	}
}

func TestReadOfTextsThatMayNotBe(t *testing.T) {
	for _, name := range []string{"", "p", parent[:31], parent + "p", strings.Repeat("p", maxField)} {
		reads(t, "a Parent of another length", octetsOf(with(some(), func(b *api.Block) { b.Parent = name })), api.Block{})
	}
	for _, name := range []string{"", parent[:31], zeros} {
		reads(t, "Justify about another block", octetsOf(with(some(), func(b *api.Block) { b.Justify.Block = name })), api.Block{})
	}
	fails(t, "Justify about a block too long", octetsOf(with(some(), func(b *api.Block) { b.Justify.Block = parent + "p" })), api.ErrLong)
	for _, size := range []int{maxField + 1, 1<<16 - 1} {
		fails(t, "a Parent beyond pack", octetsOf(with(some(), func(b *api.Block) { b.Parent = strings.Repeat("p", size) })), api.ErrLong)
		fails(t, "a Sig beyond pack", octetsOf(with(some(), func(b *api.Block) { b.Sig = strings.Repeat("s", size) })), api.ErrLong)
	}
	rest := octetsOf(some())[len(field("block")):]
	for _, word := range []string{"", "Block", "bloc", "blocks", "blocK", "vote", "tx", strings.Repeat("b", maxField)} {
		reads(t, "another word", field(word)+rest, api.Block{})
	}
}

// Justify's View stands in the text and in the cert: where they are not one, no block was put.
func TestReadOfTwoViewsOfJustify(t *testing.T) {
	for _, n := range []int{0, 5, 7, 8, maxView, maxView + 1, maxAmount} {
		b := some()
		other := with(b, func(b *api.Block) { b.Justify.View = n })
		reads(t, "another View of Justify in the text", textOf(other)+certOctets(b.Justify)+field(b.Sig), api.Block{})
		if n <= maxView {
			reads(t, "another View of Justify in the cert", textOf(b)+certOctets(other.Justify)+field(b.Sig), api.Block{})
		}
	}
}

func TestReadOfMoreTransactions(t *testing.T) {
	for count := range 12 {
		b := behind(count)
		want := b
		if count > 4 {
			want = api.Block{}
		}
		reads(t, "so many transactions", octetsOf(b), want)
	}
	// Told more than there are: so many that reading each would not end.
	b := some()
	head := field("block") + low(b.View, 6) + low(b.Height, 6) + field(b.Parent) + low(b.Justify.View, 6)
	rest := txOctets(b.Txs[0]) + txOctets(b.Txs[1])
	for _, n := range []int{3, 4, 5, 255, 1 << 32, maxAmount} {
		fails(t, "transactions that are not there", head+low(n, 6)+rest, api.ErrShort)
	}
	for _, n := range []int{maxAmount + 1, 1<<48 - 1} {
		fails(t, "a number of transactions beyond pack", head+low(n, 6)+rest, api.ErrRange)
	}
	fails(t, "a transaction fewer than there are", head+low(1, 6)+rest+certOctets(b.Justify)+field(b.Sig), api.ErrRange)
}

func TestReadOfATransactionThatIsNone(t *testing.T) {
	long := strings.Repeat("s", maxField+1)
	for place := range 4 {
		one := func(wrong api.Tx) string {
			return octetsOf(with(behind(4), func(b *api.Block) { b.Txs[place] = wrong }))
		}
		for _, wrong := range []api.Tx{{}, {From: 4, To: 1, Amount: 1}, {From: 1, To: 1, Amount: 1}, {From: 1, To: 2}, {From: 1, To: 2, Amount: 1001}, {From: 1, To: 2, Amount: maxAmount}} {
			reads(t, "a transaction that may not be", one(wrong), api.Block{})
		}
		fails(t, "a transaction's Nonce beyond pack", one(api.Tx{From: 1, To: 2, Amount: 1, Nonce: maxAmount + 1}), api.ErrRange)
		fails(t, "a transaction's Sig beyond pack", one(api.Tx{From: 1, To: 2, Amount: 1, Sig: long}), api.ErrLong)
	}
	reads(t, "a transaction of another word", strings.Replace(octetsOf(some()), "tx", "TX", 1), api.Block{})
}

// A vote that is none is zero in the cert (9), and a block may be whatever Justify's Votes are.
func TestReadOfAVoteThatIsNone(t *testing.T) {
	for place := range 2 {
		one := func(wrong api.Vote) api.Block {
			return with(some(), func(b *api.Block) { b.Justify.Votes[place] = wrong })
		}
		for _, wrong := range []api.Vote{{}, {Kind: 5, Block: parent}, {Kind: 1, Block: parent, Signer: 7}, {Kind: 1, Block: "b"}, {Kind: 1, Block: parent, Ticks: 1}} {
			reads(t, "a vote that may not be", octetsOf(one(wrong)), one(api.Vote{}))
		}
		fails(t, "a vote's View beyond pack", octetsOf(one(api.Vote{View: maxAmount + 1})), api.ErrRange)
		fails(t, "a vote's Sig beyond pack", octetsOf(one(api.Vote{Sig: strings.Repeat("s", maxField+1)})), api.ErrLong)
	}
	for count := range 10 {
		b := with(some(), func(b *api.Block) { b.Justify.Votes = slices.Repeat([]api.Vote{by(1, b.Justify)}, count) })
		if count > 7 {
			fails(t, "more votes than there may be", octetsOf(b), api.ErrRange)
		} else {
			reads(t, "so many votes", octetsOf(b), b)
		}
	}
}

func TestReadOfAReaderWithAnError(t *testing.T) {
	right := octetsOf(some())
	tooGreat := pack.Open([]byte(low(5, 6) + right))
	tooGreat.Num(4)
	tooLong := pack.Open([]byte(field("a") + right))
	tooLong.Text(0)
	tooShort := pack.Open([]byte(low(len(right)+1, 2) + right))
	tooShort.Text(maxField)
	var nobody *pack.Reader
	readers := map[*pack.Reader]api.Errno{tooGreat: api.ErrRange, tooLong: api.ErrLong, tooShort: api.ErrShort, nobody: api.ErrState, new(pack.Reader): api.ErrState}
	for r, want := range readers {
		for range 2 {
			ends(t, "Read", func() {
				if got := block.Read(r); !same(got, api.Block{}) || r.Err() != want {
					t.Errorf("P10.1: Read of a reader with error %d = %v, Err %d, want zero", want, got, r.Err())
				}
			})
		}
	}
}

// Whatever is read may be, or is zero; and it is put as the octets that it was read of, but for votes that are none.
func TestReadOfAnyOctets(t *testing.T) {
	r := rand.New(rand.NewSource(10))
	whole := octetsOf(some())
	for range 20000 {
		b := []byte(whole)
		for range 1 + r.Intn(3) {
			b[r.Intn(len(b))] = byte(r.Intn(256))
		}
		b = b[:len(b)-r.Intn(2)*r.Intn(len(b))]
		ends(t, "Read", func() {
			reader := pack.Open(b)
			got := block.Read(reader)
			if same(got, api.Block{}) {
				return
			}
			taken := string(b[:len(b)-reader.Left()])
			isWhole := !slices.Contains(got.Justify.Votes, api.Vote{})
			if reader.Err() != api.OK || block.Check(got) != api.OK || isWhole && octetsOf(got) != taken {
				t.Errorf("P10.1: Read of %x = %v, Err %d", b, got, reader.Err())
			}
		})
	}
}

func TestReadAnswersAreNew(t *testing.T) {
	b := []byte(octetsOf(some()))
	one, two := block.Read(pack.Open(b)), block.Read(pack.Open(b))
	for i := range b {
		b[i] = 0xee
	}
	one.Txs[0].Amount, one.Justify.Votes[0].Sig = 999, "changed"
	_ = append(one.Txs, pay(9))
	if !same(two, some()) {
		t.Errorf("P10.2: an answer of Read shares its lists: %v", two)
	}
	in := some()
	w := pack.New()
	block.Put(w, in)
	in.Txs[0].Amount, in.Justify.Votes[0].Sig = 999, "changed"
	if told, err := w.Done(); string(told) != octetsOf(some()) || err != api.OK {
		t.Error("P10.2: what was put hangs on what was handed in")
	}
}
