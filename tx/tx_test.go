package tx_test

import (
	"bytes"
	"encoding/hex"
	"math"
	"math/rand"
	"slices"
	"strings"
	"sync"
	"testing"

	"moot/api"
	"moot/pack"
	"moot/signer"
	"moot/tx"
)

// The limits, as the document tells them.
const (
	maxAmount = 1 << 40
	maxField  = 1 << 12
	supply    = 1000
)

// low is the lowest octets of n, so many, the highest first.
func low(n int, size int) string {
	var b []byte
	for i := size - 1; i >= 0; i-- {
		b = append(b, byte(uint64(n)>>(8*i)))
	}
	return string(b)
}

// textOf is the text that a transaction has to have.
func textOf(t api.Tx) string {
	return "\x00\x02tx" + low(t.From, 6) + low(t.To, 6) + low(t.Amount, 6) + low(t.Nonce, 6)
}

// octetsOf are the octets that a transaction has to have.
func octetsOf(t api.Tx) string {
	return textOf(t) + low(len(t.Sig), 2) + t.Sig
}

// unhex is the text that these digits tell.
func unhex(t *testing.T, s string) string {
	t.Helper()
	b, err := hex.DecodeString(s)
	if err != nil {
		t.Fatal(err)
	}
	return string(b)
}

// rights are transactions that may be, with every edge of each of their fields.
func rights() []api.Tx {
	var l []api.Tx
	for from := range 4 {
		for to := range 4 {
			if from != to {
				l = append(l, api.Tx{From: from, To: to, Amount: 250, Nonce: 3, Sig: "sig"})
			}
		}
	}
	for _, amount := range []int{1, 2, 255, 256, supply - 1, supply} {
		l = append(l, api.Tx{From: 3, To: 0, Amount: amount, Nonce: 1})
	}
	for _, nonce := range []int{0, 1, 255, 256, supply + 1, 1 << 20, 1<<32 - 1, 1 << 32, 0x010203040506 % maxAmount, maxAmount - 1, maxAmount} {
		l = append(l, api.Tx{From: 0, To: 3, Amount: 1, Nonce: nonce, Sig: "\x00"})
	}
	for _, size := range []int{0, 1, 106, 107, 255, 256, maxField - 1, maxField} {
		l = append(l, api.Tx{From: 1, To: 2, Amount: supply, Nonce: maxAmount, Sig: strings.Repeat("s", size)})
	}
	return l
}

// numbersApart are transactions that may not be, for a number that pack can write, or for two that are the same.
func numbersApart() []api.Tx {
	l := []api.Tx{{}, {Amount: 1}, {From: 1, To: 1, Amount: 1}, {To: 1}}
	for same := range 5 {
		l = append(l, api.Tx{From: same, To: same, Amount: 7, Nonce: 7, Sig: "sig"})
	}
	for _, client := range []int{4, 5, 7, 8, 256, 260, 1 << 32, maxAmount} {
		l = append(l, api.Tx{From: client, To: 1, Amount: 7}, api.Tx{From: 1, To: client, Amount: 7}, api.Tx{From: client, To: client - 1, Amount: 7}, api.Tx{From: client, To: client, Amount: 7})
	}
	for _, amount := range []int{0, supply + 1, 2 * supply, 1 << 16, 1<<32 + 1, maxAmount - 1, maxAmount} {
		l = append(l, api.Tx{From: 0, To: 1, Amount: amount, Nonce: 0, Sig: "sig"}, api.Tx{From: 3, To: 2, Amount: amount, Nonce: maxAmount})
	}
	return l
}

// beyondPack are transactions that may not be, for a number or a Sig that pack can't write, with the error that it tells.
func beyondPack() map[*api.Tx]api.Errno {
	l := map[*api.Tx]api.Errno{}
	for _, n := range []int{-1, -2, -4, -1 << 32, -1 << 62, math.MinInt, maxAmount + 1, 1 << 48, 1<<48 + 1, 1<<62 + 1, math.MaxInt} {
		for _, t := range []api.Tx{{From: n, To: 1, Amount: 1}, {From: 1, To: n, Amount: 1}, {From: n, To: n, Amount: 1}, {From: 0, To: 1, Amount: n}, {From: 0, To: 1, Amount: 1, Nonce: n, Sig: "sig"}} {
			l[&t] = api.ErrRange
		}
	}
	for _, size := range []int{maxField + 1, maxField + 2, 1<<16 - 1, 1 << 16, 1<<16 + 1, 1 << 17} {
		l[&api.Tx{From: 0, To: 1, Amount: 1, Sig: strings.Repeat("s", size)}] = api.ErrLong
	}
	return l
}

// wrongs are all transactions that may not be.
func wrongs() []api.Tx {
	l := numbersApart()
	for t := range beyondPack() {
		l = append(l, *t)
	}
	return l
}

// roots are those of all clients' keys.
func roots(t *testing.T) []string {
	t.Helper()
	var l []string
	for client := range 4 {
		root, err := signer.Root(tx.Key(client))
		if err != api.OK {
			t.Fatalf("P7.1: Key(%d) may not be: %d", client, err)
		}
		l = append(l, root)
	}
	return l
}

// made is a transaction that Make signs, and the key behind it.
func made(t *testing.T, k api.Key, unsigned api.Tx) (api.Tx, api.Key) {
	t.Helper()
	signed, used, err := tx.Make(k, unsigned)
	if err != api.OK {
		t.Fatalf("P7.2: Make of %v with Next %d: %d", unsigned, k.Next, err)
	}
	return signed, used
}

// same says if two keys are, nil and empty leaves being one (P5).
func same(a, b api.Key) bool {
	return a.Seed == b.Seed && slices.Equal(a.Leaves, b.Leaves) && a.Next == b.Next
}

// ends calls f and says if it panicked (P1).
func ends(t *testing.T, what string, f func()) {
	t.Helper()
	defer func() {
		if x := recover(); x != nil {
			t.Errorf("P1: %s panicked: %v", what, x)
		}
	}()
	f()
}

func TestCheck(t *testing.T) {
	for _, right := range rights() {
		if err := tx.Check(right); err != api.OK {
			t.Errorf("P7.1: Check of %.100v = %d, want OK", right, err)
		}
	}
	for _, wrong := range wrongs() {
		ends(t, "Check", func() {
			if err := tx.Check(wrong); err != api.ErrState {
				t.Errorf("P7.1: Check of %.100v = %d, want ErrState", wrong, err)
			}
		})
	}
}

// Each edge by itself, all other fields being right.
func TestCheckAtTheEdges(t *testing.T) {
	cases := []struct {
		t    api.Tx
		want api.Errno
	}{
		{api.Tx{From: -1, To: 1, Amount: 1}, api.ErrState},
		{api.Tx{From: 0, To: 1, Amount: 1}, api.OK},
		{api.Tx{From: 3, To: 1, Amount: 1}, api.OK},
		{api.Tx{From: 4, To: 1, Amount: 1}, api.ErrState},
		{api.Tx{From: 1, To: -1, Amount: 1}, api.ErrState},
		{api.Tx{From: 1, To: 0, Amount: 1}, api.OK},
		{api.Tx{From: 1, To: 3, Amount: 1}, api.OK},
		{api.Tx{From: 1, To: 4, Amount: 1}, api.ErrState},
		{api.Tx{From: 0, To: 0, Amount: 1}, api.ErrState},
		{api.Tx{From: 3, To: 3, Amount: 1}, api.ErrState},
		{api.Tx{From: 1, To: 0, Amount: -1}, api.ErrState},
		{api.Tx{From: 1, To: 0, Amount: 0}, api.ErrState},
		{api.Tx{From: 1, To: 0, Amount: 1000}, api.OK},
		{api.Tx{From: 1, To: 0, Amount: 1001}, api.ErrState},
		{api.Tx{From: 1, To: 0, Amount: 1, Nonce: -1}, api.ErrState},
		{api.Tx{From: 1, To: 0, Amount: 1, Nonce: 0}, api.OK},
		{api.Tx{From: 1, To: 0, Amount: 1, Nonce: 1099511627776}, api.OK},
		{api.Tx{From: 1, To: 0, Amount: 1, Nonce: 1099511627777}, api.ErrState},
		{api.Tx{From: 1, To: 0, Amount: 1, Sig: strings.Repeat("s", 4096)}, api.OK},
		{api.Tx{From: 1, To: 0, Amount: 1, Sig: strings.Repeat("s", 4097)}, api.ErrState},
	}
	for _, c := range cases {
		if err := tx.Check(c.t); err != c.want {
			t.Errorf("P7.1: Check of %.100v = %d, want %d", c.t, err, c.want)
		}
	}
}

func TestText(t *testing.T) {
	for _, right := range rights() {
		if got := tx.Text(right); string(got) != textOf(right) {
			t.Errorf("P7.1: Text of %.100v = %x, want %x", right, got, textOf(right))
		}
	}
	got := tx.Text(api.Tx{From: 2, To: 3, Amount: 5, Nonce: 0x0102030405, Sig: "not in it"})
	if want := unhex(t, "00027478"+"000000000002"+"000000000003"+"000000000005"+"000102030405"); string(got) != want {
		t.Errorf("P7.1: Text = %x, want %x", got, want)
	}
	for _, wrong := range wrongs() {
		ends(t, "Text", func() {
			if got := tx.Text(wrong); len(got) != 0 {
				t.Errorf("P7.1: Text of %.100v = %x, want nothing", wrong, got)
			}
		})
	}
}

// put is what a writer tells behind Put, other fields standing around it.
func put(t *testing.T, one api.Tx) (string, api.Errno) {
	t.Helper()
	w := pack.New()
	w.Text("ahead")
	ends(t, "Put", func() { tx.Put(w, one) })
	w.Num(9)
	b, err := w.Done()
	return string(b), err
}

func TestPut(t *testing.T) {
	for _, right := range rights() {
		want := "\x00\x05ahead" + octetsOf(right) + low(9, 6)
		if got, err := put(t, right); got != want || err != api.OK {
			t.Errorf("P7.1: Put of %.100v: %.200x, %d, want %.200x", right, got, err, want)
		}
	}
	got, err := put(t, api.Tx{From: 1, To: 0, Amount: 1000, Nonce: 3, Sig: "sig"})
	want := "\x00\x05ahead" + unhex(t, "00027478"+"000000000001"+"000000000000"+"0000000003e8"+"000000000003"+"0003736967") + low(9, 6)
	if got != want || err != api.OK {
		t.Errorf("P7.1: Put: %x, %d, want %x", got, err, want)
	}
}

// Of what may not be the fields are put all the same: the writer tells of those that it can't write.
func TestPutOfWhatMayNotBe(t *testing.T) {
	for _, wrong := range numbersApart() {
		want := "\x00\x05ahead" + octetsOf(wrong) + low(9, 6)
		if got, err := put(t, wrong); got != want || err != api.OK {
			t.Errorf("P7.1: Put of %v: %x, %d, want %x", wrong, got, err, want)
		}
	}
	for wrong, want := range beyondPack() {
		if got, err := put(t, *wrong); got != "" || err != want {
			t.Errorf("P7.1: Put of %.100v: %.100x, %d, want nothing and %d", *wrong, got, err, want)
		}
	}
}

func TestPutToAWriterWithAnError(t *testing.T) {
	var none *pack.Writer
	failed := pack.New()
	failed.Num(-1)
	writers := map[*pack.Writer]api.Errno{none: api.ErrState, new(pack.Writer): api.ErrState, failed: api.ErrRange}
	for w, want := range writers {
		for _, one := range append(rights(), wrongs()...) {
			ends(t, "Put", func() { tx.Put(w, one) })
			if b, err := w.Done(); len(b) != 0 || err != want {
				t.Errorf("P7.1: Put of %.100v to a writer with error %d: %x, %d", one, want, b, err)
			}
		}
	}
}

func TestRead(t *testing.T) {
	for _, right := range rights() {
		for _, more := range []string{"", "x", low(1, 6), octetsOf(right)} {
			ends(t, "Read", func() {
				r := pack.Open([]byte(octetsOf(right) + more))
				if got := tx.Read(r); got != right {
					t.Errorf("P7.1: Read of %.100v = %.100v", right, got)
				}
				if r.Err() != api.OK || r.Left() != len(more) {
					t.Errorf("P7.1: behind Read of %.100v Err is %d, Left %d, want OK, %d", right, r.Err(), r.Left(), len(more))
				}
			})
		}
	}
}

// Several stand one behind the other, and are read in turn.
func TestPutIsRead(t *testing.T) {
	for l := range slices.Chunk(rights(), 3) {
		w := pack.New()
		for _, one := range l {
			tx.Put(w, one)
		}
		b, err := w.Done()
		if err != api.OK {
			t.Fatalf("P7.1: Put of %d transactions: %d", len(l), err)
		}
		r := pack.Open(b)
		for _, one := range l {
			if got := tx.Read(r); got != one {
				t.Errorf("P7.1: what was put as %.100v is read as %.100v", one, got)
			}
		}
		if r.Left() != 0 || r.Err() != api.OK {
			t.Errorf("P7.1: behind all that was put Left is %d, Err %d", r.Left(), r.Err())
		}
		if got := tx.Read(r); got != (api.Tx{}) || r.Err() != api.ErrShort {
			t.Errorf("P7.1: Read of nothing = %v, Err %d, want zero and ErrShort", got, r.Err())
		}
	}
}

// none says that these octets are read as the zero transaction.
func none(t *testing.T, what string, b string) {
	t.Helper()
	ends(t, what, func() {
		if got := tx.Read(pack.Open([]byte(b))); got != (api.Tx{}) {
			t.Errorf("P7.1: Read of %s = %.100v, want zero", what, got)
		}
	})
}

func TestReadOfTooFewOctets(t *testing.T) {
	one := octetsOf(api.Tx{From: 1, To: 2, Amount: 3, Nonce: 4, Sig: "sig"})
	for size := range len(one) {
		none(t, "too few octets", one[:size])
		r := pack.Open([]byte(one[:size]))
		tx.Read(r)
		if r.Err() != api.ErrShort || r.Left() != 0 {
			t.Errorf("P7.1: behind Read of %d octets of %d Err is %d, want ErrShort", size, len(one), r.Err())
		}
	}
}

func TestReadOfAnotherWord(t *testing.T) {
	right := api.Tx{From: 1, To: 2, Amount: 3, Nonce: 4, Sig: "sig"}
	rest := octetsOf(right)[4:]
	for _, word := range []string{"", "t", "x", "ty", "sx", "xt", "TX", "Tx", "tx\x00", "\x00tx", "txx", "txtx", "vote", "block", strings.Repeat("tx", maxField/2), strings.Repeat("t", maxField+1)} {
		none(t, "another word", low(len(word), 2)+word+rest)
	}
	if got := tx.Read(pack.Open([]byte("\x00\x02tx" + rest))); got != right {
		t.Errorf("P7.1: Read of the right word = %v, want %v", got, right)
	}
}

func TestReadOfNumbersThatMayNotBe(t *testing.T) {
	for _, wrong := range numbersApart() {
		none(t, "a number that may not be", octetsOf(wrong))
	}
	for _, n := range []int{maxAmount + 1, 1<<48 - 1} {
		none(t, "From beyond pack", octetsOf(api.Tx{From: n, To: 1, Amount: 1}))
		none(t, "To beyond pack", octetsOf(api.Tx{From: 1, To: n, Amount: 1}))
		none(t, "Amount beyond pack", octetsOf(api.Tx{From: 0, To: 1, Amount: n}))
		none(t, "Nonce beyond pack", octetsOf(api.Tx{From: 0, To: 1, Amount: 1, Nonce: n}))
	}
	for _, size := range []int{maxField + 1, 1<<16 - 1} {
		none(t, "a Sig that is too long", octetsOf(api.Tx{From: 0, To: 1, Amount: 1, Sig: strings.Repeat("s", size)}))
	}
}

// What may not be is no error of the reader: the next one is read behind it.
func TestReadBehindWhatMayNotBe(t *testing.T) {
	right := api.Tx{From: 1, To: 2, Amount: 3, Nonce: 4, Sig: "sig"}
	for _, wrong := range numbersApart() {
		r := pack.Open([]byte(octetsOf(wrong) + octetsOf(right)))
		if got := tx.Read(r); got != (api.Tx{}) {
			t.Errorf("P7.1: Read of %v = %v, want zero", wrong, got)
		}
		if got := tx.Read(r); got != right || r.Err() != api.OK || r.Left() != 0 {
			t.Errorf("P7.1: Read behind %v = %v, Err %d, want %v", wrong, got, r.Err(), right)
		}
	}
}

func TestReadOfAReaderWithAnError(t *testing.T) {
	right := octetsOf(api.Tx{From: 1, To: 2, Amount: 3, Nonce: 4, Sig: "sig"})
	tooGreat := pack.Open([]byte(low(5, 6) + right))
	tooGreat.Num(4)
	tooLong := pack.Open([]byte(low(1, 2) + "a" + right))
	tooLong.Text(0)
	var nobody *pack.Reader
	readers := map[*pack.Reader]api.Errno{tooGreat: api.ErrRange, tooLong: api.ErrLong, nobody: api.ErrState, new(pack.Reader): api.ErrState}
	for r, want := range readers {
		for range 2 {
			ends(t, "Read", func() {
				if got := tx.Read(r); got != (api.Tx{}) || r.Err() != want {
					t.Errorf("P7.1: Read of a reader with error %d = %v, Err %d, want zero", want, got, r.Err())
				}
			})
		}
	}
}

func TestReadOfAnyOctets(t *testing.T) {
	r := rand.New(rand.NewSource(7))
	whole := octetsOf(api.Tx{From: 1, To: 2, Amount: 3, Nonce: 4, Sig: strings.Repeat("s", 20)})
	for range 20000 {
		b := []byte(whole)
		for range 1 + r.Intn(3) {
			b[r.Intn(len(b))] = byte(r.Intn(256))
		}
		b = b[:r.Intn(len(b)+1)]
		ends(t, "Read", func() {
			got := tx.Read(pack.Open(b))
			if got != (api.Tx{}) && (tx.Check(got) != api.OK || !strings.HasPrefix(string(b), octetsOf(got))) {
				t.Errorf("P7.1: Read of %x = %v", b, got)
			}
		})
	}
}

// Worked out once, apart from this program.
func TestKey(t *testing.T) {
	want := [4]struct{ leaves, root string }{
		{"d06e71585b085f25c0794403c4d665f2376f90beb871490607236881ad8cfb26", "13f77f81a608dfc9"},
		{"b6c51f64c92b74b485b98af0b57439e805d8ee75f47491263743e904d5d041ef", "0742f2a513ee6b16"},
		{"3bbfef97557c4dd5045d064615f21b618872b65c5d570e8062cd2715ee940979", "4ce723b0c296c2e1"},
		{"cc5f7a7e92c209519bb40ab4d0c196700d8be11fa6fc6d9fd81491cc1ffb9f4a", "8af3b6ef404050ea"},
	}
	for client, w := range want {
		k := tx.Key(client)
		if k.Seed != "client"+string("0123"[client]) || k.Next != 0 || len(k.Leaves) != 4 || strings.Join(k.Leaves, "") != unhex(t, w.leaves) {
			t.Errorf("P7.1: Key(%d) = %x", client, k)
		}
		if root, err := signer.Root(k); root != unhex(t, w.root) || err != api.OK {
			t.Errorf("P7.1: Root of Key(%d) = %x, %d, want %s", client, root, err, w.root)
		}
	}
	for _, client := range []int{-1, -2, -48, 4, 5, 9, 10, 256, 257, 1<<32 + 1, math.MinInt, math.MaxInt} {
		ends(t, "Key", func() {
			if k := tx.Key(client); !same(k, api.Key{}) {
				t.Errorf("P7.1: Key(%d) = %x, want nothing", client, k)
			}
		})
	}
}

// Worked out once, apart from this program.
func TestMakeKnownAnswers(t *testing.T) {
	want := []string{
		"00007f24391a5f6489813da9fe2c84096f52aeb2849e034577d92b51fa98007d2adb9a2c874f9ea63fe9cda38ee04d808ab733611f0d7b3b01dc8e0212222a7828326d7493d8071f5d899b9a3aeb9f6fd36156c00cbea8ff78b1045d064615f21b613edfc507fe333c02",
		"00014bdeed8a6dd018f41483a723e00183645572bc52bb7cce00d4ae3450208ebca931adbb24d89c4a172f0d25cf4fc035c58cad334d6eda0dd20d1c11076045f95721102590848656701b11bb9db6baf9eba5d9808e248a9da53bbfef97557c4dd53edfc507fe333c02",
		"00025fab31d41803e25e3a6209d15112ebbe2435aea9d6d4ef243575be475302bff78220d4d16c3ca2fa0ae7c2ca006721a6d54c3cc104f79aaf78aa7149d1cdcba5b4ffbde9eedb5a12ba7e0c322619a2f8528c4c4880c72bbb62cd2715ee9409794e52692d2aa2f6df",
		"0003b942dfe0c82fe76d0c3ce76ffddefa541ed77ef3b3794bada1cb70c0b9439589aa5cff3966db16e2c4c8dbeab694b4a47c72330b8aa3c66a65b33fed98fe6600198b9397478d15f8c1eba663d4703a1d80baf0ff332171b28872b65c5d570e804e52692d2aa2f6df",
	}
	k := tx.Key(2)
	for leaf, w := range want {
		unsigned := api.Tx{From: 2, To: 3, Amount: 5, Nonce: 7, Sig: "what stood here goes"}
		signed, used, err := tx.Make(k, unsigned)
		if signed != (api.Tx{From: 2, To: 3, Amount: 5, Nonce: 7, Sig: unhex(t, w)}) || err != api.OK {
			t.Errorf("P7.2: Make with leaf %d = %x, %d, want %s", leaf, signed, err, w)
		}
		if !same(used, api.Key{Seed: "client2", Leaves: tx.Key(2).Leaves, Next: leaf + 1}) {
			t.Errorf("P7.2: Make with leaf %d answers the key %x", leaf, used)
		}
		if !tx.Valid(signed, roots(t)) {
			t.Errorf("P7.3: what is made with leaf %d is not valid", leaf)
		}
		k = used
	}
}

// nothingMade says that Make answers this error, and nothing beside it.
func nothingMade(t *testing.T, what string, k api.Key, one api.Tx, want api.Errno) {
	t.Helper()
	ends(t, what, func() {
		signed, used, err := tx.Make(k, one)
		if signed != (api.Tx{}) || !same(used, api.Key{}) || err != want {
			t.Errorf("P7.2: Make of %s = %.100v, %x, %d, want nothing and %d", what, signed, used, err, want)
		}
	})
}

// wrongKeys are keys that may not be.
func wrongKeys() []api.Key {
	leaves := tx.Key(0).Leaves
	return []api.Key{{}, {Seed: "client0"}, {Seed: strings.Repeat("s", 65), Leaves: leaves}, {Seed: "client0", Leaves: leaves[:3]},
		{Seed: "client0", Leaves: leaves, Next: -1}, {Seed: "client0", Leaves: leaves, Next: 5}, {Seed: "client0", Leaves: leaves, Next: math.MaxInt},
		{Seed: "client0", Leaves: []string{"short"}}, {Leaves: slices.Repeat(leaves, 8)}, tx.Key(-1), tx.Key(4)}
}

func TestMakeWithoutAnAnswer(t *testing.T) {
	right := api.Tx{From: 0, To: 1, Amount: 1, Nonce: 0, Sig: "sig"}
	full := tx.Key(0)
	full.Next = 4
	nothingMade(t, "a key without a leaf left", full, right, api.ErrFull)
	for _, k := range wrongKeys() {
		nothingMade(t, "a key that may not be", k, right, api.ErrState)
	}
	for _, wrong := range wrongs() {
		nothingMade(t, "what may not be", tx.Key(0), wrong, api.ErrState)
		nothingMade(t, "what may not be, with a key without a leaf left", full, wrong, api.ErrState)
		nothingMade(t, "what may not be, with a key that may not be", api.Key{}, wrong, api.ErrState)
	}
}

// Make signs with whatever key may be; only the client's own makes the transaction valid.
func TestMakeWithOtherKeys(t *testing.T) {
	unsigned := api.Tx{From: 1, To: 2, Amount: 3, Nonce: 4}
	for height := range 5 {
		k, _ := signer.New("another", height)
		k.Next = 1<<height - 1
		want, used, _ := signer.Sign(k, []byte(textOf(unsigned)))
		signed, behind := made(t, k, unsigned)
		if signed != (api.Tx{From: 1, To: 2, Amount: 3, Nonce: 4, Sig: want}) || !same(behind, used) {
			t.Errorf("P7.2: Make with a key of height %d = %x, %x", height, signed, behind)
		}
		top, _ := signer.Root(k)
		if tx.Valid(signed, roots(t)) {
			t.Errorf("P7.2: what another key of height %d made is valid by the client's root", height)
		}
		// Only keys of the clients' height are looked for.
		if got := tx.Valid(signed, []string{top, top, top, top}); got != (height == 2) {
			t.Errorf("P7.2: what a key of height %d made is valid by its root: %v", height, got)
		}
	}
}

func TestWhatIsMadeIsValid(t *testing.T) {
	all := roots(t)
	for from := range 4 {
		k := tx.Key(from)
		for leaf := range 4 {
			unsigned := api.Tx{From: from, To: (from + 1 + leaf%3) % 4, Amount: 1 + 333*leaf, Nonce: maxAmount / 3 * leaf}
			signed, used := made(t, k, unsigned)
			if at, ok := signer.Verify(all[from], 2, []byte(textOf(unsigned)), signed.Sig); at != leaf || !ok || used.Next != leaf+1 {
				t.Errorf("P7.3: client %d signed with leaf %d, %v, Next %d, want %d", from, at, ok, used.Next, leaf)
			}
			if !tx.Valid(signed, all) || !tx.Valid(signed, all[:from+1]) || !tx.Valid(signed, append(slices.Clone(all), "more")) {
				t.Errorf("P7.3: what client %d made with leaf %d is not valid", from, leaf)
			}
			got, err := put(t, signed)
			if got != "\x00\x05ahead"+octetsOf(signed)+low(9, 6) || err != api.OK {
				t.Errorf("P7.1: Put of what client %d made: %x, %d", from, got, err)
			}
			back := tx.Read(pack.Open([]byte(octetsOf(signed))))
			if back != signed || !tx.Valid(back, all) {
				t.Errorf("P7.3: what client %d made comes back as %v", from, back)
			}
			k = used
		}
		nothingMade(t, "one more than there are leaves", k, api.Tx{From: from, To: (from + 1) % 4, Amount: 1}, api.ErrFull)
	}
}

func TestMakeAgainOfWhatWasMade(t *testing.T) {
	k := tx.Key(0)
	first, used := made(t, k, api.Tx{From: 0, To: 1, Amount: 1})
	again, _ := made(t, used, first)
	if again == first || again.Sig[:2] != "\x00\x01" || !tx.Valid(first, roots(t)) || !tx.Valid(again, roots(t)) {
		t.Errorf("P7.2: Make of what was made = %x", again)
	}
	other, _ := made(t, k, first)
	if other != first {
		t.Errorf("P3: Make with the same key = %x, then %x", first, other)
	}
}

// invalid says that a transaction is not valid by these roots.
func invalid(t *testing.T, what string, one api.Tx, by []string) {
	t.Helper()
	ends(t, what, func() {
		if tx.Valid(one, by) {
			t.Errorf("P7.2: %s is valid: %.100v", what, one)
		}
	})
}

func TestValidOfWhatMayNotBe(t *testing.T) {
	all := roots(t)
	many := slices.Repeat(all, 100)
	for _, wrong := range wrongs() {
		invalid(t, "what may not be", wrong, all)
		invalid(t, "what may not be", wrong, many)
		invalid(t, "what may not be", wrong, nil)
		// Signed as a text of it would be, had it one: its fields, or nothing.
		for _, text := range []string{textOf(wrong), ""} {
			sig, _, _ := signer.Sign(tx.Key(0), []byte(text))
			signed := wrong
			signed.Sig = sig
			if tx.Check(signed) != api.OK {
				invalid(t, "what may not be, signed", signed, slices.Repeat(all[:1], 400))
			}
		}
	}
	signed, _ := made(t, tx.Key(0), api.Tx{From: 0, To: 1, Amount: 1})
	signed.Sig += strings.Repeat("s", maxField)
	invalid(t, "a Sig that is too long", signed, all)
}

func TestValidByTheRootOfItsFrom(t *testing.T) {
	all := roots(t)
	for from := range 4 {
		signed, _ := made(t, tx.Key(from), api.Tx{From: from, To: (from + 1) % 4, Amount: 10})
		invalid(t, "one without roots", signed, nil)
		invalid(t, "one without roots", signed, []string{})
		invalid(t, "one without a root of its From", signed, all[:from])
		for at := range 4 {
			by := slices.Clone(all)
			for _, other := range []string{"", all[(from+1)%4], all[from][:7], all[from] + "\x00", "12345678", strings.Repeat("r", 5000)} {
				by[at] = other
				if got := tx.Valid(signed, by); got != (at != from) {
					t.Errorf("P7.2: with root %d another one, what client %d made is valid: %v", at, from, got)
				}
			}
		}
		by := slices.Repeat([]string{""}, 4)
		by[from] = all[from]
		if !tx.Valid(signed, by) {
			t.Errorf("P7.2: what client %d made is not valid by its root alone", from)
		}
	}
}

func TestValidOfWhatWasChanged(t *testing.T) {
	all := roots(t)
	k := tx.Key(1)
	for leaf := range 4 {
		k.Next = leaf
		signed, _ := made(t, k, api.Tx{From: 1, To: 2, Amount: 10, Nonce: 3})
		for at := range len(signed.Sig) {
			for _, bit := range []byte{1, 2, 128, 255} {
				changed := signed
				b := []byte(signed.Sig)
				b[at] ^= bit
				changed.Sig = string(b)
				invalid(t, "one with an octet of Sig changed", changed, all)
			}
		}
		for _, sig := range []string{"", signed.Sig[1:], signed.Sig[:len(signed.Sig)-1], signed.Sig[:98], signed.Sig + "\x00", signed.Sig + "12345678", strings.Repeat("\x00", 106)} {
			changed := signed
			changed.Sig = sig
			invalid(t, "one with another Sig", changed, all)
		}
		for _, changed := range []api.Tx{{From: 0, To: 2, Amount: 10, Nonce: 3}, {From: 1, To: 3, Amount: 10, Nonce: 3}, {From: 1, To: 2, Amount: 11, Nonce: 3}, {From: 1, To: 2, Amount: 10, Nonce: 4}, {From: 2, To: 1, Amount: 10, Nonce: 3}} {
			changed.Sig = signed.Sig
			invalid(t, "one with another field", changed, all)
			invalid(t, "one with another field", changed, slices.Repeat(all[1:2], 4))
		}
	}
}

func TestArgumentsStay(t *testing.T) {
	k := tx.Key(2)
	leaves := slices.Clone(k.Leaves)
	all := roots(t)
	was := slices.Clone(all)
	one := api.Tx{From: 2, To: 3, Amount: 5, Nonce: 7, Sig: "sig"}
	b := []byte(octetsOf(one) + "behind it")
	r := pack.Open(b[:len(b)-9])
	signed, used := made(t, k, one)
	tx.Valid(signed, all)
	tx.Read(r)
	if !same(k, api.Key{Seed: "client2", Leaves: leaves}) || !slices.Equal(all, was) || string(b) != octetsOf(one)+"behind it" {
		t.Errorf("P7.4: what was handed in was changed: %x, %x, %x", k, all, b)
	}
	// Neither key hangs on the other's leaves.
	used.Leaves[0] = "changed!"
	if !slices.Equal(k.Leaves, leaves) {
		t.Error("P7.4: the key that Make answers shares its leaves with the one handed in")
	}
	_, used = made(t, k, one)
	k.Leaves[1] = "changed!"
	if !slices.Equal(used.Leaves, leaves) {
		t.Error("P7.4: the key that Make answered changes with the one handed in")
	}
}

func TestAnswersAreNew(t *testing.T) {
	one := api.Tx{From: 2, To: 3, Amount: 5, Nonce: 7, Sig: "sig"}
	first, second := tx.Text(one), tx.Text(one)
	first = first[:cap(first)]
	for i := range first {
		first[i] = 0xee
	}
	if string(second) != textOf(one) || string(tx.Text(one)) != textOf(one) {
		t.Errorf("P7.4: two answers of Text share memory: %x", second)
	}
	key, other := tx.Key(0), tx.Key(0)
	key.Leaves[0] = "changed!"
	if other.Leaves[0] == "changed!" || tx.Key(0).Leaves[0] == "changed!" {
		t.Error("P7.4: two answers of Key share memory")
	}
}

// What was read stays, whatever becomes of the octets and of the reader.
func TestReadIsNewMemory(t *testing.T) {
	one := api.Tx{From: 2, To: 3, Amount: 5, Nonce: 7, Sig: "sig"}
	other := api.Tx{From: 0, To: 1, Amount: 9, Nonce: 1, Sig: "gis"}
	b := []byte(octetsOf(one) + octetsOf(other))
	r := pack.Open(b)
	got := tx.Read(r)
	copy(b, bytes.Repeat([]byte{0xee}, len(b)))
	if next := tx.Read(r); next != other || got != one {
		t.Errorf("P7.4: Read = %v, then %v, want %v, %v", got, next, one, other)
	}
	w := pack.New()
	tx.Put(w, one)
	told, _ := w.Done()
	tx.Put(w, other)
	if string(told) != octetsOf(one) {
		t.Errorf("P7.4: Put changed what the writer told before: %x", told)
	}
}

func TestAnswersHangOnArgumentsAlone(t *testing.T) {
	all := roots(t)
	k := tx.Key(3)
	want, _ := made(t, k, api.Tx{From: 3, To: 0, Amount: 5})
	var group sync.WaitGroup
	for range 8 {
		group.Go(func() {
			for range 20 {
				signed, used, err := tx.Make(k, api.Tx{From: 3, To: 0, Amount: 5})
				if signed != want || used.Next != 1 || err != api.OK || !tx.Valid(signed, all) || !same(tx.Key(3), k) {
					t.Error("P3: Make, Valid or Key has another answer beside other calls")
					return
				}
			}
		})
	}
	group.Wait()
}
