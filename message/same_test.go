package message_test

import (
	"slices"
	"sync"
	"testing"

	"moot/api"
	"moot/message"
)

// isSame says if Same answers this, whichever comes first.
func isSame(t *testing.T, what string, a, b api.Message, want bool) {
	t.Helper()
	ends(t, "Same", func() {
		if message.Same(a, b) != want || message.Same(b, a) != want {
			t.Errorf("P11.1: Same of %s: %.300v and %.300v = %v, %v, want %v", what, a, b, message.Same(a, b), message.Same(b, a), want)
		}
	})
}

func TestSame(t *testing.T) {
	l := slices.Concat(rights(), wrongs(), []api.Message{{}, all(), {Kind: -1}, {Kind: 7}})
	for _, m := range l {
		isSame(t, "one", m, m, true)
		isSame(t, "one, and a copy", m, copied(m), true)
	}
	for _, kind := range noKinds() {
		isSame(t, "one of no kind", with(all(), func(m *api.Message) { m.Kind = kind }), with(all(), func(m *api.Message) { m.Kind = kind }), true)
	}
	for a := range 7 {
		for b := range 7 {
			isSame(t, "kinds", some(a), some(b), a == b)
		}
	}
}

// Nil and empty lists are one (P5).
func TestSameOfEmptyLists(t *testing.T) {
	empty := api.Message{Blames: []api.Vote{}, Cert: api.Cert{Votes: []api.Vote{}}}
	empty.Block.Txs, empty.Block.Justify.Votes = []api.Tx{}, []api.Vote{}
	isSame(t, "empty lists and none", empty, api.Message{}, true)
	isSame(t, "lists with room and none", with(all(), func(m *api.Message) {
		m.Blames, m.Cert.Votes, m.Block.Txs, m.Block.Justify.Votes = m.Blames[:0], m.Cert.Votes[:0], m.Block.Txs[:0], m.Block.Justify.Votes[:0]
	}), with(all(), func(m *api.Message) {
		m.Blames, m.Cert.Votes, m.Block.Txs, m.Block.Justify.Votes = nil, nil, nil, nil
	}), true)
	for _, alter := range []func(m *api.Message){
		func(m *api.Message) { m.Blames = nil },
		func(m *api.Message) { m.Cert.Votes = nil },
		func(m *api.Message) { m.Block.Txs = nil },
		func(m *api.Message) { m.Block.Justify.Votes = nil },
	} {
		isSame(t, "a list and none", all(), with(all(), alter), false)
	}
}

// Each field counts, whatever the kind, and in each place of a list.
func TestSameOfOneField(t *testing.T) {
	for kind := range 8 {
		for _, from := range []api.Message{with(all(), func(m *api.Message) { m.Kind = kind }), some(kind)} {
			isSame(t, "another Kind", from, with(from, func(m *api.Message) { m.Kind++ }), false)
			for _, p := range parts() {
				other := with(from, p.alter)
				isSame(t, "another "+p.what, from, other, equal(from, other))
			}
		}
	}
	for _, p := range parts() {
		if other := with(all(), p.alter); equal(all(), other) && p.what != "Block" {
			t.Errorf("%s is not another one", p.what)
		}
	}
}

func TestSameOfOneFieldInAList(t *testing.T) {
	votes := []func(m *api.Message) []api.Vote{
		func(m *api.Message) []api.Vote { return m.Blames },
		func(m *api.Message) []api.Vote { return m.Cert.Votes },
		func(m *api.Message) []api.Vote { return m.Block.Justify.Votes },
	}
	for _, list := range votes {
		for place := range 2 {
			for _, alter := range []func(v *api.Vote){
				func(v *api.Vote) { v.Kind++ },
				func(v *api.Vote) { v.View++ },
				func(v *api.Vote) { v.Height++ },
				func(v *api.Vote) { v.Block += "p" },
				func(v *api.Vote) { v.Ticks++ },
				func(v *api.Vote) { v.Signer++ },
				func(v *api.Vote) { v.Sig += "s" },
			} {
				isSame(t, "another statement", all(), with(all(), func(m *api.Message) { alter(&list(m)[place]) }), false)
			}
		}
		isSame(t, "another order", all(), with(all(), func(m *api.Message) { slices.Reverse(list(m)) }), false)
	}
	for place := range 2 {
		for _, alter := range []func(x *api.Tx){
			func(x *api.Tx) { x.From++ },
			func(x *api.Tx) { x.To-- },
			func(x *api.Tx) { x.Amount++ },
			func(x *api.Tx) { x.Nonce += 7 },
			func(x *api.Tx) { x.Sig = "" },
		} {
			isSame(t, "another transaction", all(), with(all(), func(m *api.Message) { alter(&m.Block.Txs[place]) }), false)
		}
	}
	isSame(t, "another order of transactions", all(), with(all(), func(m *api.Message) { slices.Reverse(m.Block.Txs) }), false)
}

func TestSameOfLengths(t *testing.T) {
	for _, alter := range []func(m *api.Message){
		func(m *api.Message) { m.Blames = m.Blames[:1] },
		func(m *api.Message) { m.Cert.Votes = m.Cert.Votes[:2] },
		func(m *api.Message) { m.Block.Justify.Votes = m.Block.Justify.Votes[:1] },
		func(m *api.Message) { m.Block.Txs = m.Block.Txs[:1] },
		func(m *api.Message) { m.Blames = append(m.Blames, m.Blames[0]) },
		func(m *api.Message) { m.Cert.Votes = append(m.Cert.Votes, m.Cert.Votes[0]) },
		func(m *api.Message) { m.Block.Justify.Votes = append(m.Block.Justify.Votes, by(0)) },
		func(m *api.Message) { m.Block.Txs = append(m.Block.Txs, pay(0)) },
	} {
		isSame(t, "another length", all(), with(all(), alter), false)
	}
	// The same statements, in another list.
	isSame(t, "votes in another cert", with(all(), func(m *api.Message) { m.Cert.Votes, m.Block.Justify.Votes = ofVotes(3), nil }),
		with(all(), func(m *api.Message) { m.Cert.Votes, m.Block.Justify.Votes = nil, ofVotes(3) }), false)
	isSame(t, "a name in another field", api.Message{Asked: parent}, api.Message{Vote: api.Vote{Block: parent}}, false)
}

// Nothing that is handed in is changed.
func TestArgumentsStay(t *testing.T) {
	for _, m := range slices.Concat(rights(), wrongs(), []api.Message{all()}) {
		// Lists with room behind them, which a call could write to.
		m.Blames, m.Cert.Votes = slices.Grow(m.Blames, 3), slices.Grow(m.Cert.Votes, 3)
		m.Block.Txs, m.Block.Justify.Votes = slices.Grow(m.Block.Txs, 3), slices.Grow(m.Block.Justify.Votes, 3)
		was := copied(m)
		message.Check(m)
		b, err := message.Put(m)
		message.Same(m, all())
		message.Same(all(), m)
		if !equal(m, was) || len(m.Blames) < cap(m.Blames) && m.Blames[:len(m.Blames)+1][len(m.Blames)] != (api.Vote{}) {
			t.Errorf("P11.3: what was handed in was changed: %.300v", m)
		}
		if err != api.OK {
			continue
		}
		octets := slices.Grow(slices.Clone(b), 9)
		message.Read(octets)
		message.Read(octets[:len(octets)/2])
		if !slices.Equal(octets, b) {
			t.Errorf("P11.3: the octets handed in were changed: %x", octets)
		}
	}
}

// A change of what was handed in, or told, changes nothing that was told ahead.
func TestAnswersAreNew(t *testing.T) {
	for kind := 1; kind <= 6; kind++ {
		in, octets := some(kind), octetsOf(some(kind))
		one, _ := message.Put(in)
		two, _ := message.Put(in)
		change(&in)
		clear(one)
		_ = append(one[:len(one):len(one)], 'x')
		_ = append(one, 'x')
		if string(two) != octets {
			t.Errorf("P11.3: an answer of Put hangs on what was handed in or told: %x", two)
		}
		if again, err := message.Put(some(kind)); string(again) != octets || err != api.OK {
			t.Errorf("P11.3: Put answers otherwise behind a change: %x, %d", again, err)
		}

		b := []byte(octets)
		first, _ := message.Read(b)
		second, _ := message.Read(b)
		change(&first)
		clear(b)
		if !equal(second, some(kind)) {
			t.Errorf("P11.3: an answer of Read hangs on what was handed in or told: %v", second)
		}
		if again, err := message.Read([]byte(octets)); !equal(again, some(kind)) || err != api.OK {
			t.Errorf("P11.3: Read answers otherwise behind a change: %v, %d", again, err)
		}
	}
	// No two lists of one answer share any.
	long := of(1, func(m *api.Message) { m.Block.Justify.Votes = ofVotes(4) })
	got, _ := message.Read([]byte(octetsOf(long)))
	_ = append(got.Block.Txs, pay(9), pay(9))
	_ = append(got.Block.Justify.Votes, blame(6))
	if !equal(got, long) {
		t.Errorf("P11.3: lists of an answer share memory: %v", got)
	}
}

// change writes to each element of each list of a message.
func change(m *api.Message) {
	for _, l := range [][]api.Vote{m.Blames, m.Cert.Votes, m.Block.Justify.Votes} {
		for i := range l {
			l[i] = api.Vote{Kind: 9, Sig: "changed"}
		}
		_ = append(l, api.Vote{Kind: 9})
	}
	for i := range m.Block.Txs {
		m.Block.Txs[i] = api.Tx{Amount: 9, Sig: "changed"}
	}
	_ = append(m.Block.Txs, api.Tx{Amount: 9})
}

func TestAnswersHangOnArgumentsAlone(t *testing.T) {
	l := rights()
	none := wrongs()
	var group sync.WaitGroup
	for range 8 {
		group.Go(func() {
			for i, m := range l {
				b, err := message.Put(m)
				back, read := message.Read(b)
				if err != api.OK || read != api.OK || string(b) != octetsOf(m) || !message.Same(back, m) || message.Check(none[i%len(none)]) != api.ErrState {
					t.Error("P3: Put, Read, Same or Check has another answer beside other calls")
					return
				}
			}
		})
	}
	group.Wait()
}
