package cert_test

import (
	"bytes"
	"encoding/hex"
	"math"
	"math/rand"
	"slices"
	"strings"
	"sync"
	"testing"

	"moot/api"
	"moot/cert"
	"moot/pack"
	"moot/signer"
	"moot/vote"
)

// The limits, and a block, as the document tells them.
const (
	maxAmount = 1 << 40
	maxField  = 1 << 12
	maxHeight = 1 << 20
	maxView   = 1 << 20
	name      = "the block's name, 32 octets long"
	zeros     = "\x00\x00\x00\x00\x00\x00\x00\x00\x00\x00\x00\x00\x00\x00\x00\x00\x00\x00\x00\x00\x00\x00\x00\x00\x00\x00\x00\x00\x00\x00\x00\x00"
)

// mark is the block that most certs here are about.
var mark = api.Mark{View: 7, Height: 9, Block: name}

// low is the lowest octets of n, so many, the highest first.
func low(n int, size int) string {
	var b []byte
	for i := size - 1; i >= 0; i-- {
		b = append(b, byte(uint64(n)>>(8*i)))
	}
	return string(b)
}

// text is a text's octets.
func text(s string) string {
	return low(len(s), 2) + s
}

// voteOctets are the octets that a statement has to have.
func voteOctets(v api.Vote) string {
	return text("vote") + low(v.Kind, 6) + low(v.View, 6) + low(v.Height, 6) + text(v.Block) + low(v.Ticks, 6) + low(v.Signer, 6) + text(v.Sig)
}

// octetsOf are the octets that a cert has to have.
func octetsOf(c api.Cert) string {
	all := low(c.View, 6) + low(c.Height, 6) + text(c.Block) + low(len(c.Votes), 6)
	for _, v := range c.Votes {
		all += voteOctets(v)
	}
	return all
}

// same says if two certs are, nil and empty lists being one (P5).
func same(a, b api.Cert) bool {
	return a.View == b.View && a.Height == b.Height && a.Block == b.Block && slices.Equal(a.Votes, b.Votes)
}

// ends calls f and says if it panicked (P1).
func ends(t *testing.T, what string, f func()) {
	t.Helper()
	defer func() {
		if x := recover(); x != nil {
			t.Errorf("P1: %s panicked: %v", what, x)
		}
	}()
	f()
}

// by is an unsigned vote of that replica for a mark.
func by(replica int, m api.Mark) api.Vote {
	return api.Vote{Kind: 1, View: m.View, Height: m.Height, Block: m.Block, Signer: replica}
}

// sigBy is an unsigned vote of that replica for the mark, with this for a Sig.
func sigBy(replica int, sig string) api.Vote {
	v := by(replica, mark)
	v.Sig = sig
	return v
}

// signed is a statement as the key of the replica signs it with that leaf.
func signed(t *testing.T, replica int, leaf int, v api.Vote) api.Vote {
	t.Helper()
	k := vote.Key(replica)
	k.Next = leaf
	one, _, err := vote.Sign(k, v)
	if err != api.OK {
		t.Fatalf("vote.Sign of %v: %d", v, err)
	}
	return one
}

// voted is a cert about the mark of these replicas' valid votes, in this order.
func voted(t *testing.T, m api.Mark, replicas ...int) api.Cert {
	t.Helper()
	c := api.Cert{View: m.View, Height: m.Height, Block: m.Block}
	for _, replica := range replicas {
		c.Votes = append(c.Votes, signed(t, replica, replica, by(replica, m)))
	}
	return c
}

// roots are those of all replicas' keys.
func roots(t *testing.T) []string {
	t.Helper()
	var l []string
	for replica := range 7 {
		root, err := signer.Root(vote.Key(replica))
		if err != api.OK {
			t.Fatalf("signer.Root of replica %d: %d", replica, err)
		}
		l = append(l, root)
	}
	return l
}

// withVotes is a cert with other votes.
func withVotes(c api.Cert, l ...api.Vote) api.Cert {
	c.Votes = l
	return c
}

// changed is a cert of which one vote is as change leaves it.
func changed(c api.Cert, at int, change func(v *api.Vote)) api.Cert {
	c.Votes = slices.Clone(c.Votes)
	change(&c.Votes[at])
	return c
}

// checks says if Check answers this.
func checks(t *testing.T, what string, c api.Cert, roots []string, quorum int, want api.Errno) {
	t.Helper()
	ends(t, "Check", func() {
		if err := cert.Check(c, roots, quorum); err != want {
			t.Errorf("P9.1: Check of %s, quorum %d = %d, want %d", what, quorum, err, want)
		}
	})
}

func TestFirst(t *testing.T) {
	if c := cert.First(); c.View != 0 || c.Height != 0 || c.Block != zeros || len(c.Votes) != 0 {
		t.Errorf("P9.1: First = %v", c)
	}
}

func TestMark(t *testing.T) {
	if m := cert.Mark(cert.First()); m != (api.Mark{Block: zeros}) {
		t.Errorf("P9.1: Mark of First = %v", m)
	}
	if m := cert.Mark(voted(t, mark, 0, 1)); m != mark {
		t.Errorf("P9.1: Mark = %v, want %v", m, mark)
	}
	if m := cert.Mark(api.Cert{}); m != (api.Mark{}) {
		t.Errorf("P9.1: Mark of the zero cert = %v", m)
	}
	// It asks for nothing to be right.
	wrong := api.Cert{View: -5, Height: math.MaxInt, Block: "b", Votes: []api.Vote{by(1, mark)}}
	if m := cert.Mark(wrong); m != (api.Mark{View: -5, Height: math.MaxInt, Block: "b"}) {
		t.Errorf("P9.1: Mark of %v = %v", wrong, m)
	}
}

func TestCheckOfTheFirst(t *testing.T) {
	for _, quorum := range []int{math.MinInt, -3, -1, 0, 1, 2, 3, 4, 7, 8, math.MaxInt} {
		for _, l := range [][]string{nil, {}, {""}, roots(t), slices.Repeat([]string{"a root"}, 9)} {
			checks(t, "the first cert", cert.First(), l, quorum, api.OK)
			checks(t, "the first cert, with a list of no votes", withVotes(cert.First(), []api.Vote{}...), l, quorum, api.OK)
			checks(t, "the first cert, written out", api.Cert{Block: zeros, Votes: []api.Vote{}}, l, quorum, api.OK)
		}
	}
}

// Beside the first one no cert without votes is right.
func TestCheckOfNoVotes(t *testing.T) {
	none := []api.Cert{{}, {View: 1, Block: zeros}, {Height: 1, Block: zeros}, {View: -1, Block: zeros}, {Height: -1, Block: zeros}, {Block: ""}, {Block: zeros[:31]},
		{Block: zeros + "\x00"}, {Block: name}, {Block: zeros[:31] + "\x01"}, {Block: "\x01" + zeros[:31]}, {View: 7, Height: 9, Block: name}}
	for _, c := range none {
		for _, quorum := range []int{math.MinInt, -1, 0, 1, 3, 7, math.MaxInt} {
			checks(t, "a cert without votes", c, roots(t), quorum, api.ErrSig)
		}
	}
}

func TestCheckOfTheFirstWithVotes(t *testing.T) {
	first := cert.Mark(cert.First())
	all := roots(t)
	right := voted(t, first, 0, 2, 3)
	checks(t, "valid votes for the first block", right, all, 3, api.OK)
	for _, quorum := range []int{math.MinInt, -1, 0, 1, 2, 4, 7} {
		checks(t, "votes for the first block", right, all, quorum, api.ErrSig)
		checks(t, "votes for the first block that nobody signed", withVotes(cert.First(), by(0, first), by(2, first), by(3, first)), all, quorum, api.ErrSig)
		checks(t, "a zero vote beside the first cert", withVotes(cert.First(), api.Vote{}), all, quorum, api.ErrSig)
		checks(t, "votes for another block beside the first cert", withVotes(cert.First(), voted(t, mark, 0).Votes...), all, quorum, api.ErrSig)
	}
	checks(t, "votes for the first block, without roots", right, nil, 3, api.ErrSig)
}

func TestCheckOfAsManyAsTheQuorum(t *testing.T) {
	all := roots(t)
	order := []int{0, 1, 2, 3, 4, 5, 6}
	for size := 1; size <= 7; size++ {
		for _, replicas := range [][]int{order[:size], order[7-size:]} {
			c := voted(t, mark, replicas...)
			checks(t, "a right cert", c, all, size, api.OK)
			checks(t, "a right cert, one more asked for", c, all, size+1, api.ErrSig)
			for _, quorum := range []int{size - 1, 0, -1, -size, math.MinInt, size + 7, math.MaxInt, 1<<32 + size} {
				checks(t, "a right cert of another quorum", c, all, quorum, api.ErrSig)
			}
			checks(t, "a right cert without its votes", withVotes(c), all, size, api.ErrSig)
			checks(t, "a right cert without a vote", withVotes(c, c.Votes[1:]...), all, size, api.ErrSig)
		}
	}
	for _, edge := range []api.Mark{{Block: name}, {View: maxView, Height: maxHeight, Block: name}, {View: 0, Height: maxHeight, Block: zeros}} {
		checks(t, "a right cert at an edge", voted(t, edge, 1, 3, 5), all, 3, api.OK)
	}
}

func TestCheckOfVotesInAnotherOrder(t *testing.T) {
	all := roots(t)
	for _, replicas := range [][]int{{1, 0}, {0, 2, 1}, {2, 1, 0}, {1, 2, 0}, {6, 0, 1}, {0, 0}, {0, 0, 1}, {0, 1, 1}, {0, 1, 0}, {6, 6}, {3, 3, 3}, {0, 1, 2, 3, 4, 6, 5}} {
		checks(t, "votes that do not rise", voted(t, mark, replicas...), all, len(replicas), api.ErrSig)
	}
	// Twice of one replica, with two leaves: each is valid by itself.
	c := voted(t, mark, 2, 4)
	checks(t, "two votes", c, all, 2, api.OK)
	twice := withVotes(c, c.Votes[0], signed(t, 2, 9, by(2, mark)))
	checks(t, "two votes of one replica with two leaves", twice, all, 2, api.ErrSig)
	checks(t, "two votes of one replica before another's", withVotes(c, twice.Votes[0], twice.Votes[1], c.Votes[1]), all, 3, api.ErrSig)
}

// One vote that does not count is enough, wherever it stands.
func TestCheckOfAVoteThatDoesNotCount(t *testing.T) {
	all := roots(t)
	c := voted(t, mark, 1, 3, 6)
	checks(t, "a right cert", c, all, 3, api.OK)
	changes := map[string]func(v *api.Vote){
		"another View":        func(v *api.Vote) { v.View-- },
		"a higher View":       func(v *api.Vote) { v.View++ },
		"another Height":      func(v *api.Vote) { v.Height-- },
		"a higher Height":     func(v *api.Vote) { v.Height++ },
		"another Block":       func(v *api.Vote) { v.Block = name[:31] + "." },
		"the first Block":     func(v *api.Vote) { v.Block = zeros },
		"a commit-vote":       func(v *api.Vote) { v.Kind = 2 },
		"a report":            func(v *api.Vote) { v.Kind, v.Ticks = 3, 4 },
		"a blame":             func(v *api.Vote) { v.Kind, v.Height, v.Block = 4, 0, "" },
		"no kind":             func(v *api.Vote) { v.Kind = 0 },
		"a kind beyond all":   func(v *api.Vote) { v.Kind = 5 },
		"a vote with Ticks":   func(v *api.Vote) { v.Ticks = 1 },
		"a vote of all zeros": func(v *api.Vote) { *v = api.Vote{} },
	}
	for what, change := range changes {
		for at := range 3 {
			wrong := changed(c, at, change)
			checks(t, what+", not signed again", wrong, all, 3, api.ErrSig)
			v := wrong.Votes[at]
			if vote.Check(v) == api.OK && v.Signer > 0 {
				wrong.Votes[at] = signed(t, v.Signer, 0, v)
				checks(t, what+", signed", wrong, all, 3, api.ErrSig)
			}
		}
	}
}

func TestCheckOfAVoteThatIsNotValid(t *testing.T) {
	all := roots(t)
	c := voted(t, mark, 1, 3, 6)
	for at := range 3 {
		sig := c.Votes[at].Sig
		for _, place := range []int{0, 1, 2, 60, len(sig) - 1} {
			b := []byte(sig)
			b[place] ^= 1
			checks(t, "a vote with an octet of Sig changed", changed(c, at, func(v *api.Vote) { v.Sig = string(b) }), all, 3, api.ErrSig)
		}
		for _, other := range []string{"", sig[1:], sig + "\x00", c.Votes[(at+1)%3].Sig, strings.Repeat("s", maxField+1)} {
			checks(t, "a vote with another Sig", changed(c, at, func(v *api.Vote) { v.Sig = other }), all, 3, api.ErrSig)
		}
		replica := c.Votes[at].Signer
		for _, root := range []string{"", all[0], all[replica][:7], all[replica] + "\x00", "12345678"} {
			others := slices.Clone(all)
			others[replica] = root
			checks(t, "a vote by another root", c, others, 3, api.ErrSig)
		}
		checks(t, "a vote without a root of its Signer", c, all[:replica], 3, api.ErrSig)
	}
	checks(t, "votes without roots", c, nil, 3, api.ErrSig)
	checks(t, "votes with more roots than replicas", c, append(slices.Clone(all), "more", "roots"), 3, api.OK)
	checks(t, "votes with no other root", c, []string{"", all[1], "", all[3], "", "", all[6]}, 3, api.OK)
	for _, replica := range []int{-1, 0, 2, 7, 8, math.MinInt, math.MaxInt} {
		checks(t, "a vote in another one's name", changed(c, 0, func(v *api.Vote) { v.Signer = replica }), all, 3, api.ErrSig)
	}
}

// The votes have to be about what the cert says, not only about one thing.
func TestCheckOfAnotherMark(t *testing.T) {
	all := roots(t)
	c := voted(t, mark, 1, 3, 6)
	others := []api.Mark{{}, {View: 6, Height: 9, Block: name}, {View: 8, Height: 9, Block: name}, {View: 7, Height: 8, Block: name}, {View: 7, Height: 10, Block: name},
		{View: 9, Height: 7, Block: name}, {View: 7, Height: 9}, {View: 7, Height: 9, Block: zeros}, {View: 7, Height: 9, Block: name[:31]}, {View: 7, Height: 9, Block: name + "b"}, {Block: zeros}}
	for _, m := range others {
		checks(t, "votes for something else", api.Cert{View: m.View, Height: m.Height, Block: m.Block, Votes: c.Votes}, all, 3, api.ErrSig)
	}
	for _, m := range []api.Mark{{View: -1, Height: 9, Block: name}, {View: maxView + 1, Height: 9, Block: name}, {View: 7, Height: -1, Block: name}, {View: 7, Height: maxHeight + 1, Block: name}, {View: 7, Height: 9, Block: "b"}} {
		c := api.Cert{View: m.View, Height: m.Height, Block: m.Block, Votes: []api.Vote{by(0, m)}}
		c.Votes[0].Sig = voted(t, mark, 0).Votes[0].Sig
		checks(t, "a vote for what may not be", c, all, 1, api.ErrSig)
	}
}

// made says if Make answers a cert of these votes.
func made(t *testing.T, what string, l []api.Vote, m api.Mark, quorum int, want ...api.Vote) {
	t.Helper()
	ends(t, "Make", func() {
		c, ok := cert.Make(l, m, quorum)
		if !ok || !same(c, api.Cert{View: m.View, Height: m.Height, Block: m.Block, Votes: want}) {
			t.Errorf("P9.1: Make of %s, quorum %d = %.500v, %v, want %.500v", what, quorum, c, ok, want)
		}
	})
}

// notMade says if Make answers nothing, and false.
func notMade(t *testing.T, what string, l []api.Vote, m api.Mark, quorum int) {
	t.Helper()
	ends(t, "Make", func() {
		if c, ok := cert.Make(l, m, quorum); ok || !same(c, api.Cert{}) {
			t.Errorf("P9.1: Make of %s, quorum %d = %.500v, %v, want nothing", what, quorum, c, ok)
		}
	})
}

func TestMakeInAnyOrder(t *testing.T) {
	v := func(replica int) api.Vote { return sigBy(replica, "of "+string("0123456"[replica])) }
	want := []api.Vote{v(0), v(2), v(3), v(6)}
	r := rand.New(rand.NewSource(9))
	for range 50 {
		l := slices.Clone(want)
		r.Shuffle(len(l), func(i, j int) { l[i], l[j] = l[j], l[i] })
		for quorum := 1; quorum <= 4; quorum++ {
			made(t, "votes in any order", l, mark, quorum, want[:quorum]...)
		}
		for _, quorum := range []int{5, 6, 7, 8, 1 << 32, math.MaxInt, 0, -1, -4, math.MinInt} {
			notMade(t, "votes fewer than the quorum, or of none", l, mark, quorum)
		}
	}
}

func TestMakeOfTheFirstOfEachSigner(t *testing.T) {
	l := []api.Vote{sigBy(4, "z"), sigBy(1, "m"), sigBy(4, "a"), sigBy(1, "z"), sigBy(1, "a"), sigBy(0, "b"), sigBy(4, "")}
	made(t, "votes of one Signer", l, mark, 3, sigBy(0, "b"), sigBy(1, "m"), sigBy(4, "z"))
	made(t, "votes of one Signer", l, mark, 2, sigBy(0, "b"), sigBy(1, "m"))
	made(t, "votes of one Signer", l, mark, 1, sigBy(0, "b"))
	notMade(t, "votes of one Signer, which count once", l, mark, 4)
	slices.Reverse(l)
	made(t, "votes of one Signer, from behind", l, mark, 3, sigBy(0, "b"), sigBy(1, "a"), sigBy(4, ""))
	// So many that no order of a sort keeps them where they are by chance.
	var many, want []api.Vote
	for i := range 700 {
		many = append(many, sigBy(6-i%7, low(i, 3)))
	}
	for replica := range 7 {
		want = append(want, sigBy(replica, low(6-replica, 3)))
	}
	made(t, "many votes", many, mark, 7, want...)
	notMade(t, "many votes of seven", many, mark, 8)
}

func TestMakeOfVotesThatDoNotCount(t *testing.T) {
	right := []api.Vote{sigBy(0, "a"), sigBy(3, "b"), sigBy(5, "c")}
	others := map[string]func(v *api.Vote){
		"no kind":        func(v *api.Vote) { v.Kind = 0 },
		"commit-votes":   func(v *api.Vote) { v.Kind = 2 },
		"reports":        func(v *api.Vote) { v.Kind, v.Ticks = 3, 4 },
		"blames":         func(v *api.Vote) { v.Kind, v.Height, v.Block = 4, 0, "" },
		"a kind beyond":  func(v *api.Vote) { v.Kind = 5 },
		"a kind below":   func(v *api.Vote) { v.Kind = -1 },
		"other Views":    func(v *api.Vote) { v.View++ },
		"lower Views":    func(v *api.Vote) { v.View-- },
		"other Heights":  func(v *api.Vote) { v.Height++ },
		"lower Heights":  func(v *api.Vote) { v.Height-- },
		"other Blocks":   func(v *api.Vote) { v.Block = zeros },
		"shorter Blocks": func(v *api.Vote) { v.Block = name[:31] },
		"longer Blocks":  func(v *api.Vote) { v.Block += "b" },
	}
	for what, change := range others {
		var l, wrong []api.Vote
		for _, v := range right {
			other := v
			other.Sig = "other"
			change(&other)
			more := other
			more.Signer++
			l = append(l, other, more, v, other)
			wrong = append(wrong, other, more)
		}
		made(t, what+" between", l, mark, 3, right...)
		made(t, what+" between", l, mark, 2, right[:2]...)
		notMade(t, what+" between", l, mark, 4)
		notMade(t, what+" alone", wrong, mark, 1)
	}
}

func TestMakeOfNothing(t *testing.T) {
	for _, quorum := range []int{math.MinInt, -1, 0, 1, 3, math.MaxInt} {
		notMade(t, "no votes", nil, mark, quorum)
		notMade(t, "an empty list", []api.Vote{}, mark, quorum)
		notMade(t, "no votes for the first block", nil, cert.Mark(cert.First()), quorum)
		notMade(t, "a zero vote", []api.Vote{{}}, api.Mark{}, quorum)
	}
}

// Sigs are not looked at, nor what else a vote may not be.
func TestMakeLooksAtNoSig(t *testing.T) {
	made(t, "votes whose Sig is nothing", []api.Vote{by(2, mark), by(1, mark), by(0, mark)}, mark, 3, by(0, mark), by(1, mark), by(2, mark))
	long := sigBy(2, strings.Repeat("s", maxField+1))
	made(t, "a vote whose Sig is too long", []api.Vote{long}, mark, 1, long)
	made(t, "votes of the kind about the mark", []api.Vote{by(9, mark), by(math.MaxInt, mark), by(-1, mark), by(math.MinInt, mark)}, mark, 4, by(math.MinInt, mark), by(-1, mark), by(9, mark), by(math.MaxInt, mark))
	for _, m := range []api.Mark{{}, {View: -1, Height: -2, Block: "b"}, {View: math.MaxInt, Height: math.MinInt, Block: strings.Repeat("b", 70000)}} {
		made(t, "votes about any mark", []api.Vote{by(1, m), by(0, m)}, m, 2, by(0, m), by(1, m))
	}
}

func TestWhatIsMadeOfValidVotesIsRight(t *testing.T) {
	all := roots(t)
	for _, m := range []api.Mark{mark, {Block: zeros}, {View: maxView, Height: maxHeight, Block: name}} {
		l := voted(t, m, 5, 2, 6, 0, 2, 5).Votes
		for quorum := 1; quorum <= 4; quorum++ {
			c, ok := cert.Make(l, m, quorum)
			if !ok || cert.Mark(c) != m {
				t.Errorf("P9.1: Make of %d valid votes = %v, %v", quorum, c, ok)
			}
			checks(t, "what was made", c, all, quorum, api.OK)
			back := cert.Read(pack.Open([]byte(octetsOf(c))))
			checks(t, "what was made and read", back, all, quorum, api.OK)
		}
	}
}

func TestHigher(t *testing.T) {
	numbers := []int{math.MinInt, -1, 0, 1, 2, 255, 256, maxView, math.MaxInt}
	for i, view := range numbers {
		for j, height := range numbers {
			a := api.Mark{View: view, Height: height, Block: name}
			for k, otherView := range numbers {
				for l, otherHeight := range numbers {
					b := api.Mark{View: otherView, Height: otherHeight, Block: name}
					want := i > k || i == k && j > l
					if got := cert.Higher(a, b); got != want {
						t.Errorf("P9.1: Higher(%v, %v) = %v", a, b, got)
					}
					// No Block makes a rank higher.
					b.Block = zeros
					if cert.Higher(a, b) != want {
						t.Errorf("P9.1: Higher(%v, %v) = %v with another Block", a, b, !want)
					}
				}
			}
		}
	}
	for _, other := range []string{"", "a", "zzzz", zeros} {
		a, b := api.Mark{View: 3, Height: 4, Block: name}, api.Mark{View: 3, Height: 4, Block: other}
		if cert.Higher(a, b) || cert.Higher(b, a) {
			t.Errorf("P9.1: one of %v, %v is higher", a, b)
		}
	}
}

// put is what a writer tells behind Put, other fields standing around it.
func put(t *testing.T, c api.Cert) (string, api.Errno) {
	t.Helper()
	w := pack.New()
	w.Text("ahead")
	ends(t, "Put", func() { cert.Put(w, c) })
	w.Num(9)
	b, err := w.Done()
	return string(b), err
}

// octets is the text that these digits tell.
func octets(t *testing.T, digits string) string {
	t.Helper()
	b, err := hex.DecodeString(digits)
	if err != nil {
		t.Fatal(err)
	}
	return string(b)
}

func TestPutOctetByOctet(t *testing.T) {
	b := strings.Repeat("\xab", 32)
	block := strings.Repeat("ab", 32)
	v := "0004766f7465" + "000000000001" + "000000010203" + "000000040506" + "0020" + block + "000000000000"
	c := api.Cert{View: 0x010203, Height: 0x040506, Block: b, Votes: []api.Vote{
		{Kind: 1, View: 0x010203, Height: 0x040506, Block: b, Signer: 2, Sig: "one"},
		{Kind: 1, View: 0x010203, Height: 0x040506, Block: b, Signer: 5, Sig: ""},
	}}
	want := "000000010203" + "000000040506" + "0020" + block + "000000000002" + v + "000000000002" + "00036f6e65" + v + "000000000005" + "0000"
	want = octets(t, "00056168656164"+want+"000000000009")
	if got, err := put(t, c); got != want || err != api.OK {
		t.Errorf("P9.1: Put of %v = %x, %d, want %x", c, got, err, want)
	}
	want = octets(t, "00056168656164"+"000000000000"+"000000000000"+"0020"+strings.Repeat("00", 32)+"000000000000"+"000000000009")
	if got, err := put(t, cert.First()); got != want || err != api.OK {
		t.Errorf("P9.1: Put of First = %x, %d, want %x", got, err, want)
	}
}

// some are certs that Read takes.
func some(t *testing.T) []api.Cert {
	t.Helper()
	l := []api.Cert{cert.First(), {}, {Block: name}, voted(t, mark, 3), voted(t, mark, 0, 1, 2, 3, 4, 5, 6), {View: 5, Height: 6, Block: name[:31], Votes: []api.Vote{by(6, mark), by(2, cert.Mark(cert.First()))}},
		{View: maxView, Height: maxHeight, Block: zeros, Votes: slices.Repeat([]api.Vote{{Kind: 4, View: 3, Signer: 6, Sig: "sig"}}, 7)}}
	for _, n := range []int{1, 255, 256, 65536, maxView - 1, maxView} {
		l = append(l, api.Cert{View: n, Block: name}, api.Cert{Height: n, Block: name}, api.Cert{View: maxView - n, Height: n, Block: zeros})
	}
	for size := range 33 {
		l = append(l, api.Cert{View: 1, Height: 2, Block: name[:size], Votes: []api.Vote{by(1, mark)}})
	}
	return l
}

func TestPutAndRead(t *testing.T) {
	for _, c := range some(t) {
		if got, err := put(t, c); got != text("ahead")+octetsOf(c)+low(9, 6) || err != api.OK {
			t.Errorf("P9.1: Put of %.200v = %.200x, %d", c, got, err)
		}
		for _, more := range []string{"", "x", low(1, 6), octetsOf(c)} {
			ends(t, "Read", func() {
				r := pack.Open([]byte(octetsOf(c) + more))
				if got := cert.Read(r); !same(got, c) || r.Err() != api.OK || r.Left() != len(more) {
					t.Errorf("P9.1: Read of %.200v = %.200v, Err %d, Left %d", c, got, r.Err(), r.Left())
				}
			})
		}
	}
}

// Put writes what may not be too, as far as pack can; the writer keeps the error of what it can't.
func TestPutOfWhatMayNotBe(t *testing.T) {
	writable := []api.Cert{{View: maxAmount, Height: maxAmount, Block: name}, {Block: strings.Repeat("b", maxField)}, {Votes: make([]api.Vote, 8)}, {Votes: make([]api.Vote, 300)}, {Votes: []api.Vote{{Kind: 9, Signer: 77, Block: "b"}}}}
	for _, c := range writable {
		if got, err := put(t, c); got != text("ahead")+octetsOf(c)+low(9, 6) || err != api.OK {
			t.Errorf("P9.1: Put of %.200v = %.200x, %d", c, got, err)
		}
	}
	wrong := []struct {
		c    api.Cert
		want api.Errno
	}{
		{api.Cert{View: -1}, api.ErrRange}, {api.Cert{View: maxAmount + 1}, api.ErrRange}, {api.Cert{Height: -1}, api.ErrRange}, {api.Cert{Height: math.MaxInt}, api.ErrRange},
		{api.Cert{Block: strings.Repeat("b", maxField+1)}, api.ErrLong}, {api.Cert{Height: math.MinInt, Block: strings.Repeat("b", maxField+1)}, api.ErrRange},
		{api.Cert{Votes: []api.Vote{{Signer: -1}}}, api.ErrRange}, {api.Cert{Votes: []api.Vote{{}, {Sig: strings.Repeat("s", maxField+1)}}}, api.ErrLong},
		{api.Cert{Votes: make([]api.Vote, 1<<14)}, api.ErrLong},
	}
	for _, one := range wrong {
		if got, err := put(t, one.c); got != "" || err != one.want {
			t.Errorf("P9.1: Put of %.200v = %.200x, %d, want nothing and %d", one.c, got, err, one.want)
		}
	}
	failed := pack.New()
	failed.Num(-1)
	for w, want := range map[*pack.Writer]api.Errno{nil: api.ErrState, new(pack.Writer): api.ErrState, failed: api.ErrRange} {
		ends(t, "Put", func() { cert.Put(w, voted(t, mark, 1, 2)) })
		if b, err := w.Done(); len(b) != 0 || err != want {
			t.Errorf("P9.1: Put to a writer with error %d: %x, %d", want, b, err)
		}
	}
}

// none says that these octets are read as the zero cert, and that the reader tells this.
func none(t *testing.T, what string, b string, want api.Errno) {
	t.Helper()
	ends(t, "Read", func() {
		r := pack.Open([]byte(b))
		if got := cert.Read(r); !same(got, api.Cert{}) || r.Err() != want || r.Left() != 0 {
			t.Errorf("P9.1: Read of %s = %.200v, Err %d, want zero and %d", what, got, r.Err(), want)
		}
	})
}

func TestReadOfTooFewOctets(t *testing.T) {
	for _, c := range []api.Cert{cert.First(), {View: 3, Height: 4, Block: name, Votes: []api.Vote{sigBy(1, "sig"), sigBy(2, "")}}} {
		b := octetsOf(c)
		for size := range len(b) {
			none(t, "too few octets", b[:size], api.ErrShort)
		}
	}
	b := octetsOf(cert.First())
	none(t, "a vote that is not there", b[:len(b)-1]+"\x01", api.ErrShort)
}

func TestReadBeyondTheMost(t *testing.T) {
	for _, n := range []int{maxView + 1, maxView + 2, 2 * maxView, 1 << 32, maxAmount, maxAmount + 1, 1<<48 - 1} {
		none(t, "a View beyond the most", octetsOf(api.Cert{View: n, Height: 4, Block: name}), api.ErrRange)
		none(t, "a Height beyond the most", octetsOf(api.Cert{View: 4, Height: n, Block: name}), api.ErrRange)
	}
	for _, size := range []int{33, 34, 64, 256, 288, maxField, maxField + 1, 1<<16 - 1} {
		none(t, "a Block that is too long", octetsOf(api.Cert{View: 4, Height: 4, Block: strings.Repeat("b", size)}), api.ErrLong)
	}
	for size := range 12 {
		c := api.Cert{View: 4, Height: 4, Block: name, Votes: slices.Repeat([]api.Vote{by(1, mark)}, size)}
		if size > 7 {
			none(t, "too many votes", octetsOf(c), api.ErrRange)
		} else if got := cert.Read(pack.Open([]byte(octetsOf(c)))); !same(got, c) {
			t.Errorf("P9.1: Read of %d votes = %v", size, got)
		}
	}
	for _, n := range []int{8, 256, 1<<32 + 1, maxAmount, maxAmount + 1, 1<<48 - 1} {
		b := octetsOf(cert.First())
		none(t, "a number of votes beyond the most", b[:len(b)-6]+low(n, 6)+strings.Repeat(voteOctets(by(1, mark)), 9), api.ErrRange)
	}
}

// A vote that is none is zero: the cert, and what stands behind it, is read all the same.
func TestReadOfAVoteThatIsNone(t *testing.T) {
	a, b := sigBy(1, "a"), sigBy(2, "b")
	for _, wrong := range []api.Vote{{}, {Kind: 5, Block: name}, {Kind: 1, Block: name, Signer: 7}, {Kind: 1, View: maxView + 1, Block: name}, {Kind: 1, Block: "b"}, {Kind: 1, Block: name, Ticks: 1}, {Kind: 4, Block: name}} {
		for at := range 3 {
			c := withVotes(cert.First(), slices.Insert([]api.Vote{a, b}, at, wrong)...)
			want := withVotes(cert.First(), slices.Insert([]api.Vote{a, b}, at, api.Vote{})...)
			r := pack.Open([]byte(octetsOf(c) + low(5, 6)))
			if got := cert.Read(r); !same(got, want) || r.Err() != api.OK {
				t.Errorf("P9.1: Read of %v = %v, Err %d, want %v", c, got, r.Err(), want)
			}
			if n := r.Num(5); n != 5 || r.Left() != 0 {
				t.Errorf("P9.1: behind Read of %v stands %d", c, n)
			}
		}
	}
	word := strings.Replace(octetsOf(withVotes(cert.First(), a, b)), "vote", "Vote", 1)
	if got := cert.Read(pack.Open([]byte(word))); !same(got, withVotes(cert.First(), api.Vote{}, b)) {
		t.Errorf("P9.1: Read of a vote of another word = %v", got)
	}
}

// What a vote can't be read of is an error of the cert.
func TestReadOfAVoteBeyondPack(t *testing.T) {
	a := sigBy(1, "a")
	for at := range 3 {
		for _, n := range []int{maxAmount + 1, 1<<48 - 1} {
			wrong := a
			wrong.View = n
			none(t, "a vote's View beyond pack", octetsOf(withVotes(cert.First(), slices.Insert([]api.Vote{a, a}, at, wrong)...)), api.ErrRange)
		}
		wrong := a
		wrong.Sig = strings.Repeat("s", maxField+1)
		none(t, "a vote's Sig beyond pack", octetsOf(withVotes(cert.First(), slices.Insert([]api.Vote{a, a}, at, wrong)...)), api.ErrLong)
	}
}

func TestReadOfAReaderWithAnError(t *testing.T) {
	right := octetsOf(withVotes(cert.First(), sigBy(1, "a")))
	tooGreat := pack.Open([]byte(low(5, 6) + right))
	tooGreat.Num(4)
	tooLong := pack.Open([]byte(text("a") + right))
	tooLong.Text(0)
	tooShort := pack.Open([]byte(low(len(right)+1, 2) + right))
	tooShort.Text(maxField)
	var nobody *pack.Reader
	readers := map[*pack.Reader]api.Errno{tooGreat: api.ErrRange, tooLong: api.ErrLong, tooShort: api.ErrShort, nobody: api.ErrState, new(pack.Reader): api.ErrState}
	for r, want := range readers {
		for range 2 {
			ends(t, "Read", func() {
				if got := cert.Read(r); !same(got, api.Cert{}) || r.Err() != want {
					t.Errorf("P9.1: Read of a reader with error %d = %v, Err %d, want zero", want, got, r.Err())
				}
			})
		}
	}
}

func TestReadOfAnyOctets(t *testing.T) {
	r := rand.New(rand.NewSource(9))
	whole := octetsOf(api.Cert{View: 3, Height: 4, Block: name, Votes: []api.Vote{sigBy(1, "sig"), sigBy(2, "")}})
	for range 20000 {
		b := []byte(whole)
		for range 1 + r.Intn(3) {
			b[r.Intn(len(b))] = byte(r.Intn(256))
		}
		b = b[:len(b)-r.Intn(2)*r.Intn(len(b))]
		ends(t, "Read", func() {
			reader := pack.Open(b)
			got := cert.Read(reader)
			if reader.Err() != api.OK && !same(got, api.Cert{}) {
				t.Errorf("P9.1: Read of %x = %v, Err %d", b, got, reader.Err())
			}
			if got.View > maxView || got.Height > maxHeight || len(got.Block) > 32 || len(got.Votes) > 7 {
				t.Errorf("P9.1: Read of %x = %v", b, got)
			}
		})
	}
}

func TestArgumentsStay(t *testing.T) {
	all := roots(t)
	wasRoots := slices.Clone(all)
	l := voted(t, mark, 4, 1, 4, 0, 1).Votes
	l = append(l, api.Vote{Kind: 2}, sigBy(2, "b"))
	was := slices.Clone(l)
	made(t, "votes", l[:4], mark, 3, l[3], l[1], l[0])
	notMade(t, "votes", l, mark, 9)
	if !slices.Equal(l, was) {
		t.Errorf("P9.2: Make changed what it was given: %v", l)
	}
	c := withVotes(api.Cert{View: mark.View, Height: mark.Height, Block: mark.Block}, l...)
	cert.Check(c, all, len(l))
	cert.Check(withVotes(c, l[3], l[1], l[0]), all, 3)
	cert.Mark(c)
	w := pack.New()
	cert.Put(w, c)
	if !slices.Equal(l, was) || !same(c, withVotes(c, was...)) || !slices.Equal(all, wasRoots) {
		t.Errorf("P9.2: what was handed in was changed: %v", l)
	}
	told, _ := w.Done()
	l[0].Sig = "changed"
	if again, err := w.Done(); err != api.OK || !bytes.Equal(told, again) {
		t.Error("P9.2: what was put hangs on the list that was handed in")
	}
}

func TestAnswersAreNew(t *testing.T) {
	l := []api.Vote{sigBy(0, "a"), sigBy(1, "b"), sigBy(2, "c")}
	was := slices.Clone(l)
	first, _ := cert.Make(l, mark, 2)
	second, _ := cert.Make(l, mark, 2)
	first.Votes[0].Sig = "changed"
	_ = append(first.Votes, sigBy(6, "more"))
	if !slices.Equal(l, was) || !slices.Equal(second.Votes, was[:2]) {
		t.Errorf("P9.2: an answer of Make shares its votes: %v, %v", l, second)
	}
	l[1].Sig = "changed"
	if !slices.Equal(second.Votes, was[:2]) {
		t.Errorf("P9.2: an answer of Make hangs on what was handed in: %v", second)
	}
	b := []byte(octetsOf(withVotes(cert.First(), was...)))
	one, two := cert.Read(pack.Open(b)), cert.Read(pack.Open(b))
	for i := range b {
		b[i] = 0xee
	}
	one.Votes[0].Sig = "changed"
	if !same(two, withVotes(cert.First(), was...)) {
		t.Errorf("P9.2: an answer of Read shares its votes: %v", two)
	}
}

func TestReadersAndWritersGoOn(t *testing.T) {
	a, b := withVotes(cert.First(), sigBy(1, "a")), api.Cert{View: 2, Height: 3, Block: name}
	w := pack.New()
	cert.Put(w, a)
	told, _ := w.Done()
	cert.Put(w, b)
	all, err := w.Done()
	if string(told) != octetsOf(a) || string(all) != octetsOf(a)+octetsOf(b) || err != api.OK {
		t.Errorf("P9.1: Put of two certs: %x, then %x, %d", told, all, err)
	}
	r := pack.Open(all)
	first := cert.Read(r)
	if second := cert.Read(r); !same(first, a) || !same(second, b) || r.Left() != 0 {
		t.Errorf("P9.1: Read of two certs: %v, then %v", first, second)
	}
	if got := cert.Read(r); !same(got, api.Cert{}) || r.Err() != api.ErrShort {
		t.Errorf("P9.1: Read of nothing = %v, Err %d", got, r.Err())
	}
}

func TestAnswersHangOnArgumentsAlone(t *testing.T) {
	all := roots(t)
	c := voted(t, mark, 1, 3, 6)
	l := slices.Clone(c.Votes)
	slices.Reverse(l)
	var group sync.WaitGroup
	for range 8 {
		group.Go(func() {
			for range 20 {
				got, ok := cert.Make(l, mark, 3)
				if !ok || !same(got, c) || cert.Check(c, all, 3) != api.OK || cert.Check(c, all, 2) != api.ErrSig {
					t.Error("P3: Make or Check has another answer beside other calls")
					return
				}
			}
		})
	}
	group.Wait()
}
