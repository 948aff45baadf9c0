package replica_test

import (
	"math/rand"
	"slices"
	"strings"
	"testing"

	"moot/api"
	"moot/cert"
	"moot/guard"
	"moot/replica"
	"moot/tree"
)

// post is octets on their way to a replica.
type post struct {
	to   int
	data []byte
}

// club is several replicas that hear each other, of which some are corrupted: these do what the test does.
type club struct {
	l       lab
	d       *rand.Rand
	r       []*replica.Replica // nil: corrupted
	mail    []post
	now     int
	said    [][]api.Vote  // by each
	own     [][]api.Block // signed by each
	texts   [][]string
	blocks  *tree.Tree
	crashes int
	spoilt  int
}

// clubOf is a club in which the corrupted are the bits of a number.
func (l lab) clubOf(d *rand.Rand, corrupt int) *club {
	n := len(l.c.Roots)
	c := &club{l: l, d: d, said: make([][]api.Vote, n), own: make([][]api.Block, n), texts: make([][]string, n), blocks: tree.New()}
	for i := range n {
		var r *replica.Replica
		if corrupt>>i&1 == 0 {
			r = l.new(i)
		}
		c.r = append(c.r, r)
	}
	return c
}

// send sends octets to all but one.
func (c *club) send(from int, l ...[]byte) {
	for _, b := range l {
		for to, r := range c.r {
			if to != from && r != nil {
				c.mail = append(c.mail, post{to, b})
			}
		}
	}
}

// hears minds what a replica says, and sends it.
func (c *club) hears(id int, l [][]byte) {
	for _, b := range l {
		m := messageOf(b)
		if m.Kind == aBlock {
			isNew := c.blocks.Put(m.Block)
			if isNew && m.Block.View%len(c.r) == id {
				c.own[id] = append(c.own[id], m.Block)
				c.texts[id] = append(c.texts[id], nameOf(m.Block))
			}
		}
		if m.Kind == aVote && m.Vote.Signer == id {
			c.said[id] = append(c.said[id], m.Vote)
			c.texts[id] = append(c.texts[id], textOf(m.Vote))
		}
	}
	c.send(id, l...)
}

// tick ticks all.
func (c *club) tick() {
	c.now++
	for i, r := range c.r {
		if r != nil {
			c.hears(i, r.Tick(c.now))
		}
	}
}

// deliver lets the mail at a place arrive, or crash who hears it.
func (c *club) deliver(place int, crash bool) {
	p := c.mail[place]
	c.mail = slices.Delete(c.mail, place, place+1)
	if crash {
		c.crashes++
		c.r[p.to].Fail(p.data, c.now, c.d.Intn(1<<c.d.Intn(12)))
		return
	}
	c.hears(p.to, c.r[p.to].Hear(p.data, c.now))
	if c.r[p.to].State().Spoilt {
		c.spoilt++
	}
}

// checked says if what all signed is as it has to be.
func (c *club) checked(what string) {
	t := c.l.t
	t.Helper()
	for i, r := range c.r {
		if r == nil {
			continue
		}
		isSafe(t, what, c.said[i])
		leafOnce(t, c.l, c.said[i])
		if !slices.Equal(r.Signed(), c.texts[i]) {
			t.Errorf("P20.1: %s: Signed of replica %d is %d, it said %d", what, i, len(r.Signed()), len(c.texts[i]))
		}
		if used := len(r.Signed()); r.Next() < used || used > leaves {
			t.Errorf("P20.2: %s: Next of replica %d = %d, it signed %d", what, i, r.Next(), used)
		}
		views := map[int][]string{}
		for _, v := range c.said[i] {
			if v.Kind != blamed {
				views[v.View] = append(views[v.View], v.Block)
			}
		}
		for _, b := range c.own[i] {
			views[b.View] = append(views[b.View], nameOf(b))
		}
		for view, names := range views {
			for j, a := range names {
				for _, b := range names[:j] {
					if !c.blocks.Extends(a, b) && !c.blocks.Extends(b, a) {
						t.Errorf("P20.2: %s: what replica %d signed in view %d lies not on one chain", what, i, view)
					}
				}
			}
		}
	}
}

// In order, where all arrives at once, what replica 0 hears of is on all chains soon, and commit-voted by all.
func TestProgress(t *testing.T) {
	t.Parallel()
	for replicas := 1; replicas <= 5; replicas++ {
		for quorum := 1; quorum <= replicas; quorum++ {
			for pays := 1; pays <= 4; pays++ {
				for _, isInOrder := range []bool{true, false} {
					l := labOf(t, replicas, quorum)
					d := rand.New(rand.NewSource(int64(replicas*100 + quorum*10 + pays)))
					c := l.clubOf(d, 0)
					for nonce := range pays {
						c.mail = append(c.mail, post{0, l.octets(ofTx(l.pay(1, 5, nonce)))})
					}
					for range 12 {
						c.tick()
						for len(c.mail) > 0 {
							place := 0
							if !isInOrder {
								place = d.Intn(len(c.mail))
							}
							c.deliver(place, false)
						}
					}
					c.checked("where all arrives")
					c.isDone(pays)
				}
			}
		}
	}
}

// isDone says if all have a chain with so many transactions, the last block of which they commit-voted.
func (c *club) isDone(pays int) {
	t := c.l.t
	t.Helper()
	for i, r := range c.r {
		done := 0
		for _, b := range r.Chain() {
			done += len(b.Txs)
		}
		last := r.Chain()
		isLast := func(v api.Vote) bool {
			return v.Kind == committed && len(last) > 0 && v.Block == nameOf(last[len(last)-1])
		}
		if done != pays || !slices.ContainsFunc(c.said[i], isLast) {
			t.Errorf("G4: %d replicas, a quorum of %d: %d of %d transactions are on the chain of replica %d", len(c.r), c.l.c.Quorum, done, pays, i)
		}
	}
}

// forge lets a corrupted replica do something: sign two blocks of a view that it leads, and send them to some, vote for what it likes, blame, sleep.
func (c *club) forge(id int) {
	l := c.l
	var views []int
	for _, r := range c.r {
		if r != nil {
			views = append(views, r.State().View)
		}
	}
	view := views[c.d.Intn(len(views))]
	justify := cert.First()
	for _, r := range c.r {
		if r != nil && c.d.Intn(3) == 0 && r.State().Lock.Height > 0 {
			justify = c.highest(r)
		}
	}
	switch c.d.Intn(6) {
	case 0, 1:
		view = view/len(c.r)*len(c.r) + id
		if view >= justify.View {
			for range 1 + c.d.Intn(2) {
				b := l.behind(justify, view, c.d.Intn(leaves), l.pay(c.d.Intn(4), 1+c.d.Intn(9), 0))
				c.blocks.Put(b)
				c.some(l.octets(ofBlock(b)))
				c.some(l.octets(ofVote(l.votes(markOf(b), id)[0])))
			}
		}
	case 2, 3:
		for _, said := range c.said {
			for _, v := range said {
				if v.Kind <= committed && c.d.Intn(4) == 0 {
					c.some(l.octets(ofVote(l.state(c.d.Intn(leaves), about(v.Kind, api.Mark{View: v.View, Height: v.Height, Block: v.Block}, id)))))
				}
			}
		}
	case 4:
		c.some(l.octets(ofVote(l.blame(view, id))))
	}
}

// highest is the cert that is a replica's lock, if others than it said that one.
func (c *club) highest(r *replica.Replica) api.Cert {
	for _, p := range c.mail {
		if m := messageOf(p.data); m.Kind == aCert && cert.Mark(m.Cert) == r.State().Lock {
			return m.Cert
		}
	}
	return cert.First()
}

// some sends octets to some.
func (c *club) some(b []byte) {
	for to, r := range c.r {
		if r != nil && c.d.Intn(2) == 0 {
			c.mail = append(c.mail, post{to, b})
		}
	}
}

// Whatever comes to them, in whatever order, and wherever they crash, what they sign in one view lies on one chain, and no leaf is used twice.
func TestSeveral(t *testing.T) {
	t.Parallel()
	sum := map[string]int{}
	for row := range 90 {
		d := rand.New(rand.NewSource(int64(7000 + row)))
		n := 2 + d.Intn(4)
		l := labOf(t, n, 1+n*2/3)
		corrupt := 0
		if row%3 > 0 {
			corrupt = 1 << d.Intn(n)
		}
		c := l.clubOf(d, corrupt)
		nonces := [4]int{}
		for range 150 {
			switch k := d.Intn(20); {
			case k < 3:
				c.tick()
			case k < 4:
				c.now += d.Intn(2 * base)
			case k < 6 && len(c.said) > 0:
				from := d.Intn(4)
				c.send(-1, l.octets(ofTx(l.pay(from, 1+d.Intn(9), nonces[from]%3))))
				nonces[from]++
			case k < 8 && corrupt > 0:
				for i, r := range c.r {
					if r == nil {
						c.forge(i)
					}
				}
			case k < 9:
				for _, r := range c.r {
					if r != nil {
						r.Up(c.now)
					}
				}
			default:
				for range 1 + d.Intn(12) {
					if len(c.mail) > 0 {
						c.deliver(min(d.Intn(len(c.mail)), d.Intn(len(c.mail))), row%2 == 0 && d.Intn(60) == 0)
					}
				}
			}
		}
		c.checked("several")
		for _, said := range c.said {
			for _, v := range said {
				sum[strings.Fields("none vote commit report blame")[v.Kind]]++
			}
		}
		sum["crash"] += c.crashes
		sum["spoilt"] += c.spoilt
		for _, r := range c.r {
			if r != nil && r.State() != guard.Begin() {
				sum["moved"]++
			}
		}
	}
	t.Log(sum)
	for _, name := range strings.Fields("vote commit report blame crash spoilt moved") {
		if sum[name] < 50 && !t.Failed() {
			t.Errorf("several: %s %d times", name, sum[name])
		}
	}
}

// A leader that sleeps: it is blamed, the next one leads, and all goes on.
func TestLeaderThatSleeps(t *testing.T) {
	for _, replicas := range []int{4, 5} {
		l := labOf(t, replicas, 3)
		c := l.clubOf(rand.New(rand.NewSource(1)), 1)
		c.send(-1, l.octets(ofTx(l.pay(1, 5, 0))), l.octets(ofTx(l.pay(2, 5, 0))))
		for range 12 {
			c.tick()
			for len(c.mail) > 0 {
				c.deliver(0, false)
			}
		}
		c.checked("a leader that sleeps")
		for i, r := range c.r[1:] {
			if chain := r.Chain(); r.State().View != 1 || len(chain) != 1 || len(chain[0].Txs) != 2 || chain[0].View != 1 {
				t.Errorf("P20.1: replica %d, whose leader sleeps: view %d, %d blocks", i+1, r.State().View, len(chain))
			}
		}
	}
}

// A leader that signs two: who hears of both says both, so that all hear of them; all blame it, and go on without it.
func TestLeaderThatSignsTwo(t *testing.T) {
	l := labOf(t, 4, 3)
	c := l.clubOf(rand.New(rand.NewSource(1)), 1)
	a, b := l.first(0, 5), l.first(0, 6)
	c.blocks.Put(a)
	c.blocks.Put(b)
	c.mail = []post{{1, l.octets(ofBlock(a))}, {2, l.octets(ofBlock(b))}, {3, l.octets(ofBlock(a))}}
	c.send(-1, l.octets(ofTx(l.pay(1, 5, 0))))
	for range 2 {
		for len(c.mail) > 0 {
			c.deliver(0, false)
		}
		c.tick()
	}
	for len(c.mail) > 0 {
		c.deliver(0, false)
	}
	c.checked("a leader that signs two")
	for i, r := range c.r[1:] {
		if s := r.State(); s.View != 1 || s.Spoilt || r.Holds().Mark.View != 1 || len(r.Chain()) != 1 {
			t.Errorf("P20.1: replica %d, whose leader signs two: %+v, holds %+v", i+1, s, r.Holds())
		}
	}
}
