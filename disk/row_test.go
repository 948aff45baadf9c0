package disk_test

import (
	"bytes"
	"math"
	"math/rand"
	"slices"
	"strings"
	"sync"
	"testing"

	"moot/api"
	"moot/disk"
)

// held is what a disk has to have: a text, the first of its octets flushed.
type held struct {
	room    int
	text    string
	flushed int
}

// told is an answer of Read, and the text that it was.
type told struct {
	b    []byte
	text string
}

// row is a disk, what it has to have, all that it told, and how often each thing happened.
type row struct {
	t     *testing.T
	r     *rand.Rand
	d     *disk.Disk
	h     held
	told  []told
	times map[string]int
}

// number draws one from below 0 to above size, or one of the greatest and least.
func (w *row) number(size int) int {
	if w.r.Intn(20) == 0 {
		return []int{math.MinInt, -1 << 32, maxDisk, 1 << 32, math.MaxInt}[w.r.Intn(5)]
	}
	return w.r.Intn(size+5) - 2
}

// append puts drawn octets behind, and then changes them.
func (w *row) append() {
	b := make([]byte, w.r.Intn(2+w.r.Intn(2)*w.h.room))
	w.r.Read(b)
	want, more := api.OK, string(b)
	if len(w.h.text)+len(b) > w.h.room {
		want, more = api.ErrFull, ""
		w.times["full"]++
	}
	if err := w.d.Append(b); err != want {
		w.t.Errorf("P12.1: Append of %d octets to %d of %d = %d, want %d", len(b), len(w.h.text), w.h.room, err, want)
	}
	w.h.text += more
	overwrite(b)
}

// flush flushes all.
func (w *row) flush() {
	want := len(w.h.text) - w.h.flushed
	if got := w.d.Flush(); got != want {
		w.t.Errorf("P12.1: Flush = %d, want %d", got, want)
	}
	w.h.flushed = len(w.h.text)
}

// crash lets a drawn number of octets stay of what was not flushed.
func (w *row) crash() {
	keep := w.number(len(w.h.text) - w.h.flushed)
	w.d.Crash(keep)
	for len(w.h.text) > w.h.flushed && (keep < 0 || len(w.h.text)-w.h.flushed > keep) {
		w.h.text = w.h.text[:len(w.h.text)-1]
		w.times["taken by a crash"]++
	}
	w.h.flushed = len(w.h.text)
}

// cut lets a drawn number of octets stay.
func (w *row) cut() {
	size := w.number(len(w.h.text))
	err := w.d.Cut(size)
	if size < 0 || size > len(w.h.text) {
		if err != api.ErrRange {
			w.t.Errorf("P12.1: Cut of %d octets to %d = %d, want %d", len(w.h.text), size, err, api.ErrRange)
		}
		w.times["cut to no size"]++
		return
	}
	if err != api.OK {
		w.t.Errorf("P12.1: Cut of %d octets to %d = %d, want 0", len(w.h.text), size, err)
	}
	if size < w.h.flushed {
		w.times["flushed octets cut off"]++
	} else if size < len(w.h.text) {
		w.times["loose octets cut off"]++
	}
	w.h.text, w.h.flushed = w.h.text[:size], size
}

// read keeps an answer; of some it changes another one, and the room behind it.
func (w *row) read() {
	w.told = append(w.told, told{w.d.Read(), w.h.text})
	if w.r.Intn(2) == 0 {
		overwrite(w.d.Read())
	}
}

// step does one drawn thing, and holds the disk against what it has to have.
func (w *row) step() {
	switch n := w.r.Intn(20); {
	case n < 10:
		w.append()
	case n < 13:
		w.flush()
	case n < 16:
		w.crash()
	case n < 18:
		w.cut()
	default:
		w.read()
	}
	has(w.t, "a step of a row", w.d, w.h.text, len(w.h.text)-w.h.flushed)
}

// run does so many steps with a disk of this room, and says if an answer changed behind its call.
func run(t *testing.T, r *rand.Rand, room, steps int, times map[string]int) {
	t.Helper()
	w := &row{t: t, r: r, d: disk.New(room), h: held{room: room}, times: times}
	for range steps {
		w.step()
		if t.Failed() {
			return
		}
	}
	for _, x := range w.told {
		if string(x.b) != x.text {
			t.Errorf("P12.3: what Read told as %.40q is %.40q when more was called", x.text, x.b)
		}
	}
}

func TestRows(t *testing.T) {
	r := rand.New(rand.NewSource(12))
	times := map[string]int{}
	for range 300 {
		run(t, r, r.Intn(60), 200, times)
	}
	for range 6 {
		run(t, r, maxDisk, 60, times)
	}
	for _, what := range []string{"full", "taken by a crash", "cut to no size", "flushed octets cut off", "loose octets cut off"} {
		if times[what] < 100 {
			t.Errorf("%s: only %d times", what, times[what])
		}
	}
}

// overwrite fills octets and the room behind them.
func overwrite(b []byte) {
	b = b[:cap(b)]
	for i := range b {
		b[i] = 0xee
	}
}

// What is handed in is neither changed nor kept, nor the octets that stand behind it.
func TestOctetsOfAppend(t *testing.T) {
	for _, ahead := range []string{"", "ahead"} {
		d := written(t, 100, ahead, "")
		whole := []byte("octets that are appended, and what stands behind them")
		was := slices.Clone(whole)
		appended := ahead
		for _, size := range []int{6, 0, 24} {
			if err := d.Append(whole[:size]); err != api.OK {
				t.Fatalf("P12.1: Append of %d octets = %d", size, err)
			}
			appended += string(was[:size])
		}
		d.Append(bytes.Repeat(whole, 3))
		d.Flush()
		d.Append(whole[:1])
		d.Crash(0)
		if !bytes.Equal(whole, was) {
			t.Errorf("P12.3: octets that were handed in were changed: %q, were %q", whole, was)
		}
		overwrite(whole)
		has(t, "a change of what was appended", d, appended, 0)
	}
}

// What Append refuses isn't there either, however much room there is behind it.
func TestOctetsThatAreRefusedStay(t *testing.T) {
	d := written(t, 10, "flushed", "ab")
	long := []byte("long")
	appends(t, "a disk with room for one octet", d, string(long), api.ErrFull)
	if err := d.Append(long); err != api.ErrFull || string(long) != "long" {
		t.Errorf("P12.3: Append of what there is no room for = %d, and made it %q", err, long)
	}
	has(t, "Append of what there is no room for", d, "flushedab", 2)
	appends(t, "a disk with room for one octet", d, "c", api.OK)
	has(t, "Append of what there is room for", d, "flushedabc", 3)
}

func TestReadIsNewMemory(t *testing.T) {
	for _, p := range pairs() {
		d := written(t, len(p[0])+len(p[1])+20, p[0], p[1])
		whole := p[0] + p[1]
		first, second := d.Read(), d.Read()
		overwrite(first)
		has(t, "a change of what Read told", d, whole, len(p[1]))
		if string(second) != whole {
			t.Errorf("P12.3: two answers of Read share memory: %.40q, want %.40q", second, whole)
		}
		// The room behind an answer is nobody else's.
		one, two := d.Read(), d.Read()
		one, two = append(one, "one"...), append(two, "two"...)
		appends(t, "what was read", d, "more", api.OK)
		has(t, "Append behind Read", d, whole+"more", len(p[1])+4)
		if string(one) != whole+"one" || string(two) != whole+"two" {
			t.Errorf("P12.3: answers of Read and the disk share the room behind them: %.40q, %.40q", one, two)
		}
	}
}

// Whatever is called behind Read, what it told stays; and what comes where octets were taken away is told anew.
func TestAnswersOfReadStay(t *testing.T) {
	for _, p := range pairs() {
		whole := p[0] + p[1]
		for _, take := range []func(d *disk.Disk){
			func(d *disk.Disk) {},
			func(d *disk.Disk) { d.Flush() },
			func(d *disk.Disk) { d.Crash(0) },
			func(d *disk.Disk) { d.Crash(1) },
			func(d *disk.Disk) { d.Crash(math.MaxInt) },
			func(d *disk.Disk) { d.Cut(0) },
			func(d *disk.Disk) { d.Cut(1) },
			func(d *disk.Disk) { d.Cut(len(whole) / 2) },
			func(d *disk.Disk) { d.Cut(len(whole)) },
		} {
			d := written(t, len(whole)+50, p[0], p[1])
			first := d.Read()
			take(d)
			stayed := d.Read()
			was := string(stayed)
			appends(t, "what stayed", d, "put over it", api.OK)
			has(t, "Append to what stayed", d, was+"put over it", d.Loose())
			if string(first) != whole || string(stayed) != was {
				t.Errorf("P12.3: what Read told as %.40q and %.40q is %.40q and %.40q", whole, was, first, stayed)
			}
		}
	}
}

// One disk has nothing to do with another one.
func TestDisksAreApart(t *testing.T) {
	one, two := disk.New(9), disk.New(5)
	b := []byte("both")
	one.Append(b)
	two.Append(b)
	flushes(t, "the first", one, 4)
	appends(t, "the second", two, "xx", api.ErrFull)
	two.Crash(1)
	has(t, "another one's crash", one, "both", 0)
	has(t, "its own crash", two, "b", 0)
	one.Append([]byte("1"))
	two.Append([]byte("2"))
	two.Cut(0)
	has(t, "another one's Cut", one, "both1", 1)
	has(t, "its own Cut", two, "", 0)
}

func TestAnswersHangOnWhatTheDiskWasTold(t *testing.T) {
	shared := []byte("what all of them append")
	var all sync.WaitGroup
	for g := range 8 {
		all.Go(func() {
			d := disk.New(100)
			text := ""
			for i := range 200 {
				err := d.Append(shared)
				d.Crash(i % (g + 2))
				text += string(shared[:min(i%(g+2), len(shared))])
				if err == api.ErrFull {
					d.Cut(0)
					text = ""
				}
				if string(d.Read()) != text || d.Loose() != 0 || d.Size() != len(text) {
					t.Errorf("P3: call %d of %d has another answer beside other calls", i, g)
					return
				}
			}
		})
	}
	all.Wait()
	if !strings.HasPrefix(string(shared), "what all") {
		t.Error("P12.3: what was appended was changed")
	}
}
