package journal_test

import (
	"math"
	"math/rand"
	"slices"
	"strings"
	"testing"

	"moot/api"
	"moot/disk"
	"moot/journal"
)

// whole is how many of these records have their frames within so many octets.
func whole(l []string, size int) int {
	n := 0
	for n < len(l) && len(frames(l[:n+1]...)) <= size {
		n++
	}
	return n
}

// isAsWritten says if behind a crash there is all that was flushed, and of the rest the records that are whole within keep octets; and if it goes on from there.
func isAsWritten(t *testing.T, flushed, loose []string, keep int) {
	t.Helper()
	d := disk.New(maxDisk)
	writes(t, "a new disk", d, api.OK, flushed...)
	d.Flush()
	writes(t, "what was flushed", d, api.OK, loose...)
	d.Crash(keep)
	stays := append(slices.Clone(flushed), loose[:whole(loose, keep)]...)
	got, err := journal.Recover(d)
	if err != api.OK || !slices.Equal(texts(got), stays) {
		t.Errorf("P13.2: of %d records flushed and %d not, Crash %d leaves %d, %d, want %d", len(flushed), len(loose), keep, len(got), err, len(stays))
	}
	has(t, "a crash and Recover", d, frames(stays...), 0)
	writes(t, "what was recovered", d, api.OK, "more", "", "most")
	stays = append(stays, "more", "")
	d.Crash(len(frames("more", "")) + max(keep, 0)%len(frame("most")))
	isRecovered(t, "what was written behind Recover", d, stays)
	writes(t, "what was recovered again", d, api.OK, "last")
	d.Flush()
	d.Crash(0)
	isRecovered(t, "what was flushed behind Recover", d, append(stays, "last"))
}

// parts are lists of records to be flushed, or not.
func parts() [][]string {
	return [][]string{nil, {""}, {"a"}, {"one", "two"}, {"", "", ""}, {"three", "", "four"}, {frame("in a frame"), "\x00\x00\x01", "\xff\xff\xff\xff"}, {strings.Repeat("p", 260)}}
}

func TestCrashes(t *testing.T) {
	for _, flushed := range parts() {
		for _, loose := range parts() {
			for keep := range len(frames(loose...)) + 2 {
				isAsWritten(t, flushed, loose, keep)
			}
			for _, keep := range []int{math.MinInt, -2, -1, maxDisk, math.MaxInt} {
				isAsWritten(t, flushed, loose, keep)
			}
		}
	}
}

// A crash that leaves a beginning takes the record's place from nobody: it isn't told, however often it crashes.
func TestCrashBehindCrash(t *testing.T) {
	d := disk.New(1000)
	var stays []string
	for keep := range 40 {
		writes(t, "what was recovered", d, api.OK, "one", "", "three")
		d.Crash(keep)
		stays = append(stays, []string{"one", "", "three"}[:whole([]string{"one", "", "three"}, keep)]...)
		isRecovered(t, "crash behind crash", d, stays)
	}
}

// book is a disk, what its octets have to be, and how often each thing happened.
type book struct {
	t       *testing.T
	r       *rand.Rand
	d       *disk.Disk
	room    int
	text    string
	flushed int
	times   map[string]int
}

// records draws some, a few of them too long.
func (k *book) records() []string {
	var l []string
	for range k.r.Intn(4) {
		size := k.r.Intn(12)
		if k.r.Intn(30) == 0 {
			size = maxOctets - 1 + k.r.Intn(3)
		}
		l = append(l, likely(k.r, size))
	}
	return l
}

// write writes drawn records.
func (k *book) write() {
	l := k.records()
	want, more := api.OK, frames(l...)
	if len(k.text)+len(more) > k.room {
		want = api.ErrFull
	}
	for _, s := range l {
		if len(s) > maxOctets {
			want = api.ErrLong
		}
	}
	writes(k.t, "a disk of a row", k.d, want, l...)
	switch want {
	case api.OK:
		k.text += more
	case api.ErrFull:
		k.times["full"]++
	case api.ErrLong:
		k.times["long"]++
	}
}

// crash lets a drawn number of octets stay of what was not flushed.
func (k *book) crash() {
	keep := k.r.Intn(len(k.text) - k.flushed + 2)
	k.d.Crash(keep)
	k.text = k.text[:min(len(k.text), k.flushed+keep)]
	k.flushed = len(k.text)
	k.times["crash"]++
}

// recover recovers, and holds it against the page.
func (k *book) recover() {
	l, size := page(k.text)
	if size < len(k.text) {
		k.times["cut"]++
	}
	isRecovered(k.t, "a disk of a row", k.d, l)
	k.text, k.flushed = k.text[:size], size
}

// step does one drawn thing.
func (k *book) step() {
	switch n := k.r.Intn(20); {
	case n < 12:
		k.write()
	case n < 14:
		k.d.Flush()
		k.flushed = len(k.text)
	case n < 17:
		k.crash()
	case n < 19:
		k.recover()
	case k.r.Intn(4) == 0:
		k.d.Cut(0)
		k.text, k.flushed = "", 0
	}
	has(k.t, "a step of a row", k.d, k.text, len(k.text)-k.flushed)
}

// Whatever is written, flushed, crashes and is recovered in a row: octets are as the page says, also where nobody recovers behind a crash.
func TestRows(t *testing.T) {
	r := rand.New(rand.NewSource(3))
	times := map[string]int{}
	for i := range 300 {
		room := r.Intn(200)
		if i%20 == 0 {
			room = maxDisk
		}
		k := &book{t: t, r: r, d: disk.New(room), room: room, times: times}
		for range 120 {
			k.step()
			if t.Failed() {
				return
			}
		}
	}
	for _, what := range []string{"full", "long", "crash", "cut"} {
		if times[what] < 100 {
			t.Errorf("%s: only %d times", what, times[what])
		}
	}
}
