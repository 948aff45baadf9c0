package disk_test

import (
	"math"
	"strings"
	"testing"

	"moot/api"
	"moot/disk"
)

const maxDisk = 1 << 18

// ends calls f and says if it panicked (P1).
func ends(t *testing.T, what string, f func()) {
	t.Helper()
	defer func() {
		if x := recover(); x != nil {
			t.Errorf("P1: %s panicked: %v", what, x)
		}
	}()
	f()
}

// has says if a disk has this text, so many octets of it not flushed, however often it is asked.
func has(t *testing.T, what string, d *disk.Disk, text string, loose int) {
	t.Helper()
	ends(t, what, func() {
		for range 2 {
			if got := string(d.Read()); got != text {
				t.Errorf("P12.1: Read behind %s = %.40q (%d octets), want %.40q (%d octets)", what, got, len(got), text, len(text))
			}
			if d.Size() != len(text) || d.Loose() != loose {
				t.Errorf("P12.1: behind %s Size is %d, Loose %d, want %d, %d", what, d.Size(), d.Loose(), len(text), loose)
			}
		}
	})
}

// appends says if Append of a text answers this.
func appends(t *testing.T, what string, d *disk.Disk, text string, want api.Errno) {
	t.Helper()
	ends(t, what, func() {
		if err := d.Append([]byte(text)); err != want {
			t.Errorf("P12.1: Append of %d octets to %s = %d, want %d", len(text), what, err, want)
		}
	})
}

// flushes says if Flush answers this.
func flushes(t *testing.T, what string, d *disk.Disk, want int) {
	t.Helper()
	ends(t, what, func() {
		if got := d.Flush(); got != want {
			t.Errorf("P12.1: Flush of %s = %d, want %d", what, got, want)
		}
	})
}

// cuts says if Cut to a size answers this.
func cuts(t *testing.T, what string, d *disk.Disk, size int, want api.Errno) {
	t.Helper()
	ends(t, what, func() {
		if err := d.Cut(size); err != want {
			t.Errorf("P12.1: Cut of %s to %d = %d, want %d", what, size, err, want)
		}
	})
}

// isFilled says if a disk that has this text takes so many octets more, and no more; behind it the disk is full.
func isFilled(t *testing.T, what string, d *disk.Disk, text string, loose, left int) {
	t.Helper()
	for _, more := range []int{left + 1, left + 2, 2*left + 7, maxDisk + 1, 4 * maxDisk} {
		appends(t, what, d, strings.Repeat("x", more), api.ErrFull)
		has(t, what+" and too many octets", d, text, loose)
	}
	rest := strings.Repeat("y", left)
	appends(t, what, d, rest, api.OK)
	has(t, what+" and as many octets as there is room for", d, text+rest, loose+left)
	appends(t, what+", full", d, "z", api.ErrFull)
	appends(t, what+", full", d, "", api.OK)
	has(t, what+", full", d, text+rest, loose+left)
}

// written is a disk with octets that are flushed, and behind them octets that are not.
func written(t *testing.T, room int, flushed, loose string) *disk.Disk {
	t.Helper()
	d := disk.New(room)
	appends(t, "a new disk", d, flushed, api.OK)
	flushes(t, "what was appended", d, len(flushed))
	appends(t, "what was flushed", d, loose, api.OK)
	has(t, "what was written", d, flushed+loose, len(loose))
	return d
}

// pairs are octets that are flushed, and octets that are not.
func pairs() [][2]string {
	return [][2]string{{"", ""}, {"a", ""}, {"", "b"}, {"c", "d"}, {"flushed", ""}, {"", "loose"}, {"flushed", "loose"}, {"\x00\xff\x00", "\xff\x00\xff\x00"}, {strings.Repeat("e", 4000), strings.Repeat("f", 300)}}
}

func TestExample(t *testing.T) {
	d := written(t, 9, "ab", "cd")
	d.Crash(1)
	has(t, "Crash 1 of ab flushed and cd not", d, "abc", 0)
}

func TestNew(t *testing.T) {
	rooms := []struct{ told, room int }{
		{math.MinInt, 0}, {math.MinInt + 1, 0}, {-maxDisk, 0}, {-2, 0}, {-1, 0},
		{0, 0}, {1, 1}, {2, 2}, {9, 9}, {255, 255}, {256, 256}, {1<<16 + 1, 1<<16 + 1},
		{maxDisk - 1, maxDisk - 1}, {maxDisk, maxDisk}, {maxDisk + 1, maxDisk}, {maxDisk + 2, maxDisk}, {2 * maxDisk, maxDisk},
		{1 << 31, maxDisk}, {1 << 32, maxDisk}, {1<<32 + 5, maxDisk}, {math.MaxInt - 1, maxDisk}, {math.MaxInt, maxDisk},
	}
	for _, r := range rooms {
		ends(t, "New", func() {
			d := disk.New(r.told)
			has(t, "New", d, "", 0)
			isFilled(t, "a new disk", d, "", 0, r.room)
		})
	}
}

// The room is for all octets, however many appends they came by, flushed or not.
func TestRoomOfManyAppends(t *testing.T) {
	for _, room := range []int{1, 7, 1000, maxDisk} {
		d := disk.New(room)
		text := ""
		for len(text)+room/7+1 <= room {
			part := strings.Repeat(string(rune('a'+len(text)%26)), room/7+1)
			appends(t, "a disk with room", d, part, api.OK)
			text += part
			flushes(t, "a part", d, len(part))
		}
		has(t, "many appends", d, text, 0)
		isFilled(t, "a disk that was flushed", d, text, 0, room-len(text))
	}
}

func TestAppendOfOneOctetAtATime(t *testing.T) {
	d := disk.New(maxDisk)
	for i := range maxDisk {
		if err := d.Append([]byte{byte(i * 7)}); err != api.OK || d.Size() != i+1 || d.Loose() != i+1 {
			t.Fatalf("P12.1: Append of octet %d = %d, Size %d, Loose %d", i, err, d.Size(), d.Loose())
		}
	}
	appends(t, "a full disk", d, "x", api.ErrFull)
	for i, got := range d.Read() {
		if got != byte(i*7) {
			t.Fatalf("P12.1: octet %d is %d, want %d", i, got, byte(i*7))
		}
	}
	flushes(t, "a full disk", d, maxDisk)
	if d.Size() != maxDisk || d.Loose() != 0 {
		t.Errorf("P12.1: a full disk that was flushed has Size %d, Loose %d", d.Size(), d.Loose())
	}
}

func TestAppend(t *testing.T) {
	for _, p := range pairs() {
		size := len(p[0]) + len(p[1])
		for _, left := range []int{0, 1, 2, 40} {
			isFilled(t, "a disk that was written", written(t, size+left, p[0], p[1]), p[0]+p[1], len(p[1]), left)
			for part := range left + 1 {
				d := written(t, size+left, p[0], p[1])
				appends(t, "a disk that was written", d, strings.Repeat("g", part), api.OK)
				text := p[0] + p[1] + strings.Repeat("g", part)
				has(t, "Append", d, text, len(p[1])+part)
				isFilled(t, "a disk with more", d, text, len(p[1])+part, left-part)
			}
		}
	}
}

// Nil and empty octets are one (P5), and there is always room for them.
func TestAppendOfNothing(t *testing.T) {
	for _, p := range pairs() {
		for _, left := range []int{0, 1, 9} {
			d := written(t, len(p[0])+len(p[1])+left, p[0], p[1])
			for _, b := range [][]byte{nil, {}, make([]byte, 0, 9)} {
				if err := d.Append(b); err != api.OK {
					t.Errorf("P12.1: Append of nothing with room for %d = %d, want 0", left, err)
				}
				has(t, "Append of nothing", d, p[0]+p[1], len(p[1]))
			}
		}
	}
	for _, room := range []int{math.MinInt, -1, 0} {
		d := disk.New(room)
		if err := d.Append(nil); err != api.OK {
			t.Errorf("P12.1: Append of nothing to a disk without room = %d, want 0", err)
		}
		has(t, "Append of nothing to a disk without room", d, "", 0)
	}
}

func TestFlush(t *testing.T) {
	for _, p := range pairs() {
		d := written(t, len(p[0])+len(p[1])+9, p[0], p[1])
		flushes(t, "what was written", d, len(p[1]))
		has(t, "Flush", d, p[0]+p[1], 0)
		flushes(t, "what was flushed", d, 0)
		has(t, "Flush twice", d, p[0]+p[1], 0)
		appends(t, "what was flushed twice", d, "", api.OK)
		flushes(t, "nothing more", d, 0)
		appends(t, "what was flushed", d, "more", api.OK)
		appends(t, "what was flushed, and more", d, "most", api.OK)
		appends(t, "a disk with room for one octet", d, "xx", api.ErrFull)
		flushes(t, "two appends", d, 8)
		has(t, "Flush of two appends", d, p[0]+p[1]+"moremost", 0)
		d.Crash(0)
		has(t, "Flush and a crash", d, p[0]+p[1]+"moremost", 0)
	}
}

func TestFlushOfANewDisk(t *testing.T) {
	for _, room := range []int{-1, 0, 1, maxDisk} {
		d := disk.New(room)
		for range 2 {
			flushes(t, "a new disk", d, 0)
			has(t, "Flush of a new disk", d, "", 0)
		}
	}
}

// isNone says if a disk answers as one that nobody made.
func isNone(t *testing.T, d *disk.Disk) {
	t.Helper()
	has(t, "no New", d, "", 0)
	flushes(t, "a disk that nobody made", d, 0)
	ends(t, "Read", func() {
		if got := d.Read(); got != nil {
			t.Errorf("P12.1: Read of a disk that nobody made = %v, want nothing", got)
		}
	})
}

func TestDiskThatNobodyMade(t *testing.T) {
	var none *disk.Disk
	for _, d := range []*disk.Disk{none, {}, new(disk.Disk)} {
		isNone(t, d)
		for _, text := range []string{"", "a", "a text", strings.Repeat("h", maxDisk), strings.Repeat("i", maxDisk+1)} {
			appends(t, "a disk that nobody made", d, text, api.ErrState)
			isNone(t, d)
		}
		ends(t, "Append of nil", func() {
			if err := d.Append(nil); err != api.ErrState {
				t.Errorf("P12.1: Append of nil to a disk that nobody made = %d", err)
			}
		})
		for _, n := range []int{math.MinInt, -1, 0, 1, 2, maxDisk, maxDisk + 1, math.MaxInt} {
			cuts(t, "a disk that nobody made", d, n, api.ErrState)
			isNone(t, d)
			ends(t, "Crash", func() { d.Crash(n) })
			isNone(t, d)
		}
	}
}
