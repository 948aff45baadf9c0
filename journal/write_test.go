package journal_test

import (
	"slices"
	"strings"
	"testing"

	"moot/api"
	"moot/disk"
	"moot/journal"
)

// has says if a disk has this text, so many octets of it not flushed.
func has(t *testing.T, what string, d *disk.Disk, text string, loose int) {
	t.Helper()
	if got := string(d.Read()); got != text || d.Loose() != loose {
		t.Errorf("P13.1: behind %s there is %.40q (%d octets, %d not flushed), want %.40q (%d octets, %d not flushed)", what, got, len(got), d.Loose(), text, len(text), loose)
	}
}

// writes says if Write of records answers this.
func writes(t *testing.T, what string, d *disk.Disk, want api.Errno, l ...string) {
	t.Helper()
	ends(t, "Write to "+what, func() {
		if err := journal.Write(d, lists(l)...); err != want {
			t.Errorf("P13.1: Write of %d records (%d octets) to %s = %d, want %d", len(l), len(frames(l...)), what, err, want)
		}
	})
}

// isRecovered says if Recover of a disk tells these records, and leaves their frames, flushed; it is asked twice.
func isRecovered(t *testing.T, what string, d *disk.Disk, want []string) {
	t.Helper()
	ends(t, "Recover of "+what, func() {
		for range 2 {
			got, err := journal.Recover(d)
			if err != api.OK || !slices.Equal(texts(got), want) {
				t.Errorf("P13.1: Recover of %s = %d records, %d, want %d records, 0", what, len(got), err, len(want))
			}
			has(t, "Recover of "+what, d, frames(want...), 0)
		}
	})
}

// with is a disk with octets that are flushed, octets that are not, and room for so many more.
func with(flushed, loose string, left int) *disk.Disk {
	d := disk.New(len(flushed) + len(loose) + left)
	d.Append([]byte(flushed))
	d.Flush()
	d.Append([]byte(loose))
	return d
}

// pairs are octets that are flushed, and octets that are not.
func pairs() [][2]string {
	return [][2]string{{"", ""}, {frame("a"), ""}, {"", frame("b")}, {frames("c", ""), frames("", "d")}, {"no frame", "nor this"}}
}

func TestWrite(t *testing.T) {
	for _, p := range pairs() {
		for _, l := range rows() {
			size := len(frames(l...))
			for _, left := range []int{0, 1, 50} {
				d := with(p[0], p[1], size+left)
				writes(t, "a disk with room", d, api.OK, l...)
				has(t, "Write", d, p[0]+p[1]+frames(l...), len(p[1])+size)
				if left == 0 {
					writes(t, "a full disk", d, api.ErrFull, "")
					writes(t, "a full disk", d, api.OK)
				} else {
					writes(t, "a disk with room for some octets", d, api.ErrFull, strings.Repeat("x", left-1), "")
				}
				has(t, "Write of what there is no room for", d, p[0]+p[1]+frames(l...), len(p[1])+size)
				if d.Crash(0); string(d.Read()) != p[0] {
					t.Errorf("P13.1: Write flushed: behind a crash there are %d octets, want %d", d.Size(), len(p[0]))
				}
			}
		}
	}
}

// One octet more than there is room for, and nothing is written, not even what there would be room for.
func TestWriteOfTooMany(t *testing.T) {
	for _, p := range pairs() {
		for _, l := range rows() {
			size := len(frames(l...))
			for _, lacks := range []int{1, 2, 3, size / 2, size - 1, size} {
				if lacks < 1 || lacks > size {
					continue
				}
				d := with(p[0], p[1], size-lacks)
				writes(t, "a disk without room", d, api.ErrFull, l...)
				has(t, "Write without room", d, p[0]+p[1], len(p[1]))
				writes(t, "a disk without room", d, api.OK)
			}
		}
	}
	for _, room := range []int{-1, 0, 1, 2} {
		d := disk.New(room)
		writes(t, "a disk with room for no frame", d, api.ErrFull, "")
		has(t, "Write of a frame without room", d, "", 0)
	}
}

func TestWriteOfNoRecords(t *testing.T) {
	for _, p := range pairs() {
		for _, left := range []int{0, 1, 9} {
			d := with(p[0], p[1], left)
			for _, l := range [][][]byte{nil, {}, make([][]byte, 0, 9)} {
				ends(t, "Write of no records", func() {
					if err := journal.Write(d, l...); err != api.OK {
						t.Errorf("P13.1: Write of no records = %d, want 0", err)
					}
				})
				has(t, "Write of no records", d, p[0]+p[1], len(p[1]))
			}
		}
	}
}

// Nil and empty records are one (P5).
func TestWriteOfEmptyRecords(t *testing.T) {
	d := with("", "", 9)
	if err := journal.Write(d, nil, []byte{}, make([]byte, 0, 9)); err != api.OK {
		t.Errorf("P13.1: Write of three records of no octets = %d, want 0", err)
	}
	has(t, "Write of three records of no octets", d, "\x00\x00\x00\x00\x00\x00\x00\x00\x00", 9)
	isRecovered(t, "three records of no octets", d, []string{"", "", ""})
}

// A record that is too long goes ahead of room that is not there, wherever it stands.
func TestWriteOfLongRecords(t *testing.T) {
	for _, size := range []int{maxOctets + 1, maxOctets + 2, 1 << 16, maxDisk, maxDisk + 1, 1 << 24, 1<<24 + 1} {
		long := strings.Repeat("l", size)
		for _, room := range []int{0, 3, 20, 2 * maxOctets, maxDisk} {
			for at := range 4 {
				l := slices.Insert([]string{"one", "", "three"}, at, long)
				d := with("", "", room)
				writes(t, "a disk, one too long", d, api.ErrLong, l...)
				has(t, "Write of one that is too long", d, "", 0)
			}
			d := with(frame("ahead"), "loose", room)
			writes(t, "a disk with octets, one too long", d, api.ErrLong, long)
			writes(t, "a disk with octets, three too long", d, api.ErrLong, long, long, long)
			has(t, "Write of one that is too long", d, frame("ahead")+"loose", 5)
		}
	}
}

func TestWriteOfMostOctets(t *testing.T) {
	most := strings.Repeat("m", maxOctets)
	d := with("", "", maxOctets+3)
	writes(t, "a disk with room for the longest", d, api.OK, most)
	has(t, "Write of the longest", d, "\x00\x40\x00"+most, maxOctets+3)
	isRecovered(t, "a disk with the longest", d, []string{most})
	d = with("", "", maxOctets+2)
	writes(t, "a disk without room for the longest", d, api.ErrFull, most)
	has(t, "Write of the longest without room", d, "", 0)
}

// As many records as the greatest disk has room for, all at once and one by one.
func TestWriteFillsADisk(t *testing.T) {
	var l []string
	for range maxDisk / (maxOctets + 3) {
		l = append(l, strings.Repeat("n", maxOctets))
	}
	l = append(l, strings.Repeat("o", maxDisk-len(frames(l...))-3))
	if len(frames(l...)) != maxDisk {
		t.Fatalf("the frames have %d octets, want %d", len(frames(l...)), maxDisk)
	}
	d := disk.New(maxDisk)
	writes(t, "the greatest disk, one octet too many", d, api.ErrFull, append(slices.Clone(l[:len(l)-1]), l[len(l)-1]+"o")...)
	has(t, "Write of one octet too many", d, "", 0)
	writes(t, "the greatest disk", d, api.OK, l...)
	isRecovered(t, "a full disk", d, l)
	writes(t, "a full disk", d, api.ErrFull, "")
	one := disk.New(maxDisk)
	for _, s := range l {
		writes(t, "the greatest disk", one, api.OK, s)
	}
	isRecovered(t, "a disk filled one by one", one, l)
}

func TestWritesStandBehindEachOther(t *testing.T) {
	d := disk.New(maxDisk)
	var all []string
	for i, l := range rows() {
		writes(t, "what was written", d, api.OK, l...)
		all = append(all, l...)
		if i%3 == 0 {
			d.Flush()
		}
		if string(d.Read()) != frames(all...) {
			t.Errorf("P13.1: behind %d writes there are not the frames of all records", i+1)
		}
	}
	isRecovered(t, "many writes", d, all)
}

func TestDiskThatNobodyMade(t *testing.T) {
	var none *disk.Disk
	long := strings.Repeat("l", maxOctets+1)
	for _, d := range []*disk.Disk{none, {}, new(disk.Disk)} {
		for _, l := range [][]string{nil, {}, {""}, {"a"}, {"a", "", "b"}, {long}, {"a", long}, {long, "a"}} {
			writes(t, "a disk that nobody made", d, api.ErrState, l...)
			has(t, "no New", d, "", 0)
		}
		ends(t, "Recover of a disk that nobody made", func() {
			for range 2 {
				if l, err := journal.Recover(d); l != nil || err != api.ErrState {
					t.Errorf("P13.1: Recover of a disk that nobody made = %v, %d, want nothing, %d", l, err, api.ErrState)
				}
			}
		})
		has(t, "no New", d, "", 0)
	}
}

func TestRecover(t *testing.T) {
	for _, l := range rows() {
		whole := frames(l...)
		for _, flushed := range []int{0, 1, 2, 3, len(whole) / 2, len(whole)} {
			if flushed <= len(whole) {
				isRecovered(t, "whole records", with(whole[:flushed], whole[flushed:], 9), l)
			}
		}
	}
	for _, room := range []int{-1, 0, 1, maxDisk} {
		isRecovered(t, "a new disk", disk.New(room), nil)
	}
}

// A beginning of a frame is cut away, flushed or not, and what is written then stands in its place.
func TestRecoverCutsABeginning(t *testing.T) {
	for _, l := range rows() {
		whole := frames(l...)
		for _, next := range []string{"a", "some octets", frames("c", "d")} {
			f := frame(next)
			for size := range len(f) {
				for _, d := range []*disk.Disk{with(whole+f[:size], "", 9), with(whole, f[:size], 9), with("", whole+f[:size], 9)} {
					isRecovered(t, "records and a beginning", d, l)
					writes(t, "what was recovered", d, api.OK, "new")
					isRecovered(t, "what was recovered, and a record", d, append(slices.Clone(l), "new"))
				}
			}
		}
	}
}

func TestRecoverOfNoFrames(t *testing.T) {
	for _, s := range []string{"\x00", "\x00\x00", "\x00\x00\x01", "\xff\xff\xff", "\xff\xff\xff" + frame("a"), "\x00\x40\x01" + strings.Repeat("f", maxOctets+1), "no frame at all"} {
		for _, d := range []*disk.Disk{with(s, "", 9), with("", s, 9), with(s[:1], s[1:], 9)} {
			isRecovered(t, "what begins with no frame", d, nil)
			writes(t, "what was emptied", d, api.OK, "a", "")
			isRecovered(t, "what was emptied, and records", d, []string{"a", ""})
		}
		isRecovered(t, "a record and no frame", with(frame("first"), s, 0), []string{"first"})
	}
	for _, s := range []string{"\xff\xff\xff", "\x00\x40\x01" + strings.Repeat("f", maxOctets+1), "\x01\x00\x00"} {
		isRecovered(t, "no frame between records", with(frame("first"), s+frame("last"), 0), []string{"first"})
	}
}
