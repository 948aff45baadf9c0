package journal_test

import (
	"slices"
	"strings"
	"sync"
	"testing"

	"moot/api"
	"moot/disk"
	"moot/journal"
)

// overwrite fills octets and the room behind them.
func overwrite(b []byte) {
	b = b[:cap(b)]
	for i := range b {
		b[i] = 0xee
	}
}

// roomy is octets with room behind them, which has to stay as it is.
func roomy(s string) []byte {
	return []byte(s + "what stands behind")[:len(s)]
}

// isRoomy says if octets, and those behind them, are as they were.
func isRoomy(t *testing.T, what string, b []byte, s string) {
	t.Helper()
	if got := string(b[:len(s)+len("what stands behind")]); got != s+"what stands behind" {
		t.Errorf("P13.3: %s changed what was handed in: %.60q", what, got)
	}
}

func TestFrameIsNewMemory(t *testing.T) {
	for _, s := range []string{"", "a", "some octets", strings.Repeat("q", maxOctets)} {
		b := roomy(s)
		one, _ := journal.Frame(b)
		two, _ := journal.Frame(b)
		isRoomy(t, "Frame", b, s)
		overwrite(one)
		isRoomy(t, "a change of what Frame told", b, s)
		if string(two) != frame(s) {
			t.Errorf("P13.3: two answers of Frame share memory: %.40q", two)
		}
		overwrite(b)
		if string(two) != frame(s) {
			t.Errorf("P13.3: Frame tells what was handed in, not new memory: %.40q", two)
		}
	}
}

// overwriteEach changes records one by one, and says if one of them changed another.
func overwriteEach(t *testing.T, what string, l [][]byte, was []string) {
	t.Helper()
	for i := range l {
		overwrite(append(l[i], "and more"...))
		overwrite(l[i])
		for j := i + 1; j < len(l); j++ {
			if string(l[j]) != was[j] {
				t.Errorf("P13.3: records %d and %d of %s share memory", i, j, what)
			}
		}
	}
}

func TestScanIsNewMemory(t *testing.T) {
	for _, l := range rows() {
		s := frames(l...) + "\x00"
		b := roomy(s)
		one, _ := journal.Scan(b)
		two, _ := journal.Scan(b)
		three, _ := journal.Scan(b)
		isRoomy(t, "Scan", b, s)
		overwriteEach(t, "what Scan told", one, l)
		isRoomy(t, "a change of what Scan told", b, s)
		for i := range three {
			three[i] = nil
		}
		if !slices.Equal(texts(two), l) {
			t.Error("P13.3: two answers of Scan share memory")
		}
		overwrite(b)
		if !slices.Equal(texts(two), l) {
			t.Error("P13.3: Scan tells what was handed in, not new memory")
		}
	}
}

// What is handed in to Write is neither changed nor kept: the records, the list of them, and what stands behind both.
func TestOctetsOfWrite(t *testing.T) {
	long := strings.Repeat("l", maxOctets+1)
	for _, l := range append(rows(), []string{"one", long, "three"}, []string{"too", "many", strings.Repeat("r", 9000), strings.Repeat("r", 9000)}) {
		var handed [][]byte
		for _, s := range append(slices.Clone(l), "not", "handed", "in") {
			handed = append(handed, roomy(s))
		}
		d := disk.New(maxDisk)
		if strings.HasPrefix(strings.Join(l, ""), "too") {
			d = disk.New(2000)
		}
		err := journal.Write(d, handed[:len(l)]...)
		for i, s := range append(slices.Clone(l), "not", "handed", "in") {
			isRoomy(t, "Write", handed[i], s)
		}
		want := frames(l...)
		if err != api.OK {
			want = ""
		}
		for i := range handed {
			overwrite(handed[i])
			handed[i] = nil
		}
		has(t, "a change of what was written", d, want, len(want))
	}
}

// One record may be handed in many times.
func TestWriteOfOneRecordManyTimes(t *testing.T) {
	b := roomy("same")
	d := disk.New(100)
	if err := journal.Write(d, b, b, b[:2], b); err != api.OK {
		t.Errorf("P13.1: Write of one record many times = %d", err)
	}
	isRoomy(t, "Write", b, "same")
	isRecovered(t, "one record many times", d, []string{"same", "same", "sa", "same"})
	l, _ := journal.Recover(d)
	overwriteEach(t, "what Recover told", l, []string{"same", "same", "sa", "same"})
}

func TestRecoverIsNewMemory(t *testing.T) {
	for _, l := range rows() {
		d := with(frames(l...), "\x00\x00", 20)
		read := d.Read()
		one, _ := journal.Recover(d)
		two, _ := journal.Recover(d)
		scanned, _ := journal.Scan(read)
		overwriteEach(t, "what Recover told", one, l)
		has(t, "a change of what Recover told", d, frames(l...), 0)
		if !slices.Equal(texts(two), l) || !slices.Equal(texts(scanned), l) || string(read) != frames(l...)+"\x00\x00" {
			t.Error("P13.3: an answer of Recover shares memory with another answer")
		}
		writes(t, "what was recovered", d, api.OK, "behind")
		d.Cut(0)
		writes(t, "what was emptied", d, api.OK, "anew")
		if !slices.Equal(texts(two), l) {
			t.Error("P13.3: what Recover told changes with the disk")
		}
	}
}

// One disk has nothing to do with another one.
func TestDisksAreApart(t *testing.T) {
	one, two := disk.New(30), disk.New(9)
	b := []byte("both")
	for _, d := range []*disk.Disk{one, two} {
		if err := journal.Write(d, b); err != api.OK {
			t.Errorf("P13.1: Write = %d", err)
		}
	}
	writes(t, "the second", two, api.ErrFull, "")
	writes(t, "the first", one, api.OK, "only here")
	two.Crash(3)
	isRecovered(t, "the second", two, nil)
	isRecovered(t, "the first", one, []string{"both", "only here"})
}

func TestAnswersHangOnArgumentsAlone(t *testing.T) {
	shared := [][]byte{[]byte("what all"), nil, []byte("of them write")}
	want := []string{"what all", "", "of them write"}
	octets := []byte(frames(want...) + "\x00\x00")
	var all sync.WaitGroup
	for g := range 8 {
		all.Go(func() {
			d := disk.New(maxDisk)
			var stays []string
			for i := range 100 {
				scanned, size := journal.Scan(octets)
				framed, _ := journal.Frame(shared[2])
				err := journal.Write(d, shared...)
				d.Crash(i % (g + 30))
				stays = append(stays, want[:whole(want, i%(g+30))]...)
				told, _ := journal.Recover(d)
				if !slices.Equal(texts(scanned), want) || size != len(octets)-2 || string(framed) != frame(want[2]) || err != api.OK || !slices.Equal(texts(told), stays) {
					t.Errorf("P3: call %d of %d has another answer beside other calls", i, g)
					return
				}
				for _, b := range append(append(scanned, told...), framed) {
					overwrite(b)
				}
			}
		})
	}
	all.Wait()
	if !slices.Equal(texts(shared), want) || string(octets) != frames(want...)+"\x00\x00" {
		t.Error("P13.3: what was handed in was changed")
	}
}
