package disk_test

import (
	"math"
	"strings"
	"testing"

	"moot/api"
	"moot/disk"
)

// crashes are what may be kept of so many octets, and how many of them stay.
func crashes(loose int) [][2]int {
	l := [][2]int{
		{math.MinInt, 0}, {math.MinInt + 1, 0}, {-maxDisk, 0}, {-2, 0}, {-1, 0}, {0, 0},
		{loose, loose}, {loose + 1, loose}, {loose + 2, loose}, {maxDisk + loose, loose},
		{1 << 32, loose}, {math.MaxInt - 1, loose}, {math.MaxInt, loose},
	}
	for _, keep := range []int{1, 2, loose / 2, loose - 2, loose - 1} {
		if keep >= 0 && keep <= loose {
			l = append(l, [2]int{keep, keep})
		}
	}
	return l
}

func TestCrash(t *testing.T) {
	for _, p := range pairs() {
		for _, left := range []int{0, 5} {
			for _, c := range crashes(len(p[1])) {
				d := written(t, len(p[0])+len(p[1])+left, p[0], p[1])
				ends(t, "Crash", func() { d.Crash(c[0]) })
				text := p[0] + p[1][:c[1]]
				has(t, "a crash", d, text, 0)
				flushes(t, "what stayed behind a crash", d, 0)
				has(t, "a crash and Flush", d, text, 0)
				isFilled(t, "a disk that crashed", d, text, 0, len(p[1])-c[1]+left)
			}
		}
	}
}

// What stays behind a crash is flushed: the second one takes nothing of it.
func TestCrashTwice(t *testing.T) {
	for _, p := range pairs() {
		for _, first := range crashes(len(p[1])) {
			for _, second := range crashes(len(p[1])) {
				d := written(t, len(p[0])+len(p[1]), p[0], p[1])
				d.Crash(first[0])
				d.Crash(second[0])
				has(t, "two crashes", d, p[0]+p[1][:first[1]], 0)
			}
		}
	}
}

// What was flushed is there, whatever is kept of what comes behind it.
func TestWhatWasFlushedStays(t *testing.T) {
	d := disk.New(1000)
	text := ""
	for round, part := range []string{"one", "two", "", "three", "\x00", "six and more"} {
		for _, c := range crashes(len(part)) {
			appends(t, "what stayed", d, part, api.OK)
			d.Crash(c[0])
			text += part[:c[1]]
			has(t, "a crash behind others", d, text, 0)
		}
		appends(t, "what stayed", d, part, api.OK)
		flushes(t, "a part", d, len(part))
		text += part
		d.Crash(-round)
		has(t, "Flush and a crash", d, text, 0)
	}
}

func TestCrashOfANewDisk(t *testing.T) {
	for _, room := range []int{-1, 0, 1, maxDisk} {
		for _, c := range crashes(0) {
			d := disk.New(room)
			d.Crash(c[0])
			has(t, "a crash of a new disk", d, "", 0)
			isFilled(t, "a new disk that crashed", d, "", 0, max(room, 0))
		}
	}
}

// sizes are those that octets of this size may be cut to.
func sizes(flushed, loose int) []int {
	l := []int{0, flushed, flushed + loose}
	for _, size := range []int{1, 2, flushed / 2, flushed - 1, flushed + 1, flushed + loose/2, flushed + loose - 1} {
		if size >= 0 && size <= flushed+loose {
			l = append(l, size)
		}
	}
	return l
}

func TestCut(t *testing.T) {
	for _, p := range pairs() {
		whole := p[0] + p[1]
		for _, left := range []int{0, 5} {
			for _, size := range sizes(len(p[0]), len(p[1])) {
				d := written(t, len(whole)+left, p[0], p[1])
				cuts(t, "what was written", d, size, api.OK)
				has(t, "Cut", d, whole[:size], 0)
				flushes(t, "what stayed behind Cut", d, 0)
				cuts(t, "what was cut", d, size+1, api.ErrRange)
				cuts(t, "what was cut", d, size, api.OK)
				has(t, "Cut twice", d, whole[:size], 0)
				isFilled(t, "a disk that was cut", d, whole[:size], 0, len(whole)-size+left)
			}
		}
	}
}

// What stays behind Cut is flushed: a crash takes nothing of it.
func TestCrashBehindCut(t *testing.T) {
	for _, p := range pairs() {
		whole := p[0] + p[1]
		for _, size := range sizes(len(p[0]), len(p[1])) {
			for _, c := range crashes(3) {
				d := written(t, len(whole)+3, p[0], p[1])
				cuts(t, "what was written", d, size, api.OK)
				d.Crash(c[0])
				has(t, "Cut and a crash", d, whole[:size], 0)
				appends(t, "what was cut", d, "new", api.OK)
				d.Crash(c[0])
				has(t, "Cut, Append and a crash", d, whole[:size]+"new"[:c[1]], 0)
			}
		}
	}
}

// Cut to a size that may not be changes nothing, what is flushed neither.
func TestCutOfOtherSizes(t *testing.T) {
	for _, p := range pairs() {
		size := len(p[0]) + len(p[1])
		d := written(t, size+9, p[0], p[1])
		for _, wrong := range []int{math.MinInt, math.MinInt + 1, -maxDisk, -size - 1, -size - 2, -2, -1, size + 1, size + 2, size + 9, size + 10, size + maxDisk, maxDisk + 1, 1 << 32, 1<<32 + size, math.MaxInt - 1, math.MaxInt} {
			cuts(t, "what was written", d, wrong, api.ErrRange)
			has(t, "Cut to no size", d, p[0]+p[1], len(p[1]))
		}
		d.Crash(0)
		has(t, "Cut to no size and a crash", d, p[0], 0)
		for _, wrong := range []int{-1, len(p[0]) + 1, size + 1, math.MaxInt} {
			cuts(t, "what stayed", d, wrong, api.ErrRange)
			has(t, "a crash and Cut to no size", d, p[0], 0)
		}
	}
}

// The room is as at first, however often it was filled and what was there taken away.
func TestRoomComesBack(t *testing.T) {
	for _, room := range []int{1, 10, maxDisk} {
		d := disk.New(room)
		for round := range 6 {
			isFilled(t, "an empty disk", d, "", 0, room)
			if round%2 == 0 {
				d.Crash(0)
			} else {
				flushes(t, "a full disk", d, room)
				cuts(t, "a full disk", d, 0, api.OK)
			}
			has(t, "all taken away", d, "", 0)
		}
		half := strings.Repeat("j", room/2)
		appends(t, "an empty disk", d, half, api.OK)
		cuts(t, "half a disk", d, room/4, api.OK)
		isFilled(t, "a quarter", d, half[:room/4], 0, room-room/4)
	}
}
