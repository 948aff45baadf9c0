// Package octets is layer 1: numbers as octets, the highest octet first (see shared/doc/01-octets.md).
package octets

import (
	"iter"
)

// most is how many octets a number has at most.
const most = 8

// wordSize is how many octets a word has.
const wordSize = 4

// modulus is one above the greatest number that Get answers: what it answers is never below 0.
const modulus = 1 << 62

// Put answers the lowest 8 times size bits of n (size from 0 to 8, else as the nearest).
func Put(n int, size int) []byte {
	size = max(0, min(size, most))
	out := make([]byte, 0, size)
	for o := range falling(uint64(n), size) {
		out = append(out, o)
	}
	return out
}

// Get answers the octets as a number, modulo 2^62.
func Get(b []byte) int {
	var n uint64
	for _, o := range b {
		n = (n<<8 | uint64(o)) % modulus
	}
	return int(n)
}

// Word answers the four octets from a place on; those that are not there are 0.
func Word(b []byte, at int) uint32 {
	if at < 0 || at >= len(b) {
		return 0
	}
	var part [wordSize]byte
	copy(part[:], b[at:])
	var w uint32
	for i := range wordSize {
		w = w<<8 | uint32(part[i])
	}
	return w
}

// Words answers each word in four octets.
func Words(l ...uint32) []byte {
	out := make([]byte, 0, wordSize*len(l))
	for _, w := range l {
		for o := range falling(uint64(w), wordSize) {
			out = append(out, o)
		}
	}
	return out
}

// Join answers all parts, one behind the other.
func Join(l ...[]byte) []byte {
	size := 0
	for _, b := range l {
		size += len(b)
	}
	out := make([]byte, 0, size)
	for _, b := range l {
		out = append(out, b...)
	}
	return out
}

// falling goes through the lowest octets of n, so many of them, the highest first.
func falling(n uint64, size int) iter.Seq[byte] {
	return func(yield func(byte) bool) {
		for i := range size {
			if !yield(byte(n >> (8 * (size - 1 - i)))) {
				return
			}
		}
	}
}
