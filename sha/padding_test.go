package sha

import (
	"bytes"
	"testing"
)

// Texts too long to be laid out in a test still have their number of bits in eight octets.
func TestPaddingOfLongTexts(t *testing.T) {
	cases := []struct {
		size int
		end  string
	}{
		{1<<29 - 1, "\x00\x00\x00\x00\xff\xff\xff\xf8"},
		{1 << 29, "\x00\x00\x00\x01\x00\x00\x00\x00"},
		{1<<31 - 1, "\x00\x00\x00\x03\xff\xff\xff\xf8"},
	}
	for _, c := range cases {
		got := padding(c.size)
		if (c.size+len(got))%blockSize != 0 || got[0] != 128 || !bytes.HasSuffix(got, []byte(c.end)) {
			t.Errorf("P2.1: the padding of %d octets = %x, want %x at the end", c.size, got, c.end)
		}
	}
}
