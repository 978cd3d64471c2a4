package crc

import (
	"hash/crc32"
	"strings"
	"testing"
)

// steps are n bytes, each by so much greater than the one ahead of it.
func steps(n int, first, step byte) string {
	b := make([]byte, n)
	for i := range b {
		b[i] = first + byte(i)*step
	}
	return string(b)
}

func TestSum(t *testing.T) {
	for _, x := range []struct {
		s    string
		want uint32
	}{
		{"", 0},
		{"a", 0xc1d04330},
		{"123456789", 0xe3069283},
		{strings.Repeat("\x00", 32), 0x8a9136aa},
		{strings.Repeat("\xff", 32), 0x62a8ab43},
		{steps(32, 0, 1), 0x46dd794e},
		{steps(32, 31, 255), 0x113fdb5c},
	} {
		if got := Sum(x.s); got != x.want {
			t.Errorf("Sum(%q) = %08x, want %08x", x.s, got, x.want)
		}
	}
}

// TestSumAsTheLibraryHasIt asks of each byte, and of texts of many lengths.
func TestSumAsTheLibraryHasIt(t *testing.T) {
	table := crc32.MakeTable(crc32.Castagnoli)
	var texts []string
	for b := range 256 {
		texts = append(texts, string([]byte{byte(b)}))
	}
	for n := range 300 {
		texts = append(texts, steps(n, byte(n), 37))
	}
	texts = append(texts, steps(100_000, 3, 151))
	for _, s := range texts {
		if got, want := Sum(s), crc32.Checksum([]byte(s), table); got != want {
			t.Errorf("Sum of %d bytes from %q on = %08x, want %08x", len(s), s[:min(len(s), 8)], got, want)
		}
	}
}

func TestDigest(t *testing.T) {
	for _, x := range []struct{ s, want string }{
		{"", "\x00\x00\x00\x00"},
		{"123456789", "\x83\x92\x06\xe3"},
		{strings.Repeat("\x00", 32), "\xaa\x36\x91\x8a"},
		{strings.Repeat("\xff", 32), "\x43\xab\xa8\x62"},
		{steps(32, 0, 1), "\x4e\x79\xdd\x46"},
		{steps(32, 31, 255), "\x5c\xdb\x3f\x11"},
	} {
		if got := Digest(x.s); got != x.want {
			t.Errorf("Digest(%q) = %q, want %q", x.s, got, x.want)
		}
	}
}

// turned is a text in which bits are turned, from a bit on.
func turned(s string, from int, bits uint32) string {
	b := []byte(s)
	for i := range 32 {
		if at := from + i; bits>>i&1 == 1 && at < 8*len(b) {
			b[at/8] ^= 1 << (at % 8)
		}
	}
	return string(b)
}

// TestBitsCloseTogether: whatever is turned within 32 bits, it is another digest.
func TestBitsCloseTogether(t *testing.T) {
	s := steps(48, 5, 29)
	right := Digest(s)
	for from := range 8 * len(s) {
		for _, bits := range []uint32{1, 3, 5, 0x81, 0xff, 0x101, 0x8001, 0xffff, 0x10001, 0xdeadbeef, 0x82f63b79, 0x80000001, 0xffffffff} {
			if Digest(turned(s, from, bits)) == right {
				t.Errorf("bits %x turned from %d on are not seen", bits, from)
			}
		}
	}
}

// TestZerosCount: bytes of 0 that are missing, or too many, are another digest.
func TestZerosCount(t *testing.T) {
	seen := map[string]int{}
	for n := range 100 {
		d := Digest(strings.Repeat("\x00", n))
		if m, ok := seen[d]; ok {
			t.Errorf("%d and %d bytes of 0 have one digest", m, n)
		}
		seen[d] = n
	}
}
