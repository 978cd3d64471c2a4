package md5

import (
	library "crypto/md5"
	"encoding/hex"
	"math"
	"strings"
	"testing"
)

// TestSum has the vectors of RFC 1321, and one more.
func TestSum(t *testing.T) {
	for _, x := range []struct{ s, want string }{
		{"", "d41d8cd98f00b204e9800998ecf8427e"},
		{"a", "0cc175b9c0f1b6a831c399e269772661"},
		{"abc", "900150983cd24fb0d6963f7d28e17f72"},
		{"message digest", "f96b697d7cb7938d525a2f31aaf161d0"},
		{"abcdefghijklmnopqrstuvwxyz", "c3fcd3d76192e4007dfb496cca67e13b"},
		{"ABCDEFGHIJKLMNOPQRSTUVWXYZabcdefghijklmnopqrstuvwxyz0123456789", "d174ab98d277d9f5a5611c2c9f419d9f"},
		{strings.Repeat("1234567890", 8), "57edf4a22be3c955ac49da2e2107b67a"},
		{"The quick brown fox jumps over the lazy dog", "9e107d9d372bb6826bd81d3542a419d6"},
	} {
		if got := hex.EncodeToString([]byte(Sum(x.s))); got != x.want {
			t.Errorf("Sum(%q) = %s, want %s", x.s, got, x.want)
		}
	}
}

// asTheLibraryHasIt checks a sum against the library's.
func asTheLibraryHasIt(t *testing.T, s string) {
	t.Helper()
	want := library.Sum([]byte(s))
	if got := Sum(s); got != string(want[:]) {
		t.Errorf("Sum of %d bytes = %x, want %x", len(s), got, want)
	}
}

// text is n bytes that hang on n.
func text(n int) string {
	b := make([]byte, n)
	x := uint32(n)
	for i := range b {
		x = x*1664525 + 1013904223
		b[i] = byte(x >> 24)
	}
	return string(b)
}

// TestSumOfEachLength goes through the lengths at which what stands behind a text needs a block of its own, and those at which it doesn't.
func TestSumOfEachLength(t *testing.T) {
	for n := range 5 * block {
		for _, s := range []string{text(n), strings.Repeat("\x00", n), strings.Repeat("\x80", n), strings.Repeat("\xff", n)} {
			asTheLibraryHasIt(t, s)
		}
	}
}

func TestSumOfLongTexts(t *testing.T) {
	for _, n := range []int{1000, 1 << 12, 1<<16 - 1, 1 << 16, 1<<20 + 55, 1<<20 + 56} {
		asTheLibraryHasIt(t, text(n))
	}
}

// TestEnding: of a text of 2^29 bytes and more the number of bits needs more than one word.
func TestEnding(t *testing.T) {
	for _, x := range []struct {
		rest string
		size int
		want string
	}{
		{"", 0, "\x80" + strings.Repeat("\x00", 63)},
		{"abc", 3, "abc\x80" + strings.Repeat("\x00", 52) + "\x18\x00\x00\x00\x00\x00\x00\x00"},
		{"", 1<<29 - block, "\x80" + strings.Repeat("\x00", 55) + "\x00\xfe\xff\xff\x00\x00\x00\x00"},
		{"", 1 << 29, "\x80" + strings.Repeat("\x00", 59) + "\x01\x00\x00\x00"},
		{"x", math.MaxInt32 - 62, "x\x80" + strings.Repeat("\x00", 54) + "\x08\xfe\xff\xff\x03\x00\x00\x00"},
	} {
		if got := ending(x.rest, x.size); got != x.want {
			t.Errorf("ending(%q, %d) = %q, want %q", x.rest, x.size, got, x.want)
		}
	}
}

func TestSumOfEachByte(t *testing.T) {
	for c := range 256 {
		asTheLibraryHasIt(t, string([]byte{byte(c)}))
	}
}

// TestNumbers: as RFC 1321 tells how they are made.
func TestNumbers(t *testing.T) {
	for i, got := range numbers {
		if want := uint32(math.Floor(math.Abs(math.Sin(float64(i+1))) * (1 << 32))); got != want {
			t.Errorf("number %d is %08x, want %08x", i, got, want)
		}
	}
}
