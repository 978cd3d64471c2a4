package field

import (
	"bytes"
	"math"
	"strings"
	"testing"

	"quaymaster/api"
	"quaymaster/plain"
)

// refused checks that an error is that Errno, and has no place.
func refused(t *testing.T, what string, err error, want api.Errno) {
	t.Helper()
	if got, place := plain.Place(err); got != want || place != -1 {
		t.Errorf("%s: error %d at %d, want %d without a place", what, got, place, want)
	}
}

func TestPut(t *testing.T) {
	for _, x := range []struct {
		n    uint64
		size int
		want string
	}{
		{258, 3, "\x00\x01\x02"},
		{0, 0, ""},
		{0, 1, "\x00"},
		{0, 8, "\x00\x00\x00\x00\x00\x00\x00\x00"},
		{255, 1, "\xff"},
		{256, 2, "\x01\x00"},
		{0x0102030405060708, 8, "\x01\x02\x03\x04\x05\x06\x07\x08"},
		{1 << 63, 8, "\x80\x00\x00\x00\x00\x00\x00\x00"},
		{math.MaxUint64, 8, "\xff\xff\xff\xff\xff\xff\xff\xff"},
	} {
		if got, err := Put(x.n, x.size); got != x.want || err != nil {
			t.Errorf("Put(%d, %d) = %q, %v, want %q", x.n, x.size, got, err, x.want)
		}
	}
}

func TestPutRefuses(t *testing.T) {
	for _, x := range []struct {
		n    uint64
		size int
		want api.Errno
	}{
		{0, -1, api.ErrRange},
		{0, 9, api.ErrRange},
		{0, math.MinInt, api.ErrRange},
		{0, math.MaxInt, api.ErrRange},
		{1, 0, api.ErrLimit},
		{256, 1, api.ErrLimit},
		{math.MaxUint64, 0, api.ErrLimit},
		{math.MaxUint64, 7, api.ErrLimit},
		{math.MaxUint64, -1, api.ErrRange}, // ErrRange is told ahead of ErrLimit
	} {
		got, err := Put(x.n, x.size)
		refused(t, "Put", err, x.want)
		if got != "" {
			t.Errorf("Put(%d, %d) = %q beside an error", x.n, x.size, got)
		}
	}
}

// TestPutBounds goes to the greatest number of each size, and one beyond it.
func TestPutBounds(t *testing.T) {
	for size := range 8 {
		first := uint64(1) << (8 * size)
		if got, err := Put(first-1, size); got != strings.Repeat("\xff", size) || err != nil {
			t.Errorf("Put(%d, %d) = %q, %v", first-1, size, got, err)
		}
		_, err := Put(first, size)
		refused(t, "Put", err, api.ErrLimit)
		if got, err := Put(first, size+1); got != "\x01"+strings.Repeat("\x00", size) || err != nil {
			t.Errorf("Put(%d, %d) = %q, %v", first, size+1, got, err)
		}
	}
}

func TestGet(t *testing.T) {
	for _, x := range []struct {
		s    string
		want uint64
	}{
		{"", 0},
		{"\x00", 0},
		{"\x01\x02", 258},
		{"\x00\x01\x02", 258},
		{"\xff", 255},
		{"\x01\x02\x03\x04\x05\x06\x07\x08", 0x0102030405060708},
		{"\xff\xff\xff\xff\xff\xff\xff\xff", math.MaxUint64},
	} {
		if got, err := Get(x.s); got != x.want || err != nil {
			t.Errorf("Get(%q) = %d, %v, want %d", x.s, got, err, x.want)
		}
	}
}

func TestGetRefuses(t *testing.T) {
	for _, s := range []string{"123456789", strings.Repeat("\x00", 9), "\x00\x00\x00\x00\x00\x00\x00\x00\x01", strings.Repeat("x", 1000)} {
		n, err := Get(s)
		refused(t, "Get", err, api.ErrLimit)
		if n != 0 {
			t.Errorf("Get(%q) = %d beside an error", s, n)
		}
	}
}

// TestJustOneWay: what is written is read, and what is read is written so.
func TestJustOneWay(t *testing.T) {
	for size := range 9 {
		for i := range 64 {
			n := uint64(0xfedcba9876543210) >> i
			s, err := Put(n, size)
			if err != nil {
				continue
			}
			if len(s) != size {
				t.Errorf("Put(%d, %d) has %d bytes", n, size, len(s))
			}
			if got, err := Get(s); got != n || err != nil {
				t.Errorf("Get(Put(%d, %d)) = %d, %v", n, size, got, err)
			}
		}
		s := "\x00\xff\x80\x01\x7f\x00\x10\xfe"[:size]
		n, err := Get(s)
		if got, wrong := Put(n, size); got != s || wrong != nil || err != nil {
			t.Errorf("Put(Get(%q)) = %q, %v, %v", s, got, wrong, err)
		}
	}
}

func TestPad(t *testing.T) {
	for _, x := range []struct{ n, want int }{
		{0, 0}, {1, 3}, {2, 2}, {3, 1}, {4, 0}, {5, 3}, {6, 2}, {7, 1}, {8, 0},
		{-1, 0}, {-2, 0}, {-3, 0}, {-4, 0}, {-5, 0},
		{math.MaxInt, 1}, {math.MaxInt - 1, 2}, {math.MaxInt - 2, 3}, {math.MaxInt - 3, 0},
		{math.MinInt, 0}, {math.MinInt + 1, 0},
	} {
		if got := Pad(x.n); got != x.want {
			t.Errorf("Pad(%d) = %d, want %d", x.n, got, x.want)
		}
	}
}

func TestPadded(t *testing.T) {
	for _, x := range []struct{ s, want string }{
		{"", ""},
		{"a", "a\x00\x00\x00"},
		{"ab", "ab\x00\x00"},
		{"abc", "abc\x00"},
		{"abcd", "abcd"},
		{"abcde", "abcde\x00\x00\x00"},
		{"\x00", "\x00\x00\x00\x00"},
		{"\xff\xfe\xfd\xfc\xfb", "\xff\xfe\xfd\xfc\xfb\x00\x00\x00"},
	} {
		if got := Padded(x.s); got != x.want {
			t.Errorf("Padded(%q) = %q, want %q", x.s, got, x.want)
		}
	}
}

func TestUnpad(t *testing.T) {
	for _, x := range []struct {
		s    string
		n    int
		want string
		size int
	}{
		{"", 0, "", 0},
		{"xyz", 0, "", 0},
		{"a\x00\x00\x00", 1, "a", 4},
		{"ab\x00\x00", 2, "ab", 4},
		{"abc\x00", 3, "abc", 4},
		{"abcd", 4, "abcd", 4},
		{"abcdxyz", 4, "abcd", 4},
		{"abcde\x00\x00\x00x", 5, "abcde", 8},
		{"\x00\x00\x00\x00", 2, "\x00\x00", 4},
		{"\xff\xfe\xfd\x00\xff", 3, "\xff\xfe\xfd", 4},
	} {
		if got, size, err := Unpad(x.s, x.n); got != x.want || size != x.size || err != nil {
			t.Errorf("Unpad(%q, %d) = %q, %d, %v, want %q, %d", x.s, x.n, got, size, err, x.want, x.size)
		}
	}
}

func TestUnpadRefuses(t *testing.T) {
	for _, x := range []struct {
		s    string
		n    int
		want api.Errno
	}{
		{"ab", -1, api.ErrRange},
		{"", -4, api.ErrRange},
		{"", math.MinInt, api.ErrRange},
		{"", 1, api.ErrMissing},
		{"abc", 4, api.ErrMissing},
		{"abcde", 5, api.ErrMissing},
		{"abcde\x00\x00", 5, api.ErrMissing},
		{"abcdexy", 5, api.ErrMissing}, // ErrMissing is told ahead of ErrForm
		{"abc", math.MaxInt, api.ErrMissing},
		{"abc", math.MaxInt - 2, api.ErrMissing},
		{"abc", math.MaxInt - 3, api.ErrMissing},
		{"abcdexyz", 5, api.ErrForm},
		{"a\x01\x00\x00", 1, api.ErrForm},
		{"a\x00\x01\x00", 1, api.ErrForm},
		{"a\x00\x00\x01", 1, api.ErrForm},
		{"ab\x00\xff", 2, api.ErrForm},
		{"abcd", 3, api.ErrForm},
	} {
		got, size, err := Unpad(x.s, x.n)
		refused(t, "Unpad", err, x.want)
		if got != "" || size != 0 {
			t.Errorf("Unpad(%q, %d) = %q, %d beside an error", x.s, x.n, got, size)
		}
	}
}

// TestUnpadUndoesPadded: whatever stands behind it, and no beginning is enough.
func TestUnpadUndoesPadded(t *testing.T) {
	for n := range 20 {
		s := string(bytes.Repeat([]byte{byte(n), 0xff}, n))[:n]
		whole := Padded(s)
		if len(whole)%4 != 0 || len(whole) != n+Pad(n) {
			t.Errorf("Padded(%q) has %d bytes", s, len(whole))
		}
		for _, more := range []string{"", "\x00", "\xff\xff\xff\xff\xff"} {
			if got, size, err := Unpad(whole+more, n); got != s || size != len(whole) || err != nil {
				t.Errorf("Unpad(%q, %d) = %q, %d, %v", whole+more, n, got, size, err)
			}
		}
		for k := range len(whole) {
			_, _, err := Unpad(whole[:k], n)
			refused(t, "Unpad of a beginning", err, api.ErrMissing)
		}
	}
}
