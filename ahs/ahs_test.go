package ahs

import (
	"math"
	"slices"
	"strings"
	"testing"

	"quaymaster/api"
	"quaymaster/plain"
)

// nowhere is the place of an error that has none.
const nowhere = -1

// refused checks that an error is that Errno, at that place.
func refused(t *testing.T, what string, err error, want api.Errno, place int) {
	t.Helper()
	if got, at := plain.Place(err); got != want || at != place {
		t.Errorf("%s: error %d at %d, want %d at %d", what, got, at, want, place)
	}
}

// wrong checks that neither Right nor Write takes headers, and that nothing is beside the error.
func wrong(t *testing.T, what string, l []api.Ahs, want api.Errno, place int) {
	t.Helper()
	refused(t, "Right of "+what, Right(l), want, place)
	s, err := Write(l)
	refused(t, "Write of "+what, err, want, place)
	if s != "" {
		t.Errorf("Write of %s: %d bytes beside an error", what, len(s))
	}
}

// unread checks that bytes aren't read, and that nothing is beside the error.
func unread(t *testing.T, s string, want api.Errno, place int) {
	t.Helper()
	l, err := Read(s)
	if got, at := plain.Place(err); got != want || at != place || len(l) != 0 {
		t.Errorf("Read(%q) = %v, error %d at %d, want %d at %d", s, l, got, at, want, place)
	}
}

// both checks that headers are right, and written so, and that they are what is read of these bytes.
func both(t *testing.T, l []api.Ahs, s string) {
	t.Helper()
	if err := Right(l); err != nil {
		t.Errorf("Right(%v) = %v", l, err)
	}
	if got, err := Write(l); got != s || err != nil {
		t.Errorf("Write(%v) = %q, %v, want %q", l, got, err, s)
	}
	if got, err := Read(s); !slices.Equal(got, l) || err != nil {
		t.Errorf("Read(%q) = %v, %v, want %v", s, got, err, l)
	}
}

// sized is a header whose data has n bytes.
func sized(n int) api.Ahs {
	return api.Ahs{Data: strings.Repeat("x", n)}
}

// some are headers of all numbers of bytes that may be missing to the next four.
var some = []api.Ahs{
	{Kind: 1, Data: "ab"},
	{Kind: 0, Data: ""},
	{Kind: 255, Data: "\x00\x00\x00"},
	{Kind: 2, Data: "a"},
	{Kind: 3, Data: "abcd\xff"},
	{Kind: 0, Data: "\x00\x01\x00"},
}

const someWritten = "\x00\x02\x01ab\x00\x00\x00" +
	"\x00\x00\x00\x00" +
	"\x00\x03\xff\x00\x00\x00\x00\x00" +
	"\x00\x01\x02a" +
	"\x00\x05\x03abcd\xff" +
	"\x00\x03\x00\x00\x01\x00\x00\x00"

// someBegin is where each of some begins.
var someBegin = []int{0, 8, 12, 20, 24, 32}

func TestBoth(t *testing.T) {
	for _, x := range []struct {
		l []api.Ahs
		s string
	}{
		{nil, ""},
		{[]api.Ahs{}, ""},
		{[]api.Ahs{{}}, "\x00\x00\x00\x00"},
		{[]api.Ahs{{Kind: 255}}, "\x00\x00\xff\x00"},
		{[]api.Ahs{{Kind: 128, Data: "\x00"}}, "\x00\x01\x80\x00"},
		{[]api.Ahs{{Kind: 1, Data: "ab"}}, "\x00\x02\x01ab\x00\x00\x00"},
		{[]api.Ahs{{Kind: 1, Data: "abc"}}, "\x00\x03\x01abc\x00\x00"},
		{[]api.Ahs{{Kind: 1, Data: "abcd"}}, "\x00\x04\x01abcd\x00"},
		{[]api.Ahs{{Kind: 1, Data: "abcde"}}, "\x00\x05\x01abcde"},
		{[]api.Ahs{{}, {}, {}}, strings.Repeat("\x00", 12)},
		{[]api.Ahs{{Kind: 9, Data: strings.Repeat("y", 258)}}, "\x01\x02\x09" + strings.Repeat("y", 258) + "\x00\x00\x00"},
		{some, someWritten},
		{make([]api.Ahs, api.MaxAhs/4), strings.Repeat("\x00", api.MaxAhs)},
		{[]api.Ahs{sized(1017)}, "\x03\xf9\x00" + strings.Repeat("x", 1017)},
	} {
		both(t, x.l, x.s)
	}
}

func TestKinds(t *testing.T) {
	for kind := range 256 {
		both(t, []api.Ahs{{Kind: kind, Data: "z"}}, "\x00\x01"+string([]byte{byte(kind)})+"z")
	}
	for _, kind := range []int{-1, -255, -256, 256, 257, 1 << 16, 1 << 32, math.MinInt, math.MaxInt} {
		wrong(t, "a kind", []api.Ahs{{Kind: kind}}, api.ErrRange, 0)
		wrong(t, "a kind behind others", []api.Ahs{{Kind: 1}, {Kind: 255}, {Kind: kind, Data: "ab"}}, api.ErrRange, 2)
	}
	wrong(t, "two kinds", []api.Ahs{{}, {Kind: 256}, {Kind: -1}}, api.ErrRange, 1)
}

// TestMostBytes: the Pad of each header counts.
func TestMostBytes(t *testing.T) {
	for _, l := range [][]api.Ahs{
		{sized(1014)},
		{sized(1017)},
		{sized(1013), {}},
		{sized(1009), {}, {}},
		{sized(505), sized(509)},
		{sized(506), sized(505)},
		append(make([]api.Ahs, 254), sized(1)),
	} {
		s, err := Write(l)
		if len(s) != api.MaxAhs || err != nil {
			t.Errorf("Write of %d headers: %d bytes, %v", len(l), len(s), err)
		}
		both(t, l, s)
	}
	for _, x := range []struct {
		l     []api.Ahs
		place int
	}{
		{[]api.Ahs{sized(1018)}, 0},
		{[]api.Ahs{sized(1020)}, 0},
		{[]api.Ahs{sized(1 << 16)}, 0},
		{[]api.Ahs{sized(1 << 20)}, 0},
		{[]api.Ahs{sized(1014), {}}, 1}, // 1,017 bytes, and 4, without a Pad
		{[]api.Ahs{sized(1017), {}}, 1},
		{[]api.Ahs{{}, sized(1014)}, 1},
		{[]api.Ahs{sized(507), sized(507)}, 1}, // just 1,020 without Pads
		{[]api.Ahs{sized(506), sized(505), {}}, 2},
		{[]api.Ahs{sized(505), sized(501), {}, {}, sized(2000)}, 4},
		{make([]api.Ahs, 256), 255},
		{make([]api.Ahs, 1000), 255},
		{append(make([]api.Ahs, 254), sized(2)), 254},
	} {
		wrong(t, "too many bytes", x.l, api.ErrLimit, x.place)
	}
}

// TestOrderOfErrors: each header is wholly ahead of the next one, and its kind ahead of its bytes.
func TestOrderOfErrors(t *testing.T) {
	wrong(t, "both in one", []api.Ahs{{}, {Kind: 256, Data: strings.Repeat("x", 2000)}}, api.ErrRange, 1)
	wrong(t, "bytes ahead of a kind", []api.Ahs{{}, sized(1017), {Kind: -1}}, api.ErrLimit, 1)
	wrong(t, "a kind ahead of bytes", []api.Ahs{{}, {Kind: -1}, sized(1017)}, api.ErrRange, 1)
}

func TestReadRefuses(t *testing.T) {
	const one = "\x00\x02\x01ab\x00\x00\x00"
	for _, x := range []struct {
		s     string
		want  api.Errno
		place int
	}{
		{"\x00", api.ErrMissing, 0},
		{"\x00\x00", api.ErrMissing, 0},
		{"\x00\x00\x00", api.ErrMissing, 0}, // its Pad isn't there
		{"\x00\x00\x01", api.ErrMissing, 0},
		{"\x00\x01\x01", api.ErrMissing, 0},
		{"\x00\x02\x01ab", api.ErrMissing, 0},
		{"\x00\x02\x01ab\x00\x00", api.ErrMissing, 0},
		{"\x00\x02\x01ab\x01\x01", api.ErrMissing, 0}, // ErrMissing is told ahead of ErrForm
		{"\xff\xff\x01abcde", api.ErrMissing, 0},
		{"\x01\x00\x01abcde", api.ErrMissing, 0},
		{one + "\x00", api.ErrMissing, 8},
		{one + "\x00\x00\x00", api.ErrMissing, 8},
		{one + "\x00\x09\x01", api.ErrMissing, 8},
		{one + one + "\x00\x06\x01abcde", api.ErrMissing, 16},
		{one + one[:7], api.ErrMissing, 8},
		{"\x00\x00\x00\x01", api.ErrForm, 0},
		{"\x00\x00\x00\x80", api.ErrForm, 0},
		{"\x00\x02\x01ab\x01\x00\x00", api.ErrForm, 0},
		{"\x00\x02\x01ab\x00\x01\x00", api.ErrForm, 0},
		{"\x00\x02\x01ab\x00\x00\x01", api.ErrForm, 0},
		{one + "\x00\x00\x00\xff", api.ErrForm, 8},
		{one + "\x00\x00\x00\x00\x00\x04\x01abcd\x01", api.ErrForm, 12},
		{"\x00\x00\x00\x01\x00", api.ErrForm, 0}, // the first header's error is told
		{one + "\x00\x00\x00\x01\xff\xff\xff", api.ErrForm, 8},
		{"\xff\xff\x01\x00\x00\x00\x00\x01", api.ErrMissing, 0},
	} {
		unread(t, x.s, x.want, x.place)
	}
}

// TestReadOfTooManyBytes: that is told ahead of all else, and without a place.
func TestReadOfTooManyBytes(t *testing.T) {
	for _, n := range []int{api.MaxAhs + 1, api.MaxAhs + 4, 1 << 16, 1 << 20} {
		for _, s := range []string{"\x00", "\xff", "\x00\x01"} {
			unread(t, strings.Repeat(s, n)[:n], api.ErrLimit, nowhere)
		}
	}
	unread(t, strings.Repeat("\xff", api.MaxAhs), api.ErrMissing, 0)
	unread(t, strings.Repeat("\x00", api.MaxAhs-1), api.ErrMissing, api.MaxAhs-4)
}

// TestReadOfBeginnings: a beginning that ends within a header is none.
func TestReadOfBeginnings(t *testing.T) {
	for n := range len(someWritten) {
		i, begins := slices.BinarySearch(someBegin, n)
		if begins {
			both(t, some[:i], someWritten[:n])
		} else {
			unread(t, someWritten[:n], api.ErrMissing, someBegin[i-1])
		}
	}
}

// TestReadOfEachPad turns each bit of each Pad.
func TestReadOfEachPad(t *testing.T) {
	for n := range 8 {
		l := []api.Ahs{{Kind: 7, Data: "abcde"}, sized(n), {Kind: 8}}
		s, err := Write(l)
		if err != nil {
			t.Fatal(err)
		}
		for at := 8 + 3 + n; at < len(s)-4; at++ {
			for bit := range 8 {
				b := []byte(s)
				b[at] ^= 1 << bit
				unread(t, string(b), api.ErrForm, 8)
			}
		}
	}
}

// TestEachSize goes through all that a header alone may have.
func TestEachSize(t *testing.T) {
	for n := range 1018 {
		data := strings.Repeat("\xfe", n)
		lead := string([]byte{byte(n >> 8), byte(n), 77})
		pad := strings.Repeat("\x00", 3-(n+2)%4)
		both(t, []api.Ahs{{Kind: 77, Data: data}}, lead+data+pad)
	}
}

// TestWhatIsReadIsWrittenSo takes short bytes that are headers, and ones that aren't.
func TestWhatIsReadIsWrittenSo(t *testing.T) {
	const alphabet = "\x00\x01\x02\x05"
	read := 0
	for n := range 1 << 16 {
		b := make([]byte, 8)
		for i := range b {
			b[i] = alphabet[n>>(2*i)&3]
		}
		for size := range len(b) + 1 {
			s := string(b[:size])
			l, err := Read(s)
			if err != nil {
				continue
			}
			read++
			if again, err := Write(l); again != s || err != nil {
				t.Fatalf("Read(%q) = %v, which is written %q, %v", s, l, again, err)
			}
		}
	}
	if read == 0 {
		t.Error("nothing was read")
	}
}

// TestListsAreLeft: what is handed in stays as it is, also behind its length, and what comes out is fresh.
func TestListsAreLeft(t *testing.T) {
	whole := slices.Clone(some)
	if s, err := Write(whole[:2]); s != someWritten[:12] || err != nil {
		t.Errorf("Write = %q, %v", s, err)
	}
	if err := Right(whole[:2]); err != nil || !slices.Equal(whole, some) {
		t.Errorf("%v, of %v", err, whole)
	}
	l, _ := Read(someWritten)
	clear(l)
	both(t, some, someWritten)
}
