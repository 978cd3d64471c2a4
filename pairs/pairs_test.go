package pairs

import (
	"math/rand"
	"slices"
	"strings"
	"testing"

	"quaymaster/api"
	"quaymaster/plain"
)

// nowhere is the place of an error that has none.
const nowhere = -1

// What a key may have, letter by letter, and what its first one may be; what a value may have.
const (
	greatLetters = "ABCDEFGHIJKLMNOPQRSTUVWXYZ"
	keyLetters   = greatLetters + "abcdefghijklmnopqrstuvwxyz" + "0123456789" + ".-+@_"
	valueLetters = " !\"#$%&'()*+,-./0123456789:;<=>?@ABCDEFGHIJKLMNOPQRSTUVWXYZ[\\]^_`abcdefghijklmnopqrstuvwxyz{|}~"
)

// refused checks that an error is that Errno, at that place.
func refused(t *testing.T, what string, err error, want api.Errno, place int) {
	t.Helper()
	if got, at := plain.Place(err); got != want || at != place {
		t.Errorf("%s: error %d at %d, want %d at %d", what, got, at, want, place)
	}
}

// wrongPairs checks that neither Right nor Print takes pairs, and that nothing is beside the error.
func wrongPairs(t *testing.T, what string, l []api.Pair, want api.Errno, place int) {
	t.Helper()
	refused(t, "Right of "+what, Right(l), want, place)
	s, err := Print(l)
	refused(t, "Print of "+what, err, want, place)
	if s != "" {
		t.Errorf("Print of %s: %q beside an error", what, s)
	}
}

// unread checks that a text isn't read, and that nothing is beside the error.
func unread(t *testing.T, s string, want api.Errno, place int) {
	t.Helper()
	l, err := Parse(s)
	if got, at := plain.Place(err); got != want || at != place || len(l) != 0 {
		t.Errorf("Parse(%.100q) = %.100v, error %d at %d, want %d at %d", s, l, got, at, want, place)
	}
}

// both checks that pairs are right, and printed so, and that they are what is read of this text.
func both(t *testing.T, l []api.Pair, s string) {
	t.Helper()
	if err := Right(l); err != nil {
		t.Errorf("Right(%.100v) = %v", l, err)
	}
	if got, err := Print(l); got != s || err != nil {
		t.Errorf("Print(%.100v) = %.100q, %v, want %.100q", l, got, err, s)
	}
	if got, err := Parse(s); !slices.Equal(got, l) || err != nil {
		t.Errorf("Parse(%.100q) = %.100v, %v, want %.100v", s, got, err, l)
	}
}

// one is a byte as a text.
func one(c int) string { return string([]byte{byte(c)}) }

// copies are n pairs, all alike.
func copies(n int, key, value string) []api.Pair {
	return slices.Repeat([]api.Pair{{Key: key, Value: value}}, n)
}

// some are pairs with one key twice, and with values that look like other parts.
var some = []api.Pair{
	{Key: "A", Value: "x=y"},
	{Key: "B"},
	{Key: "A", Value: "="},
	{Key: "X-com.example+1@_", Value: " ~ "},
	{Key: "Z9", Value: "==B=1"},
}

const someText = "A=x=y\x00" + "B=\x00" + "A==\x00" + "X-com.example+1@_= ~ \x00" + "Z9===B=1\x00"

// someEnd is where each of some ends.
var someEnd = []int{6, 9, 13, 35, 44}

func TestKeyOfEachByte(t *testing.T) {
	for c := range 256 {
		great := strings.Contains(greatLetters, one(c))
		if got := Key(one(c)); got != great {
			t.Errorf("Key(%q) = %v", one(c), got)
		}
		may := strings.Contains(keyLetters, one(c))
		for _, x := range []string{"A", "Zz", "M9.-+@_"} {
			if got := Key(x + one(c)); got != may {
				t.Errorf("Key(%q) = %v", x+one(c), got)
			}
			if got := Key(x + one(c) + "a"); got != may {
				t.Errorf("Key(%q) = %v", x+one(c)+"a", got)
			}
			if got := Key(one(c) + x); got != great {
				t.Errorf("Key(%q) = %v", one(c)+x, got)
			}
		}
	}
}

// TestKeyOfEachPlace has a letter that may not be at each place but the first one.
func TestKeyOfEachPlace(t *testing.T) {
	for n := 1; n <= api.MaxKey; n++ {
		key := "K" + strings.Repeat("a", n-1)
		if !Key(key) {
			t.Errorf("Key of %d letters is false", n)
		}
		for i := range n {
			for _, c := range []string{" ", "=", "\x00", "/", "~", "\xc4", "\xff"} {
				if s := key[:i] + c + key[i+1:]; Key(s) {
					t.Errorf("Key(%q) is true", s)
				}
			}
		}
	}
}

func TestKeySizes(t *testing.T) {
	for n := range 300 {
		if got := Key(strings.Repeat("A", n)); got != (n >= 1 && n <= 63) {
			t.Errorf("Key of %d letters = %v", n, got)
		}
	}
	if Key(strings.Repeat("A", 1<<16+1)) {
		t.Error("Key of 2^16 letters, and one, is true")
	}
	for _, s := range []string{"É", "AÉ", "Ａ", "A\u0130"} {
		if Key(s) {
			t.Errorf("Key(%q) is true", s)
		}
	}
}

func TestValueOfEachByte(t *testing.T) {
	if len(valueLetters) != 95 {
		t.Fatalf("%d letters", len(valueLetters))
	}
	for c := range 256 {
		may := strings.Contains(valueLetters, one(c))
		for _, s := range []string{one(c), one(c) + "a", "a" + one(c), "a b" + one(c) + "~"} {
			if got := Value(s); got != may {
				t.Errorf("Value(%q) = %v", s, got)
			}
		}
	}
}

// TestValueSizes has a letter that may not be at each place of the longest value, too.
func TestValueSizes(t *testing.T) {
	for n := range 600 {
		if got := Value(strings.Repeat("v", n)); got != (n <= 255) {
			t.Errorf("Value of %d letters = %v", n, got)
		}
	}
	if Value(strings.Repeat("v", 1<<16)) {
		t.Error("Value of 2^16 letters is true")
	}
	longest := strings.Repeat(" ", api.MaxValue)
	for i := range longest {
		for _, c := range []string{"\x00", "\x1f", "\x7f", "\x80", "\xff"} {
			if s := longest[:i] + c + longest[i+1:]; Value(s) {
				t.Errorf("Value(%q) is true", s)
			}
		}
	}
}

func TestBoth(t *testing.T) {
	longestKey, longestValue := strings.Repeat("K", 63), strings.Repeat("v", 255)
	for _, x := range []struct {
		l []api.Pair
		s string
	}{
		{nil, ""},
		{[]api.Pair{}, ""},
		{[]api.Pair{{Key: "A", Value: "x=y"}, {Key: "B"}}, "A=x=y\x00B=\x00"},
		{[]api.Pair{{Key: "A"}}, "A=\x00"},
		{[]api.Pair{{Key: "A", Value: "="}}, "A==\x00"},
		{[]api.Pair{{Key: "A", Value: "A=1"}}, "A=A=1\x00"},
		{[]api.Pair{{Key: "A", Value: valueLetters}}, "A=" + valueLetters + "\x00"},
		{[]api.Pair{{Key: "A", Value: "1"}, {Key: "A", Value: "1"}}, "A=1\x00A=1\x00"},
		{[]api.Pair{{Key: "B", Value: "1"}, {Key: "A", Value: "2"}}, "B=1\x00A=2\x00"},
		{[]api.Pair{{Key: longestKey, Value: longestValue}}, longestKey + "=" + longestValue + "\x00"},
		{some, someText},
		{copies(59, "A", ""), strings.Repeat("A=\x00", 59)},
		{copies(60, "A", ""), strings.Repeat("A=\x00", 60)},
		{copies(60, longestKey, longestValue), strings.Repeat(longestKey+"="+longestValue+"\x00", 60)},
	} {
		both(t, x.l, x.s)
	}
}

// wrongKeys and wrongValues are such that a text may have between what ends them.
var (
	wrongKeys   = []string{"", "a", "1", ".A", "A b", "A/", " A", "A ", "A\n", "A\xff", strings.Repeat("A", 64)}
	wrongValues = []string{"\x01", "\n", "a\t", "\x1fa", "a\x7fb", "\x80", "é", "\xff", strings.Repeat("v", 256)}
)

func TestWrongPairs(t *testing.T) {
	for _, key := range append([]string{"A=", "A\x00", "=", "\x00", "A=1"}, wrongKeys...) {
		for i := range 60 {
			l := copies(60, "A", "1")
			l[i].Key = key
			wrongPairs(t, "a key", l, api.ErrName, i)
		}
		wrongPairs(t, "a key and a value", []api.Pair{{Key: key, Value: "\n"}}, api.ErrName, 0)
	}
	for _, value := range append([]string{"\x00", "a\x00", "\x00B=1"}, wrongValues...) {
		for i := range 60 {
			l := copies(60, "A", "1")
			l[i].Value = value
			wrongPairs(t, "a value", l, api.ErrForm, i)
		}
	}
	wrongPairs(t, "no key", make([]api.Pair, 3), api.ErrName, 0)
}

// TestOrderOfErrors: their number comes first, then each pair is wholly ahead of the next one, and its key ahead of its value.
func TestOrderOfErrors(t *testing.T) {
	for _, n := range []int{61, 62, 100, 1 << 16} {
		wrongPairs(t, "too many", copies(n, "A", "1"), api.ErrLimit, nowhere)
		wrongPairs(t, "too many wrong ones", copies(n, "a", "\n"), api.ErrLimit, nowhere)
	}
	wrongPairs(t, "all of 60", copies(60, "a", "\n"), api.ErrName, 0)
	wrongPairs(t, "a value ahead of a key", []api.Pair{{Key: "A"}, {Key: "A", Value: "\n"}, {Key: "a"}}, api.ErrForm, 1)
	wrongPairs(t, "a key ahead of a value", []api.Pair{{Key: "A"}, {Key: "a"}, {Key: "A", Value: "\n"}}, api.ErrName, 1)
}

func TestParseRefuses(t *testing.T) {
	for _, x := range []struct {
		s     string
		want  api.Errno
		place int
	}{
		{"A", api.ErrMissing, 0},
		{"A=", api.ErrMissing, 0},
		{"A=1", api.ErrMissing, 0},
		{"a\n", api.ErrMissing, 0},
		{"A=1\x00B=2", api.ErrMissing, 1},
		{"A=1\x00B=2\x00C", api.ErrMissing, 2},
		{"\x00", api.ErrForm, 0},
		{"A\x00", api.ErrForm, 0},
		{"a\x00", api.ErrForm, 0},
		{"A\x00=\x00", api.ErrForm, 0}, // the = is behind the 0
		{"A\x00B=1\x00", api.ErrForm, 0},
		{"A=1\x00\x00", api.ErrForm, 1},
		{"A=1\x00\x00B=1\x00", api.ErrForm, 1},
		{"A=1\x00B\x00", api.ErrForm, 1},
		{"=\x00", api.ErrName, 0},
		{"=1\x00", api.ErrName, 0},
		{"==\x00", api.ErrName, 0},
		{"=A=1\x00", api.ErrName, 0},
		{"A=1\x00a=1\x00", api.ErrName, 1},
		{"A=\x01\x00", api.ErrForm, 0},
		{"A=1\x00B==\n\x00", api.ErrForm, 1},
		// The first pair's error is told, whatever it is.
		{"a=1\x00B", api.ErrName, 0},
		{"a=1\x00\x00", api.ErrName, 0},
		{"A=\n\x00B", api.ErrForm, 0},
		{"A=\n\x00a=1\x00", api.ErrForm, 0},
		{"A\x00B", api.ErrForm, 0},
		{"A=1\x00B\x00a=1\x00", api.ErrForm, 1},
		{"a=\n\x00", api.ErrName, 0},
	} {
		unread(t, x.s, x.want, x.place)
	}
}

// TestParseOfWrongPairs has each wrong key, and each wrong value, in each pair.
func TestParseOfWrongPairs(t *testing.T) {
	for i := range 60 {
		ahead := strings.Repeat("A=1\x00", i)
		for _, behind := range []string{"", "A=1\x00", "A", "\x00", "a=1\x00", strings.Repeat("A=1\x00", 60)} {
			for _, key := range wrongKeys {
				unread(t, ahead+key+"=1\x00"+behind, api.ErrName, i)
				unread(t, ahead+key+"=\n\x00"+behind, api.ErrName, i)
			}
			for _, value := range wrongValues {
				unread(t, ahead+"A="+value+"\x00"+behind, api.ErrForm, i)
			}
			unread(t, ahead+"A\x00"+behind, api.ErrForm, i)
		}
		unread(t, ahead+"A=1", api.ErrMissing, i)
	}
}

// TestParseOfTooMany: that is told of the pair behind MaxPairs, behind what it has no 0 or no = for, ahead of its key and value, and behind all errors of those ahead.
func TestParseOfTooMany(t *testing.T) {
	full := strings.Repeat("A=1\x00", 60)
	both(t, copies(60, "A", "1"), full)
	for _, s := range []string{"A=1\x00", "=\x00", "a=\n\x00", "A=\n\x00", "a=1\x00", "A=1\x00B", "A=1\x00\x00", full} {
		unread(t, full+s, api.ErrLimit, nowhere)
	}
	for _, s := range []string{"A", "A=1", "a=\n", "="} {
		unread(t, full+s, api.ErrMissing, 60)
	}
	for _, s := range []string{"\x00", "A\x00", "a\x00", "\x00A=1\x00", "A\x00=\x00"} {
		unread(t, full+s, api.ErrForm, 60)
	}
	unread(t, full[4:]+"a=1\x00"+full, api.ErrName, 59)
	unread(t, full[4:]+"A=\n\x00"+full, api.ErrForm, 59)
	unread(t, strings.Repeat("A=1\x00", 1<<20), api.ErrLimit, nowhere)
	unread(t, strings.Repeat("A", 1<<20), api.ErrMissing, 0)
	unread(t, strings.Repeat("=", 1<<20)+"\x00", api.ErrName, 0)
}

// TestParseOfBeginnings: a beginning that ends within a pair is none.
func TestParseOfBeginnings(t *testing.T) {
	for n := range len(someText) + 1 {
		i, ends := slices.BinarySearch(someEnd, n)
		switch {
		case n == 0:
			both(t, nil, "")
		case ends:
			both(t, some[:i+1], someText[:n])
		default:
			unread(t, someText[:n], api.ErrMissing, i)
		}
	}
}

// TestWhatIsParsedIsPrintedSo takes all short texts of a few letters, those that are pairs, and those that aren't.
func TestWhatIsParsedIsPrintedSo(t *testing.T) {
	const alphabet = "A=\x00b"
	read := 0
	for n := range 1 << 16 {
		b := make([]byte, 8)
		for i := range b {
			b[i] = alphabet[n>>(2*i)&3]
		}
		for size := range len(b) + 1 {
			s := string(b[:size])
			l, err := Parse(s)
			if err != nil {
				continue
			}
			read++
			if again, err := Print(l); again != s || err != nil {
				t.Fatalf("Parse(%q) = %v, which is printed %q, %v", s, l, again, err)
			}
		}
	}
	if read < 1_000 {
		t.Errorf("but %d were read", read)
	}
}

// plainly is what Parse tells of a text, each pair looked at by itself: its pairs, or an error, and its place.
func plainly(s string) ([]api.Pair, api.Errno, int) {
	texts := strings.Split(s, "\x00")
	var l []api.Pair
	for i, text := range texts[:len(texts)-1] {
		key, value, found := strings.Cut(text, "=")
		switch {
		case !found:
			return nil, api.ErrForm, i
		case i == 60:
			return nil, api.ErrLimit, nowhere
		case key == "" || len(key) > 63 || !strings.Contains(greatLetters, key[:1]) || strings.Trim(key, keyLetters) != "":
			return nil, api.ErrName, i
		case len(value) > 255 || strings.Trim(value, valueLetters) != "":
			return nil, api.ErrForm, i
		}
		l = append(l, api.Pair{Key: key, Value: value})
	}
	if texts[len(texts)-1] != "" {
		return nil, api.ErrMissing, len(l)
	}
	return l, api.OK, nowhere
}

// TestAnything holds Parse against a plain reading, of texts with few of the letters that count.
func TestAnything(t *testing.T) {
	r := rand.New(rand.NewSource(9))
	parts := []string{"A=1\x00", "B=\x00", "Key=x=y\x00", "A", "=", "\x00", "a", "\n", " ", "\xff", strings.Repeat("K", 62), strings.Repeat("v", 254)}
	for range 50_000 {
		var s string
		for range r.Intn(80) {
			part := parts[r.Intn(3)]
			if r.Intn(25) == 0 {
				part = parts[r.Intn(len(parts))]
			}
			s += part
		}
		l, err := Parse(s)
		want, e, place := plainly(s)
		if got, at := plain.Place(err); !slices.Equal(l, want) || got != e || at != place {
			t.Fatalf("Parse(%q) = %v, error %d at %d, want %v, %d at %d", s, l, got, at, want, e, place)
		}
		if again, _ := Print(l); err == nil && again != s {
			t.Fatalf("Parse(%q) = %v, which is printed %q", s, l, again)
		}
	}
}

func TestFind(t *testing.T) {
	for _, x := range []struct {
		key, value string
		found      bool
	}{
		{"A", "x=y", true}, // the first one of both
		{"B", "", true},
		{"Z9", "==B=1", true},
		{"X-com.example+1@_", " ~ ", true},
		{"a", "", false},
		{"", "", false},
		{"Z", "", false},
		{"Z9 ", "", false},
		{"x=y", "", false},
	} {
		if value, found := Find(some, x.key); value != x.value || found != x.found {
			t.Errorf("Find of %q = %q, %v", x.key, value, found)
		}
	}
	for _, l := range [][]api.Pair{nil, {}} {
		if value, found := Find(l, ""); value != "" || found {
			t.Errorf("Find in none = %q, %v", value, found)
		}
	}
}

// TestFindInWrongPairs: what is looked through needn't be right.
func TestFindInWrongPairs(t *testing.T) {
	l := append(copies(100, "a", "\n"), api.Pair{Value: "none"}, api.Pair{Key: "b\x00", Value: "last"})
	for _, x := range []struct{ key, value string }{{"a", "\n"}, {"", "none"}, {"b\x00", "last"}} {
		if value, found := Find(l, x.key); value != x.value || !found {
			t.Errorf("Find of %q = %q, %v", x.key, value, found)
		}
	}
}

// TestListsAreLeft: what is handed in stays as it is, also behind its length, and what comes out is fresh.
func TestListsAreLeft(t *testing.T) {
	whole := slices.Clone(some)
	if s, err := Print(whole[:2]); s != someText[:9] || err != nil {
		t.Errorf("Print = %q, %v", s, err)
	}
	if value, found := Find(whole[:2], "Z9"); value != "" || found {
		t.Errorf("behind the list's length %q was found", value)
	}
	if err := Right(whole[:2]); err != nil || !slices.Equal(whole, some) {
		t.Errorf("%v, of %v", err, whole)
	}
	l, _ := Parse(someText)
	clear(l)
	both(t, some, someText)
}
