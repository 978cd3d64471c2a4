package chap

import (
	cryptomd5 "crypto/md5"
	"fmt"
	"math"
	"math/rand"
	"slices"
	"strings"
	"testing"

	"quaymaster/api"
	"quaymaster/binary"
	"quaymaster/plain"
)

// nowhere is the place of an error that has none.
const nowhere = -1

// fails checks that an error is that Errno (OK: none), without a place.
func fails(t *testing.T, what string, err error, want api.Errno) {
	t.Helper()
	if got, at := plain.Place(err); got != want || at != nowhere || (want == api.OK) != (err == nil) {
		t.Errorf("%.200s: error %d at %d (%v), want %d without a place", what, got, at, err, want)
	}
}

// sum is what a response should be.
func sum(id int, secret, challenge string) string {
	b := cryptomd5.Sum(slices.Concat([]byte{byte(id)}, []byte(secret), []byte(challenge)))
	return string(b[:])
}

// long is a text of so many bytes.
func long(n int) string { return strings.Repeat("s", n) }

func TestResponse(t *testing.T) {
	for _, x := range []struct {
		id                int
		secret, challenge string
	}{
		{1, "secret", "challenge"},
		{0, "secret", "challenge"},
		{127, "secret", "challenge"},
		{128, "secret", "challenge"},
		{200, "secret", "challenge"},
		{255, "secret", "challenge"},
		{1, "", "c"},
		{1, "s", "c"},
		{7, long(99), "c"},
		{7, long(100), "c"},
		{7, "s", long(99)},
		{7, "s", long(100)},
		{7, long(100), long(100)},
		{0, "\x00", "\x00"},
		{9, "\xff\x80\x00=", "\x00\xff"},
	} {
		what := fmt.Sprintf("Response(%d, %q, %q)", x.id, x.secret, x.challenge)
		got, err := Response(x.id, x.secret, x.challenge)
		fails(t, what, err, api.OK)
		if want := sum(x.id, x.secret, x.challenge); got != want {
			t.Errorf("%.200s is %x, want %x", what, got, want)
		}
	}
}

func TestResponseOfEachId(t *testing.T) {
	seen := map[string]bool{}
	for id := range 256 {
		got, err := Response(id, "secret", "challenge")
		fails(t, fmt.Sprint("id ", id), err, api.OK)
		if got != sum(id, "secret", "challenge") || len(got) != 16 || seen[got] {
			t.Errorf("of id %d it is %x", id, got)
		}
		seen[got] = true
	}
}

// TestResponseIsKnown has a number from outside: what md5sum tells of the byte 1, `secret` and `challenge`.
func TestResponseIsKnown(t *testing.T) {
	got, _ := Response(1, "secret", "challenge")
	if want := "0x46e47770030e2b4e26a0db72a7efec00"; binary.Hex(got) != want {
		t.Errorf("%s, want %s", binary.Hex(got), want)
	}
}

func TestResponseRefuses(t *testing.T) {
	for _, x := range []struct {
		id                int
		secret, challenge string
		want              api.Errno
	}{
		{-1, "s", "c", api.ErrRange},
		{256, "s", "c", api.ErrRange},
		{257, "s", "c", api.ErrRange},
		{math.MaxInt, "s", "c", api.ErrRange},
		{math.MinInt, "s", "c", api.ErrRange},
		{1 << 32, "s", "c", api.ErrRange},
		{0, long(101), "c", api.ErrLimit},
		{255, long(5000), "c", api.ErrLimit},
		{1, "s", "", api.ErrLimit},
		{1, "", "", api.ErrLimit},
		{1, "s", long(101), api.ErrLimit},
		{1, "s", long(5000), api.ErrLimit},
		{1, long(101), "", api.ErrLimit},
		// ErrRange is told first
		{256, long(101), "c", api.ErrRange},
		{-1, "s", "", api.ErrRange},
		{-1, "s", long(101), api.ErrRange},
	} {
		what := fmt.Sprintf("Response(%d, %q, %q)", x.id, x.secret, x.challenge)
		got, err := Response(x.id, x.secret, x.challenge)
		fails(t, what, err, x.want)
		if got != "" {
			t.Errorf("%.200s is %q beside an error", what, got)
		}
	}
}

func users() []api.User {
	return []api.User{
		{Name: "a", Secret: "first"},
		{Name: "b", Secret: "second"},
		{Name: "a", Secret: "third"},
		{Name: "", Secret: "nameless"},
		{Name: "A", Secret: "great"},
		{Name: "ab", Secret: "longer"},
		{Name: "long", Secret: long(101)},
		{Name: "none"},
		{Name: "\x00\xff", Secret: "bytes"},
	}
}

func TestFind(t *testing.T) {
	l := users()
	for _, x := range []struct {
		name, secret string
		ok           bool
	}{
		{"a", "first", true},
		{"b", "second", true},
		{"", "nameless", true},
		{"A", "great", true},
		{"ab", "longer", true},
		{"long", long(101), true},
		{"none", "", true},
		{"\x00\xff", "bytes", true},
		{"c", "", false},
		{"B", "", false},
		{"abc", "", false},
		{"a ", "", false},
		{"\x00", "", false},
		{"first", "", false},
	} {
		want := api.User{}
		if x.ok {
			want = api.User{Name: x.name, Secret: x.secret}
		}
		if got, ok := Find(l, x.name); got != want || ok != x.ok {
			t.Errorf("Find of %q is %.200v, %v", x.name, got, ok)
		}
	}
	if !slices.Equal(l, users()) {
		t.Error("the list was written into")
	}
}

func TestFindAmongFew(t *testing.T) {
	none := api.User{}
	behind := []api.User{{Name: "a"}, {Name: "b"}}
	for _, l := range [][]api.User{nil, {}, behind[:1]} {
		if got, ok := Find(l, "b"); ok || got != none {
			t.Errorf("Find in %v is %v, %v", l, got, ok)
		}
	}
	if got, ok := Find(nil, ""); ok || got != none {
		t.Errorf("Find of no name in nothing is %v, %v", got, ok)
	}
}

// response is that of a user's secret.
func response(t *testing.T, secret string, d api.Draw) string {
	t.Helper()
	r, err := Response(d.Id, secret, d.Challenge)
	if err != nil {
		t.Fatal(err)
	}
	return r
}

func TestCheck(t *testing.T) {
	d := api.Draw{Id: 200, Challenge: "challenge\x00\xff"}
	first := response(t, "first", d)
	for _, x := range []struct {
		name, value string
		want        api.Errno
	}{
		{"a", binary.Hex(first), api.OK},
		{"a", binary.Base64(first), api.OK},
		{"a", "0X" + strings.ToUpper(binary.Hex(first)[2:]), api.OK},
		{"a", "0B" + binary.Base64(first)[2:], api.OK},
		{"b", binary.Hex(response(t, "second", d)), api.OK},
		{"", binary.Hex(response(t, "nameless", d)), api.OK},
		{"none", binary.Hex(response(t, "", d)), api.OK},
		{"\x00\xff", binary.Hex(response(t, "bytes", d)), api.OK},

		{"c", binary.Hex(first), api.ErrNone},
		{"c", "x", api.ErrNone},
		{"c", "", api.ErrNone},

		{"a", "", api.ErrForm},
		{"a", "x", api.ErrForm},
		{"a", first, api.ErrForm},
		{"a", binary.Hex(first)[2:], api.ErrForm},
		{"a", "0x0", api.ErrMissing},
		{"a", binary.Hex(first)[:33], api.ErrMissing},
		{"a", "0x0g", api.ErrForm},
		{"a", binary.Hex(first)[:33] + "g", api.ErrForm},
		{"a", "0bA", api.ErrMissing},
		{"a", "0bA===", api.ErrForm},
		{"a", "0bAB==", api.ErrForm},

		{"a", "0x", api.ErrFalse},
		{"a", "0b", api.ErrFalse},
		{"a", "0x00", api.ErrFalse},
		{"a", binary.Hex(first + "\x00"), api.ErrFalse},
		{"a", binary.Hex("\x00" + first), api.ErrFalse},
		{"a", binary.Hex(first[:15]), api.ErrFalse},
		{"a", binary.Hex(first[1:]), api.ErrFalse},
		{"a", binary.Hex("first"), api.ErrFalse},
		{"b", binary.Hex(first), api.ErrFalse},
		{"A", binary.Hex(first), api.ErrFalse},
		// there are two of that name, of which the first one counts
		{"a", binary.Hex(response(t, "third", d)), api.ErrFalse},
	} {
		fails(t, fmt.Sprintf("Check of %q and %q", x.name, x.value), Check(users(), x.name, x.value, d), x.want)
	}
}

func TestCheckOfDraws(t *testing.T) {
	d := api.Draw{Id: 5, Challenge: "c"}
	right := binary.Hex(response(t, "first", d))
	for _, x := range []struct {
		name, value string
		d           api.Draw
		want        api.Errno
	}{
		{"a", right, d, api.OK},
		{"a", right, api.Draw{Id: 6, Challenge: "c"}, api.ErrFalse},
		{"a", right, api.Draw{Id: 5, Challenge: "d"}, api.ErrFalse},
		{"a", right, api.Draw{Id: 5, Challenge: "cc"}, api.ErrFalse},
		{"a", right, api.Draw{Id: 5 + 256, Challenge: "c"}, api.ErrRange},
		{"a", right, api.Draw{Id: -1, Challenge: "c"}, api.ErrRange},
		{"a", right, api.Draw{Id: 5}, api.ErrLimit},
		{"a", right, api.Draw{}, api.ErrLimit},
		{"a", right, api.Draw{Id: 5, Challenge: long(101)}, api.ErrLimit},
		{"long", right, d, api.ErrLimit},
		// the value is read ahead of that
		{"a", "x", api.Draw{Id: 256, Challenge: "c"}, api.ErrForm},
		{"a", "0x0g", api.Draw{Id: 256, Challenge: "c"}, api.ErrForm},
		{"a", "0x0", api.Draw{Id: 5}, api.ErrMissing},
		{"long", "0x0", d, api.ErrMissing},
		{"c", "0x0", api.Draw{}, api.ErrNone},
		// ErrRange is told ahead of ErrLimit
		{"long", right, api.Draw{Id: 256}, api.ErrRange},
	} {
		fails(t, fmt.Sprintf("Check of %q, %q, %v", x.name, x.value, x.d), Check(users(), x.name, x.value, x.d), x.want)
	}
}

func TestCheckAmongNobody(t *testing.T) {
	d := api.Draw{Id: 5, Challenge: "c"}
	fails(t, "nobody there", Check(nil, "", binary.Hex(response(t, "", d)), d), api.ErrNone)
	fails(t, "nobody there", Check([]api.User{}, "a", "0x0", api.Draw{}), api.ErrNone)
}

// TestCheckSeesEachBit turns each bit of a response.
func TestCheckSeesEachBit(t *testing.T) {
	d := api.Draw{Id: 5, Challenge: "c"}
	right := response(t, "first", d)
	for i := range 8 * len(right) {
		b := []byte(right)
		b[i/8] ^= 1 << (i % 8)
		fails(t, fmt.Sprint("bit ", i), Check(users(), "a", binary.Base64(string(b)), d), api.ErrFalse)
	}
}

func TestCheckOfMany(t *testing.T) {
	r := rand.New(rand.NewSource(13))
	drawn := func(n int) string {
		b := make([]byte, n)
		r.Read(b)
		return string(b)
	}
	for range 500 {
		l := []api.User{{Name: "x", Secret: drawn(r.Intn(101))}, {Name: "y", Secret: drawn(1 + r.Intn(100))}}
		d := api.Draw{Id: r.Intn(256), Challenge: drawn(1 + r.Intn(100))}
		for _, u := range l {
			for _, v := range l {
				want := api.OK
				if u.Secret != v.Secret {
					want = api.ErrFalse
				}
				fails(t, fmt.Sprint(u, v, d), Check(l, u.Name, binary.Base64(sum(d.Id, v.Secret, d.Challenge)), d), want)
			}
		}
	}
}
