package target

import (
	"fmt"
	"math"
	"math/rand"
	"slices"
	"strconv"
	"strings"
	"testing"

	"quaymaster/api"
	"quaymaster/nego"
	"quaymaster/pairs"
	"quaymaster/plain"
)

// nowhere is the place of an error that has none.
const nowhere = -1

// fails checks that an error is that Errno (OK: none), at that place.
func fails(t *testing.T, what string, err error, want api.Errno, place int) {
	t.Helper()
	if got, at := plain.Place(err); got != want || at != place || (want == api.OK) != (err == nil) {
		t.Errorf("%.300s: error %d at %d (%v), want %d at %d", what, got, at, err, want, place)
	}
}

// judged checks what Right says.
func judged(t *testing.T, what string, c api.Conf, want api.Errno, place int) {
	t.Helper()
	fails(t, fmt.Sprintf("%s: %.200v", what, c), Right(c), want, place)
}

// long is a text of so many bytes.
func long(n int) string { return strings.Repeat("n", n) }

// names are that many of them.
func names(n int) []string {
	var l []string
	for i := range n {
		l = append(l, "iqn."+strconv.Itoa(i))
	}
	return l
}

// full is right, and has as much of all as there may be.
func full() api.Conf {
	c := api.Conf{
		Targets: names(8),
		Self:    api.User{Name: "self", Secret: "own"},
		Limit:   8192,
		Own:     []api.Pair{{Key: "MaxBurstLength", Value: "1000"}, {Key: "HeaderDigest", Value: "None,CRC32C"}},
	}
	for i := range 4 {
		c.Portals = append(c.Portals, api.Portal{Address: "10.0.0." + strconv.Itoa(i) + ":3260", Group: i})
	}
	for i := range 8 {
		c.Users = append(c.Users, api.User{Name: "user" + strconv.Itoa(i), Secret: "secret" + strconv.Itoa(i)})
	}
	return c
}

func TestRight(t *testing.T) {
	judged(t, "just a limit", api.Conf{Limit: 512}, api.OK, nowhere)
	judged(t, "empty lists", api.Conf{Targets: []string{}, Portals: []api.Portal{}, Users: []api.User{}, Limit: 512, Own: []api.Pair{}}, api.OK, nowhere)
	judged(t, "as much as may be", full(), api.OK, nowhere)
	judged(t, "nothing, without a limit too", api.Conf{}, api.ErrRange, nowhere)
}

// TestRightOfFew takes any number of each from the beginning of what is right.
func TestRightOfFew(t *testing.T) {
	for targets := range 9 {
		for portals := range 5 {
			for users := range 9 {
				c := full()
				c.Targets, c.Portals, c.Users = c.Targets[:targets], c.Portals[:portals], c.Users[:users]
				judged(t, "few", c, api.OK, nowhere)
			}
		}
	}
}

func TestTooMany(t *testing.T) {
	for _, more := range []int{1, 2, 10, 1000} {
		c := full()
		c.Targets = names(8 + more)
		judged(t, "targets", c, api.ErrLimit, nowhere)

		c = full()
		for i := range more {
			c.Portals = append(c.Portals, api.Portal{Address: "more" + strconv.Itoa(i)})
		}
		judged(t, "portals", c, api.ErrLimit, nowhere)

		c = full()
		for i := range more {
			c.Users = append(c.Users, api.User{Name: "more" + strconv.Itoa(i), Secret: "s"})
		}
		judged(t, "users", c, api.ErrLimit, nowhere)
	}
}

// holders are where a name stands: set puts one there, and err and place are what is told of one that may not be so.
var holders = []struct {
	what  string
	set   func(c *api.Conf, name string)
	err   api.Errno
	place int
}{
	{"the first target", func(c *api.Conf, name string) { c.Targets[0] = name }, api.ErrName, 0},
	{"the fourth target", func(c *api.Conf, name string) { c.Targets[3] = name }, api.ErrName, 3},
	{"the last target", func(c *api.Conf, name string) { c.Targets[7] = name }, api.ErrName, 7},
	{"the first address", func(c *api.Conf, name string) { c.Portals[0].Address = name }, api.ErrName, 0},
	{"the last address", func(c *api.Conf, name string) { c.Portals[3].Address = name }, api.ErrName, 3},
	{"the first user", func(c *api.Conf, name string) { c.Users[0].Name = name }, api.ErrName, 0},
	{"the last user", func(c *api.Conf, name string) { c.Users[7].Name = name }, api.ErrName, 7},
	{"the first secret", func(c *api.Conf, name string) { c.Users[0].Secret = name }, api.ErrName, 0},
	{"the last secret", func(c *api.Conf, name string) { c.Users[7].Secret = name }, api.ErrName, 7},
	{"its own name", func(c *api.Conf, name string) { c.Self.Name = name }, api.ErrForm, nowhere},
	{"its own secret", func(c *api.Conf, name string) { c.Self.Secret = name }, api.ErrForm, nowhere},
}

// held checks what is told of a name, wherever it stands.
func held(t *testing.T, name string, ok bool) {
	t.Helper()
	for _, h := range holders {
		c := full()
		h.set(&c, name)
		if ok {
			judged(t, h.what, c, api.OK, nowhere)
		} else {
			judged(t, h.what, c, h.err, h.place)
		}
	}
}

func TestNameSizes(t *testing.T) {
	for _, n := range []int{1, 2, 50, 63, 64, 99, 100} {
		held(t, long(n), true)
	}
	for _, n := range []int{0, 101, 102, 200, 254, 255, 256, 1000} {
		held(t, long(n), false)
	}
}

// TestNameBytes has each byte alone, ahead, in the middle, at the end, and behind as many as may be.
func TestNameBytes(t *testing.T) {
	for c := range 256 {
		one := string([]byte{byte(c)})
		ok := ' ' <= c && c <= '~'
		for _, name := range []string{one, one + "a", "a" + one + "a", "a" + one, long(99) + one, one + long(99)} {
			held(t, name, ok)
		}
		held(t, long(100)+one, false)
	}
	for _, name := range []string{" ", "  ", "a b", "A=b,c", "iqn.2001-04.com.example:x", "[::1]:3260", "~", "Yes"} {
		held(t, name, true)
	}
	for _, name := range []string{"é", "a\u00a0b", "a\x00", "\x00", "a\n", "a\r\n", "\t", "\x7f", "\ufeffa"} {
		held(t, name, false)
	}
}

// TestTargetTwice has each target's name at each other one's place.
func TestTargetTwice(t *testing.T) {
	for i := range 8 {
		for j := range 8 {
			c := full()
			c.Targets[j] = c.Targets[i]
			if i == j {
				judged(t, "once", c, api.OK, nowhere)
			} else {
				judged(t, fmt.Sprint(i, " at ", j), c, api.ErrName, max(i, j))
			}
		}
	}
	for _, x := range []struct {
		targets []string
		want    api.Errno
		place   int
	}{
		{[]string{"a", "a"}, api.ErrName, 1},
		{[]string{"a", "b", "a", "b"}, api.ErrName, 2},
		{[]string{"a", "b", "c", "b", "a"}, api.ErrName, 3},
		{[]string{"a", "a", "a"}, api.ErrName, 1},
		{[]string{"a", "A", "aa", " a", "a ", "a a", "b", "B"}, api.OK, nowhere},
		{[]string{long(100), long(99), long(98), "m" + long(99), long(99) + "m"}, api.OK, nowhere},
		{[]string{long(100), "a", long(100)}, api.ErrName, 2},
		{[]string{"a", "", "a"}, api.ErrName, 1},
		{[]string{"a", "a", ""}, api.ErrName, 1},
	} {
		judged(t, "twice", api.Conf{Targets: x.targets, Limit: 512}, x.want, x.place)
	}
}

// TestUserTwice has each user's name at each other one's place.
func TestUserTwice(t *testing.T) {
	for i := range 8 {
		for j := range 8 {
			c := full()
			c.Users[j].Name = c.Users[i].Name
			if i == j {
				judged(t, "once", c, api.OK, nowhere)
				continue
			}
			judged(t, fmt.Sprint(i, " at ", j), c, api.ErrName, max(i, j))
			c.Users[j] = c.Users[i]
			judged(t, fmt.Sprint(i, " at ", j, ", with its secret"), c, api.ErrName, max(i, j))
		}
	}
	for _, x := range []struct {
		users []api.User
		want  api.Errno
		place int
	}{
		{[]api.User{{Name: "a", Secret: "s"}, {Name: "A", Secret: "s"}, {Name: "aa", Secret: "s"}}, api.OK, nowhere},
		{[]api.User{{Name: "a", Secret: "s"}, {Name: "b"}, {Name: "a", Secret: "s"}}, api.ErrName, 1},
		{[]api.User{{Name: "a", Secret: "s"}, {Name: "a", Secret: "s"}, {Name: "b"}}, api.ErrName, 1},
		{[]api.User{{Name: "a", Secret: "s"}, {Secret: "s"}}, api.ErrName, 1},
		{[]api.User{{Name: "u"}}, api.ErrName, 0},
		{[]api.User{{Secret: "s"}}, api.ErrName, 0},
		{[]api.User{{}}, api.ErrName, 0},
	} {
		judged(t, "twice", api.Conf{Users: x.users, Limit: 512}, x.want, x.place)
	}
}

// TestTwiceElsewhere: just a target's, and a user's, name may not stand there twice.
func TestTwiceElsewhere(t *testing.T) {
	c := full()
	for i := range c.Portals {
		c.Portals[i] = api.Portal{Address: "same", Group: 7}
	}
	judged(t, "portals", c, api.OK, nowhere)

	c = full()
	for i := range c.Users {
		c.Users[i].Secret = "same"
	}
	judged(t, "secrets", c, api.OK, nowhere)

	c = full()
	for i := range c.Users {
		c.Users[i].Name, c.Users[i].Secret = c.Targets[i], c.Targets[7-i]
	}
	for i := range c.Portals {
		c.Portals[i].Address = c.Targets[i]
	}
	c.Self = api.User{Name: c.Targets[0], Secret: c.Targets[0]}
	judged(t, "all of a target's names", c, api.OK, nowhere)
}

func TestGroups(t *testing.T) {
	for place := range 4 {
		for _, group := range []int{0, 1, 255, 256, 32767, 32768, 65534, 65535} {
			c := full()
			c.Portals[place].Group = group
			judged(t, "group", c, api.OK, nowhere)
		}
		for _, group := range []int{-1, -2, -65535, 65536, 65537, 70000, 1 << 31, 1 << 32, math.MaxInt, math.MinInt} {
			c := full()
			c.Portals[place].Group = group
			judged(t, "group", c, api.ErrRange, place)
		}
	}
}

func TestSelf(t *testing.T) {
	for _, x := range []struct {
		self api.User
		want api.Errno
	}{
		{api.User{}, api.OK},
		{api.User{Name: "a", Secret: "b"}, api.OK},
		{api.User{Name: "a", Secret: "a"}, api.OK},
		{api.User{Name: " ", Secret: "~"}, api.OK},
		{api.User{Name: long(100), Secret: long(100)}, api.OK},

		{api.User{Name: "a"}, api.ErrForm},
		{api.User{Secret: "a"}, api.ErrForm},
		{api.User{Name: long(101), Secret: "a"}, api.ErrForm},
		{api.User{Name: "a", Secret: long(101)}, api.ErrForm},
		{api.User{Name: long(101), Secret: long(101)}, api.ErrForm},
		{api.User{Name: long(101)}, api.ErrForm},
		{api.User{Secret: long(101)}, api.ErrForm},
		{api.User{Name: "\n"}, api.ErrForm},
		{api.User{Secret: "\n"}, api.ErrForm},
		{api.User{Name: "\n", Secret: "\n"}, api.ErrForm},
		{api.User{Name: "a", Secret: "\x00"}, api.ErrForm},
		{api.User{Name: "\x00", Secret: "a"}, api.ErrForm},
	} {
		c := full()
		c.Self = x.self
		judged(t, "self", c, x.want, nowhere)
		judged(t, "self alone", api.Conf{Self: x.self, Limit: 512}, x.want, nowhere)
	}
}

func TestLimit(t *testing.T) {
	for _, limit := range []int{512, 513, 8192, api.MaxData - 1, api.MaxData} {
		c := full()
		c.Limit = limit
		judged(t, "limit", c, api.OK, nowhere)
	}
	for _, limit := range []int{math.MinInt, -8192, -1, 0, 1, 511, api.MaxData + 1, api.MaxData * 2, 1 << 32, 1<<32 + 8192, math.MaxInt} {
		c := full()
		c.Limit = limit
		judged(t, "limit", c, api.ErrRange, nowhere)
	}
}

// unknown are that many pairs of keys that nobody knows.
func unknown(n int) []api.Pair {
	var l []api.Pair
	for i := range n {
		l = append(l, api.Pair{Key: "X" + strconv.Itoa(i), Value: "1"})
	}
	return l
}

// TestOwn: what is wrong with what it has of keys is told as New tells it.
func TestOwn(t *testing.T) {
	burst := api.Pair{Key: "MaxBurstLength", Value: "1000"}
	for _, x := range []struct {
		own   []api.Pair
		want  api.Errno
		place int
	}{
		{nil, api.OK, nowhere},
		{[]api.Pair{burst}, api.OK, nowhere},
		{[]api.Pair{{Key: "InitialR2T", Value: "No"}, burst, {Key: "InitiatorName", Value: "me"}}, api.OK, nowhere},
		{[]api.Pair{burst, burst}, api.ErrTwice, 1},
		{[]api.Pair{{Key: "X", Value: "1"}}, api.ErrName, 0},
		{[]api.Pair{burst, {Key: "X", Value: "1"}}, api.ErrName, 1},
		{[]api.Pair{burst, {Key: "x", Value: "1"}}, api.ErrName, 1},
		{[]api.Pair{burst, {}}, api.ErrName, 1},
		{[]api.Pair{burst, {Key: "InitialR2T", Value: "maybe"}}, api.ErrForm, 1},
		{[]api.Pair{burst, {Key: "InitialR2T", Value: "\n"}}, api.ErrForm, 1},
		{[]api.Pair{{Key: "InitialR2T", Value: "No"}, {Key: "MaxBurstLength", Value: "511"}}, api.ErrRange, 1},
		{[]api.Pair{{Key: "HeaderDigest", Value: "None,None"}}, api.ErrForm, 0},
		{[]api.Pair{{Key: "TargetName", Value: long(256)}}, api.ErrForm, 0},
		{unknown(60), api.ErrName, 0},
		{unknown(61), api.ErrLimit, nowhere},
		{unknown(1000), api.ErrLimit, nowhere},
	} {
		c := full()
		c.Own = x.own
		judged(t, "own", c, x.want, x.place)
		judged(t, "own alone", api.Conf{Limit: 512, Own: x.own}, x.want, x.place)
		_, err := nego.New(x.own)
		fails(t, fmt.Sprint("New of ", x.own), err, x.want, x.place)
	}
}

// faults are things that may be wrong, those ahead that are told first.
var faults = []struct {
	what  string
	spoil func(c *api.Conf)
	err   api.Errno
	place int
}{
	{"too many users", func(c *api.Conf) { c.Users = append(c.Users, api.User{}) }, api.ErrLimit, nowhere},
	{"target 0", func(c *api.Conf) { c.Targets[0] = "" }, api.ErrName, 0},
	{"target 2", func(c *api.Conf) { c.Targets[2] = "\n" }, api.ErrName, 2},
	{"target 5 is 4", func(c *api.Conf) { c.Targets[5] = c.Targets[4] }, api.ErrName, 5},
	{"target 7", func(c *api.Conf) { c.Targets[7] = long(101) }, api.ErrName, 7},
	{"address 0", func(c *api.Conf) { c.Portals[0].Address = "" }, api.ErrName, 0},
	{"group 0", func(c *api.Conf) { c.Portals[0].Group = -1 }, api.ErrRange, 0},
	{"address 1", func(c *api.Conf) { c.Portals[1].Address = long(101) }, api.ErrName, 1},
	{"group 1", func(c *api.Conf) { c.Portals[1].Group = 65536 }, api.ErrRange, 1},
	{"group 3", func(c *api.Conf) { c.Portals[3].Group = 65536 }, api.ErrRange, 3},
	{"user 0", func(c *api.Conf) { c.Users[0].Name = "" }, api.ErrName, 0},
	{"secret 1", func(c *api.Conf) { c.Users[1].Secret = "" }, api.ErrName, 1},
	{"user 3 is 2", func(c *api.Conf) { c.Users[3].Name = c.Users[2].Name }, api.ErrName, 3},
	{"user 4", func(c *api.Conf) { c.Users[4].Name = "\x7f" }, api.ErrName, 4},
	{"secret 7", func(c *api.Conf) { c.Users[7].Secret = long(101) }, api.ErrName, 7},
	{"self", func(c *api.Conf) { c.Self.Secret = "" }, api.ErrForm, nowhere},
	{"limit", func(c *api.Conf) { c.Limit = 511 }, api.ErrRange, nowhere},
	{"own", func(c *api.Conf) { c.Own[1].Value = "," }, api.ErrForm, 1},
}

// TestOrder: of any two things that are wrong, the one ahead is told.
func TestOrder(t *testing.T) {
	for i, first := range faults {
		for _, second := range faults[i:] {
			c := full()
			first.spoil(&c)
			second.spoil(&c)
			judged(t, first.what+", "+second.what, c, first.err, first.place)
		}
		c := full()
		for _, f := range faults[i:] {
			f.spoil(&c)
		}
		judged(t, first.what+", and all behind it", c, first.err, first.place)
	}
}

// TestTooManyIsToldFirst: whichever there are too many of, and whatever else is wrong.
func TestTooManyIsToldFirst(t *testing.T) {
	judged(t, "targets", api.Conf{Targets: make([]string, 9)}, api.ErrLimit, nowhere)
	judged(t, "portals", api.Conf{Portals: make([]api.Portal, 5)}, api.ErrLimit, nowhere)
	judged(t, "users", api.Conf{Users: make([]api.User, 9)}, api.ErrLimit, nowhere)
	for _, many := range []api.Conf{{Targets: make([]string, 9)}, {Portals: make([]api.Portal, 5)}, {Users: make([]api.User, 9)}} {
		for _, few := range []api.Conf{{Targets: make([]string, 8)}, {Portals: make([]api.Portal, 4)}, {Users: make([]api.User, 8)}, {Self: api.User{Name: "a"}}, {Own: unknown(61)}} {
			c := api.Conf{
				Targets: append(many.Targets, few.Targets...),
				Portals: append(many.Portals, few.Portals...),
				Users:   append(many.Users, few.Users...),
				Self:    few.Self,
				Own:     few.Own,
			}
			judged(t, "too many", c, api.ErrLimit, nowhere)
		}
	}
}

// copied is another one, which shares no list.
func copied(c api.Conf) api.Conf {
	c.Targets, c.Portals, c.Users, c.Own = slices.Clone(c.Targets), slices.Clone(c.Portals), slices.Clone(c.Users), slices.Clone(c.Own)
	return c
}

// same says whether both are told the same.
func same(a, b api.Conf) bool {
	return slices.Equal(a.Targets, b.Targets) && slices.Equal(a.Portals, b.Portals) && slices.Equal(a.Users, b.Users) && slices.Equal(a.Own, b.Own) && a.Self == b.Self && a.Limit == b.Limit
}

// some are what a target is told, right or not.
func some() []api.Conf {
	l := []api.Conf{{}, {Limit: 512}, full(), {Targets: []string{"b", "a", "b", "", "é"}, Portals: []api.Portal{{}, {Address: "x\x00", Group: -5}}}}
	for _, f := range faults {
		c := full()
		f.spoil(&c)
		l = append(l, c)
	}
	return l
}

// TestNothingIsWritten: neither into lists, nor behind their length; and nothing is kept.
func TestNothingIsWritten(t *testing.T) {
	for _, whole := range some() {
		before := copied(whole)
		c := whole
		c.Targets, c.Portals, c.Users, c.Own = whole.Targets[:len(whole.Targets)/2], whole.Portals[:len(whole.Portals)/2], whole.Users[:len(whole.Users)/2], whole.Own[:len(whole.Own)/2]
		for _, told := range []api.Conf{c, whole} {
			first, place := plain.Place(Right(told))
			Has(told, "a")
			List(told, "iqn.0", false)
			l, _ := List(told, "", true)
			for i := range l {
				l[i] = api.Pair{}
			}
			if !same(whole, before) {
				t.Fatalf("%v was written into: %v", before, whole)
			}
			fails(t, "Right, again", Right(told), first, place)
		}
	}
}

// TestErrorIsTheCallers: what is done to one error is not seen in the next one.
func TestErrorIsTheCallers(t *testing.T) {
	for _, f := range faults {
		c := full()
		f.spoil(&c)
		if at, ok := Right(c).(*api.At); ok {
			at.Err, at.Place = api.ErrDevice, 99
		}
		judged(t, f.what+", again", c, f.err, f.place)
	}
}

func TestHas(t *testing.T) {
	c := full()
	for i, name := range c.Targets {
		if !Has(c, name) {
			t.Errorf("target %d isn't there", i)
		}
	}
	for _, name := range []string{"", "iqn.", "iqn.8", "iqn.00", "IQN.0", "iqn.0 ", " iqn.0", "iqn.0\x00", "qn.0", "user0", "self", "10.0.0.0:3260", "All", long(1000)} {
		if Has(c, name) {
			t.Errorf("there is %.20q", name)
		}
	}
	if Has(api.Conf{}, "") || Has(api.Conf{Limit: 512}, "a") || Has(api.Conf{Users: []api.User{{Name: "a"}}, Portals: []api.Portal{{Address: "a"}}}, "a") {
		t.Error("there is one without targets")
	}
	wrong := api.Conf{Targets: []string{"b", "", "\n", long(101), "b"}}
	for _, name := range wrong.Targets {
		if !Has(wrong, name) {
			t.Errorf("%.20q isn't there", name)
		}
	}
	if Has(wrong, "a") {
		t.Error("there is another one")
	}
}

// lists checks what List tells.
func lists(t *testing.T, c api.Conf, name string, all bool, want ...api.Pair) {
	t.Helper()
	l, err := List(c, name, all)
	what := fmt.Sprintf("List of %.100v (%.20q, all %v)", c, name, all)
	fails(t, what, err, api.OK, nowhere)
	if !slices.Equal(l, want) {
		t.Errorf("%s is %.200v, want %.200v", what, l, want)
	}
}

func TestList(t *testing.T) {
	c := api.Conf{Targets: []string{"iqn.b", "iqn.a", "iqn.c"}, Portals: []api.Portal{{Address: "10.0.0.2:3260", Group: 65535}, {Address: "10.0.0.1:3260", Group: 0}}, Limit: 512}
	name := func(s string) api.Pair { return api.Pair{Key: "TargetName", Value: s} }
	far := api.Pair{Key: "TargetAddress", Value: "10.0.0.2:3260,65535"}
	near := api.Pair{Key: "TargetAddress", Value: "10.0.0.1:3260,0"}
	lists(t, c, "", true, name("iqn.b"), far, near, name("iqn.a"), far, near, name("iqn.c"), far, near)
	for _, target := range c.Targets {
		lists(t, c, target, false, name(target), far, near)
	}
	// With all, the name counts for nothing.
	for _, any := range []string{"iqn.a", "x", "All", "\n"} {
		lists(t, c, any, true, name("iqn.b"), far, near, name("iqn.a"), far, near, name("iqn.c"), far, near)
	}
	c.Portals = nil
	lists(t, c, "", true, name("iqn.b"), name("iqn.a"), name("iqn.c"))
	lists(t, c, "iqn.c", false, name("iqn.c"))
	c.Targets = []string{"iqn.a"}
	lists(t, c, "", true, name("iqn.a"))
}

func TestListOfNothing(t *testing.T) {
	for _, c := range []api.Conf{{}, {Targets: []string{}}, {Portals: []api.Portal{{Address: "p", Group: 1}}, Users: []api.User{{Name: "u", Secret: "s"}}, Limit: 512}} {
		lists(t, c, "", true)
		lists(t, c, "x", true)
	}
}

func TestListOfNone(t *testing.T) {
	for _, x := range []struct {
		c     api.Conf
		names []string
	}{
		{full(), []string{"", "x", "iqn.", "iqn.8", "IQN.0", "iqn.0 ", "All", "user0", "self", "10.0.0.0:3260", long(1000)}},
		{api.Conf{Limit: 512}, []string{"", "x"}},
		{api.Conf{Portals: []api.Portal{{Address: "p"}}}, []string{"", "p"}},
	} {
		for _, name := range x.names {
			l, err := List(x.c, name, false)
			fails(t, fmt.Sprintf("List of %.20q", name), err, api.ErrNone, nowhere)
			if len(l) != 0 {
				t.Errorf("List of %.20q is %v beside an error", name, l)
			}
		}
	}
}

// TestListOfWrong: it isn't asked whether what a target is told is right; one that stands there twice is one target, if it is asked for.
func TestListOfWrong(t *testing.T) {
	c := api.Conf{Targets: []string{"b", "", "b", "\n"}, Portals: []api.Portal{{}, {Address: "a,b", Group: -7}, {Address: long(300), Group: 70000}}}
	portals := []api.Pair{{Key: "TargetAddress", Value: ",0"}, {Key: "TargetAddress", Value: "a,b,-7"}, {Key: "TargetAddress", Value: long(300) + ",70000"}}
	var all []api.Pair
	for _, target := range c.Targets {
		one := append([]api.Pair{{Key: "TargetName", Value: target}}, portals...)
		lists(t, c, target, false, one...)
		all = append(all, one...)
	}
	lists(t, c, "", true, all...)
	c.Portals = []api.Portal{{Address: "p", Group: math.MinInt}, {Address: "p", Group: math.MaxInt}}
	lists(t, c, "b", false, api.Pair{Key: "TargetName", Value: "b"}, api.Pair{Key: "TargetAddress", Value: "p," + strconv.Itoa(math.MinInt)}, api.Pair{Key: "TargetAddress", Value: "p," + strconv.Itoa(math.MaxInt)})
}

// TestListOfMany: there may be more than are right.
func TestListOfMany(t *testing.T) {
	c := api.Conf{Targets: names(100)}
	for i := range 50 {
		c.Portals = append(c.Portals, api.Portal{Address: "p", Group: i})
	}
	var all []api.Pair
	for _, target := range c.Targets {
		one := []api.Pair{{Key: "TargetName", Value: target}}
		for i := range 50 {
			one = append(one, api.Pair{Key: "TargetAddress", Value: "p," + strconv.Itoa(i)})
		}
		lists(t, c, target, false, one...)
		all = append(all, one...)
	}
	lists(t, c, "", true, all...)
}

// TestListMayBeTold: where all is right, what is told are right pairs, however long names are.
func TestListMayBeTold(t *testing.T) {
	c := full()
	for i := range c.Targets {
		c.Targets[i] = strconv.Itoa(i) + long(99)
	}
	for i := range c.Portals {
		c.Portals[i] = api.Portal{Address: long(100), Group: 65535}
	}
	judged(t, "long names", c, api.OK, nowhere)
	l, err := List(c, "", true)
	fails(t, "List", err, api.OK, nowhere)
	if len(l) != 8*(1+4) {
		t.Errorf("%d pairs", len(l))
	}
	fails(t, "what is told", pairs.Right(l), api.OK, nowhere)
}

// TestListIsTheCallers: what is done to one answer is not seen in the next one.
func TestListIsTheCallers(t *testing.T) {
	c := full()
	for _, all := range []bool{true, false} {
		l, _ := List(c, "iqn.3", all)
		want := slices.Clone(l)
		for i := range l {
			l[i] = api.Pair{Key: "x", Value: "y"}
		}
		lists(t, c, "iqn.3", all, want...)
	}
	if !same(c, full()) {
		t.Error("what it was told was written into")
	}
}

// drawnNames are short names of few letters, one of which no name may have, so that they are twice, or wrong, now and then.
func drawnNames(r *rand.Rand, most int) []string {
	const letters = "aaabbbcccddd~~~   \x1f"
	l := make([]string, r.Intn(most+1))
	for i := range l {
		for range r.Intn(5) {
			l[i] += letters[r.Intn(len(letters)):][:1]
		}
	}
	return l
}

// firstWrong is a plain reading of what is wrong with names, of which none may stand there twice.
func firstWrong(l []string) int {
	for i, s := range l {
		if len(s) < 1 || len(s) > 100 || strings.ContainsRune(s, '\x1f') || slices.Index(l, s) < i {
			return i
		}
	}
	return nowhere
}

func TestRightOfMany(t *testing.T) {
	r := rand.New(rand.NewSource(15))
	seen := map[string]int{}
	for range 5000 {
		targets, users := drawnNames(r, 4), drawnNames(r, 3)
		c := api.Conf{Targets: targets, Limit: 512}
		for _, name := range users {
			c.Users = append(c.Users, api.User{Name: name, Secret: "s"})
		}
		want, place := api.OK, nowhere
		if at := firstWrong(users); at != nowhere {
			want, place = api.ErrName, at
		}
		if at := firstWrong(targets); at != nowhere {
			want, place = api.ErrName, at
		}
		seen[fmt.Sprint(want, place)]++
		judged(t, "drawn", c, want, place)
		for _, name := range append(users, targets...) {
			if got, want := Has(c, name), slices.Contains(targets, name); got != want {
				t.Errorf("Has of %q in %q is %v", name, targets, got)
			}
		}
	}
	if len(seen) < 5 {
		t.Errorf("just these were drawn: %v", seen)
	}
}
