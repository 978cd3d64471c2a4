package nego

import (
	"fmt"
	"math/rand"
	"slices"
	"strconv"
	"strings"
	"testing"

	"quaymaster/api"
	"quaymaster/keys"
	"quaymaster/plain"
)

// nowhere is the place of an error that has none.
const nowhere = -1

// made is one of what one has, which is right.
func made(t *testing.T, own ...api.Pair) *Nego {
	t.Helper()
	n, err := New(own)
	if n == nil || err != nil {
		t.Fatalf("New of %v: %v, %v", own, n, err)
	}
	return n
}

// of are pairs, of keys and values in turn.
func of(words ...string) []api.Pair {
	var pairs []api.Pair
	for i := 0; i < len(words); i += 2 {
		pairs = append(pairs, api.Pair{Key: words[i], Value: words[i+1]})
	}
	return pairs
}

// fails checks that an error is that Errno (OK: none), at that place.
func fails(t *testing.T, what string, err error, want api.Errno, place int) {
	t.Helper()
	if got, at := plain.Place(err); got != want || at != place {
		t.Errorf("%.200s: error %d at %d, want %d at %d", what, got, at, want, place)
	}
}

// says checks what is said to offers.
func says(t *testing.T, n *Nego, offers []api.Pair, login, discovery bool, want ...string) {
	t.Helper()
	said, err := n.Answer(offers, login, discovery)
	what := fmt.Sprintf("to %.200v (login %v, discovery %v)", offers, login, discovery)
	fails(t, what, err, api.OK, nowhere)
	if !slices.Equal(said, of(want...)) {
		t.Errorf("%s %v is said, want %v", what, said, of(want...))
	}
}

// refuses checks that offers are refused, and that nothing has changed then.
func refuses(t *testing.T, n *Nego, offers []api.Pair, login, discovery bool, want api.Errno, place int) {
	t.Helper()
	before, digests := n.Record(), n.Digests()
	said, err := n.Answer(offers, login, discovery)
	what := fmt.Sprintf("%.200v (login %v, discovery %v)", offers, login, discovery)
	fails(t, what, err, want, place)
	if len(said) != 0 {
		t.Errorf("%s: %v is said beside an error", what, said)
	}
	records(t, n, before)
	if got := n.Digests(); got != digests {
		t.Errorf("%s: Digests was %d, and is %d", what, digests, got)
	}
}

// records checks the record, and that Value tells what it does.
func records(t *testing.T, n *Nego, want []api.Pair) {
	t.Helper()
	if got := n.Record(); !slices.Equal(got, want) {
		t.Errorf("Record is %v, want %v", got, want)
	}
	for _, name := range keys.Names() {
		k, _ := keys.Of(name)
		value := k.Default
		for _, p := range want {
			if p.Key == name {
				value = p.Value
			}
		}
		if got, err := n.Value(name); got != value || err != nil {
			t.Errorf("Value of %s is %q, %v, want %q", name, got, err, value)
		}
	}
}

// fit is a value that fits a key, and isn't what it is where nobody says so.
func fit(k api.Key) string {
	switch {
	case k.Kind == api.And || k.Kind == api.Or:
		return "No"
	case k.Kind == api.First:
		return "CRC32C"
	case k.Kind == api.Told:
		return "told"
	}
	return strconv.Itoa(k.High)
}

// unfit is one that doesn't fit it.
func unfit(k api.Key) string {
	switch {
	case k.Kind == api.First:
		return "None,None"
	case k.Kind == api.Told:
		return ""
	}
	return "maybe"
}

// all are all keys.
func all(t *testing.T) []api.Key {
	t.Helper()
	var l []api.Key
	for _, name := range keys.Names() {
		k, err := keys.Of(name)
		if err != nil {
			t.Fatal(err)
		}
		l = append(l, k)
	}
	if len(l) != 18 {
		t.Fatalf("%d keys", len(l))
	}
	return l
}

// strange are keys of which nothing is known.
var strange = []string{"X", "A", "AuthMethod", "CHAP_A", "SendTargets", "TargetAlias", "Maxburstlength", "HeaderDigestX", "Digest", "InitiatorNam", "SessionTypes", "NotUnderstood", strings.Repeat("K", 63)}

// many are that many pairs of keys of which nothing is known.
func many(n int) []api.Pair {
	var l []api.Pair
	for i := range n {
		l = append(l, api.Pair{Key: "K" + strconv.Itoa(i), Value: "1"})
	}
	return l
}

func TestNew(t *testing.T) {
	for _, own := range [][]api.Pair{
		nil,
		{},
		of("MaxBurstLength", "1000", "HeaderDigest", "CRC32C,None"),
		of("InitialR2T", "No"),
		of("MaxRecvDataSegmentLength", "0x200", "InitiatorName", "me", "SessionType", "x", "DataDigest", "a,b"),
	} {
		n := made(t, own...)
		records(t, n, nil)
		if n.Digests() != 0 {
			t.Errorf("Digests of a new one is %d", n.Digests())
		}
		has(t, n, own)
	}
}

// has checks what one has of each key.
func has(t *testing.T, n *Nego, own []api.Pair) {
	t.Helper()
	for _, k := range all(t) {
		want := k.Default
		for _, p := range own {
			if p.Key == k.Name {
				want = p.Value
			}
		}
		if got, err := n.Own(k.Name); got != want || err != nil {
			t.Errorf("Own of %s is %q, %v, want %q", k.Name, got, err, want)
		}
	}
}

// TestNewOfAll: of each key, in any order.
func TestNewOfAll(t *testing.T) {
	var own []api.Pair
	for _, k := range all(t) {
		own = append(own, api.Pair{Key: k.Name, Value: fit(k)})
		has(t, made(t, own[len(own)-1]), own[len(own)-1:])
	}
	has(t, made(t, own...), own)
	slices.Reverse(own)
	has(t, made(t, own...), own)
	records(t, made(t, own...), nil)
}

func TestNewErrors(t *testing.T) {
	long := strings.Repeat("x", 256)
	for _, x := range []struct {
		own   []api.Pair
		want  api.Errno
		place int
	}{
		// What pairs says, ahead of all else.
		{many(61), api.ErrLimit, nowhere},
		{append(of("InitialR2T", "x", "InitialR2T", "x"), many(59)...), api.ErrLimit, nowhere},
		{of("", "Yes"), api.ErrName, 0},
		{of("InitialR2T", "Yes", "initialR2T", "Yes"), api.ErrName, 1},
		{of("InitialR2T", "x", "InitialR2T", "No", "X", "1", "a b", "x"), api.ErrName, 3},
		{of("InitiatorName", long), api.ErrForm, 0},
		{of("InitialR2T", "x", "X", "1", "InitiatorName", "\n"), api.ErrForm, 2},
		// A key that stood there already.
		{of("InitialR2T", "No", "InitialR2T", "No"), api.ErrTwice, 1},
		{of("InitialR2T", "No", "InitialR2T", "Yes"), api.ErrTwice, 1},
		{of("InitialR2T", "No", "ImmediateData", "No", "InitialR2T", "No"), api.ErrTwice, 2},
		{of("InitialR2T", "No", "ImmediateData", "No", "InitialR2T", "maybe"), api.ErrTwice, 2},
		{of("InitialR2T", "No", "ImmediateData", "No", "ImmediateData", "No", "InitialR2T", "No"), api.ErrTwice, 2},
		{of("InitialR2T", "No", "ImmediateData", "No", "InitialR2T", "No", "X", "1"), api.ErrTwice, 2},
		// What keys says.
		{of("X", "1"), api.ErrName, 0},
		{of("X", "1", "X", "1"), api.ErrName, 0},
		{of("InitialR2T", "No", "X", "1", "InitialR2T", "No"), api.ErrName, 1},
		{many(60), api.ErrName, 0},
		{of("MaxBurstLength", "x"), api.ErrForm, 0},
		{of("InitialR2T", "No", "MaxBurstLength", "x", "MaxBurstLength", "512"), api.ErrForm, 1},
		{of("MaxBurstLength", "511", "MaxBurstLength", "x"), api.ErrRange, 0},
		{of("InitialR2T", "No", "MaxConnections", "1", "MaxBurstLength", "16777216"), api.ErrRange, 2},
		{of("InitialR2T", "No", "InitiatorName", ""), api.ErrForm, 1},
		{of("HeaderDigest", "None,"), api.ErrForm, 0},
	} {
		n, err := New(x.own)
		fails(t, fmt.Sprintf("New of %.200v", x.own), err, x.want, x.place)
		if n != nil {
			t.Errorf("New of %.200v: %v beside an error", x.own, n)
		}
	}
}

// TestNewOfEachKey: each key has its errors, and may stand there once.
func TestNewOfEachKey(t *testing.T) {
	for _, k := range all(t) {
		n, err := New(of(k.Name, unfit(k)))
		fails(t, k.Name, err, api.ErrForm, 0)
		if n != nil {
			t.Errorf("New of %s: %v beside an error", k.Name, n)
		}
		_, err = New(of(k.Name, fit(k), k.Name, fit(k)))
		fails(t, k.Name, err, api.ErrTwice, 1)
	}
}

func TestOwnAndValueOfNoKey(t *testing.T) {
	n := made(t, of("HeaderDigest", "CRC32C")...)
	says(t, n, of("X", "1", "A", "2"), true, false, "X", "NotUnderstood", "A", "NotUnderstood")
	for _, key := range append([]string{"", " ", "headerdigest", "HeaderDigest ", "\xff", strings.Repeat("K", 1000)}, strange...) {
		own, err := n.Own(key)
		fails(t, "Own of "+key, err, api.ErrName, nowhere)
		value, err2 := n.Value(key)
		fails(t, "Value of "+key, err2, api.ErrName, nowhere)
		if own+value != "" {
			t.Errorf("%q: %q and %q beside errors", key, own, value)
		}
	}
}

// TestResults: what comes of an offer and what one has, of each kind; what is said is what is recorded.
func TestResults(t *testing.T) {
	for _, x := range []struct{ key, own, offer, want string }{
		{"ImmediateData", "Yes", "Yes", "Yes"},
		{"ImmediateData", "Yes", "No", "No"},
		{"ImmediateData", "No", "Yes", "No"},
		{"InitialR2T", "No", "No", "No"},
		{"InitialR2T", "No", "Yes", "Yes"},
		{"InitialR2T", "Yes", "No", "Yes"},
		{"DataPDUInOrder", "No", "No", "No"},
		{"DataSequenceInOrder", "No", "Yes", "Yes"},
		{"MaxConnections", "8", "4", "4"},
		{"MaxConnections", "4", "8", "4"},
		{"ErrorRecoveryLevel", "2", "1", "1"},
		{"MaxBurstLength", "1000", "2000", "1000"},
		{"MaxBurstLength", "0x400", "0xFFF", "1024"},
		{"FirstBurstLength", "1000", "999", "999"},
		{"MaxOutstandingR2T", "65535", "0xff", "255"},
		{"DefaultTime2Retain", "3600", "0", "0"},
		{"DefaultTime2Wait", "5", "0x10", "16"},
		{"DefaultTime2Wait", "0x10", "5", "16"},
		{"HeaderDigest", "None,CRC32C", "CRC32C,None", "CRC32C"},
		{"HeaderDigest", "CRC32C,None", "None,CRC32C", "None"},
		{"DataDigest", "CRC32C", "x,CRC32C,None", "CRC32C"},
		{"DataDigest", "x", "y,x", "x"},
	} {
		for _, discovery := range []bool{false, true} {
			n := made(t, of(x.key, x.own)...)
			if k, _ := keys.Of(x.key); k.Nothing && discovery {
				continue
			}
			says(t, n, of(x.key, x.offer), true, discovery, x.key, x.want)
			records(t, n, of(x.key, x.want))
			has(t, n, of(x.key, x.own))
		}
	}
}

// TestDefaultsCount: where nothing is told of a key, what it is where nobody says so is what one has.
func TestDefaultsCount(t *testing.T) {
	for _, x := range []struct{ key, offer, want string }{
		{"HeaderDigest", "CRC32C,None", "None"},
		{"HeaderDigest", "CRC32C", "Reject"},
		{"MaxConnections", "2", "1"},
		{"ErrorRecoveryLevel", "2", "0"},
		{"InitialR2T", "No", "Yes"},
		{"ImmediateData", "No", "No"},
		{"ImmediateData", "Yes", "Yes"},
		{"MaxBurstLength", "16777215", "262144"},
		{"MaxBurstLength", "512", "512"},
		{"FirstBurstLength", "16777215", "65536"},
		{"DefaultTime2Wait", "0", "2"},
		{"DefaultTime2Wait", "3", "3"},
		{"DefaultTime2Retain", "21", "20"},
		{"MaxOutstandingR2T", "9", "1"},
		{"DataPDUInOrder", "No", "Yes"},
	} {
		says(t, made(t), of(x.key, x.offer), true, false, x.key, x.want)
		says(t, made(t, of("SessionType", "x", "DataDigest", "CRC32C")...), of(x.key, x.offer), true, false, x.key, x.want)
	}
}

// TestNothingIsSaid: what is told, or a number of each of both, is recorded as it is written, whatever one has.
func TestNothingIsSaid(t *testing.T) {
	for _, x := range []struct{ key, own, offer string }{
		{"InitiatorName", "me", "you"},
		{"InitiatorAlias", "me", "a,a= b"},
		{"TargetName", "x", "iqn.a"},
		{"SessionType", "Normal", "Discovery"},
		{"SessionType", "x", "No such"},
		{"MaxRecvDataSegmentLength", "512", "16777215"},
		{"MaxRecvDataSegmentLength", "16777215", "0x0200"},
		{"MaxRecvDataSegmentLength", "512", "0xFfF"},
	} {
		for _, discovery := range []bool{false, true} {
			n := made(t, of(x.key, x.own)...)
			says(t, n, of(x.key, x.offer), true, discovery)
			records(t, n, of(x.key, x.offer))
			n = made(t)
			says(t, n, of("X", "1", x.key, x.offer, "A", "2"), true, discovery, "X", "NotUnderstood", "A", "NotUnderstood")
			records(t, n, of(x.key, x.offer))
		}
	}
}

func TestNotUnderstood(t *testing.T) {
	for _, login := range []bool{true, false} {
		for _, discovery := range []bool{true, false} {
			n := made(t)
			for range 2 {
				for _, key := range strange {
					for _, value := range []string{"", "1", "Yes", "NotUnderstood", strings.Repeat("~", 255)} {
						says(t, n, of(key, value), login, discovery, key, "NotUnderstood")
					}
				}
			}
			records(t, n, nil)
		}
	}
}

// TestNoLogin: what is of logins only is refused then, whatever its value is, also in a discovery, and whether it was recorded or not.
func TestNoLogin(t *testing.T) {
	for _, k := range all(t) {
		for _, discovery := range []bool{true, false} {
			n := made(t, of("HeaderDigest", "CRC32C", "DataDigest", "CRC32C")...)
			if !k.LoginOnly {
				says(t, n, of(k.Name, fit(k)), false, discovery)
				records(t, n, of(k.Name, fit(k)))
				continue
			}
			says(t, n, of(k.Name, fit(k)), false, discovery, k.Name, "Reject")
			says(t, n, of(k.Name, unfit(k)), false, discovery, k.Name, "Reject")
			records(t, n, nil)
			if _, err := n.Answer(of(k.Name, fit(k)), true, false); err != nil {
				t.Fatal(err)
			}
			before := n.Record()
			if len(before) != 1 {
				t.Fatalf("%s: %v is recorded", k.Name, before)
			}
			says(t, n, of(k.Name, fit(k)), false, discovery, k.Name, "Reject")
			records(t, n, before)
		}
	}
}

// TestIrrelevant: what counts for nothing in a discovery isn't looked at there, whatever its value is, and nothing comes of it.
func TestIrrelevant(t *testing.T) {
	some := 0
	for _, k := range all(t) {
		if !k.Nothing {
			continue
		}
		some++
		n := made(t, of(k.Name, fit(k))...)
		for _, value := range []string{fit(k), unfit(k), k.Default, "", "99999999999"} {
			says(t, n, of(k.Name, value), true, true, k.Name, "Irrelevant")
			says(t, n, of(k.Name, value), false, true, k.Name, "Reject")
		}
		records(t, n, nil)
		says(t, n, of(k.Name, fit(k)), true, false, k.Name, fit(k))
		records(t, n, of(k.Name, fit(k)))
	}
	if some != 8 {
		t.Errorf("%d keys count for nothing", some)
	}
}

// TestReject: of a value that doesn't fit nothing comes, whether an answer is due or not; it may be offered again then.
func TestReject(t *testing.T) {
	for _, k := range all(t) {
		n := made(t, of(k.Name, fit(k))...)
		for range 2 {
			says(t, n, of(k.Name, unfit(k)), true, false, k.Name, "Reject")
		}
		if !k.Nothing {
			says(t, n, of(k.Name, unfit(k)), true, true, k.Name, "Reject")
		}
		says(t, n, of(k.Name, unfit(k)), false, false, k.Name, "Reject")
		records(t, n, nil)
		if _, err := n.Answer(of(k.Name, fit(k)), true, false); err != nil {
			t.Errorf("%s, again: %v", k.Name, err)
		}
		records(t, n, of(k.Name, fit(k)))
	}
	n := made(t)
	says(t, n, of("MaxBurstLength", "511", "MaxConnections", "0", "MaxRecvDataSegmentLength", "16777216", "DefaultTime2Wait", "3601"), true, false, "MaxBurstLength", "Reject", "MaxConnections", "Reject", "MaxRecvDataSegmentLength", "Reject", "DefaultTime2Wait", "Reject")
	records(t, n, nil)
}

// TestRejectKeeps: what was recorded ahead stays, if what is offered behind a login doesn't fit.
func TestRejectKeeps(t *testing.T) {
	n := made(t)
	says(t, n, of("MaxRecvDataSegmentLength", "512", "InitiatorAlias", "a"), true, false)
	for _, discovery := range []bool{true, false} {
		says(t, n, of("MaxRecvDataSegmentLength", "511", "InitiatorAlias", ""), false, discovery, "MaxRecvDataSegmentLength", "Reject", "InitiatorAlias", "Reject")
		records(t, n, of("MaxRecvDataSegmentLength", "512", "InitiatorAlias", "a"))
	}
}

// TestNoneOfTheList: nothing comes of a list of which one has none.
func TestNoneOfTheList(t *testing.T) {
	for _, key := range []string{"HeaderDigest", "DataDigest"} {
		n := made(t, of(key, "CRC32C,a")...)
		for _, offer := range []string{"None", "crc32c", "b,c,None", "CRC32"} {
			says(t, n, of(key, offer), true, false, key, "Reject")
			says(t, n, of(key, offer), true, true, key, "Reject")
		}
		records(t, n, nil)
		says(t, n, of(key, "b,a"), true, true, key, "a")
		records(t, n, of(key, "a"))
	}
}

func TestAnswerErrors(t *testing.T) {
	for _, x := range []struct {
		offers []api.Pair
		want   api.Errno
		place  int
	}{
		// What pairs says, ahead of all else.
		{many(61), api.ErrLimit, nowhere},
		{append(of("InitialR2T", "x", "InitialR2T", "x"), many(59)...), api.ErrLimit, nowhere},
		{of("", "1"), api.ErrName, 0},
		{of("InitialR2T", "Yes", "x", "1"), api.ErrName, 1},
		{of("MaxConnections", "1", "X", "1", "X", "1", "a b", "x"), api.ErrName, 3},
		{of("InitiatorAlias", strings.Repeat("x", 256)), api.ErrForm, 0},
		{of("X", "1", "X", "1", "InitiatorAlias", "\x00"), api.ErrForm, 2},
		// An offer that stands among those ahead, whatever comes of it.
		{of("X", "1", "X", "1"), api.ErrTwice, 1},
		{of("X", "1", "A", "1", "X", "2"), api.ErrTwice, 2},
		{of("MaxBurstLength", "600", "InitialR2T", "No", "MaxBurstLength", "600"), api.ErrTwice, 2},
		{of("MaxBurstLength", "x", "MaxBurstLength", "x"), api.ErrTwice, 1},
		{of("MaxRecvDataSegmentLength", "512", "InitiatorAlias", "a", "InitiatorAlias", "b", "MaxRecvDataSegmentLength", "513"), api.ErrTwice, 2},
		{append(many(59), many(1)...), api.ErrTwice, 59},
	} {
		for _, login := range []bool{true, false} {
			for _, discovery := range []bool{true, false} {
				n := made(t, of("HeaderDigest", "CRC32C")...)
				refuses(t, n, x.offers, login, discovery, x.want, x.place)
				says(t, n, of("TargetName", "t", "HeaderDigest", "CRC32C"), true, discovery, "HeaderDigest", "CRC32C")
				refuses(t, n, x.offers, login, discovery, x.want, x.place)
			}
		}
	}
}

// TestTwiceInALogin: what is recorded isn't offered again in a login, of a discovery or not.
func TestTwiceInALogin(t *testing.T) {
	for _, k := range all(t) {
		for _, discovery := range []bool{true, false} {
			n := made(t, of(k.Name, fit(k))...)
			if _, err := n.Answer(of(k.Name, fit(k)), true, false); err != nil {
				t.Fatal(err)
			}
			for _, value := range []string{fit(k), unfit(k), k.Default} {
				refuses(t, n, of(k.Name, value), true, discovery, api.ErrTwice, 0)
				refuses(t, n, of("X", "1", "A", "2", k.Name, value), true, discovery, api.ErrTwice, 2)
				refuses(t, n, of("X", "1", k.Name, value, "X", "1"), true, discovery, api.ErrTwice, 1)
				refuses(t, n, of("X", "1", "X", "2", k.Name, value), true, discovery, api.ErrTwice, 1)
				refuses(t, n, append(of(k.Name, value), many(60)...), true, discovery, api.ErrLimit, nowhere)
				refuses(t, n, of(k.Name, value, "x", "1"), true, discovery, api.ErrName, 1)
			}
			records(t, n, of(k.Name, fit(k)))
		}
	}
}

// TestNothingHasChanged: not even of offers ahead of the one that is wrong.
func TestNothingHasChanged(t *testing.T) {
	n := made(t, of("DataDigest", "CRC32C")...)
	says(t, n, of("InitiatorAlias", "a"), true, false)
	refuses(t, n, of("DataDigest", "CRC32C", "MaxBurstLength", "512", "InitiatorName", "me", "InitiatorAlias", "b"), true, false, api.ErrTwice, 3)
	refuses(t, n, of("MaxRecvDataSegmentLength", "512", "X", "1", "X", "1"), false, false, api.ErrTwice, 2)
	records(t, n, of("InitiatorAlias", "a"))
	says(t, n, of("DataDigest", "CRC32C", "MaxBurstLength", "512", "InitiatorName", "me"), true, false, "DataDigest", "CRC32C", "MaxBurstLength", "512")
	records(t, n, of("InitiatorAlias", "a", "DataDigest", "CRC32C", "MaxBurstLength", "512", "InitiatorName", "me"))
}

// TestRecordInOrder: what is recorded stands behind all others, also what was recorded ahead, which is gone.
func TestRecordInOrder(t *testing.T) {
	n := made(t)
	says(t, n, of("MaxRecvDataSegmentLength", "512", "InitialR2T", "No", "InitiatorAlias", "a"), true, false, "InitialR2T", "Yes")
	says(t, n, of("TargetName", "t", "HeaderDigest", "None"), true, false, "HeaderDigest", "None")
	records(t, n, of("MaxRecvDataSegmentLength", "512", "InitialR2T", "Yes", "InitiatorAlias", "a", "TargetName", "t", "HeaderDigest", "None"))
	says(t, n, of("MaxRecvDataSegmentLength", "513"), false, false)
	records(t, n, of("InitialR2T", "Yes", "InitiatorAlias", "a", "TargetName", "t", "HeaderDigest", "None", "MaxRecvDataSegmentLength", "513"))
	says(t, n, of("MaxRecvDataSegmentLength", "514"), false, true)
	records(t, n, of("InitialR2T", "Yes", "InitiatorAlias", "a", "TargetName", "t", "HeaderDigest", "None", "MaxRecvDataSegmentLength", "514"))
	says(t, n, of("InitiatorAlias", "b", "TargetName", "u", "MaxRecvDataSegmentLength", "515"), false, false, "TargetName", "Reject")
	records(t, n, of("InitialR2T", "Yes", "TargetName", "t", "HeaderDigest", "None", "InitiatorAlias", "b", "MaxRecvDataSegmentLength", "515"))
	says(t, n, of("MaxRecvDataSegmentLength", "0x203", "InitiatorAlias", "b"), false, false)
	records(t, n, of("InitialR2T", "Yes", "TargetName", "t", "HeaderDigest", "None", "MaxRecvDataSegmentLength", "0x203", "InitiatorAlias", "b"))
}

// TestAllInOneOrManyCalls: it comes to the same, and in whichever order, but for that of the record.
func TestAllInOneOrManyCalls(t *testing.T) {
	r := rand.New(rand.NewSource(12))
	own := of("HeaderDigest", "CRC32C,None", "MaxBurstLength", "1000", "InitialR2T", "No", "DefaultTime2Wait", "9")
	var offers []api.Pair
	for _, k := range all(t) {
		offers = append(offers, api.Pair{Key: k.Name, Value: fit(k)})
	}
	whole := made(t, own...)
	want, err := whole.Answer(offers, true, false)
	if err != nil || len(want) != 13 { // to five nothing is said
		t.Fatalf("%v, %v", want, err)
	}
	for range 200 {
		r.Shuffle(len(offers), func(i, j int) { offers[i], offers[j] = offers[j], offers[i] })
		n := made(t, own...)
		var said, recorded []api.Pair
		for rest := offers; len(rest) > 0; {
			k := 1 + r.Intn(len(rest))
			answer, err := n.Answer(rest[:k], true, false)
			if err != nil {
				t.Fatal(err)
			}
			said, rest = append(said, answer...), rest[k:]
		}
		for _, p := range offers {
			if value, _ := whole.Value(p.Key); slices.Contains(whole.Record(), api.Pair{Key: p.Key, Value: value}) {
				recorded = append(recorded, api.Pair{Key: p.Key, Value: value})
			}
		}
		records(t, n, recorded)
		if len(said) != len(want) {
			t.Fatalf("%v is said, want %v", said, want)
		}
		for _, p := range said {
			if !slices.Contains(want, p) {
				t.Errorf("%v is said, want %v", p, want)
			}
		}
	}
}

// TestWhicheverIsOffered: of what both say it comes to the same, whoever offers it.
func TestWhicheverIsOffered(t *testing.T) {
	for _, k := range all(t) {
		if k.Kind != api.And && k.Kind != api.Or && k.Kind != api.Least && k.Kind != api.Most {
			continue
		}
		values := []string{"Yes", "No"}
		if k.Kind == api.Least || k.Kind == api.Most {
			values = []string{strconv.Itoa(k.Low), fmt.Sprintf("0x%x", k.Low+1), strconv.Itoa(k.High - 1), fmt.Sprintf("0x%X", k.High)}
		}
		for _, a := range values {
			for _, b := range values {
				one, other := made(t, of(k.Name, a)...), made(t, of(k.Name, b)...)
				x, _ := one.Answer(of(k.Name, b), true, false)
				y, _ := other.Answer(of(k.Name, a), true, false)
				if len(x) != 1 || !slices.Equal(x, y) || !slices.Equal(one.Record(), other.Record()) {
					t.Errorf("%s of %s and %s: %v or %v", k.Name, a, b, x, y)
				}
			}
		}
	}
}

func TestNothingIsOffered(t *testing.T) {
	n := made(t)
	for _, login := range []bool{true, false} {
		for _, discovery := range []bool{true, false} {
			says(t, n, nil, login, discovery)
			says(t, n, []api.Pair{}, login, discovery)
		}
	}
	records(t, n, nil)
}

func TestManyOffers(t *testing.T) {
	n := made(t)
	said, err := n.Answer(many(60), true, false)
	fails(t, "60 offers", err, api.OK, nowhere)
	if len(said) != 60 || said[59] != (api.Pair{Key: "K59", Value: "NotUnderstood"}) {
		t.Errorf("%v is said", said)
	}
	for i := range 20_000 {
		value := strconv.Itoa(512 + i)
		says(t, n, of("InitiatorAlias", value, "MaxRecvDataSegmentLength", value), false, false)
	}
	records(t, n, of("InitiatorAlias", "20511", "MaxRecvDataSegmentLength", "20511"))
}

func TestDigests(t *testing.T) {
	for _, own := range []string{"CRC32C,None", "None,CRC32C,crc32c", "crc32c,CRC32C,None"} {
		for _, x := range []struct {
			offers []api.Pair
			want   int
		}{
			{nil, 0},
			{of("HeaderDigest", "CRC32C"), api.HeadDigest},
			{of("DataDigest", "CRC32C"), api.DataDigest},
			{of("HeaderDigest", "CRC32C", "DataDigest", "CRC32C"), api.HeadDigest | api.DataDigest},
			{of("DataDigest", "CRC32C,None", "HeaderDigest", "CRC32C,None"), api.HeadDigest | api.DataDigest},
			{of("HeaderDigest", "None,CRC32C", "DataDigest", "CRC32C"), api.DataDigest},
			{of("HeaderDigest", "x,CRC32C", "DataDigest", "None"), api.HeadDigest},
			{of("HeaderDigest", "None", "DataDigest", "None,CRC32C"), 0},
			{of("HeaderDigest", "CRC32,CRC32CX", "DataDigest", "x"), 0},
			{of("InitiatorName", "CRC32C", "InitiatorAlias", "CRC32C"), 0},
		} {
			for _, discovery := range []bool{false, true} {
				n := made(t, of("HeaderDigest", own, "DataDigest", own)...)
				if _, err := n.Answer(x.offers, true, discovery); err != nil {
					t.Fatal(err)
				}
				if got := n.Digests(); got != x.want {
					t.Errorf("Digests of %v to %s is %d, want %d", x.offers, own, got, x.want)
				}
			}
		}
	}
	n := made(t, of("HeaderDigest", "crc32c", "DataDigest", "CRC32C ")...)
	says(t, n, of("HeaderDigest", "crc32c", "DataDigest", "CRC32C "), true, false, "HeaderDigest", "crc32c", "DataDigest", "CRC32C ")
	if n.Digests() != 0 {
		t.Errorf("Digests is %d", n.Digests())
	}
}

// TestDigestsOfNoLogin: what is refused makes no digest.
func TestDigestsOfNoLogin(t *testing.T) {
	n := made(t, of("HeaderDigest", "CRC32C", "DataDigest", "CRC32C")...)
	says(t, n, of("HeaderDigest", "CRC32C", "DataDigest", "CRC32C"), false, false, "HeaderDigest", "Reject", "DataDigest", "Reject")
	if n.Digests() != 0 {
		t.Errorf("Digests is %d", n.Digests())
	}
}

// TestListsAreTheCallers: no list that is handed in is kept, or written into, nor what stands behind it; what comes out may be written into.
func TestListsAreTheCallers(t *testing.T) {
	behind := api.Pair{Key: "behind", Value: "behind"}
	own := append(of("HeaderDigest", "CRC32C"), behind, behind)
	n, err := New(own[:1])
	if err != nil {
		t.Fatal(err)
	}
	offers := append(of("HeaderDigest", "CRC32C,None", "InitiatorAlias", "a", "X", "1"), behind, behind, behind)
	said, err := n.Answer(offers[:3], true, false)
	if err != nil || !slices.Equal(said, of("HeaderDigest", "CRC32C", "X", "NotUnderstood")) {
		t.Fatalf("%v, %v", said, err)
	}
	if !slices.Equal(own, append(of("HeaderDigest", "CRC32C"), behind, behind)) || !slices.Equal(offers, append(of("HeaderDigest", "CRC32C,None", "InitiatorAlias", "a", "X", "1"), behind, behind, behind)) {
		t.Errorf("what was handed in is %v, %v", own, offers)
	}
	record := n.Record()
	for _, list := range [][]api.Pair{own, offers, said, record} {
		_ = append(list, behind, behind)
		for i := range list {
			list[i] = behind
		}
	}
	has(t, n, of("HeaderDigest", "CRC32C"))
	records(t, n, of("HeaderDigest", "CRC32C", "InitiatorAlias", "a"))
	kept := n.Record()
	says(t, n, of("InitiatorAlias", "b"), false, false)
	says(t, n, of("MaxRecvDataSegmentLength", "512"), false, false)
	says(t, n, of("InitiatorAlias", "c"), false, false)
	if !slices.Equal(kept, of("HeaderDigest", "CRC32C", "InitiatorAlias", "a")) {
		t.Errorf("what came out is %v later", kept)
	}
	records(t, n, of("HeaderDigest", "CRC32C", "MaxRecvDataSegmentLength", "512", "InitiatorAlias", "c"))
}

// TestEachHasItsOwn: of two of the same, what comes of offers to one is nothing to the other one.
func TestEachHasItsOwn(t *testing.T) {
	own := of("HeaderDigest", "CRC32C")
	n, m := made(t, own...), made(t, own...)
	says(t, n, of("HeaderDigest", "CRC32C"), true, false, "HeaderDigest", "CRC32C")
	records(t, m, nil)
	says(t, m, of("HeaderDigest", "None"), true, false, "HeaderDigest", "Reject")
	records(t, n, own)
}

// model is what the chapter tells, read once more: maps, and a list of what was recorded when.
type model struct {
	own   map[string]string
	value map[string]string
	order []string
}

// answer is what the chapter has said to offers that are right as pairs.
func (m *model) answer(offers []api.Pair, login, discovery bool) ([]api.Pair, api.Errno, int) {
	seen := map[string]bool{}
	for i, p := range offers {
		_, recorded := m.value[p.Key]
		if seen[p.Key] || recorded && login {
			return nil, api.ErrTwice, i
		}
		seen[p.Key] = true
	}
	var said []api.Pair
	for _, p := range offers {
		k, err := keys.Of(p.Key)
		answer := ""
		if err != nil {
			answer = "NotUnderstood"
		} else if !login && k.LoginOnly {
			answer = "Reject"
		} else if discovery && k.Nothing {
			answer = "Irrelevant"
		} else if keys.Fits(p.Key, p.Value) != nil {
			answer = "Reject"
		} else if k.Kind == api.Told || k.Kind == api.Number {
			m.put(p.Key, p.Value)
		} else {
			own, ok := m.own[p.Key]
			if !ok {
				own = k.Default
			}
			if answer, err = keys.Result(p.Key, p.Value, own); err == nil {
				m.put(p.Key, answer)
			} else {
				answer = "Reject"
			}
		}
		if answer != "" {
			said = append(said, api.Pair{Key: p.Key, Value: answer})
		}
	}
	return said, api.OK, nowhere
}

// put records.
func (m *model) put(key, value string) {
	if i := slices.Index(m.order, key); i >= 0 {
		m.order = slices.Delete(m.order, i, i+1)
	}
	m.order = append(m.order, key)
	m.value[key] = value
}

// record is what was recorded.
func (m *model) record() []api.Pair {
	var l []api.Pair
	for _, key := range m.order {
		l = append(l, api.Pair{Key: key, Value: m.value[key]})
	}
	return l
}

// TestAsTheModelHasIt holds many talks against the model.
func TestAsTheModelHasIt(t *testing.T) {
	r := rand.New(rand.NewSource(9))
	values := []string{"Yes", "No", "0", "1", "2", "0x2", "512", "0x200", "1000", "3600", "65535", "16777215", "None", "CRC32C", "None,CRC32C", "CRC32C,None", "a", "", "maybe", "Reject"}
	names := append(keys.Names(), "X", "AuthMethod", "MaxRecvDataSegmentLength", "InitiatorAlias")
	some := func() api.Pair {
		return api.Pair{Key: names[r.Intn(len(names))], Value: values[r.Intn(len(values))]}
	}
	for range 3000 {
		m := &model{own: map[string]string{}, value: map[string]string{}}
		var own []api.Pair
		for range r.Intn(12) {
			p := some()
			if _, ok := m.own[p.Key]; !ok && keys.Fits(p.Key, p.Value) == nil {
				own = append(own, p)
				m.own[p.Key] = p.Value
			}
		}
		n := made(t, own...)
		for range r.Intn(12) {
			var offers []api.Pair
			for range r.Intn(5) {
				offers = append(offers, some())
			}
			login, discovery := r.Intn(3) > 0, r.Intn(3) == 0
			want, e, place := m.answer(offers, login, discovery)
			said, err := n.Answer(offers, login, discovery)
			if got, at := plain.Place(err); !slices.Equal(said, want) || got != e || at != place {
				t.Fatalf("to %v of %v, %v: %v, error %d at %d, want %v, %d at %d", offers, login, discovery, said, got, at, want, e, place)
			}
			if got := n.Record(); !slices.Equal(got, m.record()) {
				t.Fatalf("Record is %v, want %v", got, m.record())
			}
		}
		records(t, n, m.record())
		has(t, n, own)
	}
}
