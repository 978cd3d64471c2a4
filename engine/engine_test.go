package engine

import (
	"fmt"
	"slices"
	"strings"
	"testing"

	"quaymaster/api"
	"quaymaster/binary"
	"quaymaster/chap"
	"quaymaster/head"
	"quaymaster/pdu"
	"quaymaster/plain"
)

// nowhere is the place of an error that has none.
const nowhere = -1

// nothing is what a field has that tells nothing.
const nothing = 1<<32 - 1

// draw is what is drawn, if nothing else is told.
var draw = api.Draw{Id: 7, Challenge: "chal"}

// fails checks that an error is that Errno (OK: none), at that place.
func fails(t *testing.T, what string, err error, want api.Errno, place int) {
	t.Helper()
	if got, at := plain.Place(err); got != want || at != place || (want == api.OK) != (err == nil) {
		t.Errorf("%.300s: error %d at %d (%v), want %d at %d", what, got, at, err, want, place)
	}
}

// open lets anybody come in, and has both digests.
func open() api.Conf {
	return api.Conf{
		Targets: []string{"iqn.b", "iqn.a"},
		Portals: []api.Portal{{Address: "h:1", Group: 2}},
		Limit:   8192,
		Own:     []api.Pair{{Key: "HeaderDigest", Value: "CRC32C,None"}, {Key: "DataDigest", Value: "CRC32C,None"}},
	}
}

// shut lets just its users come in.
func shut() api.Conf {
	c := open()
	c.Users = []api.User{{Name: "u", Secret: "s"}, {Name: "v", Secret: "t"}}
	c.Self = api.User{Name: "self", Secret: "own"}
	return c
}

// made is one of what is right.
func made(t *testing.T, c api.Conf) *Engine {
	t.Helper()
	e, err := New(c, draw)
	if e == nil || err != nil {
		t.Fatalf("New of %v: %v, %v", c, e, err)
	}
	return e
}

// fields are some fields of a head, by their names.
type fields map[string]uint64

// whole is a PDU, with an ITT of 9 and a TTT that tells nothing, if nothing else is told and it has these.
func whole(op, flags int, data string, told fields) api.Pdu {
	l, _ := head.Fields(op)
	p := api.Pdu{Head: api.Head{Op: op, Flags: flags}, Data: data}
	for _, f := range l {
		value, ok := told[f.Name]
		if usual := (fields{"ITT": 9, "TTT": nothing}); !ok {
			value = usual[f.Name]
		}
		p.Head.Values = append(p.Head.Values, value)
	}
	return p
}

// written is a PDU that is right as bytes.
func written(t *testing.T, p api.Pdu, mode int) string {
	t.Helper()
	s, err := pdu.Write(p, mode)
	if err != nil {
		t.Fatalf("%v: %v", p, err)
	}
	return s
}

// request are the bytes of one, without digests.
func request(t *testing.T, op, flags int, data string, told fields) string {
	t.Helper()
	return written(t, whole(op, flags, data, told), 0)
}

// text is what pairs are printed as, each of which is told as Key=Value.
func text(l ...string) string {
	var b strings.Builder
	for _, s := range l {
		b.WriteString(s + "\x00")
	}
	return b.String()
}

// hello is a login in one PDU, in which nothing is missing, with an ITT of 9 and a CmdSN of 5.
func hello(t *testing.T, more ...string) string {
	t.Helper()
	told := append([]string{"InitiatorName=me", "TargetName=iqn.a"}, more...)
	return request(t, api.LoginRequest, 135, text(told...), fields{"CmdSN": 5})
}

// offers are those that come to a mode, of both digests.
func offers(mode int) []string {
	l := []string{"HeaderDigest=None", "DataDigest=None"}
	if mode&api.HeadDigest != 0 {
		l[0] = "HeaderDigest=CRC32C"
	}
	if mode&api.DataDigest != 0 {
		l[1] = "DataDigest=CRC32C"
	}
	return l
}

// welcome is what hello is answered.
func welcome(t *testing.T, said ...string) string {
	t.Helper()
	return request(t, api.LoginResponse, 135, text(said...), fields{"TSIH": 1, "ExpCmdSN": 5, "MaxCmdSN": 36})
}

// failure is what the first PDU of a login is answered that fails.
func failure(t *testing.T, flags, detail int, cmd uint64) string {
	t.Helper()
	return request(t, api.LoginResponse, flags, "", fields{"ExpCmdSN": cmd, "MaxCmdSN": cmd + 31, "StatusClass": 2, "StatusDetail": uint64(detail)})
}

// in is one whose login is done, in a mode. The next answer is 1, the next command 5.
func in(t *testing.T, mode int) *Engine {
	t.Helper()
	e := made(t, open())
	says(t, "hello", e, hello(t, offers(mode)...), welcome(t, offers(mode)...))
	is(t, "behind the login", e, state{mode: mode, full: true})
	return e
}

// ping are the bytes of a NopOut that has its turn.
func ping(t *testing.T, data string, cmd uint64, mode int) string {
	t.Helper()
	return written(t, whole(api.NopOut, 128, data, fields{"CmdSN": cmd}), mode)
}

// numbers are what an answer's fields have: its number, and that of the next command.
func numbers(stat, cmd uint64, more fields) fields {
	all := fields{"StatSN": stat, "ExpCmdSN": cmd, "MaxCmdSN": cmd + 31}
	for name, value := range more {
		all[name] = value
	}
	return all
}

// pong is what a NopOut is answered.
func pong(t *testing.T, data string, stat, cmd uint64, mode int) string {
	t.Helper()
	return written(t, whole(api.NopIn, 128, data, numbers(stat, cmd, nil)), mode)
}

// refusal is what is said to a head that is refused.
func refusal(t *testing.T, h string, reason int, stat, cmd uint64, mode int) string {
	t.Helper()
	return written(t, whole(api.Reject, 128, h, numbers(stat, cmd, fields{"Reason": uint64(reason), "ITT": nothing})), mode)
}

// logout are the bytes of a LogoutRequest that has its turn.
func logout(t *testing.T, cmd uint64, mode int) string {
	t.Helper()
	return written(t, whole(api.LogoutRequest, 128, "", fields{"CmdSN": cmd}), mode)
}

// bye is what a LogoutRequest is answered.
func bye(t *testing.T, stat, cmd uint64, mode int) string {
	t.Helper()
	return written(t, whole(api.LogoutResponse, 128, "", numbers(stat, cmd, nil)), mode)
}

// turned are bytes in which a bit of one is turned.
func turned(s string, at int) string {
	b := []byte(s)
	b[at] ^= 1
	return string(b)
}

// says puts bytes in, and checks all that is answered.
func says(t *testing.T, what string, e *Engine, s, want string) {
	t.Helper()
	if got := e.Bytes(s); got != want {
		t.Errorf("%s: %.100q is answered by\n%.600q, want\n%.600q", what, s, got, want)
	}
}

// state is what an engine tells of itself.
type state struct {
	mode, kept int
	over, full bool
}

// is checks what an engine tells, and, if it is over, that nothing is answered, or taken, any more.
func is(t *testing.T, what string, e *Engine, want state) {
	t.Helper()
	if got := (state{e.Mode(), e.Kept(), e.Over(), e.Full() != nil}); got != want {
		t.Errorf("%s: it is %+v, want %+v", what, got, want)
	}
	if !want.over {
		return
	}
	for _, s := range []string{"", "x", hello(t), ping(t, "", 5, e.Mode()), logout(t, 5, e.Mode())} {
		says(t, what+", over", e, s, "")
	}
	if got := (state{e.Mode(), e.Kept(), e.Over(), e.Full() != nil}); got != want {
		t.Errorf("%s: over, it has become %+v, and was %+v", what, got, want)
	}
}

func TestNew(t *testing.T) {
	for _, c := range []api.Conf{open(), shut(), {Limit: 512}, {Limit: api.MaxData}} {
		e := made(t, c)
		is(t, "a new one", e, state{})
		says(t, "no bytes", e, "", "")
		is(t, "no bytes", e, state{})
		l := e.Login()
		if l == nil || e.Full() != nil {
			t.Fatalf("a new one has %v, %v", l, e.Full())
		}
		done, failed := l.Over()
		user, name, discovery := l.Who()
		if told := fmt.Sprint(done, failed, user, name, discovery, l.Stat(), l.Command(), l.Record()); told != "false falsefalse 0 0 []" {
			t.Errorf("the login of a new one tells %s", told)
		}
	}
}

// TestNewErrors: a login's, with their places, the conf's ahead of the draw's.
func TestNewErrors(t *testing.T) {
	for _, x := range []struct {
		what  string
		c     api.Conf
		d     api.Draw
		want  api.Errno
		place int
	}{
		{"nothing", api.Conf{}, draw, api.ErrRange, nowhere},
		{"little data", api.Conf{Limit: 511}, draw, api.ErrRange, nowhere},
		{"much data", api.Conf{Limit: api.MaxData + 1}, draw, api.ErrRange, nowhere},
		{"many targets", api.Conf{Targets: make([]string, 9), Limit: 512}, draw, api.ErrLimit, nowhere},
		{"a wrong target", api.Conf{Targets: []string{"a", ""}, Limit: 512}, draw, api.ErrName, 1},
		{"a wrong group", api.Conf{Portals: []api.Portal{{Address: "a"}, {Address: "b", Group: 65536}}, Limit: 512}, draw, api.ErrRange, 1},
		{"a wrong user", api.Conf{Users: []api.User{{Name: "a"}}, Limit: 512}, draw, api.ErrName, 0},
		{"half of a self", api.Conf{Self: api.User{Name: "a"}, Limit: 512}, draw, api.ErrForm, nowhere},
		{"a wrong pair, and a wrong draw", api.Conf{Limit: 512, Own: []api.Pair{{Key: "MaxBurstLength", Value: "1000"}, {Key: "InitialR2T", Value: "x"}}}, api.Draw{Id: -1}, api.ErrForm, 1},
		{"an id below 0", open(), api.Draw{Id: -1, Challenge: "c"}, api.ErrRange, nowhere},
		{"an id of 256", open(), api.Draw{Id: 256}, api.ErrRange, nowhere},
		{"no challenge", shut(), api.Draw{Id: 7}, api.ErrLimit, nowhere},
		{"a long one", shut(), api.Draw{Id: 7, Challenge: strings.Repeat("c", 101)}, api.ErrLimit, nowhere},
	} {
		e, err := New(x.c, x.d)
		fails(t, x.what, err, x.want, x.place)
		if e != nil {
			t.Errorf("%s: %v beside an error", x.what, e)
		}
	}
}

// TestKeepsNothing: what was handed in may be changed behind New, and isn't itself, nor what stands behind a list's length.
func TestKeepsNothing(t *testing.T) {
	behind := api.Conf{Targets: []string{"behind"}, Portals: []api.Portal{{Address: "behind"}}, Users: []api.User{{Name: "behind"}}, Own: []api.Pair{{Key: "behind"}}}
	c, n := shut(), 2
	c.Portals = append(c.Portals, c.Portals[0])
	c.Targets, c.Portals = append(c.Targets, behind.Targets...)[:n], append(c.Portals, behind.Portals...)[:n]
	c.Users, c.Own = append(c.Users, behind.Users...)[:n], append(c.Own, behind.Own...)[:n]
	e := made(t, c)
	if want := shut(); !slices.Equal(c.Targets, want.Targets) || c.Portals[0] != want.Portals[0] || !slices.Equal(c.Users, want.Users) || !slices.Equal(c.Own, want.Own) {
		t.Errorf("what was handed in was written into: %v", c)
	}
	clear(c.Targets)
	clear(c.Portals)
	clear(c.Users)
	clear(c.Own)
	ask := request(t, api.LoginRequest, 0, text("InitiatorName=me", "TargetName=iqn.b", "AuthMethod=CHAP", "CHAP_A=5"), nil)
	says(t, "hello", e, ask, request(t, api.LoginResponse, 0, text("AuthMethod=CHAP", "CHAP_A=5", "CHAP_I=7", "CHAP_C=0x6368616c"), fields{"MaxCmdSN": 31}))
	prove := request(t, api.LoginRequest, 131, text("CHAP_N=v", "CHAP_R="+response(t, "t"), "HeaderDigest=CRC32C"), nil)
	says(t, "who", e, prove, request(t, api.LoginResponse, 131, text("HeaderDigest=CRC32C"), fields{"TSIH": 1, "StatSN": 1, "MaxCmdSN": 31}))
	is(t, "behind the login", e, state{mode: 1, full: true})
	list := written(t, whole(api.TextRequest, 128, text("SendTargets="), nil), 1)
	says(t, "list", e, list, written(t, whole(api.TextResponse, 128, text("TargetName=iqn.b", "TargetAddress=h:1,2", "TargetAddress=h:1,2"), numbers(2, 1, nil)), 1))
	if !slices.Equal(c.Targets[:n+1], []string{"", "", behind.Targets[0]}) || !slices.Equal(c.Portals[:n+1], []api.Portal{{}, {}, behind.Portals[0]}) ||
		!slices.Equal(c.Users[:n+1], []api.User{{}, {}, behind.Users[0]}) || !slices.Equal(c.Own[:n+1], []api.Pair{{}, {}, behind.Own[0]}) {
		t.Errorf("what was handed in was written into later: %v", c)
	}
}

// response is what a user's secret makes of what is drawn, in hexadecimal digits.
func response(t *testing.T, secret string) string {
	t.Helper()
	r, err := chap.Response(draw.Id, secret, draw.Challenge)
	fails(t, "Response", err, api.OK, nowhere)
	return binary.Hex(r)
}

// TestByteByByte holds a login and a ping against bytes that are written down here.
func TestByteByByte(t *testing.T) {
	come := "\x43\x87\x00\x00\x00\x00\x00\x27" + "\x00\x01\x02\x03\x04\x05\x00\x00" + "\x00\x00\x00\x09\x00\x01\x00\x00" + "\xff\xff\xff\xff\x00\x00\x00\x07" + strings.Repeat("\x00", 16) +
		"InitiatorName=me\x00SessionType=Discovery\x00" + "\x00"
	go1 := "\x23\x87\x00\x00\x00\x00\x00\x00" + "\x00\x01\x02\x03\x04\x05\x00\x01" + "\x00\x00\x00\x09\x00\x00\x00\x00" + "\x00\x00\x00\x00\xff\xff\xff\xff" + "\x00\x00\x00\x1e\x00\x00\x00\x00" + "\x00\x00\x00\x00\x00\x00\x00\x00"
	hear := "\x00\x80\x00\x00\x00\x00\x00\x05" + "\x00\x00\x00\x00\x00\x00\x00\x03" + "\x00\x00\x00\x0a\xff\xff\xff\xff" + "\xff\xff\xff\xff\x00\x00\x00\x00" + strings.Repeat("\x00", 16) +
		"hello\x00\x00\x00"
	echo := "\x20\x80\x00\x00\x00\x00\x00\x05" + "\x00\x00\x00\x00\x00\x00\x00\x03" + "\x00\x00\x00\x0a\xff\xff\xff\xff" + "\x00\x00\x00\x01\x00\x00\x00\x00" + "\x00\x00\x00\x1f\x00\x00\x00\x00" + "\x00\x00\x00\x00\x00\x00\x00\x00" +
		"hello\x00\x00\x00"
	e := made(t, open())
	for i := range len(come) - 1 {
		says(t, "a part", e, come[i:i+1], "")
		is(t, "a part", e, state{kept: i + 1})
	}
	says(t, "the last byte", e, come[len(come)-1:], go1)
	is(t, "the login", e, state{full: true})
	for i := range len(hear) - 1 {
		says(t, "a part", e, hear[i:i+1], "")
		is(t, "a part", e, state{kept: i + 1, full: true})
	}
	says(t, "the last byte", e, hear[len(hear)-1:], echo)
	is(t, "the ping", e, state{full: true})
	says(t, "both at once", made(t, open()), come+hear, go1+echo)
}

// TestFull: what comes behind a login has all that the login came to.
func TestFull(t *testing.T) {
	for _, cmd := range []uint64{0, 5, 1<<32 - 1} {
		for _, discovery := range []bool{false, true} {
			e := made(t, open())
			says(t, "one", e, request(t, api.LoginRequest, 68, text("InitiatorName=me"), fields{"CmdSN": 77}), request(t, api.LoginResponse, 4, "", fields{"ExpCmdSN": 77, "MaxCmdSN": 108}))
			is(t, "one", e, state{})
			who, all := "TargetName=iqn.b", text("SendTargets=Reject")
			if discovery {
				who, all = "SessionType=Discovery", text("TargetName=iqn.b", "TargetAddress=h:1,2", "TargetName=iqn.a", "TargetAddress=h:1,2")
			}
			last := request(t, api.LoginRequest, 135, text(who, "MaxRecvDataSegmentLength=600"), fields{"CmdSN": cmd})
			says(t, "two", e, last, request(t, api.LoginResponse, 135, "", fields{"TSIH": 1, "StatSN": 1, "ExpCmdSN": cmd, "MaxCmdSN": (cmd + 31) % api.Word}))
			is(t, "two", e, state{full: true})
			l, f := e.Login(), e.Full()
			if done, failed := l.Over(); !done || failed || f.Nego != l.Nego {
				t.Errorf("the login is done %v, failed %v; the Nego is %p, want %p", done, failed, f.Nego, l.Nego)
			}
			if stat, next := f.Next(); stat != 2 || uint64(next) != cmd || f.Closed() {
				t.Errorf("Next is %d, %d, Closed %v", stat, next, f.Closed())
			}
			after := fields{"StatSN": 2, "ExpCmdSN": (cmd + 1) % api.Word, "MaxCmdSN": (cmd + 32) % api.Word}
			says(t, "list", e, request(t, api.TextRequest, 128, text("SendTargets=All"), fields{"CmdSN": cmd}), request(t, api.TextResponse, 128, all, after))
			after = fields{"StatSN": 3, "ExpCmdSN": (cmd + 2) % api.Word, "MaxCmdSN": (cmd + 33) % api.Word}
			here := text("TargetName=iqn.b", "TargetAddress=h:1,2")
			if discovery {
				here = text("SendTargets=Reject")
			}
			says(t, "list one", e, request(t, api.TextRequest, 128, text("SendTargets="), fields{"CmdSN": (cmd + 1) % api.Word}), request(t, api.TextResponse, 128, here, after))
			after = fields{"StatSN": 4, "ExpCmdSN": (cmd + 3) % api.Word, "MaxCmdSN": (cmd + 34) % api.Word}
			says(t, "ping", e, ping(t, strings.Repeat("p", 700), (cmd+2)%api.Word, 0), request(t, api.NopIn, 128, strings.Repeat("p", 600), after))
			if e.Full() != f || e.Login() != l {
				t.Errorf("Full or Login has become another one")
			}
		}
	}
}

// TestModes: the last answer of a login has no digests yet; all that comes behind it has, in the same call, too.
func TestModes(t *testing.T) {
	for mode := range 4 {
		one, two := ping(t, "hello", 5, mode), ping(t, "", 6, mode)
		said := pong(t, "hello", 1, 6, mode) + pong(t, "", 2, 7, mode)
		e := in(t, mode)
		says(t, "behind it", e, one+two, said)
		is(t, "behind it", e, state{mode: mode, full: true})
		e = made(t, open())
		says(t, "all at once", e, hello(t, offers(mode)...)+one+two+two[:47], welcome(t, offers(mode)...)+said)
		is(t, "all at once", e, state{mode: mode, kept: 47, full: true})
	}
}

// TestWithoutDigest: where there are digests of heads, nothing is answered without them.
func TestWithoutDigest(t *testing.T) {
	for _, mode := range []int{api.HeadDigest, api.HeadDigest | api.DataDigest} {
		e := in(t, mode)
		says(t, "no digest", e, ping(t, "", 5, 0), "")
		is(t, "no digest", e, state{mode: mode, kept: 48, full: true})
		says(t, "another PDU", e, ping(t, "", 6, 0), "")
		is(t, "another PDU", e, state{mode: mode, over: true, full: true})
	}
}

// TestModeBehindOffers: digests are there once the login is done, not once they are offered.
func TestModeBehindOffers(t *testing.T) {
	e := made(t, open())
	said := text("HeaderDigest=CRC32C", "DataDigest=CRC32C")
	says(t, "one", e, request(t, api.LoginRequest, 4, text("InitiatorName=me", "TargetName=iqn.a", "HeaderDigest=CRC32C", "DataDigest=CRC32C"), nil), request(t, api.LoginResponse, 4, said, fields{"MaxCmdSN": 31}))
	is(t, "offered", e, state{})
	says(t, "two", e, request(t, api.LoginRequest, 4, text("InitialR2T=No"), nil), request(t, api.LoginResponse, 4, text("InitialR2T=Yes"), fields{"StatSN": 1, "MaxCmdSN": 31}))
	is(t, "yet offered", e, state{})
	says(t, "three", e, request(t, api.LoginRequest, 135, "", nil), request(t, api.LoginResponse, 135, "", fields{"TSIH": 1, "StatSN": 2, "MaxCmdSN": 31}))
	is(t, "done", e, state{mode: 3, full: true})
}

// TestSpoilt: spoilt data are refused, whatever PDU they are of, and it goes on.
func TestSpoilt(t *testing.T) {
	for _, mode := range []int{api.DataDigest, api.HeadDigest | api.DataDigest} {
		for _, op := range []int{api.NopOut, api.TextRequest, api.LogoutRequest, api.ScsiCommand, api.LoginRequest, api.NopIn} {
			e := in(t, mode)
			s := written(t, whole(op, 128, "hello", fields{"CmdSN": 5}), mode)
			for stat := range uint64(3) {
				says(t, "spoilt", e, turned(s, len(s)-1), refusal(t, s[:48], 2, 1+stat, 5, mode))
				is(t, "spoilt", e, state{mode: mode, full: true})
			}
			says(t, "whole", e, ping(t, "hello", 5, mode), pong(t, "hello", 4, 6, mode))
		}
		e := in(t, mode)
		bad := turned(ping(t, "hello", 5, mode), 48+4*(mode&1))
		says(t, "among others", e, bad+ping(t, "a", 5, mode)+bad+logout(t, 6, mode)+bad, refusal(t, bad[:48], 2, 1, 5, mode)+pong(t, "a", 2, 6, mode)+refusal(t, bad[:48], 2, 3, 6, mode)+bye(t, 4, 7, mode))
		is(t, "among others", e, state{mode: mode, kept: len(bad), over: true, full: true})
	}
}

// TestSpoiltTakesNothing: what is LEFT, and what came of a text, is there behind spoilt data.
func TestSpoiltTakesNothing(t *testing.T) {
	e := in(t, 3)
	s := written(t, whole(api.TextRequest, 64, "SendTar", fields{"CmdSN": 5}), 3)
	says(t, "a part", e, s, written(t, whole(api.TextResponse, 0, "", numbers(1, 6, nil)), 3))
	bad := turned(written(t, whole(api.TextRequest, 128, "x", fields{"CmdSN": 6}), 3), 52)
	says(t, "spoilt", e, bad, refusal(t, bad[:48], 2, 2, 6, 3))
	s = written(t, whole(api.TextRequest, 128, "gets=\x00", fields{"CmdSN": 6}), 3)
	says(t, "its end", e, s, written(t, whole(api.TextResponse, 128, text("TargetName=iqn.a", "TargetAddress=h:1,2"), numbers(3, 7, nil)), 3))
}

// TestStops: what no feed takes isn't answered, in a login or behind it; what came ahead is.
func TestStops(t *testing.T) {
	much := []byte(request(t, api.NopOut, 128, "", nil))
	much[6] = 8192 >> 8
	much[7] = 1
	for mode := range 4 {
		wrongs := map[string]string{
			"too much":      string(much),
			"no such op":    "\x07" + strings.Repeat("\x00", 51),
			"what isn't 0":  turned(request(t, api.NopOut, 128, "", nil), 47) + strings.Repeat("\x00", 4),
			"a first byte":  "\x80" + strings.Repeat("\x00", 51),
			"a target's":    "\x60" + strings.Repeat("\x00", 51),
			"a wrong Pad":   turned(ping(t, "hello", 5, mode), 54+4*(mode&1)),
			"a wrong kind":  written(t, api.Pdu{Head: whole(api.NopOut, 128, "", nil).Head, Ahs: []api.Ahs{{Kind: 1, Data: "ab"}}}, mode)[:48] + "\xff\xff\x00\x00\x00\x00\x00\x00" + strings.Repeat("\x00", 4),
			"a head digest": turned(ping(t, "hello", 5, mode), 48),
		}
		for what, s := range wrongs {
			if what == "a head digest" && mode&api.HeadDigest == 0 {
				continue
			}
			e := in(t, mode)
			says(t, what, e, s+ping(t, "a", 5, mode), "")
			is(t, what, e, state{mode: mode, over: true, full: true})
			e = in(t, mode)
			says(t, what, e, ping(t, "a", 5, mode)+s+ping(t, "b", 6, mode), pong(t, "a", 1, 6, mode))
			is(t, what, e, state{mode: mode, over: true, full: true})
			if mode == 0 {
				e = made(t, open())
				says(t, what, e, s+hello(t), "")
				is(t, what, e, state{over: true})
			}
		}
	}
}

// TestLimit: data of just so many bytes are taken, and no more; that is told of a head alone.
func TestLimit(t *testing.T) {
	for _, limit := range []int{512, 8192, api.MaxData} {
		c := open()
		c.Limit = limit
		e := made(t, c)
		says(t, "hello", e, hello(t), welcome(t))
		data := strings.Repeat("p", limit)
		says(t, "just so many", e, ping(t, data, 5, 0), pong(t, data[:min(limit, 8192)], 1, 6, 0))
		h := []byte(ping(t, "", 6, 0))
		h[5], h[6], h[7] = byte((limit+1)>>16), byte((limit+1)>>8), byte(limit+1)
		says(t, "one more, not all there", e, string(h[:47]), "")
		is(t, "one more, not all there", e, state{kept: 47, full: true})
		says(t, "one more", e, string(h[47:]), "")
		is(t, "one more", e, state{over: true, full: true})
		e = made(t, c)
		h[0] = api.LoginRequest
		says(t, "one more, in a login", e, string(h), "")
		is(t, "one more, in a login", e, state{over: true})
	}
}

// TestNoLogin: what is no LoginRequest isn't answered, and it is over.
func TestNoLogin(t *testing.T) {
	for op := range 64 {
		if _, err := head.Name(op); err != nil || op == api.LoginRequest {
			continue
		}
		e := made(t, open())
		s := request(t, op, 128, "", nil)
		says(t, "no login", e, s+hello(t), "")
		is(t, "no login", e, state{kept: len(hello(t)), over: true})
		e = made(t, open())
		part := request(t, api.LoginRequest, 68, text("InitiatorName=me"), fields{"CmdSN": 1})
		says(t, "in a login", e, part+s, request(t, api.LoginResponse, 4, "", fields{"ExpCmdSN": 1, "MaxCmdSN": 32}))
		is(t, "in a login", e, state{over: true})
		if done, failed := e.Login().Over(); done || failed {
			t.Errorf("op %d: the login is done %v, failed %v", op, done, failed)
		}
	}
}

// TestFailed: a login that fails is answered, and it is over.
func TestFailed(t *testing.T) {
	for _, x := range []struct {
		c             api.Conf
		flags, detail int
		data          string
	}{
		{open(), 135, 3, text("InitiatorName=me", "TargetName=iqn.c")},
		{open(), 135, 7, text("TargetName=iqn.a")},
		{open(), 139, 11, text("InitiatorName=me", "TargetName=iqn.a")},
		{open(), 135, 0, "InitiatorName=me"},
		{shut(), 135, 1, text("InitiatorName=me", "TargetName=iqn.a")},
	} {
		for _, rest := range []string{"", "x", hello(t)} {
			e := made(t, x.c)
			says(t, x.data, e, request(t, api.LoginRequest, x.flags, x.data, fields{"CmdSN": 3})+rest, failure(t, x.flags&12, x.detail, 3))
			is(t, x.data, e, state{kept: len(rest), over: true})
			if done, failed := e.Login().Over(); done || !failed {
				t.Errorf("%q: the login is done %v, failed %v", x.data, done, failed)
			}
		}
	}
}

// TestUsers: where there are users, whoever is in has told one's name, and what its secret makes of the challenge.
func TestUsers(t *testing.T) {
	ask := request(t, api.LoginRequest, 0, text("InitiatorName=me", "TargetName=iqn.a", "AuthMethod=None,CHAP", "CHAP_A=5"), nil)
	asked := request(t, api.LoginResponse, 0, text("AuthMethod=CHAP", "CHAP_A=5", "CHAP_I=7", "CHAP_C=0x6368616c"), fields{"MaxCmdSN": 31})
	e := made(t, shut())
	says(t, "right", e, ask+request(t, api.LoginRequest, 131, text("CHAP_N=u", "CHAP_R="+response(t, "s")), nil), asked+request(t, api.LoginResponse, 131, "", fields{"TSIH": 1, "StatSN": 1, "MaxCmdSN": 31}))
	is(t, "right", e, state{full: true})
	if user, name, discovery := e.Login().Who(); user != "u" || name != "iqn.a" || discovery {
		t.Errorf("Who is %q, %q, %v", user, name, discovery)
	}
	e = made(t, shut())
	wrong := request(t, api.LoginRequest, 131, text("CHAP_N=u", "CHAP_R="+response(t, "t")), nil)
	says(t, "wrong", e, ask+wrong+ping(t, "", 0, 0), asked+request(t, api.LoginResponse, 0, "", fields{"StatSN": 1, "MaxCmdSN": 31, "StatusClass": 2, "StatusDetail": 1}))
	is(t, "wrong", e, state{kept: 48, over: true})
	e = made(t, shut())
	says(t, "nobody", e, request(t, api.LoginRequest, 131, text("InitiatorName=me", "TargetName=iqn.a"), nil), request(t, api.LoginResponse, 0, "", fields{"MaxCmdSN": 31}))
	is(t, "nobody", e, state{})
	says(t, "nobody, and on", e, ping(t, "", 0, 0), "")
	is(t, "nobody, and on", e, state{over: true})
}

// TestLogout: it is answered, in the mode, and it is over; what stands behind it is kept, and nothing more.
func TestLogout(t *testing.T) {
	for mode := range 4 {
		for _, rest := range []string{"", "x", ping(t, "hello", 6, mode), logout(t, 6, mode)} {
			e := in(t, mode)
			says(t, "logout", e, logout(t, 5, mode)+rest, bye(t, 1, 6, mode))
			is(t, "logout", e, state{mode: mode, kept: len(rest), over: true, full: true})
			if !e.Full().Closed() {
				t.Errorf("Closed is false behind a logout")
			}
		}
		e := in(t, mode)
		s := logout(t, 6, mode)
		says(t, "not its turn", e, s, refusal(t, s[:48], 4, 1, 5, mode))
		is(t, "not its turn", e, state{mode: mode, full: true})
	}
}

// TestClosedFromOutside: who has logged it out by its Full is not answered any more.
func TestClosedFromOutside(t *testing.T) {
	closed := func() *Engine {
		e := in(t, 3)
		_, err := e.Full().Take(whole(api.LogoutRequest, 128, "", fields{"CmdSN": 5}))
		fails(t, "Take", err, api.OK, nowhere)
		is(t, "logged out", e, state{mode: 3, full: true})
		return e
	}
	e := closed()
	says(t, "a ping", e, ping(t, "", 6, 3)+ping(t, "", 7, 3), "")
	is(t, "a ping", e, state{mode: 3, kept: 52, over: true, full: true})
	e = closed()
	bad := turned(ping(t, "hello", 6, 3), 52)
	says(t, "spoilt data", e, bad+bad, refusal(t, bad[:48], 2, 2, 6, 3))
	is(t, "spoilt data", e, state{mode: 3, kept: len(bad), over: true, full: true})
}

// TestRefused: what isn't done is refused, and it goes on; what waits for no answer has none.
func TestRefused(t *testing.T) {
	for mode := range 4 {
		e := in(t, mode)
		scsi := written(t, whole(api.ScsiCommand, 128, "", fields{"CmdSN": 5}), mode)
		login := written(t, whole(api.LoginRequest, 135, text("InitiatorName=me"), fields{"CmdSN": 5}), mode)
		quiet := written(t, whole(api.NopOut, 128, "hello", fields{"CmdSN": 5, "ITT": nothing}), mode)
		says(t, "refused", e, scsi+quiet+login, refusal(t, scsi[:48], 5, 1, 5, mode)+refusal(t, login[:48], 5, 2, 5, mode))
		is(t, "refused", e, state{mode: mode, full: true})
		says(t, "quiet", e, quiet, "")
		is(t, "quiet", e, state{mode: mode, full: true})
	}
}

// TestPieces: an answer comes in pieces, one to each PDU.
func TestPieces(t *testing.T) {
	c := open()
	c.Targets = []string{strings.Repeat("a", 100), strings.Repeat("b", 100), strings.Repeat("c", 100), strings.Repeat("d", 100), strings.Repeat("e", 100)}
	var all strings.Builder
	for _, name := range c.Targets {
		all.WriteString(text("TargetName="+name, "TargetAddress=h:1,2"))
	}
	e := made(t, c)
	discover := request(t, api.LoginRequest, 135, text("InitiatorName=me", "SessionType=Discovery", "MaxRecvDataSegmentLength=512", "DataDigest=CRC32C"), fields{"CmdSN": 5})
	list := written(t, whole(api.TextRequest, 128, text("SendTargets=All"), fields{"CmdSN": 5}), 2)
	next := written(t, whole(api.TextRequest, 128, "", fields{"CmdSN": 6, "TTT": 1}), 2)
	one := written(t, whole(api.TextResponse, 64, all.String()[:512], numbers(1, 6, fields{"TTT": 1})), 2)
	two := written(t, whole(api.TextResponse, 128, all.String()[512:], numbers(2, 7, nil)), 2)
	says(t, "all", e, discover+list+next, welcome(t, "DataDigest=CRC32C")+one+two)
	is(t, "all", e, state{mode: 2, full: true})
}

// TestEnginesAreApart: what is over with one, or in it, is nothing to another one.
func TestEnginesAreApart(t *testing.T) {
	a, b := in(t, 3), in(t, 0)
	says(t, "one", a, ping(t, "a", 5, 3)[:30], "")
	says(t, "the other one", b, "\x80"+strings.Repeat("\x00", 47), "")
	is(t, "one", a, state{mode: 3, kept: 30, full: true})
	is(t, "the other one", b, state{over: true, full: true})
	says(t, "one", a, ping(t, "a", 5, 3)[30:], pong(t, "a", 1, 6, 3))
}
