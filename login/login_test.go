package login

import (
	"fmt"
	"slices"
	"strconv"
	"strings"
	"testing"

	"quaymaster/api"
	"quaymaster/binary"
	"quaymaster/chap"
	"quaymaster/head"
	"quaymaster/pairs"
	"quaymaster/plain"
)

// nowhere is the place of an error that has none.
const nowhere = -1

// fails checks that an error is that Errno (OK: none), at that place.
func fails(t *testing.T, what string, err error, want api.Errno, place int) {
	t.Helper()
	if got, at := plain.Place(err); got != want || at != place || (want == api.OK) != (err == nil) {
		t.Errorf("%.300s: error %d at %d (%v), want %d at %d", what, got, at, err, want, place)
	}
}

// draw is what is drawn, if nothing else is told.
var draw = api.Draw{Id: 7, Challenge: "chal"}

// open lets anybody come in.
func open() api.Conf {
	return api.Conf{Targets: []string{"iqn.a", "iqn.b"}, Limit: 8192}
}

// shut lets just its users come in, and says who it is itself.
func shut() api.Conf {
	c := open()
	c.Users = []api.User{{Name: "u", Secret: "s"}, {Name: "v", Secret: "t"}}
	c.Self = api.User{Name: "self", Secret: "own"}
	return c
}

// made is one of what is right.
func made(t *testing.T, c api.Conf, d api.Draw) *Login {
	t.Helper()
	l, err := New(c, d)
	if l == nil || err != nil {
		t.Fatalf("New of %v, %v: %v, %v", c, d, l, err)
	}
	return l
}

// text is what pairs are printed as, each of which is told as Key=Value.
func text(l ...string) string {
	var b strings.Builder
	for _, s := range l {
		b.WriteString(s + "\x00")
	}
	return b.String()
}

// request is a PDU of flags and data, with fields told by name.
func request(flags int, data string, fields map[string]uint64) api.Pdu {
	var names []string
	var values []uint64
	for name, value := range fields {
		names, values = append(names, name), append(values, value)
	}
	h, err := head.Make(api.LoginRequest, flags, names, values)
	if err != nil {
		panic(err)
	}
	return api.Pdu{Head: h, Data: data}
}

// want is what a PDU is to be answered.
type want struct {
	flags  int
	detail int // below 0: it doesn't fail
	data   string
}

// fine is an answer that doesn't fail.
func fine(flags int, said ...string) want { return want{flags, -1, text(said...)} }

// bad is one that does.
func bad(flags, detail int) want { return want{flags, detail, ""} }

// says takes a PDU that has its turn, and checks all of the answer, and what Over, Stat and Command tell then.
func says(t *testing.T, l *Login, p api.Pdu, w want) {
	t.Helper()
	what := fmt.Sprintf("flags %d, %.200q", p.Head.Flags, p.Data)
	stat := l.Stat()
	out, err := l.Take(p)
	fails(t, what, err, api.OK, nowhere)
	class, detail := 2, w.detail
	if w.detail < 0 {
		class, detail = 0, 0
	}
	done := w.detail < 0 && w.flags&131 == 131
	tsih := 0
	if done {
		tsih = 1
	}
	cmd := uint32(get(p, "CmdSN"))
	h := api.Head{Op: api.LoginResponse, Flags: w.flags, Values: []uint64{
		0, 0, get(p, "ISID"), uint64(tsih), get(p, "ITT"), uint64(stat), uint64(cmd), uint64(cmd + 31), uint64(class), uint64(detail),
	}}
	if out.Head.Op != h.Op || out.Head.Now || out.Head.Flags != h.Flags || !slices.Equal(out.Head.Values, h.Values) {
		t.Errorf("%s: the head is %v, want %v", what, out.Head, h)
	}
	if out.Data != w.data || len(out.Ahs) != 0 {
		t.Errorf("%s: the data are %q, the additional headers %v, want %q", what, out.Data, out.Ahs, w.data)
	}
	over(t, what, l, done, w.detail >= 0)
	if l.Stat() != stat+1 || l.Command() != cmd {
		t.Errorf("%s: Stat is %d, Command %d, want %d, %d", what, l.Stat(), l.Command(), stat+1, cmd)
	}
}

// over checks what Over tells, and, if it is over, that nothing is answered any more.
func over(t *testing.T, what string, l *Login, done, failed bool) {
	t.Helper()
	if d, f := l.Over(); d != done || f != failed {
		t.Errorf("%s: Over is %v, %v, want %v, %v", what, d, f, done, failed)
	}
	if !done && !failed {
		return
	}
	for _, p := range []api.Pdu{request(0, "", nil), {}, {Head: api.Head{Op: api.NopOut}}, {Head: api.Head{Op: -1}}} {
		refuses(t, what, l, p, api.ErrState)
	}
}

// refuses checks that a PDU isn't answered, and that nothing has changed then.
func refuses(t *testing.T, what string, l *Login, p api.Pdu, errno api.Errno) {
	t.Helper()
	before := state(l)
	out, err := l.Take(p)
	fails(t, what, err, errno, nowhere)
	if fmt.Sprint(out) != fmt.Sprint(api.Pdu{}) {
		t.Errorf("%s: %v beside an error", what, out)
	}
	if after := state(l); after != before {
		t.Errorf("%s: it was %s, and is %s", what, before, after)
	}
}

// state is all that a login tells.
func state(l *Login) string {
	done, failed := l.Over()
	user, name, discovery := l.Who()
	return fmt.Sprintf("%v %v %q %q %v %d %d %q %d", done, failed, user, name, discovery, l.Stat(), l.Command(), l.Record(), l.Digests())
}

// is checks what Who tells.
func is(t *testing.T, l *Login, user, name string, discovery bool) {
	t.Helper()
	if u, n, d := l.Who(); u != user || n != name || d != discovery {
		t.Errorf("Who is %q, %q, %v, want %q, %q, %v", u, n, d, user, name, discovery)
	}
}

// get is a field of a PDU that has it.
func get(p api.Pdu, name string) uint64 {
	n, err := head.Value(p.Head, name)
	if err != nil {
		panic(err)
	}
	return n
}

// response is what a user's secret makes of what is drawn, in hexadecimal digits.
func response(secret string) string {
	r, err := chap.Response(draw.Id, secret, draw.Challenge)
	if err != nil {
		panic(err)
	}
	return binary.Hex(r)
}

// hello is a first text in which nothing is missing.
func hello(more ...string) string {
	return text(append([]string{"InitiatorName=me", "TargetName=iqn.a"}, more...)...)
}

func TestNew(t *testing.T) {
	for _, c := range []api.Conf{open(), shut(), {Limit: 512}} {
		for _, d := range []api.Draw{draw, {Id: 0, Challenge: "c"}, {Id: 255, Challenge: strings.Repeat("\xff", 100)}} {
			l := made(t, c, d)
			over(t, "new", l, false, false)
			is(t, l, "", "", false)
			if l.Stat() != 0 || l.Command() != 0 || len(l.Record()) != 0 || l.Digests() != 0 {
				t.Errorf("a new one is %s", state(l))
			}
		}
	}
}

func TestNewErrors(t *testing.T) {
	for _, x := range []struct {
		what  string
		c     api.Conf
		d     api.Draw
		want  api.Errno
		place int
	}{
		{"nothing", api.Conf{}, draw, api.ErrRange, nowhere},
		{"a wrong target", api.Conf{Targets: []string{"a", ""}, Limit: 512}, draw, api.ErrName, 1},
		{"a wrong draw too", api.Conf{Targets: []string{"a", "b", "a"}, Limit: 512}, api.Draw{Id: -1}, api.ErrName, 2},
		{"a wrong pair", api.Conf{Limit: 512, Own: []api.Pair{{Key: "MaxBurstLength", Value: "1000"}, {Key: "InitialR2T", Value: "x"}}}, api.Draw{Id: 256}, api.ErrForm, 1},
		{"a pair twice", api.Conf{Limit: 512, Own: []api.Pair{{Key: "MaxBurstLength", Value: "1000"}, {Key: "MaxBurstLength", Value: "1000"}}}, draw, api.ErrTwice, 1},
		{"many users", api.Conf{Limit: 512, Users: make([]api.User, 9)}, draw, api.ErrLimit, nowhere},
		{"an id below 0", open(), api.Draw{Id: -1, Challenge: "c"}, api.ErrRange, nowhere},
		{"an id of 256", shut(), api.Draw{Id: 256}, api.ErrRange, nowhere},
		{"no challenge", open(), api.Draw{Id: 7}, api.ErrLimit, nowhere},
		{"a long one", shut(), api.Draw{Id: 7, Challenge: strings.Repeat("c", 101)}, api.ErrLimit, nowhere},
	} {
		l, err := New(x.c, x.d)
		fails(t, x.what, err, x.want, x.place)
		if l != nil {
			t.Errorf("%s: %v beside an error", x.what, l)
		}
	}
}

// TestKeepsNothing: what was handed in may be changed behind New, and isn't itself.
func TestKeepsNothing(t *testing.T) {
	c := shut()
	c.Own = []api.Pair{{Key: "MaxBurstLength", Value: "1000"}}
	c.Targets, c.Users = append(make([]string, 0, 9), c.Targets...), append(make([]api.User, 0, 9), c.Users...)
	l := made(t, c, draw)
	for i := range c.Targets {
		c.Targets[i] = "x"
	}
	for i := range c.Users {
		c.Users[i] = api.User{Name: "x", Secret: "x"}
	}
	c.Own[0].Value = "512"
	says(t, l, request(0, hello("AuthMethod=CHAP", "CHAP_A=5"), nil), fine(0, "AuthMethod=CHAP", "CHAP_A=5", "CHAP_I=7", "CHAP_C=0x6368616c"))
	p := request(131, text("CHAP_N=v", "CHAP_R="+response("t"), "MaxBurstLength=2000"), nil)
	p.Ahs = []api.Ahs{{Kind: 1, Data: "ab"}}
	values, ahs := slices.Clone(p.Head.Values), slices.Clone(p.Ahs)
	says(t, l, p, fine(131, "MaxBurstLength=1000"))
	if !slices.Equal(values, p.Head.Values) || !slices.Equal(ahs, p.Ahs) {
		t.Errorf("a PDU was written into: %v", p)
	}
	if !slices.Equal(c.Targets, []string{"x", "x"}) || !slices.Equal(c.Targets[:3], []string{"x", "x", ""}) || c.Users[:3][2] != (api.User{}) {
		t.Errorf("what was handed in was written into: %v", c)
	}
	is(t, l, "v", "iqn.a", false)
}

// TestAnswersAreFresh: what is answered may be changed.
func TestAnswersAreFresh(t *testing.T) {
	l := made(t, open(), draw)
	one, err := l.Take(request(64, "Initia", map[string]uint64{"ITT": 5, "ISID": 3}))
	fails(t, "one", err, api.OK, nowhere)
	clear(one.Head.Values)
	says(t, l, request(0, "torName=me\x00TargetName=iqn.b\x00", map[string]uint64{"ITT": 6, "ISID": 3}), fine(0))
	is(t, l, "", "iqn.b", false)
}

// TestHasWhatComesOfOffers: a login has the methods of what comes of offers, and what one has of keys.
func TestHasWhatComesOfOffers(t *testing.T) {
	c := open()
	c.Own = []api.Pair{{Key: "HeaderDigest", Value: "None,CRC32C"}, {Key: "DataDigest", Value: "CRC32C"}, {Key: "MaxBurstLength", Value: "1000"}}
	l := made(t, c, draw)
	if own, err := l.Own("MaxBurstLength"); own != "1000" || err != nil {
		t.Errorf("Own is %q, %v", own, err)
	}
	says(t, l, request(4, hello("HeaderDigest=CRC32C,None", "DataDigest=CRC32C"), nil), fine(4, "HeaderDigest=CRC32C", "DataDigest=CRC32C"))
	if l.Digests() != api.HeadDigest|api.DataDigest {
		t.Errorf("Digests is %d", l.Digests())
	}
	said, err := l.Answer([]api.Pair{{Key: "ImmediateData", Value: "No"}}, true, false)
	fails(t, "Answer", err, api.OK, nowhere)
	if !slices.Equal(said, []api.Pair{{Key: "ImmediateData", Value: "No"}}) {
		t.Errorf("Answer says %v", said)
	}
	says(t, l, request(4, text("MaxBurstLength=0x800"), nil), fine(4, "MaxBurstLength=1000"))
	if v, err := l.Value("MaxBurstLength"); v != "1000" || err != nil {
		t.Errorf("Value is %q, %v", v, err)
	}
	record := []api.Pair{
		{Key: "InitiatorName", Value: "me"}, {Key: "TargetName", Value: "iqn.a"},
		{Key: "HeaderDigest", Value: "CRC32C"}, {Key: "DataDigest", Value: "CRC32C"},
		{Key: "ImmediateData", Value: "No"}, {Key: "MaxBurstLength", Value: "1000"},
	}
	if got := l.Record(); !slices.Equal(got, record) {
		t.Errorf("Record is %v, want %v", got, record)
	}
	says(t, l, request(4, text("ImmediateData=No"), nil), bad(4, 0))
	if got := l.Record(); !slices.Equal(got, record) {
		t.Errorf("Record is %v behind a failure, want %v", got, record)
	}
}

// TestTakeErrors: what isn't answered changes nothing, and the first PDU is still the first one.
func TestTakeErrors(t *testing.T) {
	right := func() api.Pdu {
		return request(135, hello(), map[string]uint64{"CmdSN": 9, "ISID": 1, "CID": 2})
	}
	for _, x := range []struct {
		what string
		do   func(p *api.Pdu)
		want api.Errno
	}{
		{"another op", func(p *api.Pdu) { p.Head.Op = api.TextRequest }, api.ErrArg},
		{"an answer", func(p *api.Pdu) { p.Head.Op = api.LoginResponse }, api.ErrArg},
		{"NopOut, and wrong", func(p *api.Pdu) { *p = api.Pdu{Head: api.Head{Flags: -1}, Data: strings.Repeat("d", 100_001)} }, api.ErrArg},
		{"no op", func(p *api.Pdu) { p.Head.Op = 7 }, api.ErrArg},
		{"no op below 0", func(p *api.Pdu) { p.Head.Op = -1 }, api.ErrArg},
		{"a flag that may not be", func(p *api.Pdu) { p.Head.Flags |= 16; p.Head.Values = nil }, api.ErrForm},
		{"another one", func(p *api.Pdu) { p.Head.Flags |= 32 }, api.ErrForm},
		{"flags below 0", func(p *api.Pdu) { p.Head.Flags = -1 }, api.ErrForm},
		{"too great flags", func(p *api.Pdu) { p.Head.Flags = 256 }, api.ErrForm},
		{"no values", func(p *api.Pdu) { p.Head.Values = nil }, api.ErrMissing},
		{"too few", func(p *api.Pdu) { p.Head.Values = p.Head.Values[:7] }, api.ErrMissing},
		{"too many", func(p *api.Pdu) { p.Head.Values = append(p.Head.Values, 0) }, api.ErrMissing},
		{"too great a value", func(p *api.Pdu) { p.Head.Values[5] = 65536 }, api.ErrRange},
		{"a wrong additional header", func(p *api.Pdu) { p.Ahs = []api.Ahs{{Kind: 1}, {Kind: 256}}; p.Data = strings.Repeat("d", 100_001) }, api.ErrRange},
		{"long additional headers", func(p *api.Pdu) { p.Ahs = []api.Ahs{{Kind: 1, Data: strings.Repeat("d", 1020)}} }, api.ErrLimit},
		{"much data", func(p *api.Pdu) { p.Data = strings.Repeat("d", 100_001) }, api.ErrLimit},
	} {
		l := made(t, open(), draw)
		p := right()
		x.do(&p)
		refuses(t, x.what, l, p, x.want)
		says(t, l, right(), fine(135))
		is(t, l, "", "iqn.a", false)
	}
}

// TestErrorsBehindOne: nor do they change anything once it goes on.
func TestErrorsBehindOne(t *testing.T) {
	l := made(t, open(), draw)
	says(t, l, request(64, "InitiatorName=me\x00Ta", map[string]uint64{"CmdSN": 4}), fine(0))
	p := request(0, "x", map[string]uint64{"CmdSN": 5})
	p.Head.Flags = 16
	refuses(t, "wrong flags", l, p, api.ErrForm)
	p.Head.Op = api.TextRequest
	refuses(t, "another op", l, p, api.ErrArg)
	says(t, l, request(0, "rgetName=iqn.b\x00", map[string]uint64{"CmdSN": 6}), fine(0))
	is(t, l, "", "iqn.b", false)
}

// TestFields: what the fields of an answer have, at their bounds.
func TestFields(t *testing.T) {
	const greatest = 1<<32 - 1
	for _, fields := range []map[string]uint64{
		{},
		{"ITT": 9, "CmdSN": 5, "ISID": 1, "CID": 1, "VersionMax": 255, "ExpStatSN": 77},
		{"ITT": greatest, "CmdSN": greatest, "ISID": 1<<48 - 1, "CID": 65535, "ExpStatSN": greatest},
		{"CmdSN": greatest - 30, "ISID": 1 << 40},
		{"CmdSN": greatest - 31},
		{"CmdSN": 1 << 31},
	} {
		says(t, made(t, open(), draw), request(135, hello(), fields), fine(135))
		says(t, made(t, open(), draw), request(4, hello(), fields), fine(4))
		says(t, made(t, open(), draw), request(68, "", fields), fine(4))
		says(t, made(t, open(), draw), request(139, hello(), fields), bad(8, 11))
	}
	now := request(135, hello(), nil)
	now.Head.Now = true
	now.Ahs = []api.Ahs{{Kind: 1, Data: "ab"}}
	says(t, made(t, open(), draw), now, fine(135))
}

// TestNumbers: each answer has the next number, which goes round, and each PDU tells its own.
func TestNumbers(t *testing.T) {
	l := made(t, open(), draw)
	for i, flags := range []int{64, 0, 64, 64, 64, 0, 129, 68, 4, 4} {
		data := ""
		if i == 0 {
			data = hello()
		}
		says(t, l, request(flags, data, map[string]uint64{"ITT": uint64(i), "CmdSN": uint64(100 - i)}), fine(flags&143))
		if l.Stat() != uint32(i+1) {
			t.Errorf("Stat is %d behind %d", l.Stat(), i+1)
		}
		if i == 5 {
			l.stat = 1<<32 - 1
			says(t, l, request(0, "", nil), fine(0))
			if l.Stat() != 0 {
				t.Errorf("Stat is %d behind the greatest number", l.Stat())
			}
			l.stat = 6
		}
	}
	l.stat = 1<<32 - 1
	says(t, l, request(0, "", nil), bad(0, 11))
	if l.Stat() != 0 {
		t.Errorf("Stat is %d behind the greatest number", l.Stat())
	}
}

// TestFlags: all flags there may be, of a first PDU and of others, with nothing else wrong.
func TestFlags(t *testing.T) {
	for flags := range 256 {
		if flags&^207 != 0 {
			continue
		}
		leaves, more, stage, there := flags&128 != 0, flags&64 != 0, flags>>2&3, flags&3
		for _, at := range []int{-1, 0, 1} { // -1: it is the first one
			l := made(t, open(), draw)
			data := hello()
			if at >= 0 {
				says(t, l, request(at*4, data, nil), fine(at*4))
				data = ""
			}
			w := fine(flags & 12)
			switch {
			case leaves && more:
				w = bad(flags&12, 0)
			case stage > 1, at >= 0 && stage != at, leaves && (there == 2 || there <= stage):
				w = bad(flags&12, 11)
			case leaves:
				w = fine(flags)
			}
			says(t, l, request(flags, data, nil), w)
		}
	}
}

// TestStages: it goes on from stage to stage, never back, and once it is over nothing is answered.
func TestStages(t *testing.T) {
	for _, x := range []struct {
		flags []int
		last  int // the detail of the last one
	}{
		{[]int{131}, -1},
		{[]int{135}, -1},
		{[]int{0, 131}, -1},
		{[]int{0, 3, 1, 131}, -1},
		{[]int{129, 135}, -1},
		{[]int{129, 4, 7, 4, 135}, -1},
		{[]int{64, 0, 129, 68, 135}, -1},
		{[]int{4, 4, 4, 135}, -1},
		{[]int{129, 0}, 11},
		{[]int{129, 129}, 11},
		{[]int{129, 64}, 11},
		{[]int{129, 133}, 11},
		{[]int{129, 131}, 11},
		{[]int{4, 131}, 11},
		{[]int{4, 0}, 11},
		{[]int{0, 4}, 11},
		{[]int{0, 68}, 11},
		{[]int{0, 135}, 11},
		{[]int{64, 135}, 11},
		{[]int{68, 0}, 11},
		{[]int{0, 128}, 11},
		{[]int{0, 130}, 11},
		{[]int{4, 132}, 11},
		{[]int{4, 134}, 11},
		{[]int{0, 8}, 11},
		{[]int{0, 12}, 11},
		{[]int{0, 143}, 11},
		{[]int{0, 192}, 0},
		{[]int{12}, 11},
	} {
		l := made(t, open(), draw)
		data := hello()
		for i, flags := range x.flags {
			w := fine(flags & 12)
			if flags&128 != 0 {
				w = fine(flags)
			}
			if i == len(x.flags)-1 && x.last >= 0 {
				w = bad(flags&12, x.last)
			}
			says(t, l, request(flags, data, nil), w)
			data = ""
		}
	}
}

// TestHeadFails: each thing that may be wrong with a head, with all that is asked for behind it being wrong, too.
func TestHeadFails(t *testing.T) {
	type fields = map[string]uint64
	for _, x := range []struct {
		what   string
		flags  int
		fields fields
		data   string
		first  int // the detail, of a first PDU
		then   int // and of another one, at stage 0
	}{
		{"version", 200, fields{"VersionMin": 1, "TSIH": 1, "ISID": 9, "CID": 9}, "x", 5, 5},
		{"great version", 0, fields{"VersionMin": 255}, "", 5, 5},
		{"session", 200, fields{"TSIH": 1, "ISID": 9, "CID": 9}, "x", 10, 10},
		{"great session", 0, fields{"TSIH": 65535}, "", 10, 10},
		{"both", 200, fields{"ISID": 9, "CID": 9}, "x", 0, 0},
		{"stage 2", 8, fields{"ISID": 9, "CID": 9}, "x", 11, 11},
		{"stage 3", 12, fields{"ISID": 9, "CID": 9}, "x", 11, 11},
		{"stage 1", 4, fields{"ISID": 9, "CID": 9}, "x", 1, 11},
		{"no next stage", 128, fields{"ISID": 9, "CID": 9}, "x", 11, 11},
		{"next stage 2", 130, fields{"ISID": 9, "CID": 9}, "x", 11, 11},
		{"stage 1 again", 133, fields{"ISID": 9, "CID": 9}, "x", 11, 11},
		{"another ISID", 0, fields{"ISID": 9, "CID": 2}, "x", 0, 0},
		{"another CID", 0, fields{"ISID": 1, "CID": 9}, "x", 0, 0},
		{"no ISID", 0, fields{"CID": 2}, "x", 0, 0},
		{"no CID", 0, fields{"ISID": 1}, "x", 0, 0},
		{"text", 0, fields{"ISID": 1, "CID": 2}, "x", 0, 0},
	} {
		l := made(t, shut(), draw)
		says(t, l, request(x.flags, x.data, x.fields), bad(x.flags&12, x.first))
		is(t, l, "", "", false)
		l = made(t, shut(), draw)
		says(t, l, request(0, hello(), fields{"ISID": 1, "CID": 2}), fine(0))
		says(t, l, request(x.flags, x.data, x.fields), bad(x.flags&12, x.then))
		is(t, l, "", "iqn.a", false)
	}
}

// TestOneConnection: ISID and CID are the first PDU's, all the way; VersionMax, ITT, CmdSN and ExpStatSN may change, and count for nothing.
func TestOneConnection(t *testing.T) {
	type fields = map[string]uint64
	for _, other := range []fields{{"ISID": 5, "CID": 6}, {"ISID": 4, "CID": 7}, {"ISID": 5}, {"CID": 7}, {"ISID": 7, "CID": 5}} {
		for n := range 4 {
			l := made(t, open(), draw)
			for i := range n + 1 {
				p := request([]int{64, 0, 129, 4}[i], []string{"", hello(), "", ""}[i], fields{"ISID": 5, "CID": 7, "ITT": uint64(i), "CmdSN": uint64(9 - i), "VersionMax": uint64(i), "ExpStatSN": uint64(i * i)})
				says(t, l, p, fine(p.Head.Flags&143))
			}
			flags := []int{0, 0, 4, 4}[n]
			says(t, l, request(flags, "", other), bad(flags, 0))
		}
	}
	says(t, made(t, open(), draw), request(135, hello(), fields{"ISID": 1<<48 - 1, "CID": 65535}), fine(135))
}

// TestGuardedBegins: where there are users, a login begins at stage 0; where there are none, at either one.
func TestGuardedBegins(t *testing.T) {
	for _, flags := range []int{4, 68, 135, 7} {
		says(t, made(t, shut(), draw), request(flags, hello(), nil), bad(4, 1))
		w := fine(flags & 143)
		if flags&128 == 0 {
			w = fine(4)
		}
		says(t, made(t, open(), draw), request(flags, hello(), nil), w)
	}
	for _, flags := range []int{0, 64, 129, 131, 3} {
		l := made(t, shut(), draw)
		says(t, l, request(flags, hello(), nil), fine(0))
	}
	c := shut()
	c.Users = c.Users[:1]
	says(t, made(t, c, draw), request(4, hello(), nil), bad(4, 1))
	says(t, made(t, c, draw), request(131, hello(), nil), fine(0))
	c.Users = []api.User{}
	says(t, made(t, c, draw), request(135, hello(), nil), fine(135))
	c = open()
	c.Self = api.User{Name: "self", Secret: "own"}
	says(t, made(t, c, draw), request(135, hello(), nil), fine(135))
}

// TestFirstText: what is missing, or wrong, in who comes and to whom, with all that is asked for behind it being wrong, too.
func TestFirstText(t *testing.T) {
	for _, x := range []struct {
		data      string
		detail    int
		name      string
		discovery bool
	}{
		{"", 7, "", false},
		{text("TargetName=iqn.a"), 7, "", false},
		{text("InitiatorName=", "TargetName=iqn.a"), 7, "", false},
		{text("InitiatorName=", "InitiatorName=me", "TargetName=iqn.a"), 7, "", false},
		{text("SessionType=Discovery"), 7, "", false},
		{text("SessionType=x", "TargetName=x"), 7, "", false},
		{text("InitiatorNam=me", "TargetName=iqn.a"), 7, "", false},
		{text("InitiatorName=me", "SessionType=x", "TargetName=x"), 9, "", false},
		{text("InitiatorName=me", "SessionType="), 9, "", false},
		{text("InitiatorName=me", "SessionType=", "TargetName=iqn.a"), 9, "", false},
		{text("InitiatorName=me", "SessionType=discovery", "TargetName=iqn.a"), 9, "", false},
		{text("InitiatorName=me", "SessionType=normal", "TargetName=iqn.a"), 9, "", false},
		{text("InitiatorName=me", "SessionType=Normal ", "TargetName=iqn.a"), 9, "", false},
		{text("InitiatorName=me", "SessionType=x", "SessionType=Discovery"), 9, "", false},
		{text("InitiatorName=me"), 7, "", false},
		{text("InitiatorName=me", "TargetName="), 7, "", false},
		{text("InitiatorName=me", "TargetName=", "TargetName=iqn.a"), 7, "", false},
		{text("InitiatorName=me", "SessionType=Normal"), 7, "", false},
		{text("InitiatorName=me", "SessionType=Normal", "SessionType=Discovery"), 7, "", false},
		{text("InitiatorName=me", "SessionType=Normal", "TargetName=x", "CHAP_A=5", "CHAP_A=5"), 3, "", false},
		{text("InitiatorName=me", "TargetName=iqn.A"), 3, "", false},
		{text("InitiatorName=me", "TargetName=iqn.a,iqn.b"), 3, "", false},
		{text("InitiatorName=me", "TargetName=iqn.c", "TargetName=iqn.a"), 3, "", false},
		// What is done ahead of a failure stays.
		{hello("CHAP_A=5", "CHAP_A=5"), 0, "iqn.a", false},
		{hello("SessionType=Normal", "AuthMethod=x"), 1, "iqn.a", false},
		{hello("InitiatorName=me"), 0, "iqn.a", false},
		{hello("TargetName=x"), 0, "iqn.a", false},
		{hello("SessionType=Discovery", "SessionType=Normal"), 0, "", true},
		{text("SessionType=Discovery", "InitiatorName=me", "AuthMethod=x"), 1, "", true},
		// Nothing is wrong.
		{hello(), -1, "iqn.a", false},
		{text("TargetName=iqn.b", "InitiatorName=me"), -1, "iqn.b", false},
		{hello("SessionType=Normal"), -1, "iqn.a", false},
		{text("SessionType=Normal", "TargetName=iqn.b", "InitiatorName="+strings.Repeat("m", 255)), -1, "iqn.b", false},
		{text("InitiatorName=me", "SessionType=Discovery"), -1, "", true},
		{text("SessionType=Discovery", "InitiatorName=a=b"), -1, "", true},
		{hello("SessionType=Discovery"), -1, "", true},
		{text("InitiatorName=me", "SessionType=Discovery", "TargetName=x"), -1, "", true},
	} {
		for _, c := range []api.Conf{open(), shut()} {
			l := made(t, c, draw)
			w := want{0, x.detail, ""}
			says(t, l, request(0, x.data, nil), w)
			is(t, l, "", x.name, x.discovery)
		}
	}
}

// TestJustTheFirstText: of later texts nothing of that is asked, nor does it change anything.
func TestJustTheFirstText(t *testing.T) {
	l := made(t, open(), draw)
	says(t, l, request(0, hello(), nil), fine(0))
	says(t, l, request(0, text("SessionType=Discovery"), nil), fine(0))
	is(t, l, "", "iqn.a", false)
	says(t, l, request(131, text("MaxBurstLength=512"), nil), fine(131, "MaxBurstLength=512"))
	is(t, l, "", "iqn.a", false)

	l = made(t, open(), draw)
	says(t, l, request(4, text("InitiatorName=me", "SessionType=Discovery"), nil), fine(4))
	says(t, l, request(4, text("TargetName=x", "MaxBurstLength=512"), nil), fine(4, "MaxBurstLength=Irrelevant"))
	is(t, l, "", "", true)
	says(t, l, request(4, text("SessionType=Normal"), nil), bad(4, 0))
	is(t, l, "", "", true)
}

// TestNoTargets: a discovery comes in, nobody else does.
func TestNoTargets(t *testing.T) {
	c := api.Conf{Limit: 8192}
	says(t, made(t, c, draw), request(135, hello("SessionType=Discovery"), nil), fine(135))
	says(t, made(t, c, draw), request(135, hello(), nil), bad(4, 3))
}

// TestParts: a text in parts, cut anywhere, is answered with its last part.
func TestParts(t *testing.T) {
	whole := hello("AuthMethod=None", "X=1", "MaxBurstLength=512")
	said := []string{"AuthMethod=None", "X=NotUnderstood", "MaxBurstLength=512"}
	for i := range len(whole) + 1 {
		l := made(t, open(), draw)
		says(t, l, request(64, whole[:i], nil), fine(0))
		is(t, l, "", "", false)
		if len(l.Record()) != 0 {
			t.Errorf("cut at %d: the record is %v ahead of the end", i, l.Record())
		}
		says(t, l, request(64, "", nil), fine(0))
		says(t, l, request(131, whole[i:], nil), fine(131, said...))
		is(t, l, "", "iqn.a", false)
	}
	l := made(t, open(), draw)
	for i := range whole {
		says(t, l, request(64, whole[i:i+1], nil), fine(0))
	}
	says(t, l, request(0, "", nil), fine(0, said...))
	says(t, l, request(64, "InitialR", nil), fine(0))
	says(t, l, request(64, "2T=No", nil), fine(0))
	says(t, l, request(129, "\x00", nil), fine(129, "InitialR2T=Yes"))
	says(t, l, request(68, "Y=2\x00", nil), fine(4))
	says(t, l, request(135, "Z=3\x00", nil), fine(135, "Y=NotUnderstood", "Z=NotUnderstood"))
}

// TestLongText: at most 8192 bytes of a text.
func TestLongText(t *testing.T) {
	var all []string
	for i := range 40 {
		all = append(all, fmt.Sprintf("K%02d=%s", i, strings.Repeat("v", 196)))
	}
	whole := hello(all...)
	fill := 8192 - len(whole)
	if fill < 4 || fill > 260 {
		t.Fatalf("%d bytes are to be filled", fill)
	}
	whole += text("L=" + strings.Repeat("v", fill-3))
	for _, parts := range [][]string{{whole}, {whole[:8191], whole[8191:]}, {"", whole}, {whole, ""}, {whole[:1], whole[1:4000], whole[4000:]}} {
		fits, long := made(t, open(), draw), made(t, open(), draw)
		last := len(parts) - 1
		for _, part := range parts[:last] {
			says(t, fits, request(64, part, nil), fine(0))
			says(t, long, request(64, part, nil), fine(0))
		}
		out, err := fits.Take(request(0, parts[last], nil))
		fails(t, "just so long", err, api.OK, nowhere)
		said, err := pairs.Parse(out.Data)
		if len(said) != 41 || err != nil || get(out, "StatusClass") != 0 {
			t.Errorf("just so long: %d are said, %v, status %d", len(said), err, get(out, "StatusClass"))
		}
		says(t, long, request(0, parts[last]+"x", nil), bad(0, 0))
	}
	l := made(t, open(), draw)
	says(t, l, request(64, strings.Repeat("x", 8192), nil), fine(0))
	says(t, l, request(64, "", nil), fine(0))
	says(t, l, request(64, "x", nil), bad(0, 0))
	says(t, made(t, open(), draw), request(64, strings.Repeat("x", 8193), nil), bad(0, 0))
	says(t, made(t, open(), draw), request(0, strings.Repeat("x", 100_000), nil), bad(0, 0))
}

// TestWrongText: what no pairs are fails, ahead of what is missing.
func TestWrongText(t *testing.T) {
	for _, data := range []string{"x", "\x00", "X\x00", hello() + "X=1", hello() + "X\x00", hello("x=1"), hello("X=\n"), hello("=1"), "TargetName=x", hello("X=" + strings.Repeat("v", 256))} {
		l := made(t, open(), draw)
		says(t, l, request(4, data, nil), bad(4, 0))
		is(t, l, "", "", false)
		l = made(t, open(), draw)
		says(t, l, request(4, hello(), nil), fine(4))
		says(t, l, request(135, data, nil), bad(4, 0))
		is(t, l, "", "iqn.a", false)
	}
	var many []string
	for i := range 58 {
		many = append(many, "K"+strconv.Itoa(i)+"=1")
	}
	out, err := made(t, open(), draw).Take(request(4, hello(many...), nil))
	if said, _ := pairs.Parse(out.Data); len(said) != 58 || err != nil {
		t.Errorf("of 60 pairs %d are answered, %v", len(said), err)
	}
	says(t, made(t, open(), draw), request(4, hello(append(many, "L=1")...), nil), bad(4, 0))
}

// challenge is what is said to CHAP_A.
var challenge = []string{"CHAP_A=5", "CHAP_I=7", "CHAP_C=0x6368616c"}

// asked is one with users that has said its challenge.
func asked(t *testing.T) *Login {
	t.Helper()
	l := made(t, shut(), draw)
	says(t, l, request(0, hello("AuthMethod=CHAP", "CHAP_A=5"), nil), fine(0, append([]string{"AuthMethod=CHAP"}, challenge...)...))
	return l
}

// TestChap: stage by stage, one thing after the other or all that can be together.
func TestChap(t *testing.T) {
	for _, flags := range []int{129, 131} {
		l := made(t, shut(), draw)
		says(t, l, request(0, hello("AuthMethod=None,CHAP,x"), nil), fine(0, "AuthMethod=CHAP"))
		says(t, l, request(0, "", nil), fine(0))
		says(t, l, request(0, text("CHAP_A=7,5"), nil), fine(0, challenge...))
		says(t, l, request(0, "", nil), fine(0))
		is(t, l, "", "iqn.a", false)
		says(t, l, request(flags, text("CHAP_N=v", "CHAP_R="+response("t")), nil), fine(flags))
		is(t, l, "v", "iqn.a", false)
		if flags == 129 {
			says(t, l, request(135, "", nil), fine(135))
		}
		is(t, l, "v", "iqn.a", false)

		l = asked(t)
		says(t, l, request(0, text("CHAP_R="+response("s"), "CHAP_N=u"), nil), fine(0))
		is(t, l, "u", "iqn.a", false)
		says(t, l, request(flags, "", nil), fine(flags))
	}
}

// TestChapInOne: who knows what is drawn may tell all at once; what is said comes in one order, ahead of all answers, whichever the keys come in.
func TestChapInOne(t *testing.T) {
	all := []string{"MaxBurstLength=512", "CHAP_C=0x01", "CHAP_I=1", "CHAP_R=" + response("s"), "X=1", "CHAP_N=u", "CHAP_A=5", "AuthMethod=CHAP"}
	r, _ := chap.Response(1, "own", "\x01")
	said := append([]string{"AuthMethod=CHAP"}, challenge...)
	said = append(said, "CHAP_N=self", "CHAP_R="+binary.Hex(r))
	says(t, made(t, shut(), draw), request(131, hello(all...), nil), fine(131, append(said, "MaxBurstLength=512", "X=NotUnderstood")...))
	slices.Reverse(all)
	l := made(t, shut(), draw)
	says(t, l, request(131, hello(all...), nil), fine(131, append(said, "X=NotUnderstood", "MaxBurstLength=512")...))
	is(t, l, "u", "iqn.a", false)
	record := []api.Pair{{Key: "InitiatorName", Value: "me"}, {Key: "TargetName", Value: "iqn.a"}, {Key: "MaxBurstLength", Value: "512"}}
	if !slices.Equal(l.Record(), record) {
		t.Errorf("Record is %v, want %v", l.Record(), record)
	}
}

// TestNobodyUnknown: as long as nobody is known, it goes on to no other stage.
func TestNobodyUnknown(t *testing.T) {
	for _, flags := range []int{129, 131} {
		l := made(t, shut(), draw)
		says(t, l, request(flags, hello(), nil), fine(0))
		says(t, l, request(flags, text("AuthMethod=CHAP"), nil), fine(0, "AuthMethod=CHAP"))
		says(t, l, request(flags, text("CHAP_A=5"), nil), fine(0, challenge...))
		says(t, l, request(flags, text("X=1"), nil), fine(0, "X=NotUnderstood"))
		is(t, l, "", "iqn.a", false)
		says(t, l, request(flags, text("CHAP_N=u", "CHAP_R="+response("s")), nil), fine(flags))
		l = made(t, shut(), draw)
		says(t, l, request(flags, text("InitiatorName=me", "SessionType=Discovery"), nil), fine(0))
		is(t, l, "", "", true)
		says(t, l, request(4, "", nil), bad(4, 11))
	}
}

// TestAuthMethod: what is chosen of it, and when it fails.
func TestAuthMethod(t *testing.T) {
	for _, x := range []struct {
		list       string
		open, shut int // the details
	}{
		{"None", -1, 1},
		{"CHAP", 1, -1},
		{"CHAP,None", -1, -1},
		{"None,CHAP", -1, -1},
		{"SRP,None,CHAP,x", -1, -1},
		{"SRP,KRB5", 1, 1},
		{"SRP", 1, 1},
		{"", 1, 1},
		{",", 1, 1},
		{"None,CHAP,", 1, 1},
		{",None,CHAP", 1, 1},
		{"None,,CHAP", 1, 1},
		{"None,CHAP,None", 1, 1},
		{"CHAP,None,CHAP", 1, 1},
		{"x,None,CHAP,x", 1, 1},
		{"none,chap", 1, 1},
		{"None ,CHAP ", 1, 1},
		{"NoneCHAP", 1, 1},
		{"CHAP;None", 1, 1},
	} {
		for _, c := range []api.Conf{open(), shut()} {
			said, detail := "AuthMethod=None", x.open
			if len(c.Users) > 0 {
				said, detail = "AuthMethod=CHAP", x.shut
			}
			w := fine(0, said)
			if detail >= 0 {
				w = bad(0, detail)
			}
			says(t, made(t, c, draw), request(0, hello("AuthMethod="+x.list), nil), w)
			l := made(t, c, draw)
			says(t, l, request(0, hello(), nil), fine(0))
			says(t, l, request(0, text("X=1", "AuthMethod="+x.list), nil), later(w, "X=NotUnderstood"))
			if detail < 0 {
				says(t, l, request(0, text("AuthMethod="+x.list), nil), bad(0, 1))
			}
		}
	}
}

// later is an answer that doesn't fail with more behind what it says, or one that fails.
func later(w want, said ...string) want {
	if w.detail < 0 {
		w.data += text(said...)
	}
	return w
}

// TestChapA: when the challenge is said, and when it fails.
func TestChapA(t *testing.T) {
	for _, x := range []struct {
		list string
		so   bool
	}{
		{"5", true}, {"5,7", true}, {"7,5", true}, {"x,5,y", true},
		{"", false}, {"7", false}, {"6,7", false}, {"05", false}, {"0x5", false}, {"5 ", false}, {"55", false}, {"5,", false}, {",5", false}, {"5,5", false}, {"7,5,7", false}, {"7,,5", false},
	} {
		w := bad(0, 1)
		if x.so {
			w = fine(0, challenge...)
		}
		l := made(t, shut(), draw)
		says(t, l, request(0, hello("AuthMethod=CHAP"), nil), fine(0, "AuthMethod=CHAP"))
		says(t, l, request(0, text("CHAP_A="+x.list), nil), w)
		if x.so {
			says(t, l, request(0, text("CHAP_A="+x.list), nil), bad(0, 1))
			w.data = text("AuthMethod=CHAP") + w.data
		}
		says(t, made(t, shut(), draw), request(0, hello("CHAP_A="+x.list, "AuthMethod=CHAP"), nil), w)
		says(t, made(t, shut(), draw), request(0, hello("CHAP_A="+x.list), nil), bad(0, 1))
		says(t, made(t, open(), draw), request(0, hello("CHAP_A="+x.list), nil), bad(0, 1))
		says(t, made(t, open(), draw), request(0, hello("AuthMethod=CHAP,None", "CHAP_A="+x.list), nil), bad(0, 1))
	}
}

// TestDraw: what is drawn is what is said.
func TestDraw(t *testing.T) {
	for _, d := range []api.Draw{{Id: 0, Challenge: "\x00"}, {Id: 10, Challenge: "\x00\xff"}, {Id: 255, Challenge: strings.Repeat("\xab", 100)}} {
		l := made(t, shut(), d)
		said := []string{"AuthMethod=CHAP", "CHAP_A=5", "CHAP_I=" + strconv.Itoa(d.Id), "CHAP_C=0x" + fmt.Sprintf("%x", d.Challenge)}
		says(t, l, request(0, hello("AuthMethod=CHAP", "CHAP_A=5"), nil), fine(0, said...))
		r, _ := chap.Response(d.Id, "s", d.Challenge)
		says(t, l, request(131, text("CHAP_N=u", "CHAP_R="+binary.Base64(r)), nil), fine(131))
		is(t, l, "u", "iqn.a", false)
	}
}

// TestChapN: when somebody is known, and when it fails.
func TestChapN(t *testing.T) {
	r := "CHAP_R=" + response("s")
	for _, x := range []struct {
		told []string
		so   bool
	}{
		{[]string{"CHAP_N=u", r}, true},
		{[]string{r, "X=1", "CHAP_N=u"}, true},
		{[]string{"CHAP_N=u", "CHAP_R=" + strings.ToUpper(response("s"))}, true},
		{[]string{"CHAP_N=v", "CHAP_R=" + response("t")}, true},
		{[]string{"CHAP_N=u"}, false},
		{[]string{r}, false},
		{[]string{"CHAP_I=1"}, false},
		{[]string{"CHAP_C=0x01"}, false},
		{[]string{"CHAP_I=1", "CHAP_C=0x01"}, false},
		{[]string{"CHAP_N=u", "CHAP_I=1", "CHAP_C=0x01"}, false},
		{[]string{r, "CHAP_I=1", "CHAP_C=0x01"}, false},
		{[]string{"CHAP_N=u", r, "CHAP_I=1"}, false},
		{[]string{"CHAP_N=u", r, "CHAP_C=0x01"}, false},
		{[]string{"CHAP_N=u", r, "CHAP_I="}, false},
		{[]string{"CHAP_N=v", r}, false},
		{[]string{"CHAP_N=w", r}, false},
		{[]string{"CHAP_N=", r}, false},
		{[]string{"CHAP_N=self", "CHAP_R=" + response("own")}, false},
		{[]string{"CHAP_N=u", "CHAP_R=" + response("t")}, false},
		{[]string{"CHAP_N=u", "CHAP_R="}, false},
		{[]string{"CHAP_N=u", "CHAP_R=0x"}, false},
		{[]string{"CHAP_N=u", r + "0"}, false},
		{[]string{"CHAP_N=u", r + "00"}, false},
		{[]string{"CHAP_N=u", "CHAP_R=x"}, false},
		{[]string{"CHAP_N=u", r, "CHAP_A=5"}, false},
		{[]string{"CHAP_N=u", r, "AuthMethod=CHAP"}, false},
	} {
		l := asked(t)
		if !x.so {
			says(t, l, request(131, text(x.told...), nil), bad(0, 1))
			is(t, l, "", "iqn.a", false)
			continue
		}
		w := fine(131)
		if slices.Contains(x.told, "X=1") {
			w = fine(131, "X=NotUnderstood")
		}
		says(t, l, request(131, text(x.told...), nil), w)
	}
}

// TestNothingAsked: a response to what wasn't said fails, however right it is.
func TestNothingAsked(t *testing.T) {
	told := text("CHAP_N=u", "CHAP_R="+response("s"))
	l := made(t, shut(), draw)
	says(t, l, request(131, hello()+told, nil), bad(0, 1))
	is(t, l, "", "iqn.a", false)
	l = made(t, shut(), draw)
	says(t, l, request(0, hello("AuthMethod=CHAP"), nil), fine(0, "AuthMethod=CHAP"))
	says(t, l, request(131, told, nil), bad(0, 1))
	is(t, l, "", "iqn.a", false)
	l = made(t, shut(), draw)
	says(t, l, request(131, hello("AuthMethod=CHAP")+told, nil), bad(0, 1))
	is(t, l, "", "iqn.a", false)
	for _, more := range []string{"", "AuthMethod=None\x00"} {
		l = made(t, open(), draw)
		says(t, l, request(131, hello()+told+more, nil), bad(0, 1))
		is(t, l, "", "iqn.a", false)
	}
}

// TestKnownOnce: who is known tells nothing of that any more.
func TestKnownOnce(t *testing.T) {
	for _, told := range []string{
		text("CHAP_N=u", "CHAP_R="+response("s")),
		text("CHAP_N=v", "CHAP_R="+response("t")),
		text("CHAP_N=v", "CHAP_R="+response("t"), "CHAP_I=1", "CHAP_C=0x01"),
		text("CHAP_I=1", "CHAP_C=0x01"),
		text("CHAP_N=u"),
		text("CHAP_A=5"),
		text("AuthMethod=CHAP"),
	} {
		l := asked(t)
		says(t, l, request(0, text("CHAP_N=u", "CHAP_R="+response("s")), nil), fine(0))
		says(t, l, request(0, told, nil), bad(0, 1))
		is(t, l, "u", "iqn.a", false)
	}
}

// TestSelf: whom it says to be, if it is asked, and when it fails; who is known by then stays so.
func TestSelf(t *testing.T) {
	known := []string{"CHAP_N=u", "CHAP_R=" + response("s")}
	for _, x := range []struct {
		id, challenge string
		as            int // below 0: it fails
		of            string
	}{
		{"0", "0x01", 0, "\x01"},
		{"255", "0bTWE=", 255, "Ma"},
		{"0xfF", "0XabCD", 255, "\xab\xcd"},
		{"7", "0x63686161", 7, "chaa"},
		{"8", "0x6368616c6c", 8, "chall"},
		{"9", "0x" + strings.Repeat("00", 100), 9, strings.Repeat("\x00", 100)},
		{"9", "0x" + strings.Repeat("00", 101), -1, ""},
		{"9", "0b" + strings.Repeat("AAAA", 33) + "AA==", 9, strings.Repeat("\x00", 100)},
		{"9", "0b" + strings.Repeat("AAAA", 34), -1, ""},
		{"7", "0x6368616c", -1, ""},
		{"8", "0x6368616C", -1, ""},
		{"9", "0bY2hhbA==", -1, ""},
		{"256", "0x01", -1, ""},
		{"-1", "0x01", -1, ""},
		{"", "0x01", -1, ""},
		{"01", "0x01", -1, ""},
		{"x", "0x01", -1, ""},
		{"0x100", "0x01", -1, ""},
		{"1", "", -1, ""},
		{"1", "0x", -1, ""},
		{"1", "0b", -1, ""},
		{"1", "0x1", -1, ""},
		{"1", "01", -1, ""},
		{"1", "0x0g", -1, ""},
	} {
		l := asked(t)
		told := append(slices.Clone(known), "CHAP_I="+x.id, "CHAP_C="+x.challenge, "X=1")
		if x.as < 0 {
			says(t, l, request(131, text(told...), nil), bad(0, 1))
		} else {
			r, err := chap.Response(x.as, "own", x.of)
			fails(t, "response", err, api.OK, nowhere)
			says(t, l, request(131, text(told...), nil), fine(131, "CHAP_N=self", "CHAP_R="+binary.Hex(r), "X=NotUnderstood"))
		}
		is(t, l, "u", "iqn.a", false)
	}
	c := shut()
	c.Self = api.User{}
	l := made(t, c, draw)
	says(t, l, request(0, hello("AuthMethod=CHAP", "CHAP_A=5"), nil), fine(0, append([]string{"AuthMethod=CHAP"}, challenge...)...))
	says(t, l, request(0, text(append(slices.Clone(known), "CHAP_I=1", "CHAP_C=0x01")...), nil), bad(0, 1))
	is(t, l, "u", "iqn.a", false)
	c.Self = api.User{Name: strings.Repeat("~", 100), Secret: strings.Repeat(" ", 100)}
	l = made(t, c, draw)
	r, _ := chap.Response(1, c.Self.Secret, "\x01")
	said := append([]string{"AuthMethod=CHAP"}, challenge...)
	says(t, l, request(131, hello(append(slices.Clone(known), "AuthMethod=CHAP", "CHAP_A=5", "CHAP_I=1", "CHAP_C=0x01")...), nil), fine(131, append(said, "CHAP_N="+c.Self.Name, "CHAP_R="+binary.Hex(r))...))
}

// proofs are the keys by which somebody tells who they are.
var proofs = []string{"AuthMethod", "CHAP_A", "CHAP_I", "CHAP_C", "CHAP_N", "CHAP_R"}

// TestProofTwice: none of them may stand there twice, nor anywhere but at stage 0; that comes ahead of all else that is wrong with them, and of the offers.
func TestProofTwice(t *testing.T) {
	for _, key := range proofs {
		for _, c := range []api.Conf{open(), shut()} {
			for _, told := range []string{
				text(key+"=x", key+"=x"),
				text(key+"=", "X=1", key+"=y", "X=1"),
				text("AuthMethod=CHAP,None", key+"=1", "CHAP_A=5", "X=1", key+"=2"),
			} {
				says(t, made(t, c, draw), request(0, hello()+told, nil), bad(0, 0))
			}
			l := made(t, c, draw)
			says(t, l, request(0, hello(), nil), fine(0))
			w := bad(0, 1)
			if key == "AuthMethod" {
				w = fine(0, "AuthMethod=None")
				if len(c.Users) > 0 {
					w = fine(0, "AuthMethod=CHAP")
				}
			}
			says(t, l, request(0, text(key+"=CHAP,None"), nil), w)
		}
		for _, at := range []int{4, 129} {
			l := made(t, open(), draw)
			if at == 4 {
				says(t, l, request(4, hello(key+"=None"), nil), bad(4, 0))
				is(t, l, "", "iqn.a", false)
				continue
			}
			says(t, l, request(at, hello(), nil), fine(at))
			says(t, l, request(135, text("X=1", key+"=None"), nil), bad(4, 0))
		}
		l := asked(t)
		says(t, l, request(129, text("CHAP_N=u", "CHAP_R="+response("s")), nil), fine(129))
		says(t, l, request(4, text(key+"=CHAP"), nil), bad(4, 0))
		is(t, l, "u", "iqn.a", false)
	}
}

// TestOthersAreOffers: keys that are much like these are offers, wherever they stand, and none of these is one.
func TestOthersAreOffers(t *testing.T) {
	for _, key := range []string{"CHAP_B", "CHAP_", "CHAP", "Chap_N", "AuthMethods", "Authmethod", "CHAP_AA", "SendTargets", "TargetAlias", "MaxburstLength"} {
		for _, flags := range []int{0, 4} {
			l := made(t, open(), draw)
			says(t, l, request(flags, hello(key+"=1"), nil), fine(flags, key+"=NotUnderstood"))
			says(t, l, request(flags, text(key+"=1"), nil), fine(flags, key+"=NotUnderstood"))
			says(t, l, request(flags, text(key+"=1", key+"=1"), nil), bad(flags, 0))
		}
	}
	l := asked(t)
	says(t, l, request(131, text("CHAP_N=u", "CHAP_R="+response("s")), nil), fine(131))
	if record := l.Record(); len(record) != 2 {
		t.Errorf("Record is %v", record)
	}
}

// TestOffers: what is said to offers, in a discovery or not, and when it fails.
func TestOffers(t *testing.T) {
	c := open()
	c.Own = []api.Pair{{Key: "HeaderDigest", Value: "CRC32C,None"}, {Key: "MaxBurstLength", Value: "1000"}, {Key: "ImmediateData", Value: "No"}}
	offers := []string{"ErrorRecoveryLevel=2", "HeaderDigest=x,None", "MaxBurstLength=0x200", "ImmediateData=maybe", "DataDigest=CRC32C", "InitiatorAlias=a", "MaxRecvDataSegmentLength=512", "Y="}
	l := made(t, c, draw)
	says(t, l, request(135, hello(offers...), nil), fine(135, "ErrorRecoveryLevel=0", "HeaderDigest=None", "MaxBurstLength=512", "ImmediateData=Reject", "DataDigest=Reject", "Y=NotUnderstood"))
	record := []api.Pair{
		{Key: "InitiatorName", Value: "me"}, {Key: "TargetName", Value: "iqn.a"}, {Key: "ErrorRecoveryLevel", Value: "0"}, {Key: "HeaderDigest", Value: "None"},
		{Key: "MaxBurstLength", Value: "512"}, {Key: "InitiatorAlias", Value: "a"}, {Key: "MaxRecvDataSegmentLength", Value: "512"},
	}
	if !slices.Equal(l.Record(), record) {
		t.Errorf("Record is %v, want %v", l.Record(), record)
	}
	l = made(t, c, draw)
	says(t, l, request(135, hello(append(offers, "SessionType=Discovery")...), nil), fine(135, "ErrorRecoveryLevel=0", "HeaderDigest=None", "MaxBurstLength=Irrelevant", "ImmediateData=Irrelevant", "DataDigest=Reject", "Y=NotUnderstood"))

	for _, again := range []string{"MaxBurstLength=512", "InitiatorName=me", "TargetName=iqn.a", "InitiatorAlias=b"} {
		l = made(t, c, draw)
		says(t, l, request(4, hello("MaxBurstLength=512", "InitiatorAlias=a"), nil), fine(4, "MaxBurstLength=512"))
		before := l.Record()
		says(t, l, request(135, text("X=1", "InitialR2T=Yes", again), nil), bad(4, 0))
		if !slices.Equal(l.Record(), before) {
			t.Errorf("Record is %v behind a failure, want %v", l.Record(), before)
		}
	}
	l = made(t, c, draw)
	says(t, l, request(4, hello("DataDigest=x", "ImmediateData=x"), nil), fine(4, "DataDigest=Reject", "ImmediateData=Reject"))
	says(t, l, request(135, text("DataDigest=None", "ImmediateData=No"), nil), fine(135, "DataDigest=None", "ImmediateData=No"))
}

// TestFailsBehindKnown: an offer that fails comes behind who somebody is, who stays known.
func TestFailsBehindKnown(t *testing.T) {
	l := asked(t)
	says(t, l, request(131, text("CHAP_N=u", "CHAP_R="+response("s"), "InitiatorName=me"), nil), bad(0, 0))
	is(t, l, "u", "iqn.a", false)
	l = asked(t)
	says(t, l, request(131, text("CHAP_N=u", "CHAP_R="+response("t"), "InitiatorName=me"), nil), bad(0, 1))
	is(t, l, "", "iqn.a", false)
}

// TestTooMuchIsSaid: if more is said than there may be pairs, none of it is; but all goes on as if it was.
func TestTooMuchIsSaid(t *testing.T) {
	for n := 54; n < 60; n++ {
		var offers, answers []string
		for i := range n {
			offers = append(offers, "K"+strconv.Itoa(i)+"=1")
			answers = append(answers, "K"+strconv.Itoa(i)+"=NotUnderstood")
		}
		if n <= 56 { // with four more these are all that there may be
			said := append([]string{"AuthMethod=CHAP"}, challenge...)
			says(t, made(t, shut(), draw), request(0, hello(append(offers, "AuthMethod=CHAP", "CHAP_A=5")...), nil), fine(0, append(said, answers...)...))
		}
		l := made(t, shut(), draw)
		says(t, l, request(0, hello("AuthMethod=CHAP"), nil), fine(0, "AuthMethod=CHAP"))
		w := fine(0)
		if n <= 57 {
			w = fine(0, append(slices.Clone(challenge), answers...)...)
		}
		says(t, l, request(0, text(append(offers, "CHAP_A=5")...), nil), w)
		says(t, l, request(131, text("CHAP_N=u", "CHAP_R="+response("s")), nil), fine(131))
		is(t, l, "u", "iqn.a", false)
	}
}
