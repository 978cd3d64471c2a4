package full

import (
	"fmt"
	"math"
	"slices"
	"strings"
	"testing"

	"quaymaster/api"
	"quaymaster/head"
	"quaymaster/nego"
	"quaymaster/pairs"
	"quaymaster/plain"
	"quaymaster/target"
)

// nowhere is the place of an error that has none.
const nowhere = -1

// nothing is what a field has that tells nothing.
const nothing = 1<<32 - 1

// fails checks that an error is that Errno (OK: none), at that place.
func fails(t *testing.T, what string, err error, want api.Errno, place int) {
	t.Helper()
	if got, at := plain.Place(err); got != want || at != place || (want == api.OK) != (err == nil) {
		t.Errorf("%.300s: error %d at %d (%v), want %d at %d", what, got, at, err, want, place)
	}
}

// conf has two targets, and one portal.
func conf() api.Conf {
	return api.Conf{Targets: []string{"iqn.a", "iqn.b"}, Portals: []api.Portal{{Address: "h:1", Group: 2}}, Limit: 8192}
}

// great has as much as there may be.
func great() api.Conf {
	c := api.Conf{Limit: 8192}
	for i := range 8 {
		c.Targets = append(c.Targets, strings.Repeat("t", 99)+fmt.Sprint(i))
	}
	for i := range 4 {
		c.Portals = append(c.Portals, api.Portal{Address: strings.Repeat("p", 99) + fmt.Sprint(i), Group: 65535})
	}
	return c
}

// talk is a session, and the numbers that it is to have.
type talk struct {
	*testing.T
	f         *Full
	stat, cmd uint32
}

// made is a talk of what is right.
func made(t *testing.T, c api.Conf, own []api.Pair, name string, discovery bool, stat, cmd uint32) *talk {
	t.Helper()
	n, err := nego.New(own)
	fails(t, "nego.New", err, api.OK, nowhere)
	f, err := New(c, n, name, discovery, stat, cmd)
	fails(t, "New", err, api.OK, nowhere)
	if f == nil || f.Nego != n {
		t.Fatalf("New is %v, and has another Nego", f)
	}
	return &talk{t, f, stat, cmd}
}

// usual is a talk of a session of iqn.a.
func usual(t *testing.T) *talk {
	t.Helper()
	return made(t, conf(), nil, "iqn.a", false, 3, 5)
}

// fields are some fields of a head, by their names.
type fields map[string]uint64

// get is a field of a PDU that has it.
func get(p api.Pdu, name string) uint64 {
	n, err := head.Value(p.Head, name)
	if err != nil {
		panic(err)
	}
	return n
}

// has says whether PDUs of an op have a field.
func has(op int, name string) bool {
	l, _ := head.Fields(op)
	return slices.ContainsFunc(l, func(f api.Field) bool { return f.Name == name })
}

// pdu is one that has its turn, with an ITT of 9 and a TTT that tells nothing, if nothing else is told.
func (k *talk) pdu(op, flags int, data string, told fields) api.Pdu {
	all := fields{"ITT": 9, "TTT": nothing, "CmdSN": uint64(k.cmd)}
	for name, value := range told {
		all[name] = value
	}
	var names []string
	var values []uint64
	for name, value := range all {
		if _, asked := told[name]; asked || has(op, name) {
			names, values = append(names, name), append(values, value)
		}
	}
	h, err := head.Make(op, flags, names, values)
	if err != nil {
		panic(err)
	}
	return api.Pdu{Head: h, Data: data}
}

// ask is a TextRequest.
func (k *talk) ask(flags int, data string, told fields) api.Pdu {
	return k.pdu(api.TextRequest, flags, data, told)
}

// want is what is to be answered.
type want struct {
	op, flags int
	data      string
	told      fields
}

// echo is what a NopOut is answered.
func echo(data string, lun, itt uint64) want {
	return want{api.NopIn, 128, data, fields{"LUN": lun, "ITT": itt, "TTT": nothing}}
}

// end is the last piece of an answer to a text.
func end(said ...string) want { return final(text(said...)) }

// final is likewise, of what is said as text.
func final(data string) want {
	return want{api.TextResponse, 128, data, fields{"ITT": 9, "TTT": nothing}}
}

// part is a piece of an answer that another one comes behind.
func part(data string) want {
	return want{api.TextResponse, 64, data, fields{"ITT": 9, "TTT": 1}}
}

// goOn is what is said to a text that goes on.
func goOn() want {
	return want{api.TextResponse, 0, "", fields{"ITT": 9, "TTT": nothing}}
}

// refused is what is said to a PDU that is refused.
func refused(p api.Pdu, reason int) want {
	h, err := head.Write(p.Head, 0, len(p.Data))
	if err != nil {
		panic(err)
	}
	return want{api.Reject, 128, h, fields{"Reason": uint64(reason), "ITT": nothing}}
}

// text is what pairs are printed as, each of which is told as Key=Value.
func text(l ...string) string {
	var b strings.Builder
	for _, s := range l {
		b.WriteString(s + "\x00")
	}
	return b.String()
}

// is checks all of an answer, which has the next number.
func (k *talk) is(what string, got api.Pdu, w want) {
	k.Helper()
	all := fields{"StatSN": uint64(k.stat), "ExpCmdSN": uint64(k.cmd), "MaxCmdSN": uint64(k.cmd + 31)}
	for name, value := range w.told {
		all[name] = value
	}
	var values []uint64
	l, _ := head.Fields(w.op)
	for _, f := range l {
		values = append(values, all[f.Name])
	}
	if got.Head.Op != w.op || got.Head.Now || got.Head.Flags != w.flags || !slices.Equal(got.Head.Values, values) {
		k.Errorf("%s: the head is %v, want %d, %d, %v", what, got.Head, w.op, w.flags, values)
	}
	if got.Data != w.data || len(got.Ahs) != 0 {
		k.Errorf("%s: %d bytes of data, %.300q, want %d, %.300q; the additional headers are %v", what, len(got.Data), got.Data, len(w.data), w.data, got.Ahs)
	}
	k.stat++
}

// next checks what Closed and Next tell.
func (k *talk) next(what string, closed bool) {
	k.Helper()
	if stat, cmd := k.f.Next(); stat != k.stat || cmd != k.cmd || k.f.Closed() != closed {
		k.Errorf("%s: Next is %d, %d, Closed %v, want %d, %d, %v", what, stat, cmd, k.f.Closed(), k.stat, k.cmd, closed)
	}
}

// take takes a PDU that CMD goes on by so much with, and checks all that is answered.
func (k *talk) take(p api.Pdu, step uint32, wants ...want) {
	k.Helper()
	what := fmt.Sprintf("%v, %.200q", p.Head, p.Data)
	l, err := k.f.Take(p)
	fails(k.T, what, err, api.OK, nowhere)
	k.cmd += step
	if len(l) != len(wants) {
		k.Fatalf("%s: it is answered by %v, want %v", what, l, wants)
	}
	for i, w := range wants {
		k.is(what, l[i], w)
	}
	k.next(what, slices.ContainsFunc(wants, func(w want) bool { return w.op == api.LogoutResponse }))
}

// says takes a PDU that has its turn, and checks what is answered.
func (k *talk) says(p api.Pdu, w want) {
	k.Helper()
	k.take(p, 1, w)
}

// refuses takes a PDU that has its turn, but is refused for 4.
func (k *talk) refuses(p api.Pdu) {
	k.Helper()
	k.take(p, 1, refused(p, 4))
}

// errs takes a PDU that isn't answered, and checks that nothing has changed then.
func (k *talk) errs(what string, p api.Pdu, errno api.Errno) {
	k.Helper()
	closed, record := k.f.Closed(), k.f.Record()
	l, err := k.f.Take(p)
	fails(k.T, what, err, errno, nowhere)
	if len(l) != 0 || !slices.Equal(k.f.Record(), record) {
		k.Errorf("%s: %v beside an error, and the record is %v", what, l, k.f.Record())
	}
	k.next(what, closed)
}

// with gives a session's Nego a value.
func (k *talk) with(key, value string) *talk {
	k.Helper()
	said, err := k.f.Answer([]api.Pair{{Key: key, Value: value}}, true, false)
	fails(k.T, key, err, api.OK, nowhere)
	if len(said) != 0 {
		k.Errorf("%s: %v is said", key, said)
	}
	return k
}

func TestNew(t *testing.T) {
	for _, c := range []api.Conf{conf(), great(), {Limit: 512}} {
		for _, n := range [][2]uint32{{0, 0}, {1, 2}, {math.MaxUint32, 1 << 31}, {1 << 31, math.MaxUint32}} {
			for _, name := range []string{"", "iqn.a", "iqn.c", "\x00", strings.Repeat("n", 1000)} {
				for _, discovery := range []bool{false, true} {
					k := made(t, c, nil, name, discovery, n[0], n[1])
					k.next("a new one", false)
					k.refuses(k.ask(128, "", fields{"TTT": 1}))
				}
			}
		}
	}
}

func TestNewErrors(t *testing.T) {
	for _, x := range []struct {
		what  string
		c     api.Conf
		want  api.Errno
		place int
	}{
		{"nothing", api.Conf{}, api.ErrRange, nowhere},
		{"little data", api.Conf{Limit: 511}, api.ErrRange, nowhere},
		{"much data", api.Conf{Limit: api.MaxData + 1}, api.ErrRange, nowhere},
		{"a wrong target", api.Conf{Targets: []string{"a", ""}}, api.ErrName, 1},
		{"a target twice", api.Conf{Targets: []string{"a", "b", "a"}}, api.ErrName, 2},
		{"a wrong group", api.Conf{Portals: []api.Portal{{Address: "a"}, {Address: "b", Group: -1}}}, api.ErrRange, 1},
		{"a wrong user", api.Conf{Users: []api.User{{Name: "a"}}}, api.ErrName, 0},
		{"no secret", api.Conf{Self: api.User{Name: "a"}}, api.ErrForm, nowhere},
		{"many targets", api.Conf{Targets: make([]string, 9)}, api.ErrLimit, nowhere},
		{"a wrong pair", api.Conf{Limit: 512, Own: []api.Pair{{Key: "MaxBurstLength", Value: "1000"}, {Key: "InitialR2T", Value: "x"}}}, api.ErrForm, 1},
		{"a pair twice", api.Conf{Limit: 512, Own: []api.Pair{{Key: "MaxBurstLength", Value: "1000"}, {Key: "MaxBurstLength", Value: "1000"}}}, api.ErrTwice, 1},
	} {
		n, _ := nego.New(nil)
		f, err := New(x.c, n, "a", true, 1, 2)
		fails(t, x.what, err, x.want, x.place)
		if f != nil {
			t.Errorf("%s: %v beside an error", x.what, f)
		}
	}
}

// TestKeepsNothing: what was handed in may be changed behind New and Take, and isn't itself.
func TestKeepsNothing(t *testing.T) {
	c := conf()
	c.Targets, c.Portals = append(make([]string, 0, 9), c.Targets...), append(make([]api.Portal, 0, 9), c.Portals...)
	k := made(t, c, nil, "iqn.b", true, 3, 5)
	for i := range c.Targets {
		c.Targets[i] = "x"
	}
	c.Portals[0] = api.Portal{Address: "x", Group: 1}
	there := []string{"TargetName=iqn.a", "TargetAddress=h:1,2", "TargetName=iqn.b", "TargetAddress=h:1,2"}
	for _, p := range []api.Pdu{
		k.ask(128, text("SendTargets=All"), fields{"LUN": 7, "ExpStatSN": 8}),
		k.ask(64, "x", fields{"CmdSN": 6}),
		k.ask(128, "x", fields{"CmdSN": 7}),
	} {
		p.Ahs = append(make([]api.Ahs, 0, 9), api.Ahs{Kind: 1, Data: "ab"})
		values, ahs := slices.Clone(p.Head.Values), slices.Clone(p.Ahs[:9])
		switch k.cmd {
		case 5:
			k.says(p, end(there...))
		case 6:
			k.says(p, goOn())
		case 7:
			k.refuses(p)
		}
		if !slices.Equal(values, p.Head.Values) || !slices.Equal(ahs, p.Ahs[:9]) {
			t.Errorf("a PDU was written into: %v", p)
		}
		clear(p.Head.Values)
	}
	k.says(k.ask(128, text("SendTargets="), nil), end(there[2:]...))
	if !slices.Equal(c.Targets[:3], []string{"x", "x", ""}) || !slices.Equal(c.Portals[:2], []api.Portal{{Address: "x", Group: 1}, {}}) {
		t.Errorf("what was handed in was written into: %v", c)
	}
}

// TestAnswersAreFresh: what is answered may be changed.
func TestAnswersAreFresh(t *testing.T) {
	k := made(t, great(), nil, "", true, 3, 5).with("MaxRecvDataSegmentLength", "2048")
	var all string
	for i := range 3 {
		p := k.ask(128, "", fields{"TTT": 1})
		if i == 0 {
			p = k.ask(128, text("SendTargets=All"), nil)
		}
		l, err := k.f.Take(p)
		fails(t, "Take", err, api.OK, nowhere)
		k.cmd, k.stat, all = k.cmd+1, k.stat+1, all+l[0].Data
		clear(l[0].Head.Values)
		l[0] = api.Pdu{}
	}
	if there, _ := target.List(great(), "", true); printed(t, there) != all {
		t.Errorf("all pieces are %q", all)
	}
	p, err := k.f.Refuse(strings.Repeat("h", 48), 1)
	fails(t, "Refuse", err, api.OK, nowhere)
	k.stat++
	clear(p.Head.Values)
	k.says(k.pdu(api.NopOut, 128, "", nil), echo("", 0, 9))
}

// printed are pairs that are right as text.
func printed(t *testing.T, l []api.Pair) string {
	t.Helper()
	s, err := pairs.Print(l)
	fails(t, "Print", err, api.OK, nowhere)
	return s
}

// TestGoesOn: it has what came of offers, and goes on with it; whoever asks the Nego is told the same.
func TestGoesOn(t *testing.T) {
	own := []api.Pair{{Key: "HeaderDigest", Value: "CRC32C"}, {Key: "MaxBurstLength", Value: "1000"}}
	n, _ := nego.New(own)
	record := []api.Pair{{Key: "HeaderDigest", Value: "CRC32C"}, {Key: "InitiatorAlias", Value: "a"}, {Key: "MaxRecvDataSegmentLength", Value: "0x200"}}
	if _, err := n.Answer(record, true, false); err != nil {
		t.Fatal(err)
	}
	f, err := New(conf(), n, "iqn.a", false, 0, 0)
	fails(t, "New", err, api.OK, nowhere)
	k := &talk{T: t, f: f}
	if v, err := f.Own("MaxBurstLength"); v != "1000" || err != nil {
		t.Errorf("Own is %q, %v", v, err)
	}
	if v, err := f.Value("InitiatorAlias"); v != "a" || err != nil || f.Digests() != api.HeadDigest || !slices.Equal(f.Record(), record) {
		t.Errorf("Value is %q, %v, Digests %d, Record %v", v, err, f.Digests(), f.Record())
	}
	k.says(k.ask(128, text("InitiatorAlias=b", "HeaderDigest=None", "X=1"), nil), end("HeaderDigest=Reject", "X=NotUnderstood"))
	record = []api.Pair{record[0], record[2], {Key: "InitiatorAlias", Value: "b"}}
	if !slices.Equal(f.Record(), record) || !slices.Equal(n.Record(), record) {
		t.Errorf("Record is %v, and of the Nego %v, want %v", f.Record(), n.Record(), record)
	}
	k.says(k.pdu(api.NopOut, 128, strings.Repeat("p", 600), nil), echo(strings.Repeat("p", 512), 0, 9))
}

// TestTakeErrors: what isn't answered changes nothing; all errors are bare.
func TestTakeErrors(t *testing.T) {
	for _, x := range []struct {
		what string
		do   func(p *api.Pdu)
		want api.Errno
	}{
		{"no op", func(p *api.Pdu) { p.Head.Op = 7 }, api.ErrArg},
		{"no op below 0", func(p *api.Pdu) { p.Head.Op = -1 }, api.ErrArg},
		{"a flag that may not be", func(p *api.Pdu) { p.Head.Flags |= 32; p.Head.Values = nil }, api.ErrForm},
		{"flags below 0", func(p *api.Pdu) { p.Head.Flags = -1 }, api.ErrForm},
		{"another op, now", func(p *api.Pdu) { p.Head.Op = api.TextResponse; p.Head.Now = true }, api.ErrForm},
		{"no values", func(p *api.Pdu) { p.Head.Values = nil }, api.ErrMissing},
		{"too few", func(p *api.Pdu) { p.Head.Values = p.Head.Values[:4] }, api.ErrMissing},
		{"too many", func(p *api.Pdu) { p.Head.Values = append(p.Head.Values, 0) }, api.ErrMissing},
		{"too great a value", func(p *api.Pdu) { p.Head.Values[3] = 1 << 32 }, api.ErrRange},
		{"not its turn too", func(p *api.Pdu) { p.Head.Values[3] = 1; p.Head.Values[4] = 1 << 32 }, api.ErrRange},
		{"a wrong additional header", func(p *api.Pdu) { p.Ahs = []api.Ahs{{Kind: 1}, {Kind: 256}} }, api.ErrRange},
		{"long additional headers", func(p *api.Pdu) { p.Ahs = []api.Ahs{{Kind: 1, Data: strings.Repeat("d", 1020)}} }, api.ErrLimit},
		{"much data", func(p *api.Pdu) { p.Data = strings.Repeat("d", 100_001) }, api.ErrLimit},
		{"another op, too few values", func(p *api.Pdu) { p.Head.Op = api.NopIn }, api.ErrMissing},
		{"another op, much data", func(p *api.Pdu) {
			p.Head.Op = api.NopIn
			p.Head.Values = make([]uint64, 6)
			p.Data = strings.Repeat("d", 100_001)
		}, api.ErrLimit},
	} {
		k := made(t, great(), nil, "", true, 3, 5)
		k.with("MaxRecvDataSegmentLength", "4096")
		there, _ := target.List(great(), "", true)
		all := printed(t, there)
		k.says(k.ask(128, text("SendTargets=All"), nil), part(all[:4096]))
		p := k.ask(128, text("InitiatorAlias=b"), nil)
		x.do(&p)
		k.errs(x.what, p, x.want)
		k.says(k.ask(128, "", fields{"TTT": 1}), final(all[4096:]))
		k.says(k.pdu(api.LogoutRequest, 128, "", nil), want{api.LogoutResponse, 128, "", fields{"ITT": 9}})
		k.errs(x.what, p, api.ErrState)
	}
}

func TestRefuse(t *testing.T) {
	k := usual(t)
	heads := []string{strings.Repeat("\x00", 48), strings.Repeat("\xff", 48), strings.Repeat("h", 48)}
	for reason := range 256 {
		h := heads[reason%3]
		p, err := k.f.Refuse(h, reason)
		fails(t, fmt.Sprint(reason), err, api.OK, nowhere)
		k.is(fmt.Sprint(reason), p, want{api.Reject, 128, h, fields{"Reason": uint64(reason), "ITT": nothing}})
		k.next(fmt.Sprint(reason), false)
	}
	for _, x := range []struct {
		h      string
		reason int
		want   api.Errno
	}{
		{heads[0], -1, api.ErrRange},
		{heads[0], 256, api.ErrRange},
		{"", math.MinInt, api.ErrRange},
		{"", math.MaxInt, api.ErrRange},
		{heads[0][:47], 256, api.ErrRange},
		{"", 0, api.ErrLimit},
		{heads[0][:47], 255, api.ErrLimit},
		{heads[0] + "h", 2, api.ErrLimit},
		{heads[0] + heads[1], 2, api.ErrLimit},
	} {
		p, err := k.f.Refuse(x.h, x.reason)
		fails(t, fmt.Sprintf("%q, %d", x.h, x.reason), err, x.want, nowhere)
		if fmt.Sprint(p) != fmt.Sprint(api.Pdu{}) {
			t.Errorf("%q, %d: %v beside an error", x.h, x.reason, p)
		}
		k.next("an error", false)
	}
}

// TestRefuseAnywhere: what is refused changes nothing of pieces, of texts, and of what is logged out.
func TestRefuseAnywhere(t *testing.T) {
	k := made(t, great(), nil, "", true, 3, 5).with("MaxRecvDataSegmentLength", "4096")
	refuse := func(closed bool) {
		t.Helper()
		p, err := k.f.Refuse(strings.Repeat("h", 48), 2)
		fails(t, "Refuse", err, api.OK, nowhere)
		k.is("Refuse", p, want{api.Reject, 128, strings.Repeat("h", 48), fields{"Reason": 2, "ITT": nothing}})
		k.next("Refuse", closed)
	}
	there, _ := target.List(great(), "", true)
	all := printed(t, there)
	k.says(k.ask(64, "SendTargets", nil), goOn())
	refuse(false)
	k.says(k.ask(128, "=All\x00", nil), part(all[:4096]))
	refuse(false)
	k.says(k.ask(128, "", fields{"TTT": 1}), final(all[4096:]))
	k.says(k.pdu(api.LogoutRequest, 128, "", nil), want{api.LogoutResponse, 128, "", fields{"ITT": 9}})
	refuse(true)
	refuse(true)
	if _, err := k.f.Refuse("", 2); err == nil {
		t.Error("a head of no bytes is refused")
	}
}

// TestRefusesOps: what is no NopOut, TextRequest or LogoutRequest is refused for 5, whether it has its turn or not, and isn't counted.
func TestRefusesOps(t *testing.T) {
	for op := range 64 {
		if _, err := head.Name(op); err != nil || op == api.NopOut || op == api.TextRequest || op == api.LogoutRequest {
			continue
		}
		k := usual(t)
		for _, data := range []string{"", "d", strings.Repeat("d", 100_000)} {
			for cmd := range uint64(8) {
				p := k.pdu(op, 128, data, nil)
				if has(op, "CmdSN") {
					p = k.pdu(op, 128, data, fields{"CmdSN": cmd})
				}
				p.Ahs = []api.Ahs{{Kind: 1, Data: "abcd"}}
				k.take(p, 0, refused(p, 5))
				if op < 32 {
					p.Head.Now = true
					k.take(p, 0, refused(p, 5))
				}
			}
		}
		k.says(k.pdu(api.NopOut, 128, "", nil), echo("", 0, 9))
	}
}

// TestTurns: what isn't to be done now has its turn, or is refused for 4.
func TestTurns(t *testing.T) {
	for _, cmd := range []uint32{0, 1, 5, 1 << 31, math.MaxUint32 - 1, math.MaxUint32} {
		for _, op := range []int{api.NopOut, api.TextRequest, api.LogoutRequest} {
			k := made(t, conf(), nil, "", false, 3, cmd)
			for _, d := range []uint32{1, 2, 30, 31, 32, 1 << 31, math.MaxUint32, math.MaxUint32 - 1} {
				p := k.pdu(op, 128, text("InitiatorAlias=b"), fields{"CmdSN": uint64(cmd + d)})
				p.Ahs = []api.Ahs{{Kind: 1, Data: "abcd"}}
				k.take(p, 0, refused(p, 4))
			}
			if len(k.f.Record()) != 0 {
				t.Errorf("what has no turn is taken in: %v", k.f.Record())
			}
			data := text("InitiatorAlias=b")
			k.says(k.pdu(op, 128, data, nil), answered(op, data))
		}
	}
}

// answered is what each PDU is answered that asks for nothing much.
func answered(op int, data string) want {
	switch op {
	case api.NopOut:
		return echo(data, 0, 9)
	case api.TextRequest:
		return end()
	}
	return want{api.LogoutResponse, 128, "", fields{"ITT": 9}}
}

// TestNow: what is to be done now has its turn whatever its number is, and isn't counted.
func TestNow(t *testing.T) {
	for _, op := range []int{api.NopOut, api.TextRequest, api.LogoutRequest} {
		for _, cmd := range []uint64{0, 4, 5, 6, 1 << 31, math.MaxUint32} {
			k := usual(t)
			data := text("InitiatorAlias=b")
			p := k.pdu(op, 128, data, fields{"CmdSN": cmd})
			p.Head.Now = true
			k.take(p, 0, answered(op, data))
		}
	}
	k := usual(t)
	for _, p := range []api.Pdu{k.ask(192, "", nil), k.ask(0, "", nil), k.ask(128, "x", nil), k.ask(128, "", fields{"TTT": 1})} {
		p.Head.Now = true
		k.take(p, 0, refused(p, 4))
	}
}

// TestNumbersGoRound: each answer has the next number, modulo 2^32, and tells of the next command.
func TestNumbersGoRound(t *testing.T) {
	for back := range uint32(40) {
		k := made(t, conf(), nil, "", false, math.MaxUint32-back, math.MaxUint32-back/2)
		for range 45 {
			k.says(k.pdu(api.NopOut, 128, "p", nil), echo("p", 0, 9))
		}
		k.says(k.ask(128, "", nil), end())
		k.says(k.pdu(api.LogoutRequest, 128, "", nil), want{api.LogoutResponse, 128, "", fields{"ITT": 9}})
	}
}

// TestNobodyWaits: a NopOut whose ITT tells nothing isn't answered, nor counted, but has its turn.
func TestNobodyWaits(t *testing.T) {
	k := usual(t)
	for _, flags := range []int{0, 128} {
		p := k.pdu(api.NopOut, flags, "p", fields{"ITT": nothing, "LUN": 3, "TTT": 4})
		k.take(p, 0)
		k.take(p, 0)
		p = k.pdu(api.NopOut, flags, "p", fields{"ITT": nothing, "CmdSN": 6})
		k.take(p, 0, refused(p, 4))
		p.Head.Now = true
		k.take(p, 0)
	}
	k.says(k.pdu(api.NopOut, 128, "p", fields{"ITT": nothing - 1}), echo("p", 0, nothing-1))
	k.says(k.ask(128, "", fields{"ITT": nothing}), want{api.TextResponse, 128, "", fields{"ITT": nothing, "TTT": nothing}})
	k.says(k.pdu(api.LogoutRequest, 128, "", fields{"ITT": nothing}), want{api.LogoutResponse, 128, "", fields{"ITT": nothing}})
}

func TestEcho(t *testing.T) {
	k := usual(t)
	var every strings.Builder
	for i := range 256 {
		every.WriteByte(byte(i))
	}
	for _, flags := range []int{0, 128} {
		for _, lun := range []uint64{0, 1, 1 << 63, math.MaxUint64} {
			for _, itt := range []uint64{0, 1, 1 << 31, nothing - 1} {
				for _, ttt := range []uint64{0, 1, nothing} {
					p := k.pdu(api.NopOut, flags, every.String(), fields{"LUN": lun, "ITT": itt, "TTT": ttt, "ExpStatSN": 77})
					p.Ahs = []api.Ahs{{Kind: 1, Data: "abcd"}}
					k.says(p, echo(every.String(), lun, itt))
				}
			}
		}
	}
}

// most are values of MaxRecvDataSegmentLength, and how much data an answer may have with them.
func most() map[string]int {
	return map[string]int{
		"": 8192, "512": 512, "0x200": 512, "513": 513, "8192": 8192, "19999": 19_999, "20000": 20_000, "0x4e20": 20_000,
		"20001": 20_000, "0x4E21": 20_000, "65536": 20_000, "16777215": 20_000,
	}
}

// TestMost: an answer has as much data as it may have.
func TestMost(t *testing.T) {
	for value, n := range most() {
		k := usual(t)
		if value != "" {
			k.with("MaxRecvDataSegmentLength", value)
		}
		data := strings.Repeat("pingpong", 2600)
		for _, size := range []int{0, 1, 511, 512, 513, n - 1, n, n + 1, 20_000, 20_001, 20_800} {
			k.says(k.pdu(api.NopOut, 128, data[:size], nil), echo(data[:min(size, n)], 0, 9))
		}
		long := strings.Repeat("d", 100_000)
		k.says(k.pdu(api.NopOut, 128, long, nil), echo(long[:n], 0, 9))
	}
}

// TestLogOut: whatever flags it has, it is logged out, and nothing is taken any more.
func TestLogOut(t *testing.T) {
	for flags := range 256 {
		k := usual(t)
		k.says(k.ask(64, "Initiat", nil), goOn())
		p := k.pdu(api.LogoutRequest, flags, "", fields{"ITT": uint64(flags), "CID": uint64(flags / 2), "ExpStatSN": 7})
		p.Ahs, p.Data = []api.Ahs{{Kind: 1, Data: "abcd"}}, strings.Repeat("d", flags)
		k.says(p, want{api.LogoutResponse, 128, "", fields{"ITT": uint64(flags)}})
		for _, p := range []api.Pdu{
			k.pdu(api.NopOut, 128, "", nil), k.pdu(api.NopOut, 128, "", fields{"ITT": nothing}), k.ask(128, "", nil), p,
			k.pdu(api.ScsiCommand, 128, "", nil), k.pdu(api.NopIn, 128, "", nil), {}, {Head: api.Head{Op: -1}},
		} {
			k.errs("logged out", p, api.ErrState)
		}
	}
}
