package full

import (
	"fmt"
	"slices"
	"strings"
	"testing"

	"quaymaster/api"
	"quaymaster/gather"
	"quaymaster/target"
)

// TestWhoIsThere: each SendTargets is answered in its turn.
func TestWhoIsThere(t *testing.T) {
	a := []string{"TargetName=iqn.a", "TargetAddress=h:1,2"}
	b := []string{"TargetName=iqn.b", "TargetAddress=h:1,2"}
	no := []string{"SendTargets=Reject"}
	both := slices.Concat(a, b)
	for _, x := range []struct {
		name      string
		discovery bool
		asked     []string
		said      []string
	}{
		{"iqn.a", false, []string{"SendTargets="}, a},
		{"iqn.b", false, []string{"SendTargets="}, b},
		{"iqn.b", true, []string{"SendTargets="}, b},
		{"iqn.a", false, []string{"SendTargets=iqn.b"}, b},
		{"iqn.b", true, []string{"SendTargets=iqn.a"}, a},
		{"", false, []string{"SendTargets=iqn.a"}, a},
		{"", true, []string{"SendTargets=iqn.b"}, b},
		{"", true, []string{"SendTargets="}, no},
		{"", false, []string{"SendTargets="}, no},
		{"iqn.c", false, []string{"SendTargets="}, no},
		{"iqn.c", false, []string{"SendTargets=iqn.a"}, a},
		{"iqn.a", false, []string{"SendTargets=iqn.c"}, no},
		{"iqn.a", true, []string{"SendTargets=iqn.c"}, no},
		{"iqn.a", true, []string{"SendTargets=IQN.A"}, no},
		{"iqn.a", false, []string{"SendTargets=iqn"}, no},
		{"iqn.a", true, []string{"SendTargets=All"}, both},
		{"", true, []string{"SendTargets=All"}, both},
		{"iqn.c", true, []string{"SendTargets=All"}, both},
		{"iqn.a", false, []string{"SendTargets=All"}, no},
		{"All", false, []string{"SendTargets="}, no},
		{"All", true, []string{"SendTargets="}, no},
		{"iqn.a", true, []string{"SendTargets=all"}, no},
		{"iqn.a", true, []string{"SendTargets=All "}, no},
		{"iqn.a", true, []string{"SendTargets=All", "SendTargets=iqn.a", "SendTargets=x", "SendTargets=iqn.b", "SendTargets="}, slices.Concat(both, a, no, b, a)},
		{"iqn.a", false, []string{"SendTargets=All", "SendTargets=All", "SendTargets=", "SendTargets="}, slices.Concat(no, no, a, a)},
		{"iqn.a", false, []string{"X=1", "SendTargets=iqn.b", "Y=2", "SendTargets=All", "InitiatorAlias=n", "TargetName=iqn.b"}, slices.Concat(b, no, []string{"X=NotUnderstood", "Y=NotUnderstood", "TargetName=Reject"})},
		{"iqn.a", false, []string{"Sendtargets=", "SendTargets=", "SendTargetsX=All"}, slices.Concat(a, []string{"Sendtargets=NotUnderstood", "SendTargetsX=NotUnderstood"})},
		{"iqn.a", false, nil, nil},
	} {
		k := made(t, conf(), nil, x.name, x.discovery, 3, 5)
		k.says(k.ask(128, text(x.asked...), nil), end(x.said...))
		k.says(k.ask(128, text(x.asked...), nil), end(x.said...))
	}
}

// TestWhoIsThereOfOthers: of what else a target may be told.
func TestWhoIsThereOfOthers(t *testing.T) {
	for _, x := range []struct {
		what      string
		c         api.Conf
		name      string
		discovery bool
		asked     string
		said      []string
	}{
		{"no portals", api.Conf{Targets: []string{"iqn.a"}, Limit: 512}, "", true, "All", []string{"TargetName=iqn.a"}},
		{"no targets", api.Conf{Portals: conf().Portals, Limit: 512}, "", true, "All", nil},
		{"no targets, no discovery", api.Conf{Limit: 512}, "", false, "All", []string{"SendTargets=Reject"}},
		{"no target", api.Conf{Limit: 512}, "iqn.a", false, "", []string{"SendTargets=Reject"}},
		{"a target of that name, all", api.Conf{Targets: []string{"All", "b"}, Limit: 512}, "All", true, "All", []string{"TargetName=All", "TargetName=b"}},
		{"a target of that name, no discovery", api.Conf{Targets: []string{"All", "b"}, Limit: 512}, "All", false, "All", []string{"SendTargets=Reject"}},
		{"a target of that name, its own", api.Conf{Targets: []string{"b", "All"}, Limit: 512}, "All", false, "", []string{"TargetName=All"}},
		{"a target of that name, its own, in a discovery", api.Conf{Targets: []string{"b", "All"}, Limit: 512}, "All", true, "", []string{"TargetName=All"}},
		{"portals", api.Conf{Targets: []string{"b"}, Portals: []api.Portal{{Address: "x", Group: 0}, {Address: "x", Group: 65535}}, Limit: 512}, "b", false, "", []string{"TargetName=b", "TargetAddress=x,0", "TargetAddress=x,65535"}},
	} {
		k := made(t, x.c, nil, x.name, x.discovery, 3, 5)
		k.says(k.ask(128, text("SendTargets="+x.asked), nil), end(x.said...))
	}
}

// TestOffers: behind a login just some keys may be told, as often as somebody likes, but once in a text.
func TestOffers(t *testing.T) {
	for _, discovery := range []bool{false, true} {
		k := made(t, conf(), []api.Pair{{Key: "MaxBurstLength", Value: "1000"}}, "iqn.a", discovery, 3, 5)
		k.records()
		k.says(k.ask(128, text("MaxRecvDataSegmentLength=1024", "InitiatorAlias=n"), nil), end())
		k.records("MaxRecvDataSegmentLength=1024", "InitiatorAlias=n")
		k.says(k.ask(128, text("InitiatorAlias=m", "InitiatorName=x", "MaxRecvDataSegmentLength=0x800"), nil), end("InitiatorName=Reject"))
		k.records("InitiatorAlias=m", "MaxRecvDataSegmentLength=0x800")
		k.says(k.ask(128, text("MaxBurstLength=512", "HeaderDigest=None", "InitiatorAlias=", "MaxRecvDataSegmentLength=1", "Zz=", "SessionType=Normal"), nil),
			end("MaxBurstLength=Reject", "HeaderDigest=Reject", "InitiatorAlias=Reject", "MaxRecvDataSegmentLength=Reject", "Zz=NotUnderstood", "SessionType=Reject"))
		k.refuses(k.ask(128, text("InitiatorAlias=o", "X=", "InitiatorAlias=o"), nil))
		k.refuses(k.ask(128, text("SendTargets=", "X=", "InitiatorAlias=o", "X="), nil))
		k.records("InitiatorAlias=m", "MaxRecvDataSegmentLength=0x800")
		k.says(k.ask(128, text("InitiatorAlias=o"), nil), end())
		k.records("MaxRecvDataSegmentLength=0x800", "InitiatorAlias=o")
	}
}

// records checks what is recorded, each of which is told as Key=Value.
func (k *talk) records(l ...string) {
	k.Helper()
	if got := printed(k.T, k.f.Record()); got != text(l...) {
		k.Errorf("Record is %q, want %q", got, l)
	}
}

// TestCut: however a text is cut, it is answered so.
func TestCut(t *testing.T) {
	s := text("SendTargets=", "X=1", "SendTargets=All", "InitiatorAlias=n")
	w := end("TargetName=iqn.a", "TargetAddress=h:1,2", "SendTargets=Reject", "X=NotUnderstood")
	for i := range len(s) + 1 {
		for j := i; j <= len(s); j++ {
			k := usual(t)
			k.says(k.ask(64, s[:i], nil), goOn())
			if len(k.f.Record()) != 0 {
				t.Errorf("%q is taken in", s[:i])
			}
			k.says(k.ask(64, s[i:j], nil), goOn())
			k.says(k.ask(128, s[j:], nil), w)
			if v, _ := k.f.Value("InitiatorAlias"); v != "n" {
				t.Errorf("InitiatorAlias is %q", v)
			}
			k.says(k.ask(128, "", nil), end())
		}
	}
}

// TestLength: a text may have 8192 bytes, whether it comes in one PDU or in many.
func TestLength(t *testing.T) {
	var l []string
	for i := range 32 {
		l = append(l, fmt.Sprintf("X%02d=%s", i, strings.Repeat("v", 251)))
	}
	s := text(l...)
	if len(s) != 32*256 {
		t.Fatalf("it has %d bytes", len(s))
	}
	for i := range l {
		l[i] = l[i][:4] + "NotUnderstood"
	}
	k := usual(t)
	k.says(k.ask(128, s, nil), end(l...))
	for _, cut := range []int{1, 4096, 8191, 8192} {
		k.says(k.ask(64, s[:cut], nil), goOn())
		k.says(k.ask(128, s[cut:], nil), end(l...))
	}
	long := text("Y=1") + s
	k.refuses(k.ask(128, long, nil))
	k.refuses(k.ask(64, long, nil))
	k.says(k.ask(128, "", nil), end())
	k.says(k.ask(64, s, nil), goOn())
	k.refuses(k.ask(64, "Y", nil))
	k.says(k.ask(128, text("Z=1"), nil), end("Z=NotUnderstood"))
	k.says(k.ask(64, s, nil), goOn())
	k.refuses(k.ask(128, "Y", nil))
	k.says(k.ask(64, "", nil), goOn())
	k.says(k.ask(128, s, nil), end(l...))
}

// TestWrongTexts: what can't be parsed is refused, and forgotten.
func TestWrongTexts(t *testing.T) {
	var many []string
	for i := range 61 {
		many = append(many, fmt.Sprintf("X%d=", i))
	}
	for _, s := range []string{
		"x", "X=", "X=1", "\x00", text("X"), text("x=1"), text("=1"), text("X=1", "x=1"), text("X=1") + "Y=2", text("X=\xff"), text("X=\n"),
		text("X=" + strings.Repeat("v", 256)), text(strings.Repeat("K", 64) + "="), text(many...), text("SendTargets"), "SendTargets=All",
		text("SendTargets=\x01"), text("InitiatorAlias=n") + "y", text("X=1", "X=2"),
	} {
		for i := range len(s) {
			k := usual(t)
			if i > 0 {
				k.says(k.ask(64, s[:i], nil), goOn())
			}
			k.refuses(k.ask(128, s[i:], nil))
			k.records()
			k.says(k.ask(128, text("SendTargets="), nil), end("TargetName=iqn.a", "TargetAddress=h:1,2"))
		}
	}
}

// TestBothFlags: who tells of a text that it both ends and goes on, or neither, is refused. What came with it is taken in as far as it goes on.
func TestBothFlags(t *testing.T) {
	k := usual(t)
	k.refuses(k.ask(0, text("InitiatorAlias=n"), nil))
	k.records()
	k.says(k.ask(128, text("X=1"), nil), end("X=NotUnderstood"))
	k.says(k.ask(64, "SendTa", nil), goOn())
	k.refuses(k.ask(0, "rgets=\x00", nil))
	k.says(k.ask(128, text("X=1"), nil), end("X=NotUnderstood"))
	k.refuses(k.ask(0, "X", nil))
	k.says(k.ask(128, text("X=1"), nil), end("X=NotUnderstood"))
	k.says(k.ask(64, "SendTa", nil), goOn())
	k.refuses(k.ask(192, "rgets", nil))
	k.says(k.ask(128, "=\x00", nil), end("TargetName=iqn.a", "TargetAddress=h:1,2"))
	k.refuses(k.ask(192, "SendTargets=iqn.b\x00", nil))
	k.says(k.ask(128, "", nil), end("TargetName=iqn.b", "TargetAddress=h:1,2"))
	k.refuses(k.ask(192, strings.Repeat("x", 8193), nil))
	k.says(k.ask(128, "", nil), end())
}

// TestItt: each piece has the ITT of what asks for it, and no LUN.
func TestItt(t *testing.T) {
	k, all := long(t, "2048")
	told := fields{"ITT": 1, "LUN": 77, "ExpStatSN": 78}
	k.says(k.ask(64, "Send", told), want{api.TextResponse, 0, "", fields{"ITT": 1, "TTT": nothing}})
	told["ITT"] = 2
	p := k.ask(128, "Targets=All\x00", told)
	p.Ahs = []api.Ahs{{Kind: 1, Data: "abcd"}}
	k.says(p, want{api.TextResponse, 64, all[:2048], fields{"ITT": 2, "TTT": 1}})
	k.says(k.ask(0, "", fields{"ITT": 1 << 31, "TTT": 1, "LUN": 5}), want{api.TextResponse, 64, all[2048:4096], fields{"ITT": 1 << 31, "TTT": 1}})
	p = k.ask(128, "", fields{"ITT": 0, "TTT": 1})
	p.Ahs = []api.Ahs{{Kind: 1, Data: "abcd"}}
	k.says(p, want{api.TextResponse, 128, all[4096:], fields{"ITT": 0, "TTT": nothing}})
}

// long is a talk in a discovery of much, whose answers have just so much data, and all that is there.
func long(t *testing.T, value string) (*talk, string) {
	t.Helper()
	there, err := target.List(great(), "", true)
	fails(t, "List", err, api.OK, nowhere)
	return made(t, great(), nil, "", true, 3, 5).with("MaxRecvDataSegmentLength", value), printed(t, there)
}

// TestPieces: an answer comes in pieces of as much data as it may have, and all of it does.
func TestPieces(t *testing.T) {
	for value, n := range most() {
		if value == "" {
			continue
		}
		k, all := long(t, value)
		for range 2 {
			l, err := gather.Split(all, n)
			fails(t, "Split", err, api.OK, nowhere)
			p := k.ask(128, text("SendTargets=All"), nil)
			for i, piece := range l {
				if i == len(l)-1 {
					k.says(p, final(piece))
				} else {
					k.says(p, part(piece))
				}
				p = k.ask(128*(i&1), "", fields{"TTT": 1})
			}
			k.refuses(p)
		}
	}
}

// TestWholePieces: there is no piece without data behind one that is full.
func TestWholePieces(t *testing.T) {
	for n, pieces := range map[int]int{7: 1, 8: 1, 9: 2, 15: 2, 16: 2, 17: 3} {
		var asked, said []string
		for i := range n {
			key := fmt.Sprintf("X%048d", i)
			asked, said = append(asked, key+"="), append(said, key+"=NotUnderstood")
		}
		s := text(said...)
		if len(s) != 64*n {
			t.Fatalf("%d bytes are said", len(s))
		}
		k := usual(t).with("MaxRecvDataSegmentLength", "512")
		p := k.ask(128, text(asked...), nil)
		for i := range pieces - 1 {
			k.says(p, part(s[512*i:512*i+512]))
			p = k.ask(128, "", fields{"TTT": 1})
		}
		k.says(p, final(s[512*(pieces-1):]))
		k.refuses(k.ask(128, "", fields{"TTT": 1}))
	}
}

// TestMostOfItsOwn: what a text tells of how much data an answer may have goes for its own answer, too.
func TestMostOfItsOwn(t *testing.T) {
	k, all := long(t, "8192")
	k.says(k.ask(128, text("SendTargets=All"), nil), final(all))
	k.says(k.ask(128, text("SendTargets=All", "MaxRecvDataSegmentLength=4096"), nil), part(all[:4096]))
	k.says(k.ask(128, "", fields{"TTT": 1}), final(all[4096:]))
	k.says(k.ask(128, text("SendTargets=All", "MaxRecvDataSegmentLength=3000"), nil), part(all[:3000]))
	if _, err := k.f.Answer([]api.Pair{{Key: "MaxRecvDataSegmentLength", Value: "8192"}}, false, false); err != nil {
		t.Error(err)
	}
	k.says(k.pdu(api.NopOut, 128, strings.Repeat("p", 9000), nil), echo(strings.Repeat("p", 8192), 0, 9))
	k.says(k.ask(128, "", fields{"TTT": 1}), final(all[3000:]))
}

// TestAsksForPieces: just who asks for the next piece as they may is told it; with all others it stays.
func TestAsksForPieces(t *testing.T) {
	k, all := long(t, "2048")
	k.says(k.ask(64, "SendTar", nil), goOn())
	k.refuses(k.ask(128, "", fields{"TTT": 1}))
	k.refuses(k.ask(128, "gets=All\x00", fields{"TTT": 1}))
	k.says(k.ask(128, "gets=All\x00", nil), part(all[:2048]))
	wrong := func() {
		t.Helper()
		for _, ttt := range []uint64{0, 2, 3, 1 << 31, nothing - 1} {
			k.refuses(k.ask(128, "", fields{"TTT": ttt}))
		}
		k.refuses(k.ask(128, "d", fields{"TTT": 1}))
		k.refuses(k.ask(128, text("X=1"), fields{"TTT": 1}))
		k.refuses(k.ask(64, "", fields{"TTT": 1}))
		k.refuses(k.ask(192, "", fields{"TTT": 1}))
		k.refuses(k.ask(64, "d", fields{"TTT": 0}))
		p := k.ask(128, "", fields{"TTT": 1, "CmdSN": 4})
		k.take(p, 0, refused(p, 4))
		p = k.ask(128, text("X=1"), fields{"CmdSN": 4})
		k.take(p, 0, refused(p, 4))
		p = k.pdu(api.ScsiCommand, 128, "", nil)
		k.take(p, 0, refused(p, 5))
		k.says(k.pdu(api.NopOut, 128, "p", nil), echo("p", 0, 9))
	}
	wrong()
	p := k.ask(128, "", fields{"TTT": 1, "CmdSN": 4})
	p.Head.Now = true
	k.take(p, 0, part(all[2048:4096]))
	wrong()
	k.says(k.ask(0, "", fields{"TTT": 1}), final(all[4096:]))
	wrong()
	k.refuses(k.ask(128, "", fields{"TTT": 1}))
	k.refuses(k.ask(0, "", fields{"TTT": 1}))
}

// TestForgetsPieces: with another text, whatever comes of it, no piece is left any more.
func TestForgetsPieces(t *testing.T) {
	for _, x := range []struct {
		flags int
		data  string
		w     []want // none: it is refused
	}{
		{64, "", []want{goOn()}},
		{64, "x", []want{goOn()}},
		{128, "", []want{end()}},
		{128, text("X=1"), []want{end("X=NotUnderstood")}},
		{128, "x", nil},
		{128, text("X=1", "X=1"), nil},
		{128, strings.Repeat("x", 8193), nil},
		{64, strings.Repeat("x", 8193), nil},
		{192, "", nil},
		{0, "", nil},
	} {
		k, all := long(t, "2048")
		k.says(k.ask(128, text("SendTargets=All"), nil), part(all[:2048]))
		p := k.ask(x.flags, x.data, nil)
		if x.w == nil {
			x.w = []want{refused(p, 4)}
		}
		k.take(p, 1, x.w...)
		k.refuses(k.ask(128, "", fields{"TTT": 1}))
		k.refuses(k.ask(0, "", fields{"TTT": 1}))
	}
	k, all := long(t, "2048")
	k.says(k.ask(128, text("SendTargets=All"), nil), part(all[:2048]))
	k.says(k.ask(128, text("X=1", "SendTargets=All"), nil), part(all[:2048]))
	k.says(k.ask(128, "", fields{"TTT": 1}), part(all[2048:4096]))
	k.says(k.ask(128, "", fields{"TTT": 1}), final(all[4096:]+text("X=NotUnderstood")))
}

// TestManyPairs: no more may be said than there may be pairs; what was offered with these is taken in all the same.
func TestManyPairs(t *testing.T) {
	k, all := long(t, "20000") // 40 pairs
	var asked, said []string
	for i := range 20 {
		asked, said = append(asked, fmt.Sprintf("X%d=", i)), append(said, fmt.Sprintf("X%d=NotUnderstood", i))
	}
	k.says(k.ask(128, text(append([]string{"SendTargets=All"}, asked...)...), nil), final(all+text(said...)))
	k.refuses(k.ask(128, text(append([]string{"SendTargets=All", "InitiatorAlias=n", "Y="}, asked...)...), nil))
	k.records("MaxRecvDataSegmentLength=20000", "InitiatorAlias=n")
	k.refuses(k.ask(128, "", fields{"TTT": 1}))
	k.refuses(k.ask(128, text("SendTargets=All", "SendTargets=All"), nil))
	var often []string
	for range 60 {
		often = append(often, "SendTargets=x")
	}
	said = slices.Repeat([]string{"SendTargets=Reject"}, 60)
	k.says(k.ask(128, text(often...), nil), end(said...))
	for i := range often {
		often[i] = "SendTargets=All"
	}
	k.refuses(k.ask(128, text(often...), nil))
}
