package engine

import (
	"fmt"
	"math/rand"
	"slices"
	"strings"
	"testing"

	"quaymaster/api"
	"quaymaster/binary"
	"quaymaster/chap"
	"quaymaster/full"
	"quaymaster/head"
	"quaymaster/login"
	"quaymaster/pdu"
)

// reading is a connection as the chapter tells it, sentence by sentence, of bytes that are all there, without a feed.
type reading struct {
	c     api.Conf
	login *login.Login
	full  *full.Full
	mode  int
	over  bool
	lost  bool // it is over by what was no PDU: no bytes are there any more
	end   int  // behind which byte that is so
	said  string
}

// begun is a reading of nothing.
func begun(c api.Conf) reading {
	l, _ := login.New(c, draw)
	return reading{c: c, login: l}
}

// next is the reading behind one PDU more, of which s is the rest; false: it isn't all there.
func (r reading) next(s string) (reading, bool) {
	r.said = ""
	if r.over || len(s) < 48 {
		return r, false
	}
	if int(s[5])<<16+int(s[6])<<8+int(s[7]) > r.c.Limit {
		return r.stopped(48), true
	}
	size, _ := pdu.Size(s, r.mode)
	if len(s) < size {
		return r, false
	}
	p, _, err := pdu.Read(s, r.mode)
	switch api.Tell(err) {
	case api.OK:
		return r.behind(size).heard(p), true
	case api.ErrFalse:
		p, err := r.full.Refuse(s[:48], 2)
		return r.behind(size).answered(err, p), true
	}
	return r.stopped(size), true
}

// behind is a reading that many bytes later.
func (r reading) behind(n int) reading {
	r.end += n
	return r
}

// stopped is one that is over that many bytes later.
func (r reading) stopped(n int) reading {
	r = r.behind(n)
	r.over, r.lost = true, true
	return r
}

// answered is one in which something is said, unless there is an error.
func (r reading) answered(err error, l ...api.Pdu) reading {
	r.over = err != nil
	for _, p := range l {
		s, _ := pdu.Write(p, r.mode)
		r.said += s
	}
	return r
}

// heard is one in which a PDU has come.
func (r reading) heard(p api.Pdu) reading {
	if r.full != nil {
		l, err := r.full.Take(p)
		r = r.answered(err, l...)
		r.over = r.over || r.full.Closed()
		return r
	}
	out, err := r.login.Take(p)
	if err != nil {
		r.over = true
		return r
	}
	r = r.answered(nil, out)
	done, failed := r.login.Over()
	r.over = failed
	if done {
		_, name, discovery := r.login.Who()
		r.full, _ = full.New(r.c, r.login.Nego, name, discovery, r.login.Stat(), r.login.Command())
		r.mode = r.login.Digests()
	}
	return r
}

// talked is what comes in a talk: often, but not always, what may come next; and how far the reading is behind each PDU.
func talked(rnd *rand.Rand, c api.Conf) (string, []reading) {
	l := []reading{begun(c)}
	var s string
	for range 2 + rnd.Intn(12) {
		r := l[len(l)-1]
		if r.full == nil {
			s += entering(rnd, r)
		} else {
			s += asking(rnd, r)
		}
		for ok := true; ok; {
			if r, ok = r.next(s[r.end:]); ok {
				l = append(l, r)
			}
		}
	}
	return s, l
}

// marred are bytes of which now and then one isn't as it was, or some are missing at the end.
func marred(rnd *rand.Rand, s string, seldom int) string {
	switch rnd.Intn(seldom) {
	case 0:
		return turned(s, rnd.Intn(len(s)))
	case 1:
		return s[:rnd.Intn(len(s))]
	}
	return s
}

// some are some of words.
func some(rnd *rand.Rand, most int, words ...string) []string {
	rnd.Shuffle(len(words), func(i, j int) { words[i], words[j] = words[j], words[i] })
	return words[:rnd.Intn(most+1)]
}

// entering are bytes of a login.
func entering(rnd *rand.Rand, r reading) string {
	l := some(rnd, 4, "HeaderDigest=CRC32C", "DataDigest=CRC32C,None", "DataDigest=CRC32C", "MaxRecvDataSegmentLength=512", "InitialR2T=No", "X=1")
	flags := 135
	switch stat := r.login.Stat(); {
	case stat == 0:
		who := []string{"TargetName=iqn.a", "SessionType=Discovery", "TargetName=iqn.a", "TargetName=iqn.c"}
		l = append([]string{"InitiatorName=me", who[rnd.Intn(len(who)-rnd.Intn(2))]}, l...)
	case rnd.Intn(3) > 0:
		l = nil
	}
	if len(r.c.Users) > 0 {
		flags = 0
		user, _, _ := r.login.Who()
		switch stat := r.login.Stat(); {
		case stat == 0:
			l = append(l, "AuthMethod=CHAP", "CHAP_A=5")
		case user == "" && rnd.Intn(8) > 0:
			flags = 131
			l = append(l, "CHAP_N=u", "CHAP_R="+proof())
		}
	} else if rnd.Intn(3) == 0 {
		flags = []int{4, 68, 0, 129}[rnd.Intn(4)]
	}
	data := text(l...)
	if flags&64 != 0 && rnd.Intn(2) == 0 {
		data = "" // the rest comes as if it were the first one
	}
	s, _ := pdu.Write(whole(api.LoginRequest, flags, data, fields{"CmdSN": uint64(rnd.Intn(3))}), r.mode)
	return marred(rnd, s, 40)
}

// proof is what the user's secret makes of the challenge.
func proof() string {
	r, _ := chap.Response(draw.Id, "s", draw.Challenge)
	return binary.Hex(r)
}

// asking are bytes of what comes behind a login.
func asking(rnd *rand.Rand, r reading) string {
	ops := []int{api.NopOut, api.NopOut, api.TextRequest, api.TextRequest, api.ScsiCommand, api.LogoutRequest}
	op := ops[rnd.Intn(len(ops)-min(1, rnd.Intn(4)))]
	_, cmd := r.full.Next()
	told := fields{"CmdSN": uint64(cmd)}
	if rnd.Intn(8) == 0 {
		told["ITT"] = nothing
	}
	data := text(some(rnd, 3, "SendTargets=All", "SendTargets=", "InitiatorAlias=a", "MaxRecvDataSegmentLength=600", "X=1")...)
	flags := 128
	if op == api.TextRequest && rnd.Intn(4) == 0 {
		flags, data = 64, data[:len(data)/2]
	}
	if op == api.TextRequest && rnd.Intn(4) == 0 {
		told["TTT"], data = 1, ""
	}
	if rnd.Intn(20) == 0 {
		data = strings.Repeat("d", r.c.Limit+rnd.Intn(2))
	}
	p := whole(op, flags, data, told)
	p.Head.Now = rnd.Intn(6) == 0
	if rnd.Intn(6) == 0 {
		p.Ahs = []api.Ahs{{Kind: 1, Data: "ahs"}}
	}
	s, _ := pdu.Write(p, r.mode)
	if r.mode&api.DataDigest != 0 && data != "" && rnd.Intn(4) == 0 {
		return turned(s, len(s)-1)
	}
	return marred(rnd, s, 40)
}

// TestHoweverCut holds talks, cut anywhere, against the reading, behind each part.
func TestHoweverCut(t *testing.T) {
	rnd := rand.New(rand.NewSource(18))
	seen := map[string]int{}
	for range 4_000 {
		c := []api.Conf{open(), open(), shut()}[rnd.Intn(3)]
		c.Limit = 512 + rnd.Intn(100)
		s, l := talked(rnd, c)
		for _, r := range l {
			seen[fmt.Sprint(r.mode, r.over, r.lost, r.full != nil)]++
			if len(r.said) > 0 {
				seen[fmt.Sprint(r.mode, " says ", r.said[0])]++
			}
		}
		for _, most := range []int{0, 1, 7, 60, 400} {
			held(t, rnd, made(t, c), s, l, most)
		}
	}
	for mode := range 4 {
		for _, what := range []string{"%d false false true", "%d true true true", "%d true false true", "%d says 32", "%d says 36", "%d says 38", "%d says 63"} {
			if what = fmt.Sprintf(what, mode); seen[what] < 30 {
				t.Errorf("few talks come to %s: %v", what, seen)
			}
		}
	}
	if seen["0 true false false"] < 30 || seen["0 true true false"] < 30 {
		t.Errorf("few logins fail: %v", seen)
	}
}

// held puts bytes in, in parts of at most so many (0: in one), and holds it against what it is to be behind each of them.
func held(t *testing.T, rnd *rand.Rand, e *Engine, s string, l []reading, most int) {
	t.Helper()
	given, taken := 0, 0
	for at := 0; at < len(s); {
		n := len(s) - at
		if most > 0 {
			n = min(n, rnd.Intn(most+1))
		}
		if !e.Over() {
			given += n
		}
		said := e.Bytes(s[at : at+n])
		at += n
		want := ""
		for taken+1 < len(l) && l[taken+1].end <= at {
			taken++
			want += l[taken].said
		}
		r := l[taken]
		kept := given - r.end
		if r.lost {
			kept = 0
		}
		if is := (state{e.Mode(), e.Kept(), e.Over(), e.Full() != nil}); is != (state{r.mode, kept, r.over, r.full != nil}) || said != want {
			t.Fatalf("%.2000q, behind %d bytes: it is %+v, and said %.600q, want %d, %d, %v, %v, and %.600q", s, at, is, said, r.mode, kept, r.over, r.full != nil, want)
		}
	}
	alike(t, e, l[len(l)-1])
}

// alike checks that all that an engine's Login and Full tell is what they are to.
func alike(t *testing.T, e *Engine, r reading) {
	t.Helper()
	tells := func(l *login.Login, f *full.Full) string {
		done, failed := l.Over()
		user, name, discovery := l.Who()
		all := fmt.Sprint(done, failed, user, name, discovery, l.Stat(), l.Command(), l.Record())
		if f != nil {
			stat, cmd := f.Next()
			all += fmt.Sprint(stat, cmd, f.Closed(), f.Record())
		}
		return all
	}
	if got, want := tells(e.Login(), e.Full()), tells(r.login, r.full); got != want {
		t.Fatalf("it tells %s, want %s", got, want)
	}
}

// TestEachCut cuts a talk in two, at each place.
func TestEachCut(t *testing.T) {
	for mode := range 4 {
		bad := turned(ping(t, "hello", 5, mode), 48+4*(mode&1))
		s := hello(t, offers(mode)...) + ping(t, "a", 5, mode)
		want := welcome(t, offers(mode)...) + pong(t, "a", 1, 6, mode)
		stat, cmd := uint64(2), uint64(6)
		if mode&api.DataDigest != 0 {
			s += bad
			want += refusal(t, bad[:48], 2, stat, cmd, mode)
			stat++
		}
		s += logout(t, cmd, mode)
		want += bye(t, stat, cmd+1, mode)
		for cut := range len(s) + 1 {
			e := made(t, open())
			if got := e.Bytes(s[:cut]) + e.Bytes(s[cut:]); got != want {
				t.Errorf("mode %d, cut at %d: %q, want %q", mode, cut, got, want)
			}
			is(t, "cut", e, state{mode: mode, over: true, full: true})
		}
	}
}

// TestAnything: whatever comes, every call ends, and none panics.
func TestAnything(t *testing.T) {
	rnd := rand.New(rand.NewSource(19))
	for range 4_000 {
		e := made(t, open())
		if mode := rnd.Intn(5); mode < 4 {
			e = in(t, mode)
		}
		for range rnd.Intn(4) {
			b := make([]byte, rnd.Intn(200))
			for i := range b {
				b[i] = byte(rnd.Intn(256) >> (4 * rnd.Intn(3)))
			}
			if len(b) > 48 && rnd.Intn(2) == 0 {
				copy(b, []byte{0x43, 128, 0, 0, 0, 0, 0, byte(len(b) - 48)})
			}
			over := e.Over()
			if said := e.Bytes(string(b)); over && said != "" {
				t.Errorf("%q is said once it is over", said)
			}
		}
	}
}

// TestMany: steps are as many as bytes, more or less, however they come.
func TestMany(t *testing.T) {
	c := open()
	c.Limit = api.MaxData
	e := made(t, c)
	says(t, "hello", e, hello(t, offers(3)...), welcome(t, offers(3)...))
	s := ping(t, strings.Repeat("p", api.MaxData), 5, 3)
	for i := range len(s) - 1 {
		if e.Bytes(s[i:i+1]) != "" || e.Kept() != i+1 {
			t.Fatalf("at byte %d: %d are kept", i, e.Kept())
		}
	}
	says(t, "the last byte", e, s[len(s)-1:], pong(t, strings.Repeat("p", 8192), 1, 6, 3))
	const n = 20_000
	e = in(t, 0)
	h := whole(api.NopOut, 128, "", nil)
	h.Head.Now = true
	said := e.Bytes(strings.Repeat(written(t, h, 0), n) + "x")
	if len(said) != 48*n || e.Kept() != 1 {
		t.Fatalf("%d bytes are said, and %d kept", len(said), e.Kept())
	}
	var l []uint64
	for ; said != ""; said = said[48:] {
		p, _, err := pdu.Read(said, 0)
		fails(t, "Read", err, api.OK, nowhere)
		stat, _ := head.Value(p.Head, "StatSN")
		l = append(l, stat)
	}
	if !slices.IsSorted(l) || l[0] != 1 || l[n-1] != n {
		t.Errorf("the numbers go from %d to %d", l[0], l[n-1])
	}
}
