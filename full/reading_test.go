package full

import (
	"fmt"
	"math/rand"
	"slices"
	"strings"
	"testing"

	"quaymaster/api"
	"quaymaster/head"
	"quaymaster/keys"
	"quaymaster/nego"
	"quaymaster/pairs"
	"quaymaster/target"
)

// reading is a session as the chapter tells it, sentence by sentence.
type reading struct {
	c         api.Conf
	n         *nego.Nego
	name      string
	discovery bool
	stat, cmd uint64
	came      string
	left      string // all that is left
	isLeft    bool   // there is a piece, were it one of nothing
	closed    bool
}

// reply is a PDU that is said.
func (r *reading) reply(op, flags int, data string, told fields) []api.Pdu {
	l, _ := head.Fields(op)
	h := api.Head{Op: op, Flags: flags}
	for _, f := range l {
		switch f.Name {
		case "StatSN":
			h.Values = append(h.Values, r.stat)
		case "ExpCmdSN":
			h.Values = append(h.Values, r.cmd)
		case "MaxCmdSN":
			h.Values = append(h.Values, (r.cmd+31)%(1<<32))
		default:
			h.Values = append(h.Values, told[f.Name])
		}
	}
	r.stat = (r.stat + 1) % (1 << 32)
	return []api.Pdu{{Head: h, Data: data}}
}

// refused is what is said to a PDU that is refused.
func (r *reading) refused(p api.Pdu, reason uint64) []api.Pdu {
	h, _ := head.Write(p.Head, 0, len(p.Data))
	return r.reply(63, 128, h, fields{"Reason": reason, "ITT": nothing})
}

// most is how much data an answer may have.
func (r *reading) most() int {
	v, _ := r.n.Value("MaxRecvDataSegmentLength")
	if n, err := keys.Numeral(v, 512, 20_000); err == nil && n != 0 {
		return n
	}
	return 20_000
}

// read is what a PDU that is right is answered.
func (r *reading) read(p api.Pdu) []api.Pdu {
	op := p.Head.Op
	if op != 0 && op != 4 && op != 6 {
		return r.refused(p, 5)
	}
	itt := get(p, "ITT")
	if !p.Head.Now {
		if get(p, "CmdSN") != r.cmd {
			return r.refused(p, 4)
		}
		if !(op == 0 && itt == nothing) {
			r.cmd = (r.cmd + 1) % (1 << 32)
		}
	}
	switch {
	case op == 6:
		r.closed = true
		return r.reply(38, 128, "", fields{"ITT": itt})
	case op == 4:
		return r.text(p)
	case itt == nothing:
		return nil
	}
	data := p.Data
	if len(data) > r.most() {
		data = data[:r.most()]
	}
	return r.reply(32, 128, data, fields{"LUN": get(p, "LUN"), "ITT": itt, "TTT": nothing})
}

// text is what a TextRequest is answered.
func (r *reading) text(p api.Pdu) []api.Pdu {
	c, f, ttt := p.Head.Flags&64 != 0, p.Head.Flags&128 != 0, get(p, "TTT")
	if ttt != nothing {
		if ttt != 1 || !r.isLeft || p.Data != "" || c {
			return r.refused(p, 4)
		}
		return r.piece(p)
	}
	r.left, r.isLeft = "", false
	if len(r.came)+len(p.Data) > 8192 {
		r.came = ""
		return r.refused(p, 4)
	}
	r.came += p.Data
	var told []api.Pair
	if !c {
		var err error
		told, err = pairs.Parse(r.came)
		r.came = ""
		if err != nil {
			return r.refused(p, 4)
		}
	}
	if c && f || !c && !f {
		return r.refused(p, 4)
	}
	if c {
		return r.reply(36, 0, "", fields{"ITT": get(p, "ITT"), "TTT": nothing})
	}
	return r.answer(p, told)
}

// answer is what is said to a text that is all there.
func (r *reading) answer(p api.Pdu, told []api.Pair) []api.Pdu {
	var said, rest []api.Pair
	for _, x := range told {
		if x.Key != "SendTargets" {
			rest = append(rest, x)
			continue
		}
		var l []api.Pair
		err := error(api.ErrNone)
		switch {
		case x.Value == "All" && r.discovery:
			l, err = target.List(r.c, "", true)
		case x.Value == "All":
		case x.Value == "":
			l, err = target.List(r.c, r.name, false)
		default:
			l, err = target.List(r.c, x.Value, false)
		}
		if err != nil {
			l = []api.Pair{{Key: "SendTargets", Value: "Reject"}}
		}
		said = append(said, l...)
	}
	more, err := r.n.Answer(rest, false, r.discovery)
	if err != nil {
		return r.refused(p, 4)
	}
	r.left, err = pairs.Print(slices.Concat(said, more))
	if err != nil {
		return r.refused(p, 4)
	}
	r.isLeft = true
	return r.piece(p)
}

// piece is the next piece.
func (r *reading) piece(p api.Pdu) []api.Pdu {
	n := min(r.most(), len(r.left))
	data := r.left[:n]
	r.left, r.isLeft = r.left[n:], n < len(r.left)
	if r.isLeft {
		return r.reply(36, 64, data, fields{"ITT": get(p, "ITT"), "TTT": 1})
	}
	return r.reply(36, 128, data, fields{"ITT": get(p, "ITT"), "TTT": nothing})
}

// drawn are requests that are often, but not always, such as may come next.
func drawn(rnd *rand.Rand, r *reading) api.Pdu {
	ops := []int{0, 0, 4, 4, 4, 4, 4, 4, 4, 4}
	if rnd.Intn(30) == 0 {
		ops = []int{0, 1, 2, 3, 4, 5, 6, 6, 6, 16, 32, 33, 34, 35, 36, 37, 38, 49, 50, 63}
	}
	op := ops[rnd.Intn(len(ops))]
	flags, data, ttt := 128, words(rnd), uint64(nothing)
	switch rnd.Intn(12) {
	case 0, 1, 2:
		flags = 64
	case 3:
		flags = []int{0, 192}[rnd.Intn(2)]
	}
	if r.isLeft && rnd.Intn(4) > 0 {
		data, ttt, flags = "", 1, flags&128
	}
	if rnd.Intn(20) == 0 {
		ttt = []uint64{0, 1, 2, nothing}[rnd.Intn(4)]
	}
	if op == 0 {
		data = strings.Repeat("p", rnd.Intn(2500))
	}
	may, _ := head.Flags(op)
	k := talk{cmd: uint32(r.cmd)}
	p := k.pdu(op, flags&may, data, nil)
	l, _ := head.Fields(op)
	for i, f := range l {
		switch {
		case f.Name == "ITT" && rnd.Intn(10) > 0, f.Name == "LUN":
			p.Head.Values[i] = uint64(rnd.Uint32())
		case f.Name == "ITT":
			p.Head.Values[i] = nothing
		case f.Name == "TTT":
			p.Head.Values[i] = ttt
		case f.Name == "CmdSN" && rnd.Intn(25) == 0:
			p.Head.Values[i] = uint64(uint32(r.cmd + uint64(rnd.Intn(5)) - 2))
		}
	}
	p.Head.Now = op < 32 && rnd.Intn(6) == 0
	return p
}

// words are a text, or a part of one.
func words(rnd *rand.Rand) string {
	pool := []string{
		"SendTargets=", "SendTargets=All", "SendTargets=All", "SendTargets=iqn.a", "SendTargets=x", "SendTargets=" + strings.Repeat("t", 99) + "3",
		"X=1", "Y=", "InitiatorAlias=n", "MaxRecvDataSegmentLength=512", "MaxRecvDataSegmentLength=0x800", "MaxRecvDataSegmentLength=100000", "MaxRecvDataSegmentLength=3", "HeaderDigest=None",
	}
	if rnd.Intn(12) == 0 {
		pool = []string{"", "x=1", "X", "Send", strings.Repeat("Z", 8000)}
	}
	var l []string
	for range rnd.Intn(4) {
		l = append(l, pool[rnd.Intn(len(pool))])
	}
	s := text(l...)
	if s != "" && rnd.Intn(20) == 0 {
		return s[:rnd.Intn(len(s))]
	}
	return s
}

// TestAgainstReading holds talks against the reading.
func TestAgainstReading(t *testing.T) {
	rnd := rand.New(rand.NewSource(17))
	seen := map[string]int{}
	for range 4_000 {
		c := []api.Conf{conf(), great()}[rnd.Intn(2)]
		name, discovery := []string{"", "iqn.a", "x"}[rnd.Intn(3)], rnd.Intn(2) == 0
		stat, cmd := rnd.Uint32(), rnd.Uint32()
		if rnd.Intn(3) == 0 {
			stat, cmd = nothing-uint32(rnd.Intn(5)), nothing-uint32(rnd.Intn(5))
		}
		n, _ := nego.New(nil)
		k := made(t, c, nil, name, discovery, stat, cmd)
		r := &reading{c: c, n: n, name: name, discovery: discovery, stat: uint64(stat), cmd: uint64(cmd)}
		for range 25 {
			p := drawn(rnd, r)
			want := r.read(p)
			got, err := k.f.Take(p)
			fails(t, fmt.Sprint(p.Head), err, api.OK, nowhere)
			if fmt.Sprint(got) != fmt.Sprint(want) {
				t.Fatalf("%v, %.300q: it is answered by %.300q, want %.300q", p.Head, p.Data, fmt.Sprint(got), fmt.Sprint(want))
			}
			k.stat, k.cmd = uint32(r.stat), uint32(r.cmd)
			k.next(fmt.Sprint(p.Head), r.closed)
			if !slices.Equal(k.f.Record(), n.Record()) {
				t.Fatalf("%v, %.300q: Record is %v, want %v", p.Head, p.Data, k.f.Record(), n.Record())
			}
			for _, q := range got {
				reason := uint64(0)
				if q.Head.Op == api.Reject {
					reason = get(q, "Reason")
				}
				seen[fmt.Sprint(p.Head.Op, q.Head.Op, q.Head.Flags, reason)]++
			}
			if r.closed {
				break
			}
		}
	}
	for _, s := range []string{"0 32 128 0", "0 63 128 4", "4 36 0 0", "4 36 64 0", "4 36 128 0", "4 63 128 4", "6 38 128 0", "1 63 128 5", "63 63 128 5"} {
		if seen[s] < 10 {
			t.Errorf("few answers are %s: %v", s, seen)
		}
	}
}
