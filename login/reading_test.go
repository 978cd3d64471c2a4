package login

import (
	"fmt"
	"math/rand"
	"slices"
	"strings"
	"testing"

	"quaymaster/api"
	"quaymaster/binary"
	"quaymaster/chap"
	"quaymaster/keys"
	"quaymaster/nego"
	"quaymaster/pairs"
)

// reading is a login as the chapter tells it, sentence by sentence.
type reading struct {
	c             api.Conf
	d             api.Draw
	n             *nego.Nego
	pdus          int
	isid, cid     uint64
	stage         int
	came          string
	texts         int
	name          string
	discovery     bool
	method        string
	said          bool // the challenge
	known         bool
	user          string
	failed, ended bool
}

// read is what one is answered: its flags, its detail (below 0: it doesn't fail), and what is said.
func (r *reading) read(p api.Pdu) (int, int, []api.Pair) {
	if r.pdus == 0 {
		r.known = len(r.c.Users) == 0
	}
	said, detail := r.hear(p)
	r.pdus++
	flags := p.Head.Flags & 12
	if detail >= 0 {
		r.failed = true
		return flags, detail, nil
	}
	if p.Head.Flags&128 != 0 && r.known {
		r.stage = p.Head.Flags & 3
		flags |= 128 + r.stage
		r.ended = r.stage == 3
	}
	return flags, -1, said
}

// hear is all but going on to a stage.
func (r *reading) hear(p api.Pdu) ([]api.Pair, int) {
	f := p.Head.Flags
	csg, nsg := f/4%4, f%4
	if get(p, "VersionMin") > 0 {
		return nil, 5
	}
	if get(p, "TSIH") != 0 {
		return nil, 10
	}
	if f >= 192 {
		return nil, 0
	}
	if csg >= 2 || r.pdus > 0 && csg != r.stage || f >= 128 && (nsg == 2 || nsg <= csg) {
		return nil, 11
	}
	if r.pdus > 0 && (get(p, "ISID") != r.isid || get(p, "CID") != r.cid) {
		return nil, 0
	}
	if r.pdus == 0 && csg == 1 && len(r.c.Users) > 0 {
		return nil, 1
	}
	if r.pdus == 0 {
		r.stage, r.isid, r.cid = csg, get(p, "ISID"), get(p, "CID")
	}
	r.came += p.Data
	if len(r.came) > 8192 {
		return nil, 0
	}
	if f&64 != 0 {
		return nil, -1
	}
	told, err := pairs.Parse(r.came)
	r.came = ""
	if err != nil {
		return nil, 0
	}
	r.texts++
	if r.texts == 1 {
		if detail := r.meet(told); detail >= 0 {
			return nil, detail
		}
	}
	return r.prove(told)
}

// meet is the first time that pairs are there.
func (r *reading) meet(told []api.Pair) int {
	if v, ok := pairs.Find(told, "InitiatorName"); !ok || v == "" {
		return 7
	}
	if v, ok := pairs.Find(told, "SessionType"); ok && v == "Discovery" {
		r.discovery = true
		return -1
	} else if ok && v != "Normal" {
		return 9
	}
	v, ok := pairs.Find(told, "TargetName")
	if !ok || v == "" {
		return 7
	}
	if !slices.Contains(r.c.Targets, v) {
		return 3
	}
	r.name = v
	return -1
}

// prove is who somebody is, and the offers.
func (r *reading) prove(told []api.Pair) ([]api.Pair, int) {
	var said, rest []api.Pair
	mine := map[string][]string{}
	for _, p := range told {
		if slices.Contains(proofs, p.Key) {
			mine[p.Key] = append(mine[p.Key], p.Value)
			if len(mine[p.Key]) > 1 || r.stage != 0 {
				return nil, 0
			}
		} else {
			rest = append(rest, p)
		}
	}
	if v := mine["AuthMethod"]; v != nil {
		m := "CHAP"
		if len(r.c.Users) == 0 {
			m = "None"
		}
		l, err := keys.List(v[0])
		if err != nil || !slices.Contains(l, m) || r.method != "" {
			return nil, 1
		}
		r.method = m
		said = append(said, api.Pair{Key: "AuthMethod", Value: m})
	}
	if v := mine["CHAP_A"]; v != nil {
		l, err := keys.List(v[0])
		if err != nil || !slices.Contains(l, "5") || r.method != "CHAP" || r.said {
			return nil, 1
		}
		r.said = true
		said = append(said, api.Pair{Key: "CHAP_A", Value: "5"}, api.Pair{Key: "CHAP_I", Value: fmt.Sprint(r.d.Id)}, api.Pair{Key: "CHAP_C", Value: binary.Hex(r.d.Challenge)})
	}
	n, v, i, c := mine["CHAP_N"], mine["CHAP_R"], mine["CHAP_I"], mine["CHAP_C"]
	if n != nil || v != nil || i != nil || c != nil {
		if n == nil || v == nil || (i == nil) != (c == nil) || !r.said || r.known || chap.Check(r.c.Users, n[0], v[0], r.d) != nil {
			return nil, 1
		}
		r.known, r.user = true, n[0]
	}
	if i != nil {
		id, err := keys.Numeral(i[0], 0, 255)
		if err != nil {
			return nil, 1
		}
		b, err := binary.Read(c[0])
		if err != nil || b == r.d.Challenge || r.c.Self.Name == "" {
			return nil, 1
		}
		x, err := chap.Response(id, r.c.Self.Secret, b)
		if err != nil {
			return nil, 1
		}
		said = append(said, api.Pair{Key: "CHAP_N", Value: r.c.Self.Name}, api.Pair{Key: "CHAP_R", Value: binary.Hex(x)})
	}
	more, err := r.n.Answer(rest, true, r.discovery)
	if err != nil {
		return nil, 0
	}
	return append(said, more...), -1
}

// drawn are requests that are often, but not always, such as may come next.
func drawn(rnd *rand.Rand, r *reading) api.Pdu {
	stage := r.stage
	if r.pdus == 0 && rnd.Intn(4) == 0 {
		stage = 1
	}
	flags := stage * 4
	switch rnd.Intn(8) {
	case 0, 1:
		flags |= 64
	case 2, 3:
		flags |= 128 + []int{1, 3}[stage&1]
	case 4:
		flags |= 131
	}
	if rnd.Intn(25) == 0 {
		flags = rnd.Intn(256) & 207
	}
	fields := map[string]uint64{"ISID": 5, "CID": 6, "ITT": rnd.Uint64() & 0xffffffff, "CmdSN": rnd.Uint64() & 0xffffffff}
	if rnd.Intn(40) == 0 {
		name := []string{"VersionMin", "TSIH", "ISID", "CID", "VersionMax"}[rnd.Intn(5)]
		fields[name] = uint64(rnd.Intn(3))
	}
	return request(flags, words(rnd, r), fields)
}

// words are a text that often has what may be told next.
func words(rnd *rand.Rand, r *reading) string {
	var l []string
	if r.texts == 0 && r.came == "" && rnd.Intn(15) > 0 {
		l = append(l, "InitiatorName=me")
		l = append(l, []string{"TargetName=iqn.a", "TargetName=iqn.b", "SessionType=Discovery"}[rnd.Intn(3)])
	}
	if r.texts == 0 && r.came != "" && rnd.Intn(2) == 0 {
		l = append(l, "TargetName=iqn.a")
	}
	if r.stage == 0 && r.method == "" && rnd.Intn(2) == 0 {
		l = append(l, "AuthMethod=None,CHAP")
	}
	if r.stage == 0 && r.method == "CHAP" && !r.said && rnd.Intn(2) == 0 {
		l = append(l, "CHAP_A=5")
	}
	if r.said && !r.known && rnd.Intn(2) == 0 {
		l = append(l, "CHAP_N=u", "CHAP_R="+response("s"))
		if rnd.Intn(2) == 0 {
			l = append(l, "CHAP_I=1", "CHAP_C=0x0102")
		}
	}
	pool := []string{
		"X=1", "Y=", "MaxBurstLength=512", "HeaderDigest=CRC32C", "InitialR2T=No", "ErrorRecoveryLevel=3", "MaxRecvDataSegmentLength=0x400", "InitiatorAlias=a",
		"AuthMethod=CHAP", "AuthMethod=None", "CHAP_A=5", "CHAP_A=6", "CHAP_I=256", "CHAP_I=1", "CHAP_C=0x6368616c", "CHAP_C=0b", "CHAP_C=0x01", "CHAP_N=v", "CHAP_R=" + response("t"), "CHAP_R=0x00",
		"SessionType=x", "SessionType=Normal", "TargetName=iqn.c", "InitiatorName=", "x=1", "X", "",
	}
	for range rnd.Intn(3) {
		n := len(pool)
		if rnd.Intn(3) > 0 {
			n = 8
		}
		l = append(l, pool[rnd.Intn(n)])
	}
	rnd.Shuffle(len(l), func(i, j int) { l[i], l[j] = l[j], l[i] })
	if rnd.Intn(200) == 0 {
		l = append(l, strings.Repeat("Z", 8100))
	}
	return text(l...)
}

// TestAgainstReading holds talks against the reading.
func TestAgainstReading(t *testing.T) {
	rnd := rand.New(rand.NewSource(16))
	ends := map[string]int{}
	for range 20_000 {
		c := open()
		if rnd.Intn(3) > 0 {
			c = shut()
		}
		if rnd.Intn(3) == 0 {
			c.Self = api.User{}
		}
		c.Own = []api.Pair{{Key: "HeaderDigest", Value: "CRC32C"}}
		n, _ := nego.New(c.Own)
		r := &reading{c: c, d: draw, n: n}
		l := made(t, c, draw)
		for range 12 {
			p := drawn(rnd, r)
			flags, detail, said := r.read(p)
			data, _ := pairs.Print(said)
			says(t, l, p, want{flags, detail, data})
			is(t, l, r.user, r.name, r.discovery)
			if !slices.Equal(l.Record(), n.Record()) || l.Digests() != n.Digests() {
				t.Errorf("Record is %v, want %v", l.Record(), n.Record())
			}
			if r.failed || r.ended {
				ends[fmt.Sprint(detail, len(c.Users) > 0, r.user != "")]++
				break
			}
		}
		if t.Failed() {
			return
		}
	}
	for _, end := range []string{"-1 false false", "-1 true true", "0 true false", "0 true true", "1 true false", "1 true true", "3 false false", "5 false false", "7 true false", "9 false false", "10 true false", "11 true true", "11 false false"} {
		if ends[end] < 10 {
			t.Errorf("few talks end %s: %v", end, ends)
		}
	}
}
