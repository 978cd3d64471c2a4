package desk

import (
	"fmt"
	"math/rand"
	"regexp"
	"strconv"
	"strings"
	"testing"

	"quaymaster/api"
	"quaymaster/binary"
	"quaymaster/chap"
	"quaymaster/engine"
	"quaymaster/head"
	"quaymaster/pdu"
	"quaymaster/plain"
)

// reading is a desk as the chapter tells it, sentence by sentence.
type reading struct {
	c api.Conf
	e *engine.Engine
}

// numeral is what a number looks like.
var numeral = regexp.MustCompile(`^(0|-?[1-9][0-9]*)$`)

// numbered is what a number is; false: it is none.
func numbered(w string) (int64, bool) {
	n, err := strconv.ParseInt(w, 10, 64)
	return n, err == nil && numeral.MatchString(w)
}

// failed is what an error is answered.
func failed(err error) string {
	errno, place := plain.Place(err)
	if place < 0 {
		return fmt.Sprintf("error %d", errno)
	}
	return fmt.Sprintf("error %d at %d", errno, place)
}

// line is what a line is answered.
func (r *reading) line(s string) string {
	var w []string
	for _, word := range strings.Split(s, " ") {
		if word != "" {
			w = append(w, word)
		}
	}
	if len(w) == 0 {
		return "ok"
	}
	switch fmt.Sprintf("%s %d", w[0], len(w)-1) {
	case "limit 1", "portal 2":
		n, ok := numbered(w[len(w)-1])
		if !ok {
			return "error 3"
		}
		if w[0] == "limit" {
			r.c.Limit = int(n)
		} else {
			r.c.Portals = append(r.c.Portals, api.Portal{Address: w[1], Group: int(n)})
		}
	case "user 2":
		r.c.Users = append(r.c.Users, api.User{Name: w[1], Secret: w[2]})
	case "self 2":
		r.c.Self = api.User{Name: w[1], Secret: w[2]}
	case "target 1":
		r.c.Targets = append(r.c.Targets, w[1])
	case "own 2":
		r.c.Own = append(r.c.Own, api.Pair{Key: w[1], Value: w[2]})
	case "open 2":
		n, ok := numbered(w[1])
		if !ok {
			return "error 3"
		}
		e, err := engine.New(r.c, api.Draw{Id: int(n), Challenge: w[2]})
		if err != nil {
			return failed(err)
		}
		r.e = e
	case "send 5", "hex 1":
		return r.taken(w)
	case "state 0", "record 0":
		return r.told(w[0])
	case "help 0":
		return helped
	default:
		return "error 3"
	}
	return w[0]
}

// taken is what a line is answered that takes bytes in.
func (r *reading) taken(w []string) string {
	var s string
	if w[0] == "hex" {
		b, err := binary.Read(w[1])
		if err != nil {
			return failed(err)
		}
		if r.e == nil {
			return "error 6"
		}
		s = b
	} else {
		made, wrong := r.made(w)
		if wrong != "" {
			return wrong
		}
		s = made
	}
	mode := r.e.Mode()
	said := w[0]
	for b := r.e.Bytes(s); len(b) > 0; {
		p, n, err := pdu.Read(b, mode)
		if err != nil {
			return said + " ?"
		}
		b = b[n:]
		name, _ := head.Name(p.Head.Op)
		value := func(name string) uint64 { n, _ := head.Value(p.Head, name); return n }
		said += fmt.Sprintf(" %s:%d:%d", name, p.Head.Flags, value("StatSN"))
		if name == "LoginResponse" {
			said += fmt.Sprintf(":%d:%d", value("StatusClass"), value("StatusDetail"))
		}
		if name == "Reject" {
			said += fmt.Sprintf(":%d", value("Reason"))
			continue
		}
		said += ":"
		for i := range len(p.Data) {
			if p.Data[i] >= 32 && p.Data[i] <= 126 {
				said += p.Data[i : i+1]
			} else {
				said += "|"
			}
		}
	}
	return said
}

// made are the bytes of a line that sends, or what is wrong with it.
func (r *reading) made(w []string) (string, string) {
	now, ok1 := numbered(w[2])
	flags, ok2 := numbered(w[3])
	if !ok1 || !ok2 {
		return "", "error 3"
	}
	var names []string
	var values []uint64
	if w[4] != "-" {
		for _, f := range strings.Split(w[4], ",") {
			at := strings.Index(f, "=")
			if at < 0 {
				return "", "error 3"
			}
			n, ok := numbered(f[at+1:])
			if !ok {
				return "", "error 3"
			}
			names, values = append(names, f[:at]), append(values, uint64(n))
		}
	}
	if r.e == nil {
		return "", "error 6"
	}
	data := strings.Join(strings.Split(w[5], "|"), "\x00")
	if w[5] == "-" {
		data = ""
	}
	s, err := engine.Made(w[1], now == 1, int(flags), names, values, data, r.e.Mode())
	if err != nil {
		return "", failed(err)
	}
	return s, ""
}

// told is what a line is answered that asks.
func (r *reading) told(word string) string {
	if r.e == nil {
		return "error 6"
	}
	l := r.e.Login()
	if word == "record" {
		for _, p := range l.Record() {
			word += " " + p.Key + "=" + p.Value
		}
		return word
	}
	done, failed := l.Over()
	user, name, discovery := l.Who()
	return fmt.Sprintf("state %v %v %v %v %d %d %s/%s", r.e.Over(), done, failed, discovery, r.e.Mode(), r.e.Kept(), user, name)
}

// one is one of words.
func one(rnd *rand.Rand, words ...string) string { return words[rnd.Intn(len(words))] }

// drawn is a line that may come next: often one that has its turn.
func drawn(rnd *rand.Rand, r *reading) string {
	number := func(words ...string) string {
		if rnd.Intn(12) == 0 {
			return one(rnd, "-1", "0", "1", "01", "x", "-0", "9223372036854775808", "65536", "4294967296")
		}
		return one(rnd, words...)
	}
	switch n := rnd.Intn(30); {
	case n == 0:
		return "limit " + number("512", "600", "8192")
	case n == 1:
		return "user " + one(rnd, "u", "v") + " " + one(rnd, "s", "\xff")
	case n == 2:
		return "self self own"
	case n == 3:
		return "target " + one(rnd, "iqn.a", "iqn.b", "iqn.c", "\x7f")
	case n == 4:
		return "portal h:1 " + number("1", "2")
	case n == 5:
		return "own " + one(rnd, "HeaderDigest CRC32C", "DataDigest CRC32C,None", "InitialR2T No", "MaxBurstLength 1000", "X 1", "InitialR2T no")
	case n <= 7 || r.e == nil && n < 20:
		return "open " + number("7", "0", "255") + " chal"
	case n == 8:
		return one(rnd, "help", "", "   ", "x", "state 1", "help help", "\thelp")
	case n == 9:
		return "hex " + one(rnd, "0x", "0x0", "0x00", "0b=", "0xfg", "x", "0bAA==")
	case n <= 12:
		return "state"
	case n == 13:
		return "record"
	case r.e == nil || r.e.Full() == nil:
		return entering(rnd, r, number)
	}
	return asking(rnd, r, number)
}

// entering is a line of a login.
func entering(rnd *rand.Rand, r *reading, number func(words ...string) string) string {
	told := one(rnd, "InitiatorName=me|TargetName=iqn.a|", "InitiatorName=me|SessionType=Discovery|", "InitiatorName=me|TargetName=iqn.b|")
	more := one(rnd, "", "HeaderDigest=CRC32C|", "DataDigest=CRC32C|", "HeaderDigest=CRC32C|DataDigest=CRC32C,None|", "InitialR2T=No|X=1|", "MaxRecvDataSegmentLength=512|")
	flags := number("135", "135", "135", "4", "68")
	if len(r.c.Users) > 0 {
		flags = number("0", "0", "131")
		if user := ""; r.e != nil {
			if user, _, _ = r.e.Login().Who(); user != "" {
				flags = "131"
			}
		}
		response, _ := chap.Response(7, "s", "chal")
		switch {
		case r.e != nil && r.e.Login().Stat() > 0:
			told = one(rnd, "CHAP_N=u|CHAP_R="+binary.Hex(response)+"|", "-")
		default:
			told += "AuthMethod=CHAP|CHAP_A=5|"
		}
	}
	if told == "-" {
		more = ""
	}
	return "send LoginRequest 0 " + flags + " CmdSN=" + number("5", "6") + " " + told + more
}

// asking is a line of what comes behind a login.
func asking(rnd *rand.Rand, r *reading, number func(words ...string) string) string {
	_, cmd := r.e.Full().Next()
	n := number(strconv.Itoa(int(cmd)))
	told := "TTT=4294967295,CmdSN=" + n
	if rnd.Intn(20) == 0 {
		told = one(rnd, "-", "ITT", "X=1", "ITT=4294967295", "LUN=-1,ITT=-1", "=")
	}
	switch rnd.Intn(8) {
	case 0:
		return "send LogoutRequest " + number("0", "1") + " 128 CmdSN=" + n + " -"
	case 1:
		return "send " + one(rnd, "ScsiCommand", "NopIn", "Nopout", "Snack") + " 0 128 CmdSN=" + n + " -"
	case 2, 3:
		return "send TextRequest 0 " + number("128", "64") + " " + told + " " + one(rnd, "SendTargets=All|", "SendTargets=|", "InitiatorAlias=a|X=1|", "-", "MaxRecvDataSegmentLength=600|")
	case 4:
		data := one(rnd, "hello", "\xff\x00|", "")
		s, _ := engine.Made("NopOut", rnd.Intn(2) == 0, 128, []string{"CmdSN"}, []uint64{uint64(cmd)}, data, r.e.Mode())
		b := []byte(s)
		if rnd.Intn(3) == 0 {
			b[len(b)-1]++
		}
		return "hex " + one(rnd, binary.Hex(string(b)), binary.Base64(string(b)), binary.Hex(string(b)+string(b)), binary.Hex(string(b[:50%len(b)])))
	}
	return "send NopOut " + number("0", "1") + " " + number("128", "0") + " " + told + " " + one(rnd, "-", "--", "a|b", "hello", "\x80~")
}

// note counts what an answer is, with its number, if it is an error, and with the names of PDUs that are told of.
func note(seen map[string]int, answer string) {
	words := strings.Fields(answer)
	switch first := words[0]; {
	case first == "error":
		seen[first+" "+words[1]]++
		if len(words) > 2 {
			seen["at"]++
		}
	case first == "send" || first == "hex":
		for _, word := range append(words[1:], "") {
			name, _, _ := strings.Cut(word, ":")
			seen[first+" "+name]++
		}
	default:
		seen[first]++
	}
}

// TestReading holds sessions against the reading, line by line.
func TestReading(t *testing.T) {
	rnd := rand.New(rand.NewSource(19))
	seen := map[string]int{}
	for range 4_000 {
		r := &reading{c: api.Conf{Limit: 8192}}
		var lines, want []string
		for _, line := range []string{"target iqn.a", "own HeaderDigest CRC32C", "own DataDigest CRC32C", "user u s", "self s t", "open 7 chal"} {
			if rnd.Intn(2) == 0 || line[1] == 'a' {
				lines = append(lines, line)
				want = append(want, r.line(line))
			}
		}
		for range rnd.Intn(30) {
			line := drawn(rnd, r)
			if rnd.Intn(10) == 0 {
				line = " " + strings.ReplaceAll(line, " ", "  ") + " "
			}
			lines = append(lines, line)
			want = append(want, r.line(line))
		}
		for _, w := range want {
			note(seen, w)
		}
		if r.e != nil {
			seen[fmt.Sprint("mode ", r.e.Mode())]++
		}
		end := one(rnd, "", "\n")
		if lines[len(lines)-1] == "" {
			end = "\n"
		}
		text := strings.Join(lines, "\n") + end
		if got := Session(text); got != strings.Join(want, "\n")+"\n" {
			said := strings.Split(got, "\n")
			for i := range lines {
				if i >= len(said) || said[i] != want[i] {
					t.Fatalf("%q: line %d, %q, is answered otherwise than %q: %q", text, i, lines[i], want[i], got)
				}
			}
			t.Fatalf("%q: %q", text, got)
		}
	}
	for _, what := range []string{"ok", "help", "limit", "user", "self", "target", "portal", "own", "open", "state", "record", "at", "error 2", "error 3", "error 5", "error 6", "error 7", "error 9", "mode 0", "mode 1", "mode 2", "mode 3",
		"send LoginResponse", "send NopIn", "send TextResponse", "send LogoutResponse", "send Reject", "send ", "hex NopIn", "hex Reject", "hex "} {
		if seen[what] < 30 {
			t.Errorf("few lines come to %s: %v", what, seen)
		}
	}
}

// TestAnything: whatever a text is, it is answered, a line each.
func TestAnything(t *testing.T) {
	rnd := rand.New(rand.NewSource(20))
	for range 4_000 {
		r := &reading{c: api.Conf{Limit: 8192}}
		var lines, want []string
		for range 1 + rnd.Intn(12) {
			b := []byte(drawn(rnd, r))
			for range rnd.Intn(3) {
				if len(b) > 0 {
					b[rnd.Intn(len(b))] = byte(rnd.Intn(256))
				}
			}
			for line := range strings.SplitSeq(string(b), "\n") {
				lines = append(lines, line)
				want = append(want, r.line(line))
			}
		}
		text := strings.Join(lines, "\n") + "\n"
		if got := Session(text); got != strings.Join(want, "\n")+"\n" {
			t.Fatalf("%q: %q, want %q", text, got, want)
		}
		if got := Session(string(make([]byte, rnd.Intn(50))) + text); strings.Count(got, "\n") != len(lines) {
			t.Fatalf("%q: %q", text, got)
		}
	}
}
