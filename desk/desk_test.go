package desk

import (
	"fmt"
	"slices"
	"strconv"
	"strings"
	"testing"

	"quaymaster/api"
	"quaymaster/binary"
	"quaymaster/chap"
	"quaymaster/engine"
)

// helped is what help is answered.
const helped = "help hex limit open own portal record self send state target user"

// Lines that log in, and what they are answered; the next answer is 1, the next command 5.
const (
	hello   = "send LoginRequest 0 135 ITT=9,CmdSN=5 InitiatorName=me|TargetName=iqn.a|"
	seek    = "send LoginRequest 0 135 ITT=9,CmdSN=5 InitiatorName=me|SessionType=Discovery|"
	welcome = "send LoginResponse:135:0:0:0:"
)

// talk is a session, line by line, each with what it is to be answered.
type talk [][2]string

// holds checks what each line of a talk is answered, and that no line is answered otherwise once others stand behind it.
func (l talk) holds(t *testing.T) {
	t.Helper()
	var lines []string
	for i, pair := range l {
		lines = append(lines, pair[0])
		said := strings.SplitAfter(Session(strings.Join(lines, "\n")), "\n")
		if len(said) != i+2 || said[i+1] != "" {
			t.Fatalf("%d lines are answered by %d: %q", i+1, len(said)-1, said)
		}
		for j := range i + 1 {
			if said[j] != l[j][1]+"\n" {
				t.Fatalf("line %d, %.300q: %.600q, want %.600q", j, l[j][0], said[j], l[j][1])
			}
		}
	}
}

// behind is a talk with more lines.
func (l talk) behind(more ...[2]string) talk { return append(slices.Clip(l), more...) }

// opened opens a connection to iqn.a.
func opened() talk {
	return talk{{"target iqn.a", "target"}, {"open 7 chal", "open"}}
}

// in is logged in there.
func in() talk {
	return opened().behind([2]string{hello, welcome})
}

// inMode is logged in there with digests.
func inMode(mode int) talk {
	var offers string
	if mode&api.HeadDigest != 0 {
		offers += "HeaderDigest=CRC32C|"
	}
	if mode&api.DataDigest != 0 {
		offers += "DataDigest=CRC32C|"
	}
	l := talk{{"own HeaderDigest CRC32C", "own"}, {"own DataDigest CRC32C", "own"}}
	return append(l, opened()...).behind([2]string{hello + offers, welcome + offers})
}

// bytes is a line that takes bytes in.
func bytes(s ...string) string {
	return "hex " + binary.Hex(strings.Join(s, ""))
}

// made are the bytes of a PDU.
func made(t *testing.T, name string, flags int, data string, mode int, told map[string]uint64) string {
	t.Helper()
	var names []string
	var values []uint64
	for name, value := range told {
		names, values = append(names, name), append(values, value)
	}
	s, err := engine.Made(name, false, flags, names, values, data, mode)
	if err != nil {
		t.Fatalf("%s: %v", name, err)
	}
	return s
}

// ping are the bytes of a NopOut that is echoed.
func ping(t *testing.T, data string, cmd uint64, mode int) string {
	t.Helper()
	return made(t, "NopOut", 128, data, mode, map[string]uint64{"ITT": 1, "TTT": 1<<32 - 1, "CmdSN": cmd})
}

// first are the bytes of a login in one PDU.
func first(t *testing.T, data string) string {
	t.Helper()
	return made(t, "LoginRequest", 135, data, 0, map[string]uint64{"ITT": 9, "CmdSN": 5})
}

// proof is what a secret makes of what is drawn.
func proof(t *testing.T, id int, secret, challenge string) string {
	t.Helper()
	r, err := chap.Response(id, secret, challenge)
	if err != nil {
		t.Fatal(err)
	}
	return binary.Hex(r)
}

// TestLines: where lines begin and end.
func TestLines(t *testing.T) {
	for _, c := range []struct{ text, want string }{
		{"", "ok\n"},
		{"\n", "ok\n"},
		{"\n\n", "ok\nok\n"},
		{"\n\n\n", "ok\nok\nok\n"},
		{"help", helped + "\n"},
		{"help\n", helped + "\n"},
		{"help\n\n", helped + "\nok\n"},
		{"\nhelp", "ok\n" + helped + "\n"},
		{"\nhelp\n", "ok\n" + helped + "\n"},
		{"help\n\nhelp", helped + "\nok\n" + helped + "\n"},
		{"x\ny\nhelp\n", "error 3\nerror 3\n" + helped + "\n"},
		{"help\r\n", "error 3\n"},
		{"help\rhelp", "error 3\n"},
		{"help\x00\n", "error 3\n"},
		{"help\vhelp", "error 3\n"},
		{"help\u2028help", "error 3\n"},
	} {
		if got := Session(c.text); got != c.want {
			t.Errorf("%q: %q, want %q", c.text, got, c.want)
		}
	}
}

// TestMaxText: how long a text may be, and that a longer one isn't looked at.
func TestMaxText(t *testing.T) {
	for _, c := range []struct{ text, want string }{
		{strings.Repeat(" ", api.MaxText), "ok\n"},
		{strings.Repeat("\n", api.MaxText), strings.Repeat("ok\n", api.MaxText)},
		{strings.Repeat("x", api.MaxText), "error 3\n"},
		{"help" + strings.Repeat(" ", api.MaxText-4), helped + "\n"},
		{"help" + strings.Repeat(" ", api.MaxText-3), "error 4\n"},
		{strings.Repeat("\n", api.MaxText+1), "error 4\n"},
		{strings.Repeat("help\n", api.MaxText/5), strings.Repeat(helped+"\n", api.MaxText/5)},
		{strings.Repeat("help\n", api.MaxText/5+1), "error 4\n"},
		{strings.Repeat("\u00e9", api.MaxText/2), "error 3\n"},
		{strings.Repeat("\u00e9", api.MaxText/2+1), "error 4\n"},
	} {
		if got := Session(c.text); got != c.want {
			t.Errorf("%d bytes, %.20q: %d bytes, %.60q, want %d, %.60q", len(c.text), c.text, len(got), got, len(c.want), c.want)
		}
	}
}

// TestBlanks: words have blanks between, of one kind alone.
func TestBlanks(t *testing.T) {
	talk{
		{" ", "ok"},
		{"     ", "ok"},
		{" help", helped},
		{"help ", helped},
		{"   help   ", helped},
		{"  target   iqn.a  ", "target"},
		{"   open  7     chal ", "open"},
		{" state", "state false false false false 0 0 /"},
		{"\thelp", "error 3"},
		{"\t", "error 3"},
		{"limit\t8192", "error 3"},
		{"limit 8192\t", "error 3"},
		{"limit\u00a08192", "error 3"},
		{"limit\u30008192", "error 3"},
		{"limit\x858192", "error 3"},
		{"\u2003", "error 3"},
		{"\r", "error 3"},
	}.holds(t)
}

// TestAnyBytes: words are bytes, whatever they are.
func TestAnyBytes(t *testing.T) {
	var all, want []byte
	for c := range 256 {
		if c != ' ' && c != '\n' {
			all = append(all, byte(c))
		}
	}
	for _, c := range all {
		if c < '!' || c > '~' {
			c = '|'
		}
		want = append(want, c)
	}
	in().behind(
		[2]string{"send NopOut 0 128 ITT=1,TTT=4294967295,CmdSN=5 " + string(all), "send NopIn:128:1:" + string(want)},
		[2]string{"send NopOut 0 128 ITT=1,TTT=4294967295,CmdSN=6 \xe2\x82\xac\xff\u00e9", "send NopIn:128:2:||||||"},
	).holds(t)
}

// TestFirstWords: what a line may begin with, and how many words stand behind it.
func TestFirstWords(t *testing.T) {
	sizes := map[string]int{"help": 0, "hex": 1, "limit": 1, "open": 2, "own": 2, "portal": 2, "record": 0, "self": 2, "send": 5, "state": 0, "target": 1, "user": 2}
	words := map[string]string{"hex": "0x00", "limit": "600", "open": "1 c", "own": "InitialR2T Yes", "portal": "h 1", "self": "n s", "send": "NopOut 0 128 - -", "target": "iqn.b", "user": "u s"}
	if !strings.HasSuffix(helped, "user") || len(strings.Fields(helped)) != len(sizes) {
		t.Fatal("help tells of other words")
	}
	for _, first := range strings.Fields(helped) {
		size := sizes[first]
		right := strings.TrimSpace(first + " " + words[first])
		if len(strings.Fields(right)) != size+1 {
			t.Fatalf("%q has other words", right)
		}
		l := in()
		for n := range 9 {
			if n != size {
				l = l.behind([2]string{first + strings.Repeat(" 0", n), "error 3"})
			}
		}
		l = l.behind(
			[2]string{right + " 0", "error 3"},
			[2]string{right + " " + right, "error 3"},
			[2]string{strings.ToUpper(right), "error 3"},
			[2]string{first[:1], "error 3"},
			[2]string{first[:len(first)-1] + strings.TrimPrefix(right, first), "error 3"},
			[2]string{first + "s" + strings.TrimPrefix(right, first), "error 3"},
			[2]string{"state", "state false true false false 0 0 /iqn.a"},
		)
		if last := right[strings.LastIndex(right, " ")+1:]; size > 0 {
			l = l.behind([2]string{strings.TrimSuffix(right, " "+last), "error 3"})
		}
		l.holds(t)
		if said := Session(right + "\n"); strings.HasPrefix(said, "error 3") {
			t.Errorf("%q: %q", right, said)
		}
	}
	talk{{"x", "error 3"}, {"0", "error 3"}, {"-", "error 3"}, {"ok", "error 3"}, {"error 3", "error 3"}, {"quit", "error 3"}}.holds(t)
}

// TestNumbers: what a number is, wherever there is one.
func TestNumbers(t *testing.T) {
	wrong := []string{
		"+1", "+0", "-0", "00", "01", "-01", "-00", "007", "--1", "-", "-+1", "+-1", "1-", "1_000", "_1", "0x1", "0X1", "0b1", "0o7", "1e3", "1.0", ".5",
		"a", "1a", "a1", "\u0661", "1\u00e9", "1,2", "=1", "'1'", "9223372036854775808", "-9223372036854775809", "18446744073709551615", "18446744073709551616",
		"99999999999999999999", "-99999999999999999999", strings.Repeat("1", 500), "1\t", "\r1", "1\x00", "\xff", "NaN", "Inf", "true",
	}
	right := []string{"0", "1", "-1", "9", "10", "512", "-512", "4294967295", "4294967296", "9223372036854775807", "-9223372036854775808"}
	for _, where := range []struct{ line, right string }{
		{"limit %s", "limit"},
		{"portal h:1 %s", "portal"},
		{"open %s c", ""},
		{"send LogoutRequest %s 128 - -", ""},
		{"send LogoutRequest 0 %s - -", ""},
		{"send LogoutRequest 0 128 ITT=%s -", ""},
		{"send LogoutRequest 0 128 CID=1,ITT=%s -", ""},
		{"send LogoutRequest 0 128 ITT=%s,CID=1 -", ""},
		{"send LogoutRequest 0 128 ITT=%s,ITT=1 -", ""},
	} {
		for _, n := range wrong {
			talk{{fmt.Sprintf(where.line, n), "error 3"}, {"target iqn.a", "target"}, {fmt.Sprintf(where.line, n), "error 3"}, {"open 0 c", "open"}, {hello, welcome},
				{fmt.Sprintf(where.line, n), "error 3"}, {"state", "state false true false false 0 0 /iqn.a"}}.holds(t)
		}
		for _, n := range right {
			if said := Session(fmt.Sprintf(where.line, n)); said == "error 3\n" || where.right != "" && said != where.right+"\n" {
				t.Errorf("%s of %s: %q", where.line, n, said)
			}
		}
	}
}

// TestOpen: New's errors, with their places, of all that a target may be told; what was open stays so.
func TestOpen(t *testing.T) {
	long := strings.Repeat("n", 101)
	for _, c := range []struct{ told, draw, want string }{
		{"", "0 c", "open"},
		{"", "255 " + long[1:], "open"},
		{"", "256 c", "error 2"},
		{"", "-1 c", "error 2"},
		{"", "4294967296 c", "error 2"},
		{"", "0 " + long, "error 4"},
		{"limit 511", "0 c", "error 2"},
		{"limit 512", "0 c", "open"},
		{"limit 100000", "0 c", "open"},
		{"limit 100001", "0 c", "error 2"},
		{"limit 0", "0 c", "error 2"},
		{"limit -8192", "0 c", "error 2"},
		{"limit 4294967808", "0 c", "error 2"},
		{"limit 0|limit 600", "0 c", "open"},
		{"limit 600|limit 0", "0 c", "error 2"},
		{"target " + long[1:], "0 c", "open"},
		{"target " + long, "0 c", "error 5 at 0"},
		{"target a|target \xff", "0 c", "error 5 at 1"},
		{"target a|target b|target a", "0 c", "error 5 at 2"},
		{"target a|target b|target c|target d|target e|target f|target g|target h", "0 c", "open"},
		{"target a|target b|target c|target d|target e|target f|target g|target h|target i", "0 c", "error 4"},
		{"portal h 0|portal h 65535|portal h 1|portal h 1", "0 c", "open"},
		{"portal h 0|portal h 0|portal h 0|portal h 0|portal h 0", "0 c", "error 4"},
		{"portal h 0|portal h 65536", "0 c", "error 2 at 1"},
		{"portal h -1", "0 c", "error 2 at 0"},
		{"portal h 4294967296", "0 c", "error 2 at 0"},
		{"portal " + long + " 1", "0 c", "error 5 at 0"},
		{"user u s|user v s", "0 c", "open"},
		{"user u s|user u t", "0 c", "error 5 at 1"},
		{"user u " + long, "0 c", "error 5 at 0"},
		{"user " + long + " s", "0 c", "error 5 at 0"},
		{"user a s|user b s|user c s|user d s|user e s|user f s|user g s|user h s", "0 c", "open"},
		{"user a s|user b s|user c s|user d s|user e s|user f s|user g s|user h s|user i s", "0 c", "error 4"},
		{"self n s", "0 c", "open"},
		{"self n " + long, "0 c", "error 3"},
		{"self " + long + " s", "0 c", "error 3"},
		{"self n " + long + "|self n s", "0 c", "open"},
		{"own InitialR2T Yes|own ImmediateData No", "0 c", "open"},
		{"own InitialR2T Yes|own InitialR2T Yes", "0 c", "error 9 at 1"},
		{"own InitialR2T Yes|own X 1", "0 c", "error 5 at 1"},
		{"own x 1", "0 c", "error 5 at 0"},
		{"own MaxBurstLength 511", "0 c", "error 2 at 0"},
		{"own InitialR2T yes", "0 c", "error 3 at 0"},
		{"own InitialR2T \xff", "0 c", "error 3 at 0"},
		{"own A 1" + strings.Repeat("|own A 1", 60), "0 c", "error 4"},
		{"limit 0|own A 1|self n " + long + "|user a a|user a a|portal h -1|target b|target b", "256 c", "error 5 at 1"},
		{"limit 0|own A 1|self n " + long + "|user a a|user a a|portal h -1", "256 c", "error 2 at 0"},
		{"limit 0|own A 1|self n " + long + "|user a a|user a a", "256 c", "error 5 at 1"},
		{"limit 0|own A 1|self n " + long, "256 c", "error 3"},
		{"limit 0|own A 1", "256 c", "error 2"},
		{"own A 1", "256 c", "error 5 at 0"},
	} {
		state := "state false false false false 0 0 /"
		if c.want != "open" {
			state = "error 6"
		}
		var l talk
		for _, line := range strings.FieldsFunc(c.told, func(r rune) bool { return r == '|' }) {
			word, _, _ := strings.Cut(line, " ")
			l = l.behind([2]string{line, word})
		}
		l.behind([2]string{"open " + c.draw, c.want}, [2]string{"state", state}).holds(t)
		if c.want == "open" {
			continue
		}
		was := "target here\nopen 1 c\nsend LoginRequest 0 135 - InitiatorName=me|TargetName=here|X=1|InitialR2T=Yes|\nhex 0x00\n"
		said := Session(was + strings.ReplaceAll(c.told, "|", "\n") + "\nopen " + c.draw + "\nstate\nrecord")
		if !strings.Contains(said, "\nerror") || !strings.HasSuffix(said, "\nstate false true false false 0 1 /here\nrecord InitiatorName=me TargetName=here InitialR2T=Yes\n") {
			t.Errorf("%q takes away what was open: %q", c.told, said)
		}
	}
}

// TestTold: what a target is told counts from the next open on, and stays.
func TestTold(t *testing.T) {
	asked := [2]string{"send TextRequest 0 128 TTT=4294967295,CmdSN=5 SendTargets=All|", "send TextResponse:128:1:TargetName=iqn.a|TargetAddress=h:1,2|TargetAddress=h:1,2|TargetName=iqn.b|TargetAddress=h:1,2|TargetAddress=h:1,2|"}
	nobody := [2]string{"send TextRequest 0 128 TTT=4294967295,CmdSN=5 SendTargets=All|", "send TextResponse:128:1:"}
	open, enter := [2]string{"open 7 chal", "open"}, [2]string{seek, welcome}
	talk{open, {"target iqn.a", "target"}, {"portal h:1 2", "portal"}, {"portal h:1 2", "portal"}, {"target iqn.b", "target"}, enter, nobody,
		open, enter, asked, {"target iqn.a", "target"}, {"record", "record InitiatorName=me SessionType=Discovery"},
		{"open 7 chal", "error 5 at 2"}, {"state", "state false true false true 0 0 /"}}.holds(t)

	short, long := strings.Repeat("d", 600), strings.Repeat("d", 601)
	talk{{"limit 600", "limit"}}.behind(in()...).behind([2]string{"limit 512", "limit"},
		[2]string{"send NopOut 0 128 TTT=4294967295,CmdSN=5 " + short, "send NopIn:128:1:" + short},
		[2]string{"send NopOut 0 128 TTT=4294967295,CmdSN=6 " + long, "send"},
		[2]string{"state", "state true true false false 0 0 /iqn.a"}).holds(t)
	echoed := strings.Repeat("d", 8192)
	in().behind([2]string{"send NopOut 0 128 TTT=4294967295,CmdSN=5 " + echoed, "send NopIn:128:1:" + echoed}).holds(t)
	in().behind([2]string{"send NopOut 0 128 TTT=4294967295,CmdSN=5 " + echoed + "d", "send"}, [2]string{"state", "state true true false false 0 0 /iqn.a"}).holds(t)

	talk{{"own MaxBurstLength 1000", "own"}, {"own InitialR2T No", "own"}}.behind(opened()...).behind([2]string{"own FirstBurstLength 600", "own"},
		[2]string{hello + "MaxBurstLength=2000|InitialR2T=No|FirstBurstLength=700|", welcome + "MaxBurstLength=1000|InitialR2T=No|FirstBurstLength=700|"},
		[2]string{"open 1 c", "open"},
		[2]string{hello + "FirstBurstLength=700|", welcome + "FirstBurstLength=600|"}).holds(t)
}

// TestUsers: who comes in by text, and whom the target says to be.
func TestUsers(t *testing.T) {
	const asks = "send LoginRequest 0 0 CmdSN=5 InitiatorName=me|TargetName=iqn.a|AuthMethod=CHAP|CHAP_A=5|"
	asked := "send LoginResponse:0:0:0:0:AuthMethod=CHAP|CHAP_A=5|CHAP_I=200|CHAP_C=" + binary.Hex("chal") + "|"
	told := talk{{"user u s", "user"}, {"user v t", "user"}, {"self nobody s", "self"}, {"self self own", "self"}, {"target iqn.a", "target"}, {"open 200 chal", "open"}, {asks, asked}}
	mine := "send LoginRequest 0 131 CmdSN=5 CHAP_N=v|CHAP_R=" + proof(t, 200, "t", "chal") + "|"
	told.behind([2]string{"state", "state false false false false 0 0 /iqn.a"},
		[2]string{mine, "send LoginResponse:131:1:0:0:"},
		[2]string{"state", "state false true false false 0 0 v/iqn.a"},
		[2]string{"record", "record InitiatorName=me TargetName=iqn.a"}).holds(t)
	told.behind([2]string{mine + "CHAP_I=3|CHAP_C=0x6162|", "send LoginResponse:131:1:0:0:CHAP_N=self|CHAP_R=" + proof(t, 3, "own", "ab") + "|"}).holds(t)
	told.behind([2]string{"send LoginRequest 0 131 CmdSN=5 CHAP_N=u|CHAP_R=" + proof(t, 200, "t", "chal") + "|", "send LoginResponse:0:1:2:1:"},
		[2]string{"state", "state true false true false 0 0 /iqn.a"},
		[2]string{mine, "send"}).holds(t)
	talk{{"user u s", "user"}, {"open 7 chal", "open"}, {"send LoginRequest 0 135 - InitiatorName=me|SessionType=Discovery|", "send LoginResponse:4:0:2:1:"}}.holds(t)
}

// TestState: each of its seven words, and ErrState.
func TestState(t *testing.T) {
	talk{{"state", "error 6"}, {"record", "error 6"}, {"target iqn.a", "target"}, {"state", "error 6"}, {"record", "error 6"}, {"open 256 c", "error 2"}, {"state", "error 6"}, {"record", "error 6"},
		{"open 1 c", "open"}, {"state", "state false false false false 0 0 /"}, {"record", "record"},
		{"hex 0x030405", "hex"}, {"state", "state false false false false 0 3 /"}}.holds(t)
	in().behind([2]string{"state", "state false true false false 0 0 /iqn.a"},
		[2]string{"hex 0x" + strings.Repeat("00", 47), "hex"}, [2]string{"state", "state false true false false 0 47 /iqn.a"}).holds(t)
	in().behind([2]string{"send LogoutRequest 0 128 CmdSN=5 -", "send LogoutResponse:128:1:"}, [2]string{"state", "state true true false false 0 0 /iqn.a"},
		[2]string{"open 7 chal", "open"}, [2]string{"state", "state false false false false 0 0 /"}, [2]string{seek, welcome}, [2]string{"state", "state false true false true 0 0 /"}).holds(t)
	opened().behind([2]string{"send LoginRequest 0 135 - X=1|", "send LoginResponse:4:0:2:7:"}, [2]string{"state", "state true false true false 0 0 /"}, [2]string{"record", "record"}).holds(t)
	opened().behind([2]string{"send LoginRequest 0 4 - InitiatorName=me|SessionType=Discovery|", "send LoginResponse:4:0:0:0:"}, [2]string{"state", "state false false false true 0 0 /"},
		[2]string{"send LoginRequest 0 4 - x", "send LoginResponse:4:1:2:0:"}, [2]string{"state", "state true false true true 0 0 /"}, [2]string{"record", "record InitiatorName=me SessionType=Discovery"}).holds(t)
	opened().behind([2]string{"send NopOut 0 128 - -", "send"}, [2]string{"state", "state true false false false 0 0 /"}).holds(t)
	in().behind([2]string{"hex 0x80" + strings.Repeat("00", 50), "hex"}, [2]string{"state", "state true true false false 0 0 /iqn.a"}).holds(t)
	for mode := range 4 {
		inMode(mode).behind([2]string{"state", "state false true false false " + strconv.Itoa(mode) + " 0 /iqn.a"}).holds(t)
	}
}

// TestRecord: all that came of offers, in the login and behind it, in order.
func TestRecord(t *testing.T) {
	in().behind(
		[2]string{"record", "record InitiatorName=me TargetName=iqn.a"},
		[2]string{"send TextRequest 0 128 TTT=4294967295,CmdSN=5 MaxRecvDataSegmentLength=600|InitiatorAlias=a=b|X=1|", "send TextResponse:128:1:X=NotUnderstood|"},
		[2]string{"record", "record InitiatorName=me TargetName=iqn.a MaxRecvDataSegmentLength=600 InitiatorAlias=a=b"},
		[2]string{"send TextRequest 0 128 TTT=4294967295,CmdSN=6 MaxRecvDataSegmentLength=0x200|", "send TextResponse:128:2:"},
		[2]string{"record", "record InitiatorName=me TargetName=iqn.a InitiatorAlias=a=b MaxRecvDataSegmentLength=0x200"},
		[2]string{bytes(made(t, "TextRequest", 128, "InitiatorAlias= a  b \x00", 0, map[string]uint64{"TTT": 1<<32 - 1, "CmdSN": 7})), "hex TextResponse:128:3:"},
		[2]string{"record", "record InitiatorName=me TargetName=iqn.a MaxRecvDataSegmentLength=0x200 InitiatorAlias= a  b "},
		[2]string{"open 1 c", "open"},
		[2]string{"record", "record"},
	).holds(t)
}

// TestSend: the words of a PDU, and the errors of these, in their order.
func TestSend(t *testing.T) {
	turn := func(flags, now, fields, data string) string {
		return "send NopOut " + now + " " + flags + " " + fields + " " + data
	}
	const mine = "ITT=1,TTT=4294967295,CmdSN=5"
	in().behind(
		[2]string{turn("128", "0", mine, "-"), "send NopIn:128:1:"},
		[2]string{turn("128", "0", mine, "-"), "send Reject:128:2:4"},
		[2]string{turn("128", "1", mine, "-"), "send NopIn:128:3:"},
		[2]string{turn("128", "2", mine, "-"), "send Reject:128:4:4"},
		[2]string{turn("128", "-1", mine, "-"), "send Reject:128:5:4"},
		[2]string{turn("128", "9223372036854775807", mine, "-"), "send Reject:128:6:4"},
		[2]string{turn("128", "4294967297", mine, "-"), "send Reject:128:7:4"},
		[2]string{turn("128", "1", mine, "--"), "send NopIn:128:8:--"},
		[2]string{turn("128", "1", mine, "|"), "send NopIn:128:9:|"},
		[2]string{turn("128", "1", mine, "a|-||b"), "send NopIn:128:10:a|-||b"},
		[2]string{turn("128", "1", mine, "0,=\"%"), "send NopIn:128:11:0,=\"%"},
		[2]string{turn("0", "1", mine, "x"), "send NopIn:128:12:x"},
		[2]string{turn("127", "1", mine, "x"), "error 3"},
		[2]string{turn("-1", "1", mine, "x"), "error 3"},
		[2]string{turn("384", "1", mine, "x"), "error 3"},
		[2]string{turn("4294967424", "1", mine, "x"), "error 3"},
		[2]string{turn("128", "1", "-", "x"), "send NopIn:128:13:x"},
		[2]string{turn("128", "1", "ITT=4294967295", "x"), "send"},
		[2]string{turn("128", "1", "ITT=4294967295,ITT=1", "x"), "send NopIn:128:14:x"},
		[2]string{turn("128", "1", "ITT=1,ITT=4294967295", "x"), "send"},
		[2]string{turn("128", "1", "ITT=4294967296", "x"), "error 2 at 1"},
		[2]string{turn("128", "1", "ITT=-1", "x"), "error 2 at 1"},
		[2]string{turn("128", "1", "ITT=-1,ITT=1", "x"), "send NopIn:128:15:x"},
		[2]string{turn("128", "1", "CmdSN=9223372036854775807,TTT=-9223372036854775808", "x"), "error 2 at 2"},
		[2]string{turn("128", "1", "LUN=-1", "x"), "send NopIn:128:16:x"},
		[2]string{turn("128", "1", "LUN=-9223372036854775808", "x"), "send NopIn:128:17:x"},
	).holds(t)
	for _, fields := range []string{"", "ITT", "ITT=", "=", ",", "--", "-,-", "-,ITT=1", "ITT=1,-", "ITT=1,", ",ITT=1", "ITT=1,,TTT=1", "ITT=1,TTT", "ITT=1=1", "ITT==1", "ITT:1", "ITT=1;TTT=2", "ITT=one", "=ITT"} {
		if fields != "" {
			want := [2]string{turn("128", "1", fields, "-"), "error 3"}
			talk{want}.behind(in()...).behind(want, [2]string{turn("128", "1", mine, "-"), "send NopIn:128:1:"}).holds(t)
		}
	}
	for _, fields := range []string{"=1", "X=1", "itt=1", "-=1", "ITT=1,X=1", "X=1,ITT=1", "StatSN=1", "\xff=1"} {
		want := [2]string{turn("128", "1", fields, "-"), "error 5"}
		talk{{want[0], "error 6"}}.behind(in()...).behind(want, [2]string{turn("128", "1", mine, "-"), "send NopIn:128:1:"}).holds(t)
	}
}

// TestSendErrors: which error of a line that sends is told first.
func TestSendErrors(t *testing.T) {
	for _, c := range []struct{ line, without, with string }{
		{"send X 0 0 - -", "error 6", "error 5"},
		{"send nopout 0 0 - -", "error 6", "error 5"},
		{"send 0 0 0 - -", "error 6", "error 5"},
		{"send X x 0 - -", "error 3", "error 3"},
		{"send X 0 x - -", "error 3", "error 3"},
		{"send X 0 0 x -", "error 3", "error 3"},
		{"send X 0 0 x=x -", "error 3", "error 3"},
		{"send X 0 -1 x=1 -", "error 6", "error 5"},
		{"send NopOut 0 -1 x=1 -", "error 6", "error 5"},
		{"send NopOut 0 -1 ITT=-1 -", "error 6", "error 3"},
		{"send NopOut 0 0 TTT=-1,ITT=-1 -", "error 6", "error 2 at 1"},
		{"send NopIn 0 128 - -", "error 6", "send Reject:128:1:5"},
		{"send NopIn 1 128 - -", "error 6", "error 3"},
		{"send Reject 1 128 Reason=256 -", "error 6", "error 2 at 0"},
		{"send Reject 0 128 Reason=255 -", "error 6", "send Reject:128:1:5"},
		{"send ScsiCommand 0 255 - -", "error 6", "error 3"},
		{"send ScsiCommand 0 231 CdbA=-1,CdbB=-1 -", "error 6", "send Reject:128:1:5"},
		{"send LoginRequest 0 135 ISID=281474976710656 -", "error 6", "error 2 at 2"},
	} {
		talk{{c.line, c.without}}.behind(in()...).behind([2]string{c.line, c.with}, [2]string{"state", "state false true false false 0 0 /iqn.a"}).holds(t)
		over := in().behind([2]string{"send LogoutRequest 0 128 CmdSN=5 -", "send LogoutResponse:128:1:"})
		want, _, _ := strings.Cut(c.with, " Reject")
		over.behind([2]string{c.line, want}).holds(t)
	}
}

// TestHex: bytes as values of keys, Read's errors ahead of ErrState, and bytes that come in parts.
func TestHex(t *testing.T) {
	for _, c := range []struct{ word, without, with string }{
		{"0x", "error 6", "hex"},
		{"0b", "error 6", "hex"},
		{"0x00", "error 6", "hex"},
		{"0XfF", "error 6", "hex"},
		{"0BAAAA", "error 6", "hex"},
		{"x", "error 3", "error 3"},
		{"-", "error 3", "error 3"},
		{"00", "error 3", "error 3"},
		{"0x1", "error 7", "error 7"},
		{"0x0g", "error 3 at 3", "error 3 at 3"},
		{"0x0011\xff0", "error 3 at 6", "error 3 at 6"},
		{"0bAAA", "error 7", "error 7"},
		{"0bAAA=AAA", "error 7", "error 7"},
		{"0bAAA=AAAA", "error 3 at 5", "error 3 at 5"},
		{"0bAA=A", "error 3 at 4", "error 3 at 4"},
		{"0bAAAAAB==", "error 3 at 7", "error 3 at 7"},
	} {
		line := "hex " + c.word
		talk{{line, c.without}}.holds(t)
		in().behind([2]string{line, c.with}).holds(t)
	}
	s := ping(t, "hello", 5, 0)
	for _, cut := range []int{0, 1, 20, 47, 48, 50, len(s) - 1, len(s)} {
		want := [2]string{"hex", "hex NopIn:128:1:hello"}
		if cut == len(s) {
			want = [2]string{want[1], want[0]}
		}
		in().behind([2]string{"hex " + binary.Hex(s[:cut]), want[0]}, [2]string{"hex " + binary.Base64(s[cut:]), want[1]}, [2]string{"state", "state false true false false 0 0 /iqn.a"}).holds(t)
	}
	talk{{"target iqn.a", "target"}, {"open 7 chal", "open"}, {bytes(first(t, "InitiatorName=me\x00TargetName=iqn.a\x00")), "hex LoginResponse:135:0:0:0:"}, {"hex 0x80", "hex"}, {"state", "state false true false false 0 1 /iqn.a"}}.holds(t)
}

// TestTells: what is told of each answer there may be, and of several.
func TestTells(t *testing.T) {
	in().behind(
		[2]string{"send Snack 0 128 - -", "send Reject:128:1:5"},
		[2]string{"send DataOut 0 128 - data", "send Reject:128:2:5"},
		[2]string{"send TextRequest 0 128 TTT=4294967295,CmdSN=5 SendTargets=iqn.b|SendTargets=|", "send TextResponse:128:3:SendTargets=Reject|TargetName=iqn.a|"},
		[2]string{"send TextRequest 0 128 TTT=1,CmdSN=6 -", "send Reject:128:4:4"},
		[2]string{"send TextRequest 0 128 TTT=4294967295,CmdSN=7 A", "send Reject:128:5:4"},
		[2]string{bytes(ping(t, "a", 8, 0), ping(t, "\x00 \x1f!\x7f~\x80", 9, 0), ping(t, "c", 9, 0), ping(t, "", 10, 0)), "hex NopIn:128:6:a NopIn:128:7:| |!|~| Reject:128:8:4 NopIn:128:9:"},
		[2]string{bytes(ping(t, "a", 11, 0), made(t, "LogoutRequest", 0, "", 0, map[string]uint64{"CmdSN": 12}), ping(t, "a", 13, 0)), "hex NopIn:128:10:a LogoutResponse:128:11:"},
		[2]string{"state", "state true true false false 0 52 /iqn.a"},
		[2]string{"hex 0x00", "hex"},
		[2]string{"send NopOut 0 128 - -", "send"},
		[2]string{"state", "state true true false false 0 52 /iqn.a"},
	).holds(t)
	for detail, line := range map[string]string{
		"0": "- x", "3": "- InitiatorName=me|TargetName=iqn.b|", "5": "VersionMin=1 -", "7": "- InitiatorName=|", "9": "- InitiatorName=me|SessionType=x|", "10": "TSIH=1 -",
	} {
		opened().behind([2]string{"send LoginRequest 0 135 " + line, "send LoginResponse:4:0:2:" + detail + ":"}).holds(t)
	}
	for c := range 256 {
		want := "|"
		if c >= ' ' && c <= '~' {
			want = string(rune(c))
		}
		in().behind([2]string{bytes(ping(t, string([]byte{'a', byte(c), 'b'}), 5, 0)), "hex NopIn:128:1:a" + want + "b"}).holds(t)
	}
}

// TestPieces: a login and a text that come in several PDUs, and an answer that goes so.
func TestPieces(t *testing.T) {
	var l talk
	var there string
	for _, c := range []string{"t", "u", "v", "w"} {
		name := strings.Repeat(c, 90)
		l = l.behind([2]string{"target " + name, "target"})
		there += "TargetName=" + name + "|TargetAddress=h:3260,65535|"
	}
	l.behind(
		[2]string{"portal h:3260 65535", "portal"},
		[2]string{"open 7 chal", "open"},
		[2]string{"send LoginRequest 0 64 CmdSN=4294967295 InitiatorName=me|", "send LoginResponse:0:0:0:0:"},
		[2]string{"send LoginRequest 0 129 CmdSN=0 SessionType=Discovery|", "send LoginResponse:129:1:0:0:"},
		[2]string{"send LoginRequest 0 135 CmdSN=1 MaxRecvDataSegmentLength=512|InitialR2T=No|X.y=1|", "send LoginResponse:135:2:0:0:InitialR2T=Irrelevant|X.y=NotUnderstood|"},
		[2]string{"send TextRequest 0 64 TTT=4294967295,CmdSN=1 Send", "send TextResponse:0:3:"},
		[2]string{"send TextRequest 0 128 TTT=4294967295,CmdSN=2 Targets=All|", "send TextResponse:64:4:" + there[:512]},
		[2]string{"send TextRequest 0 128 TTT=1,CmdSN=3 -", "send TextResponse:128:5:" + there[512:]},
		[2]string{"send TextRequest 0 128 TTT=1,CmdSN=4 -", "send Reject:128:6:4"},
	).holds(t)
}

// TestModes: what is sent, and what is told, has the digests of the mode as it is ahead of a line.
func TestModes(t *testing.T) {
	for mode := range 4 {
		bad := []byte(ping(t, "hello", 6, mode))
		bad[len(bad)-1]++
		want := "hex Reject:128:2:2"
		switch mode {
		case 0:
			want = "hex" // of a Pad that isn't 0
		case api.HeadDigest:
			want = "hex"
		}
		inMode(mode).behind(
			[2]string{"send NopOut 0 128 ITT=1,TTT=4294967295,CmdSN=5 hello", "send NopIn:128:1:hello"},
			[2]string{bytes(string(bad)), want},
		).holds(t)
		inMode(mode).behind(
			[2]string{bytes(ping(t, "a", 5, mode), ping(t, "", 6, mode), ping(t, "bcdef", 7, mode)), "hex NopIn:128:1:a NopIn:128:2: NopIn:128:3:bcdef"},
			[2]string{"send LogoutRequest 1 128 - -", "send LogoutResponse:128:4:"},
		).holds(t)
	}
}

// TestWithin: where the mode changes within a line, its answers are read as the mode was ahead.
func TestWithin(t *testing.T) {
	for _, c := range []struct {
		mode  int
		pings []string
		want  string
	}{
		{0, []string{"abcd", ""}, " NopIn:128:1:abcd NopIn:128:2:"},
		{api.HeadDigest, nil, ""},
		{api.HeadDigest, []string{""}, " NopIn:128:1: ?"},
		{api.HeadDigest, []string{"abcde"}, " ?"},
		{api.DataDigest, []string{""}, " NopIn:128:1:"},
		{api.DataDigest, []string{"", ""}, " NopIn:128:1: NopIn:128:2:"},
		{api.DataDigest, []string{"abcd"}, " NopIn:128:1:abcd ?"},
		{api.DataDigest, []string{"abcd", ""}, " NopIn:128:1:abcd ?"},
		{api.HeadDigest | api.DataDigest, []string{"", "abcd"}, " NopIn:128:1: ?"},
	} {
		l := inMode(c.mode)
		asked := l[len(l)-1]
		_, data, _ := strings.Cut(asked[0], "CmdSN=5 ")
		s := first(t, strings.ReplaceAll(data, "|", "\x00"))
		for i, p := range c.pings {
			s += ping(t, p, uint64(5+i), c.mode)
		}
		want := "hex" + strings.TrimPrefix(asked[1], "send") + c.want
		l[:len(l)-1].behind(
			[2]string{bytes(s), want},
			[2]string{"state", "state false true false false " + strconv.Itoa(c.mode) + " 0 /iqn.a"},
			[2]string{fmt.Sprintf("send NopOut 0 128 TTT=4294967295,CmdSN=%d x", 5+len(c.pings)), fmt.Sprintf("send NopIn:128:%d:x", 1+len(c.pings))},
		).holds(t)
	}
}

// TestOtherFields: what an old mode makes of bytes may have no StatSN, or a great one.
func TestOtherFields(t *testing.T) {
	great := map[string]uint64{"StatSN": 1<<32 - 1}
	s := made(t, "ScsiCommand", 0, "x", 0, nil) + ping(t, "y", 5, 0) + made(t, "NopIn", 0, "z", 0, great) + made(t, "LoginResponse", 0, "", 0, map[string]uint64{"StatusClass": 255, "StatusDetail": 254}) + made(t, "Reject", 0, "x", 0, map[string]uint64{"Reason": 255})
	if got := told(s, 0); !slices.Equal(got, []string{"ScsiCommand:0:0:x", "NopOut:128:0:y", "NopIn:0:4294967295:z", "LoginResponse:0:0:255:254:", "Reject:0:0:255"}) {
		t.Errorf("%q", got)
	}
}

// TestEachItsOwn: nothing is left of a session for the next one.
func TestEachItsOwn(t *testing.T) {
	l := in()
	for range 3 {
		l.holds(t)
		talk{{"state", "error 6"}, {"open 7 chal", "open"}, {hello, "send LoginResponse:4:0:2:3:"}}.holds(t)
	}
}
