package binary

import (
	"encoding/base64"
	"encoding/hex"
	"strings"
	"testing"

	"quaymaster/api"
	"quaymaster/plain"
)

// nowhere is the place of an error that has none.
const nowhere = -1

// reads checks that a value is read as these bytes.
func reads(t *testing.T, s, want string) {
	t.Helper()
	if got, err := Read(s); got != want || err != nil {
		t.Errorf("Read(%q) = %q, %v, want %q", s, got, err, want)
	}
}

// refuses checks that a value isn't read: why, where, and that nothing is beside the error.
func refuses(t *testing.T, s string, want api.Errno, place int) {
	t.Helper()
	got, err := Read(s)
	if e, at := plain.Place(err); e != want || at != place || got != "" {
		t.Errorf("Read(%q) = %q, error %d at %d, want error %d at %d", s, got, e, at, want, place)
	}
}

// samples are texts of many lengths, each byte and each pair of bytes among them.
func samples() []string {
	out := []string{""}
	for a := range 256 {
		out = append(out, string([]byte{byte(a)}))
		for b := range 256 {
			out = append(out, string([]byte{byte(a), byte(b)}))
		}
	}
	for n := range 300 {
		b := make([]byte, n)
		for i := range b {
			b[i] = byte(i*i*7 + i*n + 3*n)
		}
		out = append(out, string(b))
	}
	return append(out, strings.Repeat("\x00", 99), strings.Repeat("\xff", 100))
}

func TestHex(t *testing.T) {
	for _, x := range []struct{ s, want string }{
		{"", "0x"},
		{"\x00", "0x00"},
		{"\x01\xff", "0x01ff"},
		{"\x01\x23\x45\x67\x89\xab\xcd\xef", "0x0123456789abcdef"},
		{"abc", "0x616263"},
	} {
		if got := Hex(x.s); got != x.want {
			t.Errorf("Hex(%q) = %q, want %q", x.s, got, x.want)
		}
	}
}

// TestBase64 has the vectors of RFC 4648, and others.
func TestBase64(t *testing.T) {
	for _, x := range []struct{ s, want string }{
		{"", "0b"},
		{"f", "0bZg=="},
		{"fo", "0bZm8="},
		{"foo", "0bZm9v"},
		{"foob", "0bZm9vYg=="},
		{"fooba", "0bZm9vYmE="},
		{"foobar", "0bZm9vYmFy"},
		{"Man", "0bTWFu"},
		{"Ma", "0bTWE="},
		{"\x00", "0bAA=="},
		{"\x00\x00", "0bAAA="},
		{"\x00\x00\x00", "0bAAAA"},
		{"\xff", "0b/w=="},
		{"\xff\xff", "0b//8="},
		{"\xff\xff\xff", "0b////"},
		{"\xfb\xef\xbe", "0b++++"},
	} {
		if got := Base64(x.s); got != x.want {
			t.Errorf("Base64(%q) = %q, want %q", x.s, got, x.want)
		}
	}
}

func TestAsTheLibraryHasThem(t *testing.T) {
	for _, s := range samples() {
		if got, want := Hex(s), "0x"+hex.EncodeToString([]byte(s)); got != want {
			t.Errorf("Hex(%q) = %q, want %q", s, got, want)
		}
		if got, want := Base64(s), "0b"+base64.StdEncoding.EncodeToString([]byte(s)); got != want {
			t.Errorf("Base64(%q) = %q, want %q", s, got, want)
		}
	}
}

// TestReadUndoesBoth: with a great letter ahead, and with great digits, too.
func TestReadUndoesBoth(t *testing.T) {
	for _, s := range samples() {
		digits, letters := Hex(s), Base64(s)
		reads(t, digits, s)
		reads(t, "0X"+digits[2:], s)
		reads(t, "0x"+strings.ToUpper(digits[2:]), s)
		reads(t, letters, s)
		reads(t, "0B"+letters[2:], s)
	}
}

func TestRead(t *testing.T) {
	for _, x := range []struct{ s, want string }{
		{"0x", ""},
		{"0X", ""},
		{"0b", ""},
		{"0B", ""},
		{"0XFf", "\xff"},
		{"0xaAbBcCdDeEfF", "\xaa\xbb\xcc\xdd\xee\xff"},
		{"0x0b", "\x0b"},
		{"0b0x0x", "\xd3\x1d\x31"},
		{"0BTWE=", "Ma"},
		{"0bTWFuTQ==", "ManM"},
	} {
		reads(t, x.s, x.want)
	}
}

func TestReadRefusesWhatBeginsWithNeither(t *testing.T) {
	for _, s := range []string{"", "0", "x", "b", "00", "x0", "b0", "1x00", "0y00", "0c", "0o17", " 0x00", "0 x00", "TWFu", "00x00", "\x00x00", "0\x00", "Ox00", "0x00"[1:], "0\xd8", "0\xf8"} {
		refuses(t, s, api.ErrForm, nowhere)
	}
}

func TestReadRefusesDigits(t *testing.T) {
	for _, x := range []struct {
		s     string
		want  api.Errno
		place int
	}{
		{"0x1", api.ErrMissing, nowhere},
		{"0X1", api.ErrMissing, nowhere},
		{"0x123", api.ErrMissing, nowhere},
		{"0xg", api.ErrMissing, nowhere}, // ErrMissing is told ahead of ErrForm
		{"0x!!!", api.ErrMissing, nowhere},
		{"0x1g", api.ErrForm, 3},
		{"0xg1", api.ErrForm, 2},
		{"0Xgg", api.ErrForm, 2},
		{"0x0011z2q4", api.ErrForm, 6}, // the first of them
		{"0x00112z", api.ErrForm, 7},
		{"0x0x", api.ErrForm, 3},
		{"0x 1", api.ErrForm, 2},
		{"0x1=", api.ErrForm, 3},
		{"0x-1", api.ErrForm, 2},
		{"0x00\x00\x00", api.ErrForm, 4},
	} {
		refuses(t, x.s, x.want, x.place)
	}
}

func TestReadRefusesLetters(t *testing.T) {
	for _, x := range []struct {
		s     string
		want  api.Errno
		place int
	}{
		{"0bT", api.ErrMissing, nowhere},
		{"0bTW", api.ErrMissing, nowhere},
		{"0BTWF", api.ErrMissing, nowhere},
		{"0bTWFuT", api.ErrMissing, nowhere},
		{"0b=", api.ErrMissing, nowhere},
		{"0b==", api.ErrMissing, nowhere},
		{"0b!!!", api.ErrMissing, nowhere}, // ErrMissing is told ahead of ErrForm
		{"0bT!Fu", api.ErrForm, 3},
		{"0b!WFu", api.ErrForm, 2},
		{"0BTWF!", api.ErrForm, 5},
		{"0bTW!!", api.ErrForm, 4},
		{"0bTWFuTW-_", api.ErrForm, 8},
		{"0bTWFu TWF", api.ErrForm, 6},
		{"0bTWF\n", api.ErrForm, 5},
		{"0bTWF\x00", api.ErrForm, 5},
		{"0bTWF\xff", api.ErrForm, 5},
		{"0b====", api.ErrForm, 2}, // the last two of them may stand there
		{"0bT===", api.ErrForm, 3},
		{"0b=WFu", api.ErrForm, 2},
		{"0bT=Fu", api.ErrForm, 3},
		{"0bTW=u", api.ErrForm, 4}, // the last but one, but what is behind it is none
		{"0bTWE=TWE=", api.ErrForm, 5},
		{"0bTQ==TWFu", api.ErrForm, 4},
		{"0bTWFu====", api.ErrForm, 6},
		{"0bTWF=", api.ErrForm, 4},
		{"0bTWG=", api.ErrForm, 4},
		{"0BTR==", api.ErrForm, 3},
		{"0bTY==", api.ErrForm, 3},
		{"0bTWFuTWF=", api.ErrForm, 8},
		{"0bTWFuTf==", api.ErrForm, 7},
		{"0b!WF=", api.ErrForm, 2}, // a byte that is none is told ahead of bits that count for nothing
		{"0bT!==", api.ErrForm, 3},
		{"0bTW!=", api.ErrForm, 4},
		{"0b!R==", api.ErrForm, 2},
		{"0bTWF!TR==", api.ErrForm, 5},
	} {
		refuses(t, x.s, x.want, x.place)
	}
}

// TestReadOfEachByte puts each byte in each place of digits and of letters.
func TestReadOfEachByte(t *testing.T) {
	for c := range 256 {
		b := string([]byte{byte(c)})
		for i := range 4 {
			s := "0x" + "1234"[:i] + b + "1234"[i+1:]
			if strings.Contains("0123456789abcdefABCDEF", b) {
				want, _ := hex.DecodeString(s[2:])
				reads(t, s, string(want))
			} else {
				refuses(t, s, api.ErrForm, 2+i)
			}
		}
		for i := range 8 {
			s := "0b" + "TWFuTWFu"[:i] + b + "TWFuTWFu"[i+1:]
			want, err := base64.StdEncoding.DecodeString(s[2:])
			switch {
			case b == "=" && i == 7: // F has bits that count for nothing then
				refuses(t, s, api.ErrForm, 8)
			case err == nil && b != "\n" && b != "\r": // of which the library makes nothing
				reads(t, s, string(want))
			default:
				refuses(t, s, api.ErrForm, 2+i)
			}
		}
	}
}

// TestReadOfBitsThatCountForNothing takes each last letter.
func TestReadOfBitsThatCountForNothing(t *testing.T) {
	for n := range 64 {
		if s := "0bT" + letters[n:n+1] + "=="; n%16 == 0 {
			reads(t, s, string([]byte{byte(19<<2 | n>>4)}))
		} else {
			refuses(t, s, api.ErrForm, 3)
		}
		if s := "0bTW" + letters[n:n+1] + "="; n%4 == 0 {
			reads(t, s, "M"+string([]byte{byte(6<<4 | n>>2)}))
		} else {
			refuses(t, s, api.ErrForm, 4)
		}
	}
}

// TestReadThatIsWrittenSo: of letters there is just one way, and of small digits behind 0x.
func TestReadThatIsWrittenSo(t *testing.T) {
	const some = "AQg+/=w8"
	for n := range 8 * 8 * 8 * 8 {
		s := string([]byte{some[n%8], some[n/8%8], some[n/64%8], some[n/512]})
		got, err := Read("0b" + s)
		want, wrong := base64.StdEncoding.Strict().DecodeString(s)
		if (err == nil) != (wrong == nil) || err == nil && (got != string(want) || Base64(got) != "0b"+s) {
			t.Errorf("Read(0b%s) = %q, %v, want %q, %v", s, got, err, want, wrong)
		}
	}
}
