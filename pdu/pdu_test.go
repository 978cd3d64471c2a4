package pdu

import (
	"encoding/binary"
	"hash/crc32"
	"math"
	"math/rand"
	"reflect"
	"slices"
	"strings"
	"testing"

	"quaymaster/ahs"
	"quaymaster/api"
	"quaymaster/head"
	"quaymaster/plain"
)

// most is how many bytes of data a head can tell of.
const most = 1<<24 - 1

// ops are all ops that there are.
var ops = []int{0, 1, 2, 3, 4, 5, 6, 16, 32, 33, 34, 35, 36, 37, 38, 49, 50, 63}

// noModes are numbers that are no modes.
var noModes = []int{-1, -2, -3, -4, 4, 5, 7, 8, 256, 1 << 32, math.MinInt, math.MaxInt}

// refused checks that an error is that Errno, and has no place.
func refused(t *testing.T, what string, err error, want api.Errno) {
	t.Helper()
	if got, place := plain.Place(err); got != want || place != -1 {
		t.Errorf("%s: error %d at %d, want %d without a place", what, got, place, want)
	}
}

// wrong checks that neither Right nor Write, in any mode, takes a PDU, and that nothing is beside the error.
func wrong(t *testing.T, what string, p api.Pdu, want api.Errno) {
	t.Helper()
	refused(t, "Right of "+what, Right(p), want)
	for mode := range 4 {
		s, err := Write(p, mode)
		refused(t, "Write of "+what, err, want)
		if s != "" {
			t.Errorf("Write of %s: %d bytes beside an error", what, len(s))
		}
	}
}

// unread checks that bytes aren't read, and that nothing is beside the error.
func unread(t *testing.T, what, s string, mode int, want api.Errno) {
	t.Helper()
	p, n, err := Read(s, mode)
	refused(t, "Read of "+what, err, want)
	if !reflect.DeepEqual(p, api.Pdu{}) || n != 0 {
		t.Errorf("Read of %s: a PDU of %d bytes beside an error", what, n)
	}
}

// both checks that a PDU is right, and written so, that its beginning tells its size, and that it is read of these bytes, whatever comes behind them.
func both(t *testing.T, what string, p api.Pdu, mode int, s string) {
	t.Helper()
	if err := Right(p); err != nil {
		t.Errorf("Right of %s: %v", what, err)
	}
	if got, err := Write(p, mode); got != s || err != nil {
		t.Errorf("Write of %s in mode %d: %.200q, %v, want %.200q", what, mode, got, err, s)
	}
	if n, err := Size(s[:api.HeadSize], mode); n != len(s) || err != nil {
		t.Errorf("Size of %s in mode %d: %d, %v, want %d", what, mode, n, err, len(s))
	}
	for _, behind := range []string{"", "\x00", "more", s} {
		got, n, err := Read(s+behind, mode)
		if !same(got, p) || n != len(s) || err != nil {
			t.Errorf("Read of %s in mode %d with %d bytes behind it: %.200v, %d, %v, want %d", what, mode, len(behind), got, n, err, len(s))
		}
	}
}

// same says whether two PDUs are alike; an empty list may be nil or not.
func same(a, b api.Pdu) bool {
	return a.Head.Op == b.Head.Op && a.Head.Now == b.Head.Now && a.Head.Flags == b.Head.Flags &&
		slices.Equal(a.Head.Values, b.Head.Values) && slices.Equal(a.Ahs, b.Ahs) && a.Data == b.Data
}

// sum is a digest, by Go's own CRC.
func sum(s string) string {
	n := crc32.Checksum([]byte(s), crc32.MakeTable(crc32.Castagnoli))
	return string(binary.LittleEndian.AppendUint32(nil, n))
}

// laid are a head, additional headers, and data with their Pad, with the right digests of a mode.
func laid(first, more, padded string, mode int) string {
	s := first + more
	if mode == 1 || mode == 3 {
		s += sum(first + more)
	}
	s += padded
	if mode >= 2 && padded != "" {
		s += sum(padded)
	}
	return s
}

// first are 48 bytes of an op and numbers, all else 0.
func first(op, words byte, data int) string {
	b := make([]byte, api.HeadSize)
	b[0], b[4] = op, words
	b[5], b[6], b[7] = byte(data>>16), byte(data>>8), byte(data)
	return string(b)
}

// changed is s with another byte at a place.
func changed(s string, at int, to byte) string {
	return s[:at] + string([]byte{to}) + s[at+1:]
}

// fours is s with bytes of 0 to the next four.
func fours(s string) string {
	for len(s)%4 != 0 {
		s += "\x00"
	}
	return s
}

// ping is a NopOut with data.
func ping(data string) api.Pdu {
	return api.Pdu{Head: api.Head{Op: api.NopOut, Flags: 128, Values: []uint64{0, 1, 0, 2, 0}}, Data: data}
}

// pinged are the bytes of its head.
func pinged(words byte, data int) string {
	s := changed(first(0, words, data), 1, 128)
	return changed(changed(s, 19, 1), 27, 2)
}

func TestModes(t *testing.T) {
	for mode := range 4 {
		if !Modes(mode) {
			t.Errorf("%d is no mode", mode)
		}
	}
	if !Modes(api.HeadDigest) || !Modes(api.DataDigest) || !Modes(api.HeadDigest+api.DataDigest) {
		t.Error("a digest is no mode")
	}
	for _, mode := range noModes {
		if Modes(mode) {
			t.Errorf("%d is a mode", mode)
		}
	}
}

func TestBytes(t *testing.T) {
	const data = "hello\x00\x00\x00"
	const more = "\x00\x01\x09x"
	hello, without := pinged(0, 5), pinged(0, 0)
	p := ping("hello")
	both(t, "a ping", p, 0, hello+data)
	both(t, "a ping", p, api.HeadDigest, hello+sum(hello)+data)
	both(t, "a ping", p, api.DataDigest, hello+data+sum(data))
	both(t, "a ping", p, api.HeadDigest|api.DataDigest, hello+sum(hello)+data+sum(data))
	p.Data = ""
	both(t, "no data", p, 0, without)
	both(t, "no data", p, 1, without+sum(without))
	both(t, "no data", p, 2, without)
	both(t, "no data", p, 3, without+sum(without))
	p.Ahs = []api.Ahs{{Kind: 9, Data: "x"}}
	without = pinged(1, 0) + more
	both(t, "no data, with an additional header", p, 0, without)
	both(t, "no data, with an additional header", p, 1, without+sum(without))
	both(t, "no data, with an additional header", p, 2, without)
	both(t, "no data, with an additional header", p, 3, without+sum(without))
	p.Data = "abcd"
	with := pinged(1, 4) + more
	both(t, "both", p, 0, with+"abcd")
	both(t, "both", p, 1, with+sum(with)+"abcd")
	both(t, "both", p, 2, with+"abcd"+sum("abcd"))
	both(t, "both", p, 3, with+sum(with)+"abcd"+sum("abcd"))
}

// TestPublishedDigest takes RFC 7143's own CRC of 32 bytes of 0: aa 36 91 8a.
func TestPublishedDigest(t *testing.T) {
	s, err := Write(ping(strings.Repeat("\x00", 32)), api.DataDigest)
	if !strings.HasSuffix(s, "\x00\xaa\x36\x91\x8a") || len(s) != 48+32+4 || err != nil {
		t.Errorf("%q, %v", s, err)
	}
}

// TestExample is the fifth of the document's examples.
func TestExample(t *testing.T) {
	p := ping("fives")
	p.Head.Now = true
	p.Ahs = []api.Ahs{{}}
	for mode := range 4 {
		s, err := Write(p, mode)
		if !strings.HasPrefix(s, "\x40\x80\x00\x00\x01\x00\x00\x05") || err != nil {
			t.Errorf("%q, %v", s, err)
		}
	}
}

// TestEach goes through ops, modes, numbers of additional headers, and of bytes of data.
func TestEach(t *testing.T) {
	var more []api.Ahs
	for _, op := range ops {
		fields, err := head.Fields(op)
		if err != nil {
			t.Fatal(err)
		}
		p := api.Pdu{Head: api.Head{Op: op, Now: op < 32, Values: make([]uint64, len(fields))}}
		for i, f := range fields {
			p.Head.Values[i] = uint64(201+i) << (8 * (f.Size - 1))
		}
		for n := range 4 {
			p.Ahs = more[:n]
			for size := range 10 {
				p.Data = "\xff\x00data\x00\x01\x00"[:size]
				written, _ := ahs.Write(p.Ahs)
				lead, err := head.Write(p.Head, len(written)/4, size)
				if err != nil {
					t.Fatal(err)
				}
				for mode := range 4 {
					both(t, "one of each", p, mode, laid(lead, written, fours(p.Data), mode))
				}
			}
			more = append(more, api.Ahs{Kind: 255 - n, Data: "abcdefghi"[:3*n]})
		}
	}
}

// TestMost has as many additional headers, and as many data, as may be.
func TestMost(t *testing.T) {
	p := ping(strings.Repeat("d", api.MaxData))
	p.Ahs = []api.Ahs{{Kind: 1, Data: strings.Repeat("a", 1017)}}
	more := "\x03\xf9\x01" + p.Ahs[0].Data
	for mode := range 4 {
		both(t, "the most", p, mode, laid(pinged(255, api.MaxData), more, p.Data, mode))
		q := ping(p.Data[1:])
		both(t, "one less", q, mode, laid(pinged(0, api.MaxData-1), "", p.Data[1:]+"\x00", mode))
	}
	p.Data += "d"
	wrong(t, "too many data", p, api.ErrLimit)
	p.Data = strings.Repeat("d", 1<<24)
	wrong(t, "far too many data", p, api.ErrLimit)
}

func TestRightRefuses(t *testing.T) {
	right := ping("x")
	for _, x := range []struct {
		what   string
		change func(p *api.Pdu)
		want   api.Errno
	}{
		{"no such op", func(p *api.Pdu) { p.Head.Op = 7 }, api.ErrArg},
		{"an op below 0", func(p *api.Pdu) { p.Head.Op = -1 }, api.ErrArg},
		{"a flag too many", func(p *api.Pdu) { p.Head.Flags = 129 }, api.ErrForm},
		{"flags below 0", func(p *api.Pdu) { p.Head.Flags = -128 }, api.ErrForm},
		{"a target's, now", func(p *api.Pdu) {
			p.Head = api.Head{Op: api.LogoutResponse, Now: true, Values: make([]uint64, 7)}
		}, api.ErrForm},
		{"no values", func(p *api.Pdu) { p.Head.Values = nil }, api.ErrMissing},
		{"a value too many", func(p *api.Pdu) { p.Head.Values = make([]uint64, 6) }, api.ErrMissing},
		{"a value too great", func(p *api.Pdu) { p.Head.Values = []uint64{0, 0, 0, 0, api.Word} }, api.ErrRange},
		{"a kind too great", func(p *api.Pdu) { p.Ahs = []api.Ahs{{}, {Kind: 256}} }, api.ErrRange},
		{"a kind below 0", func(p *api.Pdu) { p.Ahs = []api.Ahs{{Kind: -1}} }, api.ErrRange},
		{"an additional header too long", func(p *api.Pdu) { p.Ahs = []api.Ahs{{Data: strings.Repeat("a", 1018)}} }, api.ErrLimit},
		{"additional headers too many", func(p *api.Pdu) { p.Ahs = make([]api.Ahs, 256) }, api.ErrLimit},
		{"a byte too many", func(p *api.Pdu) { p.Data = strings.Repeat("x", api.MaxData+1) }, api.ErrLimit},
	} {
		p := right
		x.change(&p)
		wrong(t, x.what, p, x.want)
	}
	wrong(t, "nothing but zeros", api.Pdu{}, api.ErrMissing)
}

// TestOrderOfRight: the head's errors are told ahead of the additional headers', and these ahead of the data's.
func TestOrderOfRight(t *testing.T) {
	p := ping(strings.Repeat("x", api.MaxData+1))
	p.Ahs = []api.Ahs{{Kind: 256}}
	p.Head.Values = nil
	wrong(t, "all three", p, api.ErrMissing)
	p.Head.Values = []uint64{0, 1 << 40, 0, 0, 0}
	p.Ahs = make([]api.Ahs, 256)
	wrong(t, "a value and too many headers", p, api.ErrRange)
	p.Head = ping("").Head
	p.Ahs = []api.Ahs{{Kind: 256}}
	wrong(t, "a kind and too many data", p, api.ErrRange)
	p.Ahs = nil
	wrong(t, "too many data", p, api.ErrLimit)
}

// TestNoSuchMode: that is told ahead of all else.
func TestNoSuchMode(t *testing.T) {
	whole, _ := Write(ping("hello"), 0)
	for _, mode := range noModes {
		for _, p := range []api.Pdu{ping("hello"), {}, {Ahs: []api.Ahs{{Kind: 256}}}} {
			s, err := Write(p, mode)
			refused(t, "Write", err, api.ErrArg)
			if s != "" {
				t.Errorf("%d bytes beside an error", len(s))
			}
		}
		for _, s := range []string{whole, whole[:50], whole[:47], ""} {
			n, err := Size(s, mode)
			refused(t, "Size", err, api.ErrArg)
			if n != 0 {
				t.Errorf("Size %d beside an error", n)
			}
			unread(t, "a PDU in no mode", s, mode, api.ErrArg)
		}
	}
}

func TestSize(t *testing.T) {
	for _, x := range []struct {
		words byte
		data  int
		want  [4]int
	}{
		{0, 0, [4]int{48, 52, 48, 52}},
		{0, 1, [4]int{52, 56, 56, 60}},
		{0, 3, [4]int{52, 56, 56, 60}},
		{0, 4, [4]int{52, 56, 56, 60}},
		{0, 5, [4]int{56, 60, 60, 64}},
		{1, 0, [4]int{52, 56, 52, 56}},
		{255, 0, [4]int{1068, 1072, 1068, 1072}},
		{128, 256, [4]int{816, 820, 820, 824}},
		{0, 1 << 16, [4]int{65584, 65588, 65588, 65592}},
		{0, api.MaxData + 1, [4]int{100052, 100056, 100056, 100060}},
		{255, most, [4]int{16778284, 16778288, 16778288, 16778292}},
	} {
		for mode, want := range x.want {
			s := first(0, x.words, x.data)
			for _, s := range []string{s, s + "x", strings.Repeat("\xff", 4) + s[4:8] + strings.Repeat("\xff", 40)} {
				if n, err := Size(s, mode); n != want || err != nil {
					t.Errorf("Size of %d words and %d bytes in mode %d: %d, %v, want %d", x.words, x.data, mode, n, err, want)
				}
			}
		}
	}
	for mode := range 4 {
		for n := range api.HeadSize {
			got, err := Size(strings.Repeat("\x01", n), mode)
			refused(t, "Size", err, api.ErrMissing)
			if got != 0 {
				t.Errorf("Size %d beside an error", got)
			}
		}
	}
}

// TestBeginnings: no beginning of a PDU is one.
func TestBeginnings(t *testing.T) {
	p := ping("hello")
	p.Ahs = []api.Ahs{{Kind: 1, Data: "ab"}, {}}
	for mode := range 4 {
		s, err := Write(p, mode)
		if err != nil {
			t.Fatal(err)
		}
		for n := range len(s) {
			unread(t, "a beginning", s[:n], mode, api.ErrMissing)
		}
	}
	unread(t, "a beginning of what is wrong", strings.Repeat("\xff", 99), 3, api.ErrMissing)
	unread(t, "no digest", first(0, 0, 0), 1, api.ErrMissing)
	unread(t, "no digest of data", first(0, 0, 1)+"xxxx", 2, api.ErrMissing)
}

// TestReadRefuses has right digests, but for those that are told.
func TestReadRefuses(t *testing.T) {
	for mode := range 4 {
		for _, x := range []struct {
			what, first, more, data string
			want                    api.Errno
		}{
			{"a first byte of 128", first(128, 0, 0), "", "", api.ErrForm},
			{"no such op", first(7, 0, 0), "", "", api.ErrArg},
			{"no such op, now", first(64+7, 0, 0), "", "", api.ErrArg},
			{"a target's, now", first(64+32, 0, 0), "", "", api.ErrForm},
			{"a flag", changed(first(0, 0, 0), 1, 1), "", "", api.ErrForm},
			{"a byte that is to be 0", changed(first(0, 0, 0), 47, 1), "", "", api.ErrForm},
			{"a header that isn't all there", first(0, 1, 0), "\x00\x02\x01a", "", api.ErrMissing},
			{"another one behind one", first(0, 2, 0), "\x00\x00\x00\x00\x00\x02\x01a", "", api.ErrMissing},
			{"a header's Pad", first(0, 1, 0), "\x00\x00\x01\x01", "", api.ErrForm},
			{"another one's Pad", first(0, 2, 0), "\x00\x00\x00\x00\x00\x00\x01\x01", "", api.ErrForm},
			{"the data's Pad, of three", first(0, 0, 1), "", "x\x01\x00\x00", api.ErrForm},
			{"the data's Pad, in the middle", first(0, 0, 1), "", "x\x00\x80\x00", api.ErrForm},
			{"the data's Pad, of one", first(0, 0, 3), "", "xxx\x01", api.ErrForm},
			{"too many data", first(0, 0, api.MaxData+1), "", strings.Repeat("x", api.MaxData+1) + "\x00\x00\x00", api.ErrLimit},
			{"the most data", first(0, 0, most), "", strings.Repeat("x", most) + "\x00", api.ErrLimit},
		} {
			s := laid(x.first, x.more, x.data, mode)
			unread(t, x.what, s, mode, x.want)
			unread(t, x.what, s+"more", mode, x.want)
		}
	}
}

// TestOrderOfRead begins with all that may be wrong with bytes, and takes away one after the other.
func TestOrderOfRead(t *testing.T) {
	data := strings.Repeat("x", api.MaxData+1)
	lead, more := first(7, 2, len(data)), "\x00\x00\x00\x00\x00\x02\x01a"
	spoilt := "\x00\x00\x00\x00"
	unread(t, "all", lead+more+spoilt+data+"\x00\x01\x00"+spoilt, 3, api.ErrSpoilt)
	lead = changed(lead, 0, 0)
	unread(t, "all but the op", lead+more+spoilt+data+"\x00\x01\x00"+spoilt, 3, api.ErrSpoilt)
	lead = changed(lead, 0, 7)
	unread(t, "a head", lead+more+sum(lead+more)+data+"\x00\x01\x00"+spoilt, 3, api.ErrArg)
	lead = changed(lead, 0, 0)
	unread(t, "an additional header", lead+more+sum(lead+more)+data+"\x00\x01\x00"+spoilt, 3, api.ErrMissing)
	more = "\x00\x00\x00\x00\x00\x01\x01a"
	unread(t, "a Pad", lead+more+sum(lead+more)+data+"\x00\x01\x00"+spoilt, 3, api.ErrForm)
	unread(t, "a digest", lead+more+sum(lead+more)+data+"\x00\x00\x00"+spoilt, 3, api.ErrFalse)
	unread(t, "their number", laid(lead, more, data+"\x00\x00\x00", 3), 3, api.ErrLimit)
	// A head that is not all right needs all its bytes, too.
	unread(t, "too few", (lead + more + spoilt + data)[:len(data)], 3, api.ErrMissing)
}

// TestOtherDigests: each bit of a digest counts, in the modes that have it alone.
func TestOtherDigests(t *testing.T) {
	p := ping("hello")
	p.Ahs = []api.Ahs{{Kind: 1, Data: "ab"}}
	for _, x := range []struct {
		mode, at int
		want     api.Errno
	}{
		{api.HeadDigest, 56, api.ErrSpoilt},
		{3, 56, api.ErrSpoilt},
		{api.DataDigest, 64, api.ErrFalse},
		{3, 68, api.ErrFalse},
	} {
		s, err := Write(p, x.mode)
		if err != nil {
			t.Fatal(err)
		}
		for at := x.at; at < x.at+4; at++ {
			for bit := range 8 {
				unread(t, "another digest", changed(s, at, s[at]^1<<bit), x.mode, x.want)
			}
		}
	}
	// The digest of data is that of their Pad, too, and not that of the head.
	lead := first(0, 0, 1)
	unread(t, "a digest without the Pad", lead+"x\x00\x00\x00"+sum("x"), 2, api.ErrFalse)
	unread(t, "a digest of all", lead+"x\x00\x00\x00"+sum(lead+"x\x00\x00\x00"), 2, api.ErrFalse)
	lead = first(0, 1, 0)
	unread(t, "a digest of 48 bytes alone", lead+"\x00\x00\x00\x00"+sum(lead), 1, api.ErrSpoilt)
}

// TestTurnedBits turns bits that are at most 32 apart, all of one PDU's.
func TestTurnedBits(t *testing.T) {
	p := ping("hello, quay")
	p.Ahs = []api.Ahs{{Kind: 1, Data: "a"}}
	s, err := Write(p, 3)
	if err != nil {
		t.Fatal(err)
	}
	const data, pad = 56, 67
	r := rand.New(rand.NewSource(7))
	for from := range 8 * (len(s) - 4) {
		for _, turned := range []uint32{1, 3, 0xffffffff, r.Uint32() | 1, r.Uint32() | 1<<31 | 1} {
			b := []byte(s)
			last := from
			for bit := range 32 {
				if turned>>bit&1 != 0 {
					last = from + bit
					b[last/8] ^= 1 << (last % 8)
				}
			}
			_, _, err := Read(string(b), 3)
			got, _ := plain.Place(err)
			var want []api.Errno
			switch at, to := from/8, last/8; {
			case at < 8 && to >= 4: // another size, perhaps
				want = []api.Errno{api.ErrMissing, api.ErrSpoilt}
			case at < data:
				want = []api.Errno{api.ErrSpoilt}
			case at <= pad && to >= pad: // the Pad, perhaps
				want = []api.Errno{api.ErrForm, api.ErrFalse}
			default:
				want = []api.Errno{api.ErrFalse}
			}
			if !slices.Contains(want, got) {
				t.Errorf("bits %d to %d turned: error %d, want one of %d", from, last, got, want)
			}
		}
	}
}

// TestSingleBits turns each bit of a PDU, in each mode: what is read then is what its bytes are.
func TestSingleBits(t *testing.T) {
	p := ping("hello, quay")
	p.Ahs = []api.Ahs{{Kind: 1, Data: "ab"}, {Kind: 2}}
	for mode := range 4 {
		s, err := Write(p, mode)
		if err != nil {
			t.Fatal(err)
		}
		for at := range len(s) {
			for bit := range 8 {
				writtenSo(t, changed(s, at, s[at]^1<<bit), mode)
			}
		}
	}
}

// writtenSo checks that what is read is written so, and tells whether anything was.
func writtenSo(t *testing.T, s string, mode int) bool {
	t.Helper()
	p, n, err := Read(s, mode)
	if err != nil {
		return false
	}
	if again, err := Write(p, mode); again != s[:n] || err != nil {
		t.Errorf("%q is read in mode %d, and written %q, %v", s, mode, again, err)
	}
	return true
}

// TestWhatIsReadIsWrittenSo reads many bytes that are PDUs, or nearly so.
func TestWhatIsReadIsWrittenSo(t *testing.T) {
	r := rand.New(rand.NewSource(5))
	read := 0
	for range 20_000 {
		lead := []byte(first(byte(ops[r.Intn(len(ops))]), byte(r.Intn(4)), r.Intn(9)))
		for range r.Intn(4) {
			lead[r.Intn(len(lead))] = byte(r.Intn(256))
		}
		more := make([]byte, 4*int(lead[4]))
		for i := range more {
			more[i] = byte(r.Intn(7) / 4)
		}
		data := make([]byte, 12)
		for i := range data {
			data[i] = byte(r.Intn(7) / 6)
		}
		size := (int(lead[7]) + 3) / 4 * 4
		padded := string(data[:min(len(data), size)])
		mode := r.Intn(4)
		if writtenSo(t, laid(string(lead), string(more), padded, mode)+"more", mode) {
			read++
		}
	}
	if read < 1_000 {
		t.Errorf("but %d were read", read)
	}
}

// TestAnything: whatever is handed in, every call ends, and none panics.
func TestAnything(t *testing.T) {
	r := rand.New(rand.NewSource(3))
	for range 20_000 {
		b := make([]byte, r.Intn(300))
		for i := range b {
			b[i] = byte(r.Intn(256) >> (4 * r.Intn(3)))
		}
		for mode := -1; mode < 5; mode++ {
			writtenSo(t, string(b), mode)
		}
	}
}

// TestListsAreLeft: what is handed in stays as it is, also behind its length.
func TestListsAreLeft(t *testing.T) {
	values := []uint64{1, 2, 3, 4, 5, 6, 7}
	more := []api.Ahs{{Kind: 1, Data: "a"}, {Kind: 2, Data: "bc"}, {Kind: 3, Data: "def"}}
	keptValues, keptMore := slices.Clone(values), slices.Clone(more)
	p := api.Pdu{Head: api.Head{Op: api.NopOut, Values: values[:5]}, Ahs: more[:1], Data: "x"}
	for mode := range 4 {
		if _, err := Write(p, mode); err != nil || Right(p) != nil {
			t.Errorf("it isn't right: %v", err)
		}
	}
	if !slices.Equal(values, keptValues) || !slices.Equal(more, keptMore) {
		t.Errorf("%v, %v", values, more)
	}
}

// TestFreshLists: what comes out is the caller's.
func TestFreshLists(t *testing.T) {
	p := ping("hello")
	p.Ahs = []api.Ahs{{Kind: 1, Data: "a"}, {Kind: 2}}
	s, err := Write(p, 3)
	if err != nil {
		t.Fatal(err)
	}
	q, _, err := Read(s, 3)
	if err != nil {
		t.Fatal(err)
	}
	clear(q.Head.Values)
	clear(q.Ahs)
	both(t, "one that was read ahead", p, 3, s)
}
