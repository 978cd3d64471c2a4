package feed

import (
	"encoding/binary"
	"hash/crc32"
	"math"
	"math/rand"
	"reflect"
	"strings"
	"testing"

	"quaymaster/api"
	"quaymaster/pdu"
	"quaymaster/plain"
)

// most is how many bytes of data a head can tell of.
const most = 1<<24 - 1

// noModes are numbers that are no modes.
var noModes = []int{-1, -2, -3, -4, 4, 5, 7, 8, 256, 1 << 32, math.MinInt, math.MaxInt}

// made is a feed of a limit and a mode.
func made(t *testing.T, limit, mode int) *Feed {
	t.Helper()
	f, err := New(limit)
	if f == nil || err != nil {
		t.Fatalf("New of %d: %v, %v", limit, f, err)
	}
	taken(t, "Mode", f.Mode(mode))
	return f
}

// taken checks that there is no error.
func taken(t *testing.T, what string, err error) {
	t.Helper()
	if err != nil {
		t.Errorf("%s: %v", what, err)
	}
}

// refused checks that an error is that Errno, and has no place.
func refused(t *testing.T, what string, err error, want api.Errno) {
	t.Helper()
	if got, place := plain.Place(err); got != want || place != -1 {
		t.Errorf("%s: error %d at %d, want %d without a place", what, got, place, want)
	}
}

// put puts bytes in, which are to be taken.
func put(t *testing.T, f *Feed, s string) {
	t.Helper()
	before := f.Kept()
	taken(t, "Put", f.Put(s))
	if n := f.Kept(); n != before+len(s) {
		t.Errorf("Kept is %d behind a Put of %d bytes, and was %d", n, len(s), before)
	}
}

// nothing checks that Next tells false, and nothing else, and that so many bytes are kept, ahead of it and behind it.
func nothing(t *testing.T, what string, f *Feed, kept int) {
	t.Helper()
	for range 2 {
		if n := f.Kept(); n != kept {
			t.Errorf("%s: Kept is %d, want %d", what, n, kept)
		}
		p, ok, err := f.Next()
		if ok || err != nil || !reflect.DeepEqual(p, api.Piece{}) {
			t.Errorf("%s: Next is %.200v, %v, %v", what, p, ok, err)
		}
		l, err := f.All()
		if len(l) != 0 || err != nil {
			t.Errorf("%s: All is %.200v, %v", what, l, err)
		}
	}
}

// comes checks that Next is that piece, and that so many bytes are kept behind it.
func comes(t *testing.T, what string, f *Feed, want api.Piece, kept int) {
	t.Helper()
	p, ok, err := f.Next()
	if !ok || err != nil || !same(p, want) {
		t.Errorf("%s: Next is %.200v, %v, %v, want %.200v", what, p, ok, err, want)
	}
	if n := f.Kept(); n != kept {
		t.Errorf("%s: Kept is %d behind it, want %d", what, n, kept)
	}
}

// stops checks that Next tells an error, nothing beside it, and that nothing comes or is taken any more.
func stops(t *testing.T, what string, f *Feed, want api.Errno) {
	t.Helper()
	p, ok, err := f.Next()
	refused(t, what, err, want)
	if ok || !reflect.DeepEqual(p, api.Piece{}) {
		t.Errorf("%s: %.200v, %v beside an error", what, p, ok)
	}
	stopped(t, what, f)
}

// stopped checks that something was wrong with a feed: whatever is tried, it takes nothing, and gives nothing.
func stopped(t *testing.T, what string, f *Feed) {
	t.Helper()
	nothing(t, what, f, 0)
	for _, s := range []string{"", "x", written(t, ping("hello"), 0)} {
		refused(t, what+": Put", f.Put(s), api.ErrState)
	}
	for mode := range 4 {
		refused(t, what+": Mode", f.Mode(mode), api.ErrState)
	}
	for _, mode := range noModes {
		refused(t, what+": Mode", f.Mode(mode), api.ErrArg)
	}
	nothing(t, what, f, 0)
}

// same says whether two pieces are alike; an empty list may be nil or not.
func same(a, b api.Piece) bool {
	return a.Spoilt == b.Spoilt && reflect.DeepEqual(plainly(a.Pdu), plainly(b.Pdu))
}

// plainly is a PDU whose empty lists are nil.
func plainly(p api.Pdu) api.Pdu {
	if len(p.Head.Values) == 0 {
		p.Head.Values = nil
	}
	if len(p.Ahs) == 0 {
		p.Ahs = nil
	}
	return p
}

// whole is the piece of a PDU.
func whole(p api.Pdu) api.Piece { return api.Piece{Pdu: p} }

// written is a PDU as bytes.
func written(t *testing.T, p api.Pdu, mode int) string {
	t.Helper()
	s, err := pdu.Write(p, mode)
	if err != nil {
		t.Fatal(err)
	}
	return s
}

// ping is a NopOut with data.
func ping(data string) api.Pdu {
	return api.Pdu{Head: api.Head{Op: api.NopOut, Flags: 128, Values: []uint64{0, 1, 0, 2, 0}}, Data: data}
}

// longPing has additional headers, too.
func longPing(data string) api.Pdu {
	p := ping(data)
	p.Ahs = []api.Ahs{{Kind: 1, Data: "ab"}, {Kind: 2}}
	return p
}

// first are 48 bytes of an op and numbers, all else 0.
func first(op, words byte, data int) string {
	b := make([]byte, api.HeadSize)
	b[0], b[4] = op, words
	b[5], b[6], b[7] = byte(data>>16), byte(data>>8), byte(data)
	return string(b)
}

// sum is a digest, by Go's own CRC.
func sum(s string) string {
	n := crc32.Checksum([]byte(s), crc32.MakeTable(crc32.Castagnoli))
	return string(binary.LittleEndian.AppendUint32(nil, n))
}

// laid are a head with what is behind it, and data with their Pad, with the right digests of a mode.
func laid(headers, padded string, mode int) string {
	s := headers
	if mode&1 != 0 {
		s += sum(headers)
	}
	s += padded
	if mode&2 != 0 && padded != "" {
		s += sum(padded)
	}
	return s
}

// turned is s with a bit of a byte turned.
func turned(s string, at int) string {
	return s[:at] + string([]byte{s[at] ^ 1}) + s[at+1:]
}

func TestNew(t *testing.T) {
	for _, limit := range []int{0, 1, 2, 512, 8192, api.MaxData - 1, api.MaxData} {
		f, err := New(limit)
		if f == nil || err != nil {
			t.Fatalf("New of %d: %v, %v", limit, f, err)
		}
		nothing(t, "a new one", f, 0)
		taken(t, "Mode", f.Mode(0))
	}
	for _, limit := range []int{-1, -2, api.MaxData + 1, 1 << 24, 1 << 32, math.MinInt, math.MaxInt} {
		f, err := New(limit)
		refused(t, "New", err, api.ErrRange)
		if f != nil {
			t.Errorf("a feed of %d beside an error", limit)
		}
	}
}

// TestFirstMode: without a Mode there are no digests.
func TestFirstMode(t *testing.T) {
	f, _ := New(100)
	put(t, f, written(t, longPing("hello"), 0))
	comes(t, "without digests", f, whole(longPing("hello")), 0)
}

// TestByteByByte: a PDU comes with its last byte, neither ahead of it nor behind it.
func TestByteByByte(t *testing.T) {
	for mode := range 4 {
		for _, p := range []api.Pdu{ping(""), ping("hello"), ping("four"), longPing(""), longPing("hello, quay")} {
			s := written(t, p, mode)
			f := made(t, 100, mode)
			for range 3 {
				for i := range len(s) {
					nothing(t, "not all of it", f, i)
					put(t, f, s[i:i+1])
				}
				comes(t, "all of it", f, whole(p), 0)
				nothing(t, "no more", f, 0)
			}
		}
	}
}

// TestPutBehind: what is put stands behind all that is there, and what is put empty changes nothing.
func TestPutBehind(t *testing.T) {
	a, b, c := ping("a"), longPing("bcdefg"), ping("")
	for mode := range 4 {
		sa, sb, sc := written(t, a, mode), written(t, b, mode), written(t, c, mode)
		f := made(t, 100, mode)
		put(t, f, "")
		put(t, f, sa+sb[:60])
		put(t, f, sb[60:])
		put(t, f, "")
		put(t, f, sc+sa)
		put(t, f, sb[:47])
		comes(t, "first", f, whole(a), len(sb+sc+sa)+47)
		put(t, f, sb[47:])
		comes(t, "second", f, whole(b), len(sc+sa+sb))
		comes(t, "third", f, whole(c), len(sa+sb))
		l, err := f.All()
		if len(l) != 2 || err != nil || !same(l[0], whole(a)) || !same(l[1], whole(b)) {
			t.Errorf("All is %v, %v", l, err)
		}
		nothing(t, "no more", f, 0)
	}
}

// TestAll goes as far as there are whole PDUs, and leaves the beginning of another one.
func TestAll(t *testing.T) {
	for mode := range 4 {
		s := written(t, longPing("hello"), mode)
		for n := range 5 {
			for _, more := range []int{0, 1, 47, 48, 49, len(s) - 1} {
				f := made(t, 5, mode)
				put(t, f, strings.Repeat(s, n)+s[:more])
				l, err := f.All()
				if len(l) != n || err != nil || f.Kept() != more {
					t.Errorf("All of %d PDUs and %d bytes: %d pieces, %v, %d bytes are kept", n, more, len(l), err, f.Kept())
				}
				for _, p := range l {
					if !same(p, whole(longPing("hello"))) {
						t.Errorf("a piece is %v", p)
					}
				}
				nothing(t, "a beginning", f, more)
			}
		}
	}
}

// TestLimit: as many data as the limit may come, and not one more.
func TestLimit(t *testing.T) {
	for mode := range 4 {
		for _, limit := range []int{0, 1, 3, 4, 5, 255, 256, 512, 65535, 65536, api.MaxData - 1, api.MaxData} {
			for _, n := range []int{0, limit - 1, limit} {
				if n < 0 {
					continue
				}
				p := longPing(strings.Repeat("x", n))
				f := made(t, limit, mode)
				put(t, f, written(t, p, mode))
				comes(t, "as many as may be", f, whole(p), 0)
			}
			for _, n := range []int{limit + 1, limit + 256, limit + 65536, most} {
				// That is told by the head alone, all of which is there, and nothing behind it.
				f := made(t, limit, mode)
				put(t, f, first(0, 0, n)[:47])
				nothing(t, "not all of a head", f, 47)
				put(t, f, first(0, 0, n)[47:])
				stops(t, "too many", f, api.ErrLimit)
			}
		}
	}
}

// TestLimitIsTheDatas: neither their Pad, nor digests, nor additional headers count.
func TestLimitIsTheDatas(t *testing.T) {
	for mode := range 4 {
		p := longPing("x")
		p.Ahs = append(p.Ahs, api.Ahs{Kind: 3, Data: strings.Repeat("y", 900)})
		f := made(t, 1, mode)
		put(t, f, written(t, p, mode))
		comes(t, "a byte", f, whole(p), 0)
		p.Data = ""
		f = made(t, 0, mode)
		put(t, f, written(t, p, mode))
		comes(t, "no data", f, whole(p), 0)
	}
}

// TestLimitIsToldFirst: ahead of all that may be wrong with a PDU, that is all there.
func TestLimitIsToldFirst(t *testing.T) {
	for mode := range 4 {
		for _, op := range []byte{0, 7, 64 + 32, 128, 255} {
			for _, limit := range []int{0, 4, 5} {
				f := made(t, limit, mode)
				put(t, f, first(op, 1, 6)+"\x00\x00\x01\x01"+strings.Repeat("\xff", 40))
				stops(t, "too many data of what is wrong", f, api.ErrLimit)
			}
		}
		// A digest of data that is another one doesn't let too many pass.
		s := written(t, ping("hello"), mode)
		f := made(t, 4, mode)
		put(t, f, turned(s, len(s)-1)+s)
		stops(t, "too many data, and spoilt ones", f, api.ErrLimit)
	}
}

// TestMode: it counts from then on, for bytes that are there, too.
func TestMode(t *testing.T) {
	p, q := longPing("hello"), ping("quay!")
	for from := range 4 {
		for to := range 4 {
			f := made(t, 100, from)
			a, b := written(t, p, from), written(t, q, to)
			put(t, f, a+b+a+b)
			comes(t, "in the one mode", f, whole(p), len(b+a+b))
			taken(t, "Mode", f.Mode(to))
			comes(t, "in the other one", f, whole(q), len(a+b))
			taken(t, "Mode", f.Mode(from))
			comes(t, "in the one again", f, whole(p), len(b))
			taken(t, "Mode", f.Mode(to))
			comes(t, "in the other one again", f, whole(q), 0)
			// So it is with a PDU that isn't all there yet.
			taken(t, "Mode", f.Mode(from))
			put(t, f, b[:50])
			nothing(t, "a part", f, 50)
			taken(t, "Mode", f.Mode(to))
			put(t, f, b[50:])
			comes(t, "its rest", f, whole(q), 0)
		}
	}
}

// TestModeMakesTheSize: with a digest there are more bytes to wait for, without it the same bytes are enough.
func TestModeMakesTheSize(t *testing.T) {
	s := written(t, ping("hello"), 0)
	f := made(t, 100, api.DataDigest)
	put(t, f, s)
	nothing(t, "a digest is missing", f, len(s))
	taken(t, "Mode", f.Mode(0))
	comes(t, "no digest is asked for", f, whole(ping("hello")), 0)
}

// TestNoSuchMode leaves the mode as it is.
func TestNoSuchMode(t *testing.T) {
	for mode := range 4 {
		f := made(t, 100, mode)
		s := written(t, ping("hello"), mode)
		for _, other := range noModes {
			refused(t, "Mode", f.Mode(other), api.ErrArg)
			put(t, f, s)
			refused(t, "Mode", f.Mode(other), api.ErrArg)
			comes(t, "in the mode as it was", f, whole(ping("hello")), 0)
		}
	}
}

// TestSpoiltData: its head comes alone, in 48 bytes, and what is behind it comes as ever.
func TestSpoiltData(t *testing.T) {
	for _, mode := range []int{api.DataDigest, api.HeadDigest | api.DataDigest} {
		for _, p := range []api.Pdu{ping("hello"), longPing("hello, quay!"), ping(strings.Repeat("x", 100))} {
			s := written(t, p, mode)
			end := len(s) - 4
			start := end - (len(p.Data)+3)/4*4
			for at := start; at < len(s); at++ {
				if at >= start+len(p.Data) && at < end { // the Pad
					continue
				}
				bad := turned(s, at)
				f := made(t, 100, mode)
				put(t, f, bad+s+bad+bad+s[:49])
				comes(t, "spoilt", f, api.Piece{Spoilt: s[:48]}, 3*len(s)+49)
				comes(t, "whole, behind it", f, whole(p), 2*len(s)+49)
				comes(t, "spoilt again", f, api.Piece{Spoilt: s[:48]}, len(s)+49)
				comes(t, "and again", f, api.Piece{Spoilt: s[:48]}, 49)
				nothing(t, "a beginning", f, 49)
				put(t, f, s[49:])
				comes(t, "its rest", f, whole(p), 0)
			}
		}
	}
}

// TestSpoiltDataAtTheEnd: it waits for all bytes, the digest's, too; then none is left.
func TestSpoiltDataAtTheEnd(t *testing.T) {
	s := written(t, longPing("hello"), 3)
	bad := turned(s, len(s)-1)
	f := made(t, 5, 3)
	for i := range len(bad) {
		nothing(t, "not all of it", f, i)
		put(t, f, bad[i:i+1])
	}
	comes(t, "all of it", f, api.Piece{Spoilt: s[:48]}, 0)
	nothing(t, "no more", f, 0)
	put(t, f, s+bad)
	l, err := f.All()
	if len(l) != 2 || err != nil || !same(l[0], whole(longPing("hello"))) || !same(l[1], api.Piece{Spoilt: s[:48]}) {
		t.Errorf("All is %v, %v", l, err)
	}
}

// TestWithoutDigestNothingIsSpoilt: in the other modes other data are other data.
func TestWithoutDigestNothingIsSpoilt(t *testing.T) {
	for _, mode := range []int{0, api.HeadDigest} {
		s := written(t, ping("hello"), mode)
		f := made(t, 100, mode)
		put(t, f, turned(s, len(s)-8))
		comes(t, "other data", f, whole(ping("iello")), 0)
	}
}

// wrongs are bytes, as many as they tell, that are no PDU, in a mode, and why.
func wrongs(mode int) []wrong {
	l := []wrong{
		{"a first byte of 128", laid(first(128, 0, 0), "", mode), api.ErrForm},
		{"no such op", laid(first(7, 0, 5), "hello\x00\x00\x00", mode), api.ErrArg},
		{"a target's, now", laid(first(64+32, 0, 0), "", mode), api.ErrForm},
		{"a byte that is to be 0", laid(turned(first(0, 0, 0), 47), "", mode), api.ErrForm},
		{"a flag", laid(turned(first(0, 0, 0), 1), "", mode), api.ErrForm},
		{"an additional header that isn't all there", laid(first(0, 1, 0)+"\x00\x02\x01a", "", mode), api.ErrMissing},
		{"another one's Pad", laid(first(0, 2, 0)+"\x00\x00\x00\x00\x00\x00\x01\x01", "", mode), api.ErrForm},
		{"the data's Pad", laid(first(0, 0, 5), "hello\x00\x01\x00", mode), api.ErrForm},
	}
	if mode&api.HeadDigest != 0 {
		s := laid(first(0, 1, 5)+"\x00\x00\x00\x00", "hello\x00\x00\x00", mode)
		for _, at := range []int{0, 47, 48, 51, 52, 55} {
			l = append(l, wrong{"a digest of headers", turned(s, at), api.ErrSpoilt})
		}
	}
	return l
}

// wrong is what is wrong with bytes.
type wrong struct {
	what, s string
	want    api.Errno
}

// TestStops: pdu's errors come bare, with the last byte; what came ahead has come, and nothing comes behind.
func TestStops(t *testing.T) {
	for mode := range 4 {
		good := written(t, longPing("hello"), mode)
		for _, x := range wrongs(mode) {
			f := made(t, 5, mode)
			for i := range len(x.s) {
				nothing(t, x.what+", not all of it", f, i)
				put(t, f, x.s[i:i+1])
			}
			stops(t, x.what, f, x.want)
			f = made(t, 5, mode)
			put(t, f, good+x.s+good+x.s)
			comes(t, "ahead of it", f, whole(longPing("hello")), len(x.s+good+x.s))
			stops(t, x.what, f, x.want)
		}
	}
}

// TestAllStops: the pieces that came ahead stand beside the error.
func TestAllStops(t *testing.T) {
	for mode := range 4 {
		good := written(t, longPing("hello"), mode)
		for _, x := range append(wrongs(mode), wrong{"too many data", first(0, 0, 6), api.ErrLimit}) {
			for n := range 3 {
				f := made(t, 5, mode)
				put(t, f, strings.Repeat(good, n)+x.s+good)
				l, err := f.All()
				refused(t, x.what, err, x.want)
				if len(l) != n {
					t.Errorf("%s: %d pieces beside the error, want %d", x.what, len(l), n)
				}
				for _, p := range l {
					if !same(p, whole(longPing("hello"))) {
						t.Errorf("%s: a piece is %v", x.what, p)
					}
				}
				stopped(t, x.what, f)
			}
		}
	}
}

// TestSpoiltDataThenWrong: spoilt data are no error, and keep none from being told.
func TestSpoiltDataThenWrong(t *testing.T) {
	s := written(t, ping("hello"), 2)
	f := made(t, 5, 2)
	put(t, f, turned(s, 48)+first(7, 0, 0)+s)
	l, err := f.All()
	refused(t, "no such op", err, api.ErrArg)
	if len(l) != 1 || !same(l[0], api.Piece{Spoilt: s[:48]}) {
		t.Errorf("%v beside the error", l)
	}
	stopped(t, "no such op", f)
}

// TestOtherErrorsAheadOfSpoiltData: what is wrong beside the data's digest is told, and it doesn't go on.
func TestOtherErrorsAheadOfSpoiltData(t *testing.T) {
	for _, mode := range []int{2, 3} {
		for _, x := range wrongs(mode) {
			if x.s[7] == 0 { // no data
				continue
			}
			f := made(t, 5, mode)
			put(t, f, turned(x.s, len(x.s)-1))
			stops(t, x.what, f, x.want)
		}
	}
}

// TestFeedsAreApart: what is wrong with one, or in it, is nothing to another one.
func TestFeedsAreApart(t *testing.T) {
	f, g := made(t, 5, 0), made(t, 6, 3)
	put(t, f, written(t, ping("hello"), 0)[:50])
	put(t, g, first(128, 0, 7))
	stops(t, "too many", g, api.ErrLimit)
	nothing(t, "the other one", f, 50)
	put(t, f, written(t, ping("hello"), 0)[50:])
	comes(t, "the other one", f, whole(ping("hello")), 0)
}

// TestPiecesAreTheCallers: neither do they change what comes, nor are they changed by it.
func TestPiecesAreTheCallers(t *testing.T) {
	p, q := longPing("hello"), api.Pdu{Head: api.Head{Op: api.NopIn, Values: make([]uint64, 6)}, Ahs: []api.Ahs{{Kind: 9, Data: "xyz"}}, Data: "other"}
	for mode := range 4 {
		a, b := written(t, p, mode), written(t, q, mode)
		f := made(t, 100, mode)
		put(t, f, a+a+a)
		one, _, _ := f.Next()
		clear(one.Pdu.Head.Values)
		clear(one.Pdu.Ahs)
		comes(t, "the next one", f, whole(p), len(a))
		kept, _, _ := f.Next()
		for range 20 {
			put(t, f, b)
			comes(t, "another one", f, whole(q), 0)
		}
		if !same(kept, whole(p)) {
			t.Errorf("a piece has become %v", kept)
		}
	}
	s := written(t, p, 2)
	f := made(t, 100, 2)
	put(t, f, turned(s, len(s)-1))
	spoilt, _, _ := f.Next()
	for range 20 {
		put(t, f, written(t, q, 2))
		comes(t, "another one", f, whole(q), 0)
	}
	if spoilt.Spoilt != s[:48] {
		t.Errorf("a spoilt piece has become %q", spoilt.Spoilt)
	}
}

// stream is what may come in a mode: PDUs, spoilt ones, some that are wrong, and a part of one at the end.
func stream(t *testing.T, r *rand.Rand, mode int) string {
	var b strings.Builder
	for range r.Intn(6) {
		p := ping(strings.Repeat("x", r.Intn(14)))
		if r.Intn(2) == 0 {
			p = longPing(p.Data)
		}
		s := written(t, p, mode)
		switch r.Intn(8) {
		case 0, 1:
			s = turned(s, len(s)-1)
		case 2:
			l := wrongs(mode)
			s = l[r.Intn(len(l))].s
		case 3:
			s = turned(s, r.Intn(len(s)))
		}
		b.WriteString(s)
	}
	s := written(t, longPing("hello"), mode)
	b.WriteString(s[:r.Intn(len(s))])
	return b.String()
}

// outcome is what came of bytes: pieces, an error, how many bytes are kept.
type outcome struct {
	pieces []api.Piece
	err    api.Errno
	kept   int
}

// plainRead is what is to come of bytes, read one PDU after the other.
func plainRead(s string, limit, mode int) outcome {
	var o outcome
	for len(s) >= 48 {
		if int(s[5])<<16+int(s[6])<<8+int(s[7]) > limit {
			return outcome{pieces: o.pieces, err: api.ErrLimit}
		}
		size, _ := pdu.Size(s, mode)
		if len(s) < size {
			break
		}
		p, _, err := pdu.Read(s, mode)
		switch api.Tell(err) {
		case api.OK:
			o.pieces = append(o.pieces, whole(p))
		case api.ErrFalse:
			o.pieces = append(o.pieces, api.Piece{Spoilt: s[:48]})
		default:
			return outcome{pieces: o.pieces, err: api.Tell(err)}
		}
		s = s[size:]
	}
	o.kept = len(s)
	return o
}

// cutRead is what comes of bytes that are put in parts, asked for by Next or All in between, or not.
func cutRead(t *testing.T, r *rand.Rand, s string, limit, mode int) outcome {
	f := made(t, limit, mode)
	var o outcome
	take := func(l []api.Piece, err error) {
		o.pieces = append(o.pieces, l...)
		if err != nil {
			o.err = api.Tell(err)
		}
	}
	most := []int{1, 3, 60, 400}[r.Intn(4)]
	for s != "" && o.err == 0 {
		n := min(r.Intn(most+1), len(s))
		put(t, f, s[:n])
		s = s[n:]
		switch r.Intn(3) {
		case 0:
			take(f.All())
		case 1:
			if p, ok, err := f.Next(); ok {
				take([]api.Piece{p}, err)
			} else {
				take(nil, err)
			}
		}
	}
	take(f.All())
	o.kept = f.Kept()
	return o
}

// TestHoweverCut: the same bytes give the same pieces, error and rest, in whichever parts they come.
func TestHoweverCut(t *testing.T) {
	r := rand.New(rand.NewSource(8))
	told := map[api.Errno]int{}
	for range 3_000 {
		mode, limit := r.Intn(4), 10+r.Intn(8)
		s := stream(t, r, mode)
		want := plainRead(s, limit, mode)
		told[want.err]++
		for range 3 {
			got := cutRead(t, r, s, limit, mode)
			alike := len(got.pieces) == len(want.pieces) && got.err == want.err && got.kept == want.kept
			for i := 0; alike && i < len(got.pieces); i++ {
				alike = same(got.pieces[i], want.pieces[i])
			}
			if !alike {
				t.Fatalf("%q in mode %d, limit %d: %v, want %v", s, mode, limit, got, want)
			}
		}
	}
	for _, e := range []api.Errno{api.OK, api.ErrLimit, api.ErrSpoilt, api.ErrForm, api.ErrArg, api.ErrMissing} {
		if told[e] < 20 {
			t.Errorf("error %d came but %d times", e, told[e])
		}
	}
}

// TestEachCut cuts bytes in two, at each place.
func TestEachCut(t *testing.T) {
	for mode := range 4 {
		a, b := written(t, longPing("hello"), mode), written(t, ping("quay"), mode)
		s := a + b + turned(b, len(b)-1) + a
		want := plainRead(s, 5, mode)
		for cut := range len(s) + 1 {
			f := made(t, 5, mode)
			put(t, f, s[:cut])
			got, err := f.All()
			taken(t, "All of the first part", err)
			put(t, f, s[cut:])
			l, err := f.All()
			taken(t, "All of the second part", err)
			got = append(got, l...)
			if len(got) != 4 || len(want.pieces) != 4 || f.Kept() != 0 {
				t.Fatalf("%d pieces, cut at %d, want %d", len(got), cut, len(want.pieces))
			}
			for i, p := range got {
				if !same(p, want.pieces[i]) {
					t.Errorf("piece %d, cut at %d, is %v, want %v", i, cut, p, want.pieces[i])
				}
			}
		}
	}
}

// TestMany: steps are as many as bytes, more or less, however they come.
func TestMany(t *testing.T) {
	p := ping(strings.Repeat("x", api.MaxData))
	s := written(t, p, 3)
	f := made(t, api.MaxData, 3)
	for i := range len(s) {
		if _, ok, err := f.Next(); ok || err != nil || f.Put(s[i:i+1]) != nil {
			t.Fatalf("at byte %d: %v, %v", i, ok, err)
		}
	}
	comes(t, "the most data, byte by byte", f, whole(p), 0)
	const n = 50_000
	one := written(t, ping(""), 0)
	taken(t, "Mode", f.Mode(0))
	put(t, f, strings.Repeat(one, n)+"x")
	l, err := f.All()
	if len(l) != n || err != nil || f.Kept() != 1 {
		t.Errorf("%d pieces, %v, %d bytes are kept", len(l), err, f.Kept())
	}
}

// TestAnything: whatever comes, every call ends, and none panics.
func TestAnything(t *testing.T) {
	r := rand.New(rand.NewSource(9))
	for range 20_000 {
		b := make([]byte, r.Intn(300))
		for i := range b {
			b[i] = byte(r.Intn(256) >> (4 * r.Intn(3)))
		}
		mode, limit := r.Intn(4), r.Intn(api.MaxData+1)
		f := made(t, limit, mode)
		put(t, f, string(b))
		want := plainRead(string(b), limit, mode)
		l, err := f.All()
		if len(l) != len(want.pieces) || api.Tell(err) != want.err || f.Kept() != want.kept {
			t.Fatalf("%q in mode %d, limit %d: %d pieces, %v, %d are kept", b, mode, limit, len(l), err, f.Kept())
		}
	}
}
