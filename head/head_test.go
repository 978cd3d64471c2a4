package head

import (
	"fmt"
	"math"
	"slices"
	"strconv"
	"strings"
	"testing"

	"quaymaster/api"
	"quaymaster/plain"
)

// document is the table of chapter 5, as it stands there.
const document = `
| 0 | NopOut | 128 | LUN 8 8, ITT 16 4, TTT 20 4, CmdSN 24 4, ExpStatSN 28 4 |
| 1 | ScsiCommand | 231 | LUN 8 8, ITT 16 4, Length 20 4, CmdSN 24 4, ExpStatSN 28 4, CdbA 32 8, CdbB 40 8 |
| 2 | TaskRequest | 255 | LUN 8 8, ITT 16 4, RefTag 20 4, CmdSN 24 4, ExpStatSN 28 4, RefCmdSN 32 4, ExpDataSN 36 4 |
| 3 | LoginRequest | 207 | VersionMax 2 1, VersionMin 3 1, ISID 8 6, TSIH 14 2, ITT 16 4, CID 20 2, CmdSN 24 4, ExpStatSN 28 4 |
| 4 | TextRequest | 192 | LUN 8 8, ITT 16 4, TTT 20 4, CmdSN 24 4, ExpStatSN 28 4 |
| 5 | DataOut | 128 | LUN 8 8, ITT 16 4, TTT 20 4, ExpStatSN 28 4, DataSN 36 4, Offset 40 4 |
| 6 | LogoutRequest | 255 | ITT 16 4, CID 20 2, CmdSN 24 4, ExpStatSN 28 4 |
| 16 | Snack | 143 | LUN 8 8, ITT 16 4, TTT 20 4, ExpStatSN 28 4, BegRun 40 4, RunLength 44 4 |
| 32 | NopIn | 128 | LUN 8 8, ITT 16 4, TTT 20 4, StatSN 24 4, ExpCmdSN 28 4, MaxCmdSN 32 4 |
| 33 | ScsiResponse | 158 | Response 2 1, Status 3 1, ITT 16 4, SnackTag 20 4, StatSN 24 4, ExpCmdSN 28 4, MaxCmdSN 32 4, ExpDataSN 36 4, BidiResidual 40 4, Residual 44 4 |
| 34 | TaskResponse | 128 | Response 2 1, ITT 16 4, StatSN 24 4, ExpCmdSN 28 4, MaxCmdSN 32 4 |
| 35 | LoginResponse | 207 | VersionMax 2 1, VersionActive 3 1, ISID 8 6, TSIH 14 2, ITT 16 4, StatSN 24 4, ExpCmdSN 28 4, MaxCmdSN 32 4, StatusClass 36 1, StatusDetail 37 1 |
| 36 | TextResponse | 192 | LUN 8 8, ITT 16 4, TTT 20 4, StatSN 24 4, ExpCmdSN 28 4, MaxCmdSN 32 4 |
| 37 | DataIn | 199 | Status 3 1, LUN 8 8, ITT 16 4, TTT 20 4, StatSN 24 4, ExpCmdSN 28 4, MaxCmdSN 32 4, DataSN 36 4, Offset 40 4, Residual 44 4 |
| 38 | LogoutResponse | 128 | Response 2 1, ITT 16 4, StatSN 24 4, ExpCmdSN 28 4, MaxCmdSN 32 4, Time2Wait 40 2, Time2Retain 42 2 |
| 49 | R2T | 128 | LUN 8 8, ITT 16 4, TTT 20 4, StatSN 24 4, ExpCmdSN 28 4, MaxCmdSN 32 4, R2TSN 36 4, Offset 40 4, Length 44 4 |
| 50 | Async | 128 | LUN 8 8, ITT 16 4, StatSN 24 4, ExpCmdSN 28 4, MaxCmdSN 32 4, Event 36 1, VCode 37 1, Parameter1 38 2, Parameter2 40 2, Parameter3 42 2 |
| 63 | Reject | 128 | Reason 2 1, ITT 16 4, StatSN 24 4, ExpCmdSN 28 4, MaxCmdSN 32 4, DataSN 36 4 |
`

// told is a row of the document.
type told struct {
	op     int
	name   string
	flags  int
	fields []api.Field
}

// tells are the rows of the document, read without the program.
func tells(t *testing.T) []told {
	t.Helper()
	var l []told
	for line := range strings.Lines(strings.TrimSpace(document)) {
		cells := strings.Split(strings.Trim(strings.TrimSpace(line), "| "), " | ")
		d := told{name: cells[1]}
		fmt.Sscan(cells[0], &d.op)
		fmt.Sscan(cells[2], &d.flags)
		for text := range strings.SplitSeq(cells[3], ", ") {
			var f api.Field
			if _, err := fmt.Sscan(text, &f.Name, &f.At, &f.Size); err != nil {
				t.Fatal(err)
			}
			d.fields = append(d.fields, f)
		}
		l = append(l, d)
	}
	if len(l) != 18 {
		t.Fatalf("%d rows", len(l))
	}
	return l
}

// refused checks that an error is that Errno, at that place (-1: none).
func refused(t *testing.T, what string, err error, want api.Errno, place int) {
	t.Helper()
	if got, at := plain.Place(err); got != want || at != place {
		t.Errorf("%s: error %d at %d, want %d at %d", what, got, at, want, place)
	}
}

// same checks that two heads are one and the same.
func same(t *testing.T, what string, got, want api.Head) {
	t.Helper()
	if got.Op != want.Op || got.Now != want.Now || got.Flags != want.Flags || !slices.Equal(got.Values, want.Values) {
		t.Errorf("%s: %v, want %v", what, got, want)
	}
}

// full is a head of a row whose fields have all bits, or none.
func full(d told, bits uint64) api.Head {
	h := api.Head{Op: d.op, Flags: d.flags}
	for _, f := range d.fields {
		h.Values = append(h.Values, bits>>(64-8*f.Size))
	}
	return h
}

// strange are ops that there are not.
var strange = []int{-1, 7, 15, 17, 31, 39, 48, 51, 62, 64, 128, 256, 256 + api.Reject, -64, math.MinInt, math.MaxInt}

func TestTable(t *testing.T) {
	for _, d := range tells(t) {
		if name, err := Name(d.op); name != d.name || err != nil {
			t.Errorf("Name(%d) = %q, %v", d.op, name, err)
		}
		if flags, err := Flags(d.op); flags != d.flags || err != nil {
			t.Errorf("Flags(%d) = %d, %v", d.op, flags, err)
		}
		if fields, err := Fields(d.op); !slices.Equal(fields, d.fields) || err != nil {
			t.Errorf("Fields(%d) = %v, %v", d.op, fields, err)
		}
	}
}

// TestTableHasNoMore asks for each other op near those that there are, and for ones far off.
func TestTableHasNoMore(t *testing.T) {
	there := map[int]bool{}
	for _, d := range tells(t) {
		there[d.op] = true
	}
	ops := slices.Clone(strange)
	for op := range 600 {
		ops = append(ops, op-300)
	}
	for _, op := range ops {
		if there[op] {
			continue
		}
		name, err := Name(op)
		refused(t, "Name "+strconv.Itoa(op), err, api.ErrArg, -1)
		flags, err := Flags(op)
		refused(t, "Flags "+strconv.Itoa(op), err, api.ErrArg, -1)
		fields, err := Fields(op)
		refused(t, "Fields "+strconv.Itoa(op), err, api.ErrArg, -1)
		if name != "" || flags != 0 || len(fields) != 0 {
			t.Errorf("%q, %d, %v beside an error", name, flags, fields)
		}
	}
}

// TestFieldsAreTheCallers: what is done to one answer is not seen in the next one.
func TestFieldsAreTheCallers(t *testing.T) {
	l, _ := Fields(api.NopOut)
	l[0] = api.Field{Name: "X"}
	_ = append(l[:1], l[:1]...)
	if again, err := Fields(api.NopOut); again[0] != (api.Field{Name: "LUN", At: 8, Size: 8}) || again[1].Name != "ITT" || err != nil {
		t.Errorf("Fields = %v, %v", again, err)
	}
	if n, err := Value(full(tells(t)[0], 0), "LUN"); n != 0 || err != nil {
		t.Errorf("Value = %d, %v", n, err)
	}
}

func TestRight(t *testing.T) {
	for _, d := range tells(t) {
		for _, bits := range []uint64{0, 1, math.MaxUint64} {
			h := full(d, bits)
			if err := Right(h); err != nil {
				t.Errorf("Right(%v): %v", h, err)
			}
			h.Now = true
			if d.op < 32 {
				if err := Right(h); err != nil {
					t.Errorf("Right(%v): %v", h, err)
				}
				continue
			}
			refused(t, "now of "+d.name, Right(h), api.ErrForm, -1)
		}
	}
}

// TestRightFlags goes through all flags of a byte, and beyond it on both sides.
func TestRightFlags(t *testing.T) {
	for _, d := range tells(t) {
		h := full(d, 0)
		for h.Flags = range 256 {
			if h.Flags&d.flags == h.Flags {
				if err := Right(h); err != nil {
					t.Errorf("Right(%v): %v", h, err)
				}
				continue
			}
			refused(t, d.name+" with flags "+strconv.Itoa(h.Flags), Right(h), api.ErrForm, -1)
		}
		for _, h.Flags = range []int{-1, -128, -256, math.MinInt, math.MinInt | 128, 256, 256 | 128, 1 << 32, math.MaxInt} {
			refused(t, d.name+" with flags "+strconv.Itoa(h.Flags), Right(h), api.ErrForm, -1)
		}
	}
}

// TestRightValues: as many values as fields, and none greater than its field may be.
func TestRightValues(t *testing.T) {
	for _, d := range tells(t) {
		h := full(d, 0)
		h.Values = append(h.Values, 0)
		refused(t, "one more of "+d.name, Right(h), api.ErrMissing, -1)
		h.Values = h.Values[:len(d.fields)-1]
		refused(t, "one fewer of "+d.name, Right(h), api.ErrMissing, -1)
		h.Values = nil
		refused(t, "none of "+d.name, Right(h), api.ErrMissing, -1)
		for i, f := range d.fields {
			if f.Size == 8 {
				continue
			}
			for _, n := range []uint64{1 << (8 * f.Size), 1<<(8*f.Size) + 1, math.MaxUint64, 1 << 63} {
				h := full(d, math.MaxUint64)
				h.Values[i] = n
				refused(t, d.name+"'s "+f.Name, Right(h), api.ErrRange, i)
			}
		}
	}
}

func TestRightOrder(t *testing.T) {
	for _, x := range []struct {
		what  string
		h     api.Head
		want  api.Errno
		place int
	}{
		{"no op, now, flags, no values", api.Head{Op: 39, Now: true, Flags: -1}, api.ErrArg, -1},
		{"now and no values", api.Head{Op: api.NopIn, Now: true}, api.ErrForm, -1},
		{"now of the first that may not be", api.Head{Op: 32, Now: true, Values: make([]uint64, 6)}, api.ErrForm, -1},
		{"flags and no values", api.Head{Op: api.NopOut, Flags: 1}, api.ErrForm, -1},
		{"flags and a value too great", api.Head{Op: api.NopOut, Flags: 1, Values: []uint64{0, 1 << 32, 0, 0, 0}}, api.ErrForm, -1},
		{"too few, one too great", api.Head{Op: api.NopOut, Values: []uint64{0, 1 << 32, 0, 0}}, api.ErrMissing, -1},
		{"too many, one too great", api.Head{Op: api.NopOut, Values: []uint64{0, 1 << 32, 0, 0, 0, 0}}, api.ErrMissing, -1},
		{"two too great", api.Head{Op: api.NopOut, Values: []uint64{math.MaxUint64, 1, 1 << 32, 0, 1 << 32}}, api.ErrRange, 2},
	} {
		refused(t, x.what, Right(x.h), x.want, x.place)
	}
	for _, op := range strange {
		refused(t, "op "+strconv.Itoa(op), Right(api.Head{Op: op}), api.ErrArg, -1)
	}
}

func TestValue(t *testing.T) {
	for _, d := range tells(t) {
		h := full(d, 0)
		for i, f := range d.fields {
			h.Values[i] = uint64(100 + i)
			if n, err := Value(h, f.Name); n != uint64(100+i) || err != nil {
				t.Errorf("Value(%v, %q) = %d, %v", h, f.Name, n, err)
			}
		}
	}
	// Only what it needs is asked of the head.
	odd := api.Head{Op: api.NopIn, Now: true, Flags: -1, Values: []uint64{1, math.MaxUint64}}
	if n, err := Value(odd, "ITT"); n != math.MaxUint64 || err != nil {
		t.Errorf("Value = %d, %v", n, err)
	}
	odd.Values = make([]uint64, 50)
	odd.Values[5] = 9
	if n, err := Value(odd, "MaxCmdSN"); n != 9 || err != nil {
		t.Errorf("Value = %d, %v", n, err)
	}
}

func TestValueRefuses(t *testing.T) {
	for _, x := range []struct {
		h    api.Head
		name string
		want api.Errno
	}{
		{api.Head{Op: 7}, "ITT", api.ErrArg},
		{api.Head{Op: -1, Values: []uint64{1}}, "X", api.ErrArg},
		{api.Head{Op: api.NopOut, Values: []uint64{1, 2, 3, 4, 5}}, "StatSN", api.ErrName},
		{api.Head{Op: api.NopOut, Values: []uint64{1, 2, 3, 4, 5}}, "", api.ErrName},
		{api.Head{Op: api.NopOut, Values: []uint64{1, 2, 3, 4, 5}}, "itt", api.ErrName},
		{api.Head{Op: api.NopOut, Values: []uint64{1, 2, 3, 4, 5}}, "ITT 16 4", api.ErrName},
		{api.Head{Op: api.NopOut, Values: []uint64{1, 2, 3, 4, 5, 6, 7}}, "IT", api.ErrName},
		{api.Head{Op: api.NopOut}, "X", api.ErrName}, // ErrName is told ahead of ErrMissing
		{api.Head{Op: api.NopOut}, "LUN", api.ErrMissing},
		{api.Head{Op: api.NopOut, Values: []uint64{1, 2, 3, 4}}, "ExpStatSN", api.ErrMissing},
	} {
		n, err := Value(x.h, x.name)
		refused(t, fmt.Sprint("Value ", x.h, x.name), err, x.want, -1)
		if n != 0 {
			t.Errorf("Value(%v, %q) = %d beside an error", x.h, x.name, n)
		}
	}
}

func TestMake(t *testing.T) {
	for _, x := range []struct {
		op, flags int
		names     []string
		values    []uint64
		want      []uint64
	}{
		{api.NopOut, 0, nil, nil, []uint64{0, 0, 0, 0, 0}},
		{api.NopOut, 128, []string{"ITT"}, []uint64{5}, []uint64{0, 5, 0, 0, 0}},
		{api.NopOut, 128, []string{"ExpStatSN", "LUN"}, []uint64{5, math.MaxUint64}, []uint64{math.MaxUint64, 0, 0, 0, 5}},
		{api.NopOut, 128, []string{"TTT"}, []uint64{5, 6, math.MaxUint64}, []uint64{0, 0, 5, 0, 0}},              // more values than names
		{api.NopOut, 128, []string{"ITT", "TTT", "ITT"}, []uint64{1, 2, 3}, []uint64{0, 3, 2, 0, 0}},             // the last one of a name that stands twice
		{api.NopOut, 128, []string{"ITT", "ITT"}, []uint64{1 << 32, 1<<32 - 1}, []uint64{0, 1<<32 - 1, 0, 0, 0}}, // what the first one has counts for nothing
		{api.LoginResponse, 135, []string{"StatusDetail", "StatusClass"}, []uint64{255, 2}, []uint64{0, 0, 0, 0, 0, 0, 0, 0, 2, 255}},
	} {
		h, err := Make(x.op, x.flags, x.names, x.values)
		if err != nil {
			t.Errorf("Make(%d, %d, %q, %v): %v", x.op, x.flags, x.names, x.values, err)
		}
		same(t, "Make", h, api.Head{Op: x.op, Flags: x.flags, Values: x.want})
	}
	for _, d := range tells(t) {
		var names []string
		for _, f := range d.fields {
			names = append(names, f.Name)
		}
		want := full(d, math.MaxUint64)
		h, err := Make(d.op, d.flags, names, want.Values)
		if err != nil {
			t.Errorf("Make of %s: %v", d.name, err)
		}
		same(t, "Make", h, want)
	}
}

func TestMakeRefuses(t *testing.T) {
	for _, x := range []struct {
		op, flags int
		names     []string
		values    []uint64
		want      api.Errno
		place     int
	}{
		{7, -1, []string{"X"}, nil, api.ErrArg, -1},
		{-1, 0, nil, nil, api.ErrArg, -1},
		{64, 0, nil, nil, api.ErrArg, -1},
		{api.NopOut, 1, nil, nil, api.ErrForm, -1},
		{api.NopOut, -1, nil, nil, api.ErrForm, -1},
		{api.NopOut, 256, nil, nil, api.ErrForm, -1},
		{api.NopOut, 0, []string{"X"}, nil, api.ErrName, -1}, // ErrName ahead of ErrMissing
		{api.NopOut, 0, []string{""}, []uint64{1}, api.ErrName, -1},
		{api.NopOut, 0, []string{"StatSN"}, []uint64{1}, api.ErrName, -1},
		{api.NopOut, 1, []string{"ITT", "X"}, []uint64{1, 1}, api.ErrName, -1}, // and ahead of Right's errors
		{api.NopOut, 1, []string{"ITT"}, nil, api.ErrMissing, -1},
		{api.NopOut, 0, []string{"ITT", "TTT", "X"}, []uint64{1}, api.ErrMissing, -1}, // name by name
		{api.NopOut, 0, []string{"ITT", "X", "TTT"}, []uint64{1}, api.ErrName, -1},
		{api.NopOut, 0, []string{"ITT", "TTT"}, []uint64{1 << 32}, api.ErrMissing, -1},
		{api.NopOut, 0, []string{"ITT"}, []uint64{1 << 32}, api.ErrRange, 1},
		{api.NopOut, 1, []string{"ITT"}, []uint64{1 << 32}, api.ErrForm, -1},
		{api.NopOut, 0, []string{"ITT", "ITT"}, []uint64{1, 1 << 32}, api.ErrRange, 1},
		{api.NopOut, 0, []string{"ExpStatSN", "TTT"}, []uint64{1 << 32, 1 << 32}, api.ErrRange, 2}, // in the order of the fields
	} {
		h, err := Make(x.op, x.flags, x.names, x.values)
		refused(t, fmt.Sprint("Make ", x.op, x.flags, x.names, x.values), err, x.want, x.place)
		same(t, "beside an error", h, api.Head{})
		if h.Values != nil {
			t.Errorf("values %v beside an error", h.Values)
		}
	}
}

// TestMakeKeepsNothing: neither list is written into, and the head has memory of its own.
func TestMakeKeepsNothing(t *testing.T) {
	names := []string{"LUN", "ITT", "TTT", "CmdSN", "ExpStatSN", "behind"}
	values := []uint64{1, 2, 3, 4, 5, 6}
	h, err := Make(api.NopOut, 0, names[:5], values[:5])
	if err != nil {
		t.Fatal(err)
	}
	h.Values[0] = 77
	h.Values = append(h.Values, 77)
	if !slices.Equal(values, []uint64{1, 2, 3, 4, 5, 6}) || names[0] != "LUN" || names[5] != "behind" {
		t.Errorf("written into: %q, %v", names, values)
	}
	values[1] = 88
	if h.Values[1] != 2 {
		t.Errorf("kept: %v", h.Values)
	}
}

// written is what a head of a row is in 48 bytes, without the program.
func written(d told, h api.Head, words, data int) string {
	b := make([]byte, 48)
	b[0] = byte(h.Op)
	if h.Now {
		b[0] += 64
	}
	b[1], b[4] = byte(h.Flags), byte(words)
	b[5], b[6], b[7] = byte(data>>16), byte(data>>8), byte(data)
	for i, f := range d.fields {
		for k := range f.Size {
			b[f.At+k] = byte(h.Values[i] >> (8 * (f.Size - 1 - k)))
		}
	}
	return string(b)
}

func TestWriteAndRead(t *testing.T) {
	for _, d := range tells(t) {
		for _, bits := range []uint64{0, math.MaxUint64, 0x0123456789abcdef, 1 << 63} {
			for _, size := range [][2]int{{0, 0}, {1, 5}, {255, 1<<24 - 1}, {128, 0x010203}} {
				h := full(d, bits)
				h.Now = d.op < 32 && bits != 0
				want := written(d, h, size[0], size[1])
				s, err := Write(h, size[0], size[1])
				if s != want || err != nil {
					t.Errorf("Write(%v, %v) = %x, %v, want %x", h, size, s, err, want)
				}
				got, words, data, err := Read(want)
				if words != size[0] || data != size[1] || err != nil {
					t.Errorf("Read(%x) = %d, %d, %v", want, words, data, err)
				}
				same(t, "Read", got, h)
			}
		}
	}
}

func TestWrite(t *testing.T) {
	h := api.Head{Op: api.NopOut, Now: true, Flags: 128, Values: []uint64{0x0102030405060708, 0x11121314, 0x21222324, 0x31323334, 0x41424344}}
	s, err := Write(h, 1, 5)
	want := "\x40\x80\x00\x00\x01\x00\x00\x05\x01\x02\x03\x04\x05\x06\x07\x08\x11\x12\x13\x14\x21\x22\x23\x24\x31\x32\x33\x34\x41\x42\x43\x44" + strings.Repeat("\x00", 16)
	if s != want || err != nil {
		t.Errorf("Write = %x, %v, want %x", s, err, want)
	}
	if !slices.Equal(h.Values, []uint64{0x0102030405060708, 0x11121314, 0x21222324, 0x31323334, 0x41424344}) {
		t.Errorf("written into: %v", h.Values)
	}
}

func TestWriteRefuses(t *testing.T) {
	nop := []uint64{0, 0, 0, 0, 0}
	for _, x := range []struct {
		h           api.Head
		words, data int
		want        api.Errno
		place       int
	}{
		{api.Head{Op: 7}, -1, 0, api.ErrArg, -1}, // Right's errors ahead of ErrLimit
		{api.Head{Op: 64, Values: nop}, 0, 0, api.ErrArg, -1},
		{api.Head{Op: api.NopIn, Now: true, Values: make([]uint64, 6)}, 256, 0, api.ErrForm, -1},
		{api.Head{Op: api.NopOut, Flags: 1, Values: nop}, 0, 1 << 24, api.ErrForm, -1},
		{api.Head{Op: api.NopOut, Values: nop[:4]}, 256, 0, api.ErrMissing, -1},
		{api.Head{Op: api.NopOut, Values: make([]uint64, 6)}, 0, 0, api.ErrMissing, -1},
		{api.Head{Op: api.NopOut, Values: []uint64{0, 0, 0, 1 << 32, 0}}, 256, -1, api.ErrRange, 3},
		{api.Head{Op: api.NopOut, Values: nop}, -1, 0, api.ErrLimit, -1},
		{api.Head{Op: api.NopOut, Values: nop}, 256, 0, api.ErrLimit, -1},
		{api.Head{Op: api.NopOut, Values: nop}, 0, -1, api.ErrLimit, -1},
		{api.Head{Op: api.NopOut, Values: nop}, 0, 1 << 24, api.ErrLimit, -1},
		{api.Head{Op: api.NopOut, Values: nop}, math.MinInt, 0, api.ErrLimit, -1},
		{api.Head{Op: api.NopOut, Values: nop}, math.MaxInt, 0, api.ErrLimit, -1},
		{api.Head{Op: api.NopOut, Values: nop}, 0, math.MinInt, api.ErrLimit, -1},
		{api.Head{Op: api.NopOut, Values: nop}, 0, math.MaxInt, api.ErrLimit, -1},
		{api.Head{Op: api.NopOut, Values: nop}, 1 << 32, 1 << 32, api.ErrLimit, -1},
	} {
		s, err := Write(x.h, x.words, x.data)
		refused(t, fmt.Sprint("Write ", x.h, x.words, x.data), err, x.want, x.place)
		if s != "" {
			t.Errorf("Write(%v, %d, %d) = %q beside an error", x.h, x.words, x.data, s)
		}
	}
}

// readRefused checks that nothing comes beside an error of Read.
func readRefused(t *testing.T, what, s string, want api.Errno) {
	t.Helper()
	h, words, data, err := Read(s)
	refused(t, what, err, want, -1)
	if h.Values != nil || words != 0 || data != 0 {
		t.Errorf("%s: %v, %d, %d beside an error", what, h, words, data)
	}
	same(t, what, h, api.Head{})
}

func TestReadRefuses(t *testing.T) {
	rest := strings.Repeat("\x00", 47)
	for _, x := range []struct {
		what, s string
		want    api.Errno
	}{
		{"nothing", "", api.ErrMissing},
		{"a beginning", rest, api.ErrMissing},
		{"one more", "\x00" + rest + "\x00", api.ErrMissing},
		{"twice", strings.Repeat("\x00", 96), api.ErrMissing},
		{"a beginning that is wrong", "\x87" + rest[:40], api.ErrMissing},
		{"the highest bit", "\x80" + rest, api.ErrForm},
		{"the highest bit, and no such op", "\x87" + rest, api.ErrForm},
		{"all bits", strings.Repeat("\xff", 48), api.ErrForm},
		{"no such op", "\x07" + rest, api.ErrArg},
		{"no such op, now", "\x47" + rest, api.ErrArg},
		{"no such op, and flags", "\x27\xff" + rest[1:], api.ErrArg},
		{"no such op, and what is no field", "\x3e" + rest[1:] + "\x01", api.ErrArg},
		{"now of a target", "\x60" + rest, api.ErrForm},
		{"now of a target's last", "\x7f" + rest, api.ErrForm},
		{"flags", "\x00\x01" + rest[1:], api.ErrForm},
		{"what is no field", "\x00" + rest[1:] + "\x01", api.ErrForm},
	} {
		readRefused(t, x.what, x.s, x.want)
	}
}

// TestReadFirstByte goes through all first bytes ahead of noughts.
func TestReadFirstByte(t *testing.T) {
	rows := map[int]told{}
	for _, d := range tells(t) {
		rows[d.op] = d
	}
	for b := range 256 {
		s := string([]byte{byte(b)}) + strings.Repeat("\x00", 47)
		d, there := rows[b%64]
		switch {
		case b >= 128:
			readRefused(t, strconv.Itoa(b), s, api.ErrForm)
		case !there:
			readRefused(t, strconv.Itoa(b), s, api.ErrArg)
		case b >= 64+32:
			readRefused(t, strconv.Itoa(b), s, api.ErrForm)
		default:
			h, words, data, err := Read(s)
			if words != 0 || data != 0 || err != nil {
				t.Errorf("Read of %d: %d, %d, %v", b, words, data, err)
			}
			same(t, "Read of "+strconv.Itoa(b), h, api.Head{Op: d.op, Now: b >= 64, Values: make([]uint64, len(d.fields))})
		}
	}
}

// TestReadEachBit turns each bit behind the first byte: it is read, and written so again, just where the document has something.
func TestReadEachBit(t *testing.T) {
	for _, d := range tells(t) {
		may := make([]byte, 48)
		may[1] = byte(d.flags)
		for k := 4; k < 8; k++ {
			may[k] = 255
		}
		for _, f := range d.fields {
			for k := range f.Size {
				if may[f.At+k] != 0 {
					t.Errorf("%s: two things at %d", d.name, f.At+k)
				}
				may[f.At+k] = 255
			}
		}
		for at := 1; at < 48; at++ {
			for bit := range 8 {
				b := make([]byte, 48)
				b[0], b[at] = byte(d.op), 1<<bit
				what := fmt.Sprintf("%s, bit %d of byte %d", d.name, bit, at)
				if may[at]&b[at] == 0 {
					readRefused(t, what, string(b), api.ErrForm)
					continue
				}
				h, words, data, err := Read(string(b))
				if err != nil {
					t.Errorf("%s: %v", what, err)
				}
				if s, err := Write(h, words, data); s != string(b) || err != nil {
					t.Errorf("%s: written %x, %v", what, s, err)
				}
			}
		}
	}
}
