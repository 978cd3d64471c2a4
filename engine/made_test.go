package engine

import (
	"math"
	"slices"
	"strings"
	"testing"

	"quaymaster/api"
	"quaymaster/head"
	"quaymaster/pdu"
)

// names are all names there are, by their ops, as chapter 5 has them.
var names = map[int]string{
	0: "NopOut", 1: "ScsiCommand", 2: "TaskRequest", 3: "LoginRequest", 4: "TextRequest", 5: "DataOut", 6: "LogoutRequest", 16: "Snack",
	32: "NopIn", 33: "ScsiResponse", 34: "TaskResponse", 35: "LoginResponse", 36: "TextResponse", 37: "DataIn", 38: "LogoutResponse", 49: "R2T", 50: "Async", 63: "Reject",
}

// TestMade: each name makes its PDU, whatever it has, in each mode.
func TestMade(t *testing.T) {
	for op, name := range names {
		l, err := head.Fields(op)
		fails(t, name, err, api.OK, nowhere)
		flags, err := head.Flags(op)
		fails(t, name, err, api.OK, nowhere)
		for mode := range 4 {
			for _, data := range []string{"", "a", "hello", "four", "\x00\xff\x00", strings.Repeat("d", api.MaxData)} {
				for i, f := range l {
					want := api.Pdu{Head: api.Head{Op: op, Now: op < 32 && i%2 == 0, Flags: flags, Values: make([]uint64, len(l))}, Data: data}
					want.Head.Values[i] = 1<<(8*f.Size) - 1
					last := l[len(l)-1]
					want.Head.Values[len(l)-1] |= 7
					values := []uint64{1, want.Head.Values[i], want.Head.Values[len(l)-1], 1 << 63}
					s, err := Made(name, want.Head.Now, flags, []string{f.Name, f.Name, last.Name}, values, data, mode)
					fails(t, name, err, api.OK, nowhere)
					if s != written(t, want, mode) {
						t.Errorf("%s of %s, in mode %d: %.200q", name, f.Name, mode, s)
					}
				}
			}
		}
	}
}

// TestMadeOfNothing: without names all fields are 0.
func TestMadeOfNothing(t *testing.T) {
	s, err := Made("NopOut", true, 0, nil, nil, "", 0)
	fails(t, "NopOut", err, api.OK, nowhere)
	if s != "\x40"+strings.Repeat("\x00", 47) {
		t.Errorf("a NopOut of nothing is %q", s)
	}
	s, err = Made("Reject", false, 128, nil, []uint64{1, 2}, "", 2)
	fails(t, "Reject", err, api.OK, nowhere)
	if s != "\x3f\x80"+strings.Repeat("\x00", 46) {
		t.Errorf("a Reject of nothing is %q", s)
	}
}

// TestMadeExample: a NopOut that is to be done now is so written.
func TestMadeExample(t *testing.T) {
	s, err := Made("NopOut", true, 128, []string{"ITT", "LUN"}, []uint64{258, 3}, "hello", 0)
	fails(t, "NopOut", err, api.OK, nowhere)
	if want := "\x40\x80\x00\x00\x00\x00\x00\x05" + "\x00\x00\x00\x00\x00\x00\x00\x03" + "\x00\x00\x01\x02" + strings.Repeat("\x00", 28) + "hello\x00\x00\x00"; s != want {
		t.Errorf("a NopOut is %q, want %q", s, want)
	}
}

// TestMadeErrors: each error, with its place, and which of two is told.
func TestMadeErrors(t *testing.T) {
	much := strings.Repeat("d", api.MaxData+1)
	for _, x := range []struct {
		what   string
		name   string
		now    bool
		flags  int
		names  []string
		values []uint64
		data   string
		mode   int
		want   api.Errno
		place  int
	}{
		{"no name", "", false, 128, nil, nil, "", 0, api.ErrName, nowhere},
		{"another one", "X", false, 128, nil, nil, "", 0, api.ErrName, nowhere},
		{"small letters", "nopout", false, 128, nil, nil, "", 0, api.ErrName, nowhere},
		{"more than a name", "NopOut ", false, 128, nil, nil, "", 0, api.ErrName, nowhere},
		{"less", "NopO", false, 128, nil, nil, "", 0, api.ErrName, nowhere},
		{"an op", "0", false, 128, nil, nil, "", 0, api.ErrName, nowhere},
		{"no name, and all else wrong", "X", true, -1, []string{"X"}, nil, much, 4, api.ErrName, nowhere},
		{"no such field", "NopOut", false, 128, []string{"ITT", "X"}, []uint64{1, 2}, "", 0, api.ErrName, nowhere},
		{"another one's field", "LogoutRequest", false, 128, []string{"LUN"}, []uint64{1}, "", 0, api.ErrName, nowhere},
		{"no such field, and all else wrong", "NopOut", true, -1, []string{"X"}, nil, much, 4, api.ErrName, nowhere},
		{"no value", "NopOut", false, 128, []string{"ITT", "LUN"}, []uint64{1}, "", 0, api.ErrMissing, nowhere},
		{"no value, and all else wrong", "NopIn", true, -1, []string{"ITT", "X"}, nil, much, 4, api.ErrMissing, nowhere},
		{"a flag", "NopOut", false, 1, nil, nil, "", 0, api.ErrForm, nowhere},
		{"flags below 0", "TaskRequest", false, -1, nil, nil, "", 0, api.ErrForm, nowhere},
		{"great flags", "TaskRequest", false, 256, nil, nil, "", 0, api.ErrForm, nowhere},
		{"a flag, and all else wrong", "NopIn", true, 64, []string{"ITT"}, []uint64{1 << 32}, much, 4, api.ErrForm, nowhere},
		{"a great value", "NopOut", false, 128, []string{"LUN", "TTT", "ITT"}, []uint64{1 << 63, 5, 1 << 32}, "", 0, api.ErrRange, 1},
		{"two great values", "LoginRequest", false, 135, []string{"CID", "ISID"}, []uint64{1 << 16, 1 << 48}, "", 0, api.ErrRange, 2},
		{"a great value, and all else wrong", "NopIn", true, 128, []string{"MaxCmdSN"}, []uint64{1 << 32}, much, 4, api.ErrRange, 5},
		{"no mode", "NopOut", false, 128, nil, nil, "", 4, api.ErrArg, nowhere},
		{"a mode below 0", "NopOut", false, 128, nil, nil, "", -1, api.ErrArg, nowhere},
		{"the greatest mode", "NopOut", false, 128, nil, nil, "", math.MaxInt, api.ErrArg, nowhere},
		{"no mode, and all else wrong", "NopIn", true, 128, nil, nil, much, 5, api.ErrArg, nowhere},
		{"a target's, now", "NopIn", true, 128, nil, nil, "", 0, api.ErrForm, nowhere},
		{"a target's, now, with much data", "Reject", true, 128, nil, nil, much, 3, api.ErrForm, nowhere},
		{"much data", "NopOut", false, 128, nil, nil, much, 0, api.ErrLimit, nowhere},
		{"much data, now", "NopOut", true, 128, nil, nil, much, 3, api.ErrLimit, nowhere},
	} {
		s, err := Made(x.name, x.now, x.flags, x.names, x.values, x.data, x.mode)
		fails(t, x.what, err, x.want, x.place)
		if s != "" {
			t.Errorf("%s: %.100q beside an error", x.what, s)
		}
	}
}

// TestMadeOfSuchNamesAlone: no op makes a PDU but by its own name.
func TestMadeOfSuchNamesAlone(t *testing.T) {
	for op := range 300 {
		name, err := head.Name(op)
		if known, ok := names[op]; ok != (err == nil) || known != name {
			t.Errorf("op %d is %q, %v, want %q", op, name, err, known)
		}
	}
	for op, name := range names {
		s, err := Made(name, false, 0, nil, nil, "", 0)
		fails(t, name, err, api.OK, nowhere)
		p, size, err := pdu.Read(s, 0)
		if err != nil || p.Head.Op != op || size != len(s) {
			t.Errorf("%s is read as op %d, of %d bytes, %v", name, p.Head.Op, size, err)
		}
	}
}

// TestMadeKeepsNothing: names and values aren't written into, nor what stands behind them.
func TestMadeKeepsNothing(t *testing.T) {
	told, values := append(make([]string, 0, 9), "ITT", "LUN"), append(make([]uint64, 0, 9), 3, 4)
	for range 2 {
		s, err := Made("NopOut", false, 128, told, values, "x", 0)
		fails(t, "NopOut", err, api.OK, nowhere)
		if s != written(t, whole(api.NopOut, 128, "x", fields{"ITT": 3, "LUN": 4, "TTT": 0}), 0) {
			t.Errorf("it is %q", s)
		}
	}
	if !slices.Equal(told[:4], []string{"ITT", "LUN", "", ""}) || !slices.Equal(values[:4], []uint64{3, 4, 0, 0}) {
		t.Errorf("what was handed in was written into: %q, %v", told[:4], values[:4])
	}
}

// TestMadeIsTaken: what is made for an engine is answered by it.
func TestMadeIsTaken(t *testing.T) {
	for mode := range 4 {
		e := made(t, open())
		s, err := Made("LoginRequest", true, 135, []string{"ITT", "CmdSN"}, []uint64{9, 5}, text(append(offers(mode), "InitiatorName=me", "TargetName=iqn.a")...), e.Mode())
		fails(t, "LoginRequest", err, api.OK, nowhere)
		says(t, "hello", e, s, welcome(t, offers(mode)...))
		s, err = Made("NopOut", true, 128, []string{"ITT", "CmdSN"}, []uint64{9, 77}, "hello", e.Mode())
		fails(t, "NopOut", err, api.OK, nowhere)
		says(t, "ping", e, s, pong(t, "hello", 1, 5, mode))
	}
}
