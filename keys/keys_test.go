package keys

import (
	"fmt"
	"math"
	"slices"
	"strconv"
	"strings"
	"testing"

	"quaymaster/api"
	"quaymaster/plain"
)

// document is the table of chapter 11, as it stands there.
const document = `
| HeaderDigest, DataDigest | First | None | | yes |
| MaxConnections | Least, 1 to 65535 | 1 | yes | yes |
| ErrorRecoveryLevel | Least, 0 to 2 | 0 | | yes |
| InitialR2T | Or | Yes | yes | yes |
| ImmediateData | And | Yes | yes | yes |
| MaxRecvDataSegmentLength | Number, 512 to 16777215 | 8192 | | |
| MaxBurstLength | Least, 512 to 16777215 | 262144 | yes | yes |
| FirstBurstLength | Least, 512 to 16777215 | 65536 | yes | yes |
| DefaultTime2Wait | Most, 0 to 3600 | 2 | | yes |
| DefaultTime2Retain | Least, 0 to 3600 | 20 | | yes |
| MaxOutstandingR2T | Least, 1 to 65535 | 1 | yes | yes |
| DataPDUInOrder, DataSequenceInOrder | Or | Yes | yes | yes |
| InitiatorName | Told | | | yes |
| InitiatorAlias | Told | | | |
| TargetName | Told | | | yes |
| SessionType | Told | Normal | | yes |
`

// kinds are what the document calls the kinds.
var kinds = map[string]int{"And": api.And, "Or": api.Or, "Least": api.Least, "Most": api.Most, "First": api.First, "Told": api.Told, "Number": api.Number}

// all are the keys of the document, read without the program.
func all(t *testing.T) []api.Key {
	t.Helper()
	var l []api.Key
	for line := range strings.Lines(strings.TrimSpace(document)) {
		cells := strings.Split(strings.TrimSpace(line), "|")
		for i := range cells {
			cells[i] = strings.TrimSpace(cells[i])
		}
		kind, bounds, _ := strings.Cut(cells[2], ", ")
		k := api.Key{Kind: kinds[kind], Default: cells[3], Nothing: cells[4] == "yes", LoginOnly: cells[5] == "yes"}
		if bounds != "" {
			if _, err := fmt.Sscanf(bounds, "%d to %d", &k.Low, &k.High); err != nil {
				t.Fatal(err)
			}
		}
		for name := range strings.SplitSeq(cells[1], ", ") {
			k.Name = name
			l = append(l, k)
		}
	}
	if len(l) != 18 {
		t.Fatalf("%d keys", len(l))
	}
	return l
}

// of are the names of all keys of these kinds.
func of(t *testing.T, kinds ...int) []string {
	t.Helper()
	var l []string
	for _, k := range all(t) {
		if slices.Contains(kinds, k.Kind) {
			l = append(l, k.Name)
		}
	}
	if len(l) == 0 {
		t.Fatalf("no keys of kinds %v", kinds)
	}
	return l
}

// fails checks that an error is that Errno (OK: none), and has no place.
func fails(t *testing.T, what string, err error, want api.Errno) {
	t.Helper()
	if got, at := plain.Place(err); got != want || at != -1 {
		t.Errorf("%.200s: error %d at %d, want %d", what, got, at, want)
	}
}

// comes checks what comes of an offer and of what one has; with an error nothing does.
func comes(t *testing.T, name, offer, own, want string, e api.Errno) {
	t.Helper()
	got, err := Result(name, offer, own)
	fails(t, fmt.Sprintf("Result of %s, %.50q, %.50q", name, offer, own), err, e)
	if got != want {
		t.Errorf("Result of %s, %.50q, %.50q = %.50q, want %.50q", name, offer, own, got, want)
	}
}

// strange are names of no key.
var strange = []string{
	"", " ", "x", "A", "Yes", "None", "headerdigest", "HEADERDIGEST", "Headerdigest", "HeaderDigest ", " HeaderDigest", "HeaderDiges", "HeaderDigests",
	"HeaderDigest, DataDigest", "HeaderDigest,DataDigest", "HeaderDigestDataDigest", "HeaderDigest\x00", "Header", "Digest", "SessionType=Normal",
	"AuthMethod", "CHAP_A", "CHAP_N", "CHAP_R", "SendTargets", "TargetAlias", "TargetAddress", "TargetPortalGroupTag", "OFMarker", "IFMarker", "key", "default",
}

func TestNames(t *testing.T) {
	var want []string
	for _, k := range all(t) {
		want = append(want, k.Name)
	}
	l := Names()
	if !slices.Equal(l, want) {
		t.Fatalf("Names = %q, want %q", l, want)
	}
	l[0] = "X"
	_ = append(l[:1], l[:1]...)
	if again := Names(); !slices.Equal(again, want) {
		t.Errorf("Names = %q, behind a change of what came out", again)
	}
}

func TestOf(t *testing.T) {
	for _, want := range all(t) {
		got, err := Of(want.Name)
		fails(t, "Of "+want.Name, err, api.OK)
		if got != want {
			t.Errorf("Of(%q) = %+v, want %+v", want.Name, got, want)
		}
	}
}

func TestOfNone(t *testing.T) {
	for _, name := range append(slices.Clone(strange), strings.Repeat("HeaderDigest", 1000)) {
		k, err := Of(name)
		fails(t, "Of "+name, err, api.ErrName)
		if k != (api.Key{}) {
			t.Errorf("Of(%.50q) = %+v beside an error", name, k)
		}
	}
}

// numeral checks what number a value is, from low to high; with an error it is none.
func numeral(t *testing.T, s string, low, high, want int, e api.Errno) {
	t.Helper()
	n, err := Numeral(s, low, high)
	fails(t, fmt.Sprintf("Numeral of %.50q, %d, %d", s, low, high), err, e)
	if n != want {
		t.Errorf("Numeral of %.50q, %d, %d = %d, want %d", s, low, high, n, want)
	}
}

func TestNumeral(t *testing.T) {
	for s, want := range map[string]int{
		"0": 0, "1": 1, "9": 9, "10": 10, "100": 100, "1234567890": 1234567890, "512": 512, "16777215": 16777215,
		"2147483647": math.MaxInt32, "2147483648": 1 << 31, "4294967295": 1<<32 - 1, "4294967296": 1 << 32, "1099511627775": 1<<40 - 1,
		"0x0": 0, "0x1": 1, "0x9": 9, "0xa": 10, "0xF": 15, "0x10": 16, "0x1F": 31, "0xfF": 255, "0x0a": 10, "0x00": 0, "0x000001": 1,
		"0xabcdef": 0xabcdef, "0xABCDEF": 0xabcdef, "0x0123456789": 0x123456789, "0xffffffff": 1<<32 - 1, "0xFFFFFFFFFF": 1<<40 - 1, "0x8000000000": 1 << 39,
		"0x" + strings.Repeat("0", 1000): 0, "0x" + strings.Repeat("0", 1000) + "ffffffffff": 1<<40 - 1,
	} {
		numeral(t, s, 0, 1<<40-1, want, api.OK)
		numeral(t, s, math.MinInt, math.MaxInt, want, api.OK)
		numeral(t, s, want, want, want, api.OK)
		numeral(t, s, want+1, math.MaxInt, 0, api.ErrRange)
		numeral(t, s, math.MinInt, want-1, 0, api.ErrRange)
		numeral(t, s, want+1, want-1, 0, api.ErrRange)
	}
}

func TestNumeralBounds(t *testing.T) {
	for n := range 300 {
		for _, s := range []string{strconv.Itoa(n), fmt.Sprintf("0x%x", n), fmt.Sprintf("0x%X", n), fmt.Sprintf("0x%05x", n)} {
			if n < 17 || n > 256 {
				numeral(t, s, 17, 256, 0, api.ErrRange)
				continue
			}
			numeral(t, s, 17, 256, n, api.OK)
		}
	}
	for _, s := range []string{"0", "5", "0x5", "100"} {
		numeral(t, s, -9, -1, 0, api.ErrRange)
		numeral(t, s, math.MaxInt, math.MinInt, 0, api.ErrRange)
		numeral(t, s, 1<<40, math.MaxInt, 0, api.ErrRange)
	}
	numeral(t, "0", -1, 0, 0, api.OK)
}

// noNumerals are values that are no numerals.
var noNumerals = []string{
	"", " ", "-", "+", "-0", "+0", "-1", "+1", "--1", "00", "01", "010", "0010", "000", "1 ", " 1", "1 2", "1_0", "1,000", "1.0", ".5", "1e3", "1x", "x1", "a", "f", "1f", "1F", "ff", "FF", "Yes", "None",
	"0x", "0X", "0X1", "0X1F", "0x ", "0x1 ", " 0x1", "0x 1", "0xg", "0x1g", "0xG", "0x-1", "0x+1", "-0x1", "+0x1", "0x1_0", "0x_1", "0x0x1", "00x1", "1x1", "x", "x1F", "0x1.0", "0x1p3", "0b1", "0b", "0o7", "0o17", "0x1h", "1h", "#1",
	"1099511627776", "1099511627777", "9999999999999", "18446744073709551615", "18446744073709551616", "18446744073709551617", "340282366920938463463374607431768211456",
	"0x10000000000", "0xfffffffffff", "0x10000000001", "0xffffffffffffffff", "0x10000000000000000", "0x10000000000000001", "0x100000000000000000000000000000001",
	"1\x00", "\x001", "0x1\x00", "1\n", "\n1", "١", "１", "0x１", "1\xff", "\xff",
}

func TestNumeralForm(t *testing.T) {
	long := []string{strings.Repeat("1", 5000), strings.Repeat("0", 5000), "0x" + strings.Repeat("f", 5000), "0x" + strings.Repeat("0", 5000) + "g", strings.Repeat("9", 5000) + "x"}
	for _, s := range append(long, noNumerals...) {
		numeral(t, s, 0, 1<<40-1, 0, api.ErrForm)
		numeral(t, s, math.MinInt, math.MaxInt, 0, api.ErrForm)
		numeral(t, s, 7, 3, 0, api.ErrForm) // ahead of ErrRange
	}
}

// TestNumeralBytes puts each byte in each place of a numeral.
func TestNumeralBytes(t *testing.T) {
	const decimal, small, great = "0123456789", "abcdef", "ABCDEF"
	for c := range 256 {
		one := string([]byte{byte(c)})
		for _, s := range []string{one, one + "23", "1" + one + "3", "12" + one} {
			n, err := strconv.Atoi(s)
			if strings.Trim(s, decimal) != "" || len(s) > 1 && s[0] == '0' || err != nil {
				numeral(t, s, 0, 1000, 0, api.ErrForm)
				continue
			}
			numeral(t, s, 0, 1000, n, api.OK)
		}
		for _, s := range []string{one, one + "2a", "f" + one + "3", "12" + one} {
			n, err := strconv.ParseInt(s, 16, 64)
			if strings.Trim(s, decimal+small+great) != "" || err != nil {
				numeral(t, "0x"+s, 0, 1<<12, 0, api.ErrForm)
				continue
			}
			numeral(t, "0x"+s, 0, 1<<12, int(n), api.OK)
		}
		if c != '0' {
			numeral(t, one+"x10", 0, 1000, 0, api.ErrForm)
		}
		if c != 'x' {
			numeral(t, "0"+one+"10", 0, 1000, 0, api.ErrForm)
		}
	}
}

// lists are values that are lists of words, with each of them.
var lists = [][]string{
	{"a"}, {"a", "b"}, {"b", "a"}, {"a", "A"}, {"a", "aa", "aaa"}, {"aaa", "aa", "a"}, {"CRC32C", "None"}, {"None", "CRC32C"}, {"None", "none"}, {"a", " a"}, {" a", "a "}, {" ", "  "}, {"a b"},
	{"a;b", "a"}, {"a=b", "a"}, {"\x00", "\xff", "é", "\n"}, {"1", "01", "0x1"},
}

// noLists are values that are none.
var noLists = []string{
	"", ",", ",,", "a,", ",a", "a,,b", ",,a", "a,,", ",a,", "a,b,", ",a,b", "a,a", "a,a,", "a,b,a", "b,a,a", "a,a,b", "a,b,c,d,a", "a,b,c,d,d", "A,a,A", " , ", "None,None", "CRC32C,None,CRC32C", "\xff,\xff",
}

// manyWords are n words, none of them twice.
func manyWords(n int) []string {
	var l []string
	for i := range n {
		l = append(l, "w"+strconv.Itoa(i))
	}
	return l
}

func TestList(t *testing.T) {
	for _, want := range append(slices.Clone(lists), manyWords(1000)) {
		s := strings.Join(want, ",")
		l, err := List(s)
		fails(t, "List of "+s, err, api.OK)
		if !slices.Equal(l, want) {
			t.Errorf("List(%.50q) = %.50q, want %.50q", s, l, want)
		}
	}
}

func TestListForm(t *testing.T) {
	many := strings.Join(manyWords(1000), ",")
	for _, s := range append([]string{many + ",w0", many + ",w999", many + ",", "," + many, strings.Repeat(",", 1000)}, noLists...) {
		l, err := List(s)
		fails(t, "List of "+s, err, api.ErrForm)
		if len(l) != 0 {
			t.Errorf("List(%.50q) = %.50q beside an error", s, l)
		}
	}
}

// TestListIsTheCallers: what is done to one answer is not seen in the next one.
func TestListIsTheCallers(t *testing.T) {
	l, _ := List("a,b,c")
	l[0], l[1] = "x", "y"
	if again, err := List("a,b,c"); !slices.Equal(again, []string{"a", "b", "c"}) || err != nil {
		t.Errorf("List = %q, %v", again, err)
	}
}

func TestFitsName(t *testing.T) {
	for _, name := range strange {
		for _, value := range []string{"", "Yes", "1", "None", ","} {
			fails(t, "Fits of "+name, Fits(name, value), api.ErrName)
			comes(t, name, value, "Yes", "", api.ErrName)
			comes(t, name, "Yes", value, "", api.ErrName)
		}
	}
}

// TestDefaultsFit: and what comes of one, twice, is that one.
func TestDefaultsFit(t *testing.T) {
	for _, k := range all(t) {
		if k.Default == "" {
			fails(t, k.Name, Fits(k.Name, k.Default), api.ErrForm)
			comes(t, k.Name, k.Default, "x", "", api.ErrForm)
			continue
		}
		fails(t, k.Name, Fits(k.Name, k.Default), api.OK)
		comes(t, k.Name, k.Default, k.Default, k.Default, api.OK)
	}
}

// unfit checks that a value doesn't fit a key to which another one does, be it offered, or one's own, or both.
func unfit(t *testing.T, name, value, fit string, want api.Errno) {
	t.Helper()
	fails(t, fmt.Sprintf("Fits of %s, %.50q", name, value), Fits(name, value), want)
	comes(t, name, value, fit, "", want)
	comes(t, name, fit, value, "", want)
	comes(t, name, value, value, "", want)
}

func TestYesAndNo(t *testing.T) {
	for _, name := range of(t, api.And, api.Or) {
		for _, value := range []string{"Yes", "No"} {
			fails(t, name, Fits(name, value), api.OK)
		}
		for _, value := range []string{"", "yes", "no", "YES", "NO", "Y", "N", "yEs", "Yes ", " Yes", "No ", " No", "Yes,No", "YesNo", "Yess", "Ye", "Noo", "Yes\x00", "None", "0", "1", "true", "maybe", "Irrelevant"} {
			unfit(t, name, value, "Yes", api.ErrForm)
			unfit(t, name, value, "No", api.ErrForm)
		}
	}
	for _, name := range of(t, api.And) {
		comes(t, name, "Yes", "Yes", "Yes", api.OK)
		comes(t, name, "Yes", "No", "No", api.OK)
		comes(t, name, "No", "Yes", "No", api.OK)
		comes(t, name, "No", "No", "No", api.OK)
	}
	for _, name := range of(t, api.Or) {
		comes(t, name, "Yes", "Yes", "Yes", api.OK)
		comes(t, name, "Yes", "No", "Yes", api.OK)
		comes(t, name, "No", "Yes", "Yes", api.OK)
		comes(t, name, "No", "No", "No", api.OK)
	}
}

// TestNumbersFit: from the least to the greatest of each key, both included, in either way to write them.
func TestNumbersFit(t *testing.T) {
	for _, k := range all(t) {
		if !slices.Contains([]int{api.Least, api.Most, api.Number}, k.Kind) {
			continue
		}
		for _, n := range []int{k.Low, k.Low + 1, k.High - 1, k.High} {
			for _, s := range []string{strconv.Itoa(n), fmt.Sprintf("0x%x", n), fmt.Sprintf("0x%08X", n)} {
				fails(t, k.Name+" of "+s, Fits(k.Name, s), api.OK)
			}
		}
		fit := strconv.Itoa(k.Low)
		for _, n := range []int{k.High + 1, k.High * 2, 1 << 32, 1<<32 + k.Low, 1<<40 - 1} {
			unfit(t, k.Name, strconv.Itoa(n), fit, api.ErrRange)
			unfit(t, k.Name, fmt.Sprintf("0x%x", n), fit, api.ErrRange)
		}
		for n := max(0, k.Low-3); n < k.Low; n++ {
			unfit(t, k.Name, strconv.Itoa(n), fit, api.ErrRange)
			unfit(t, k.Name, fmt.Sprintf("0x%x", n), fit, api.ErrRange)
		}
		for _, s := range noNumerals {
			unfit(t, k.Name, s, fit, api.ErrForm)
		}
	}
}

// TestLeastAndMost: whichever of both is offered, and in whichever way both are written, it is decimal.
func TestLeastAndMost(t *testing.T) {
	for _, k := range all(t) {
		if k.Kind != api.Least && k.Kind != api.Most {
			continue
		}
		some := []int{k.Low, k.Low + 1, (k.Low + k.High) / 2, k.High - 1, k.High}
		for _, a := range some {
			for _, b := range some {
				want := strconv.Itoa(min(a, b))
				if k.Kind == api.Most {
					want = strconv.Itoa(max(a, b))
				}
				for _, form := range []string{"%d", "0x%x", "0x%X", "0x%012x"} {
					comes(t, k.Name, fmt.Sprintf(form, a), strconv.Itoa(b), want, api.OK)
					comes(t, k.Name, strconv.Itoa(a), fmt.Sprintf(form, b), want, api.OK)
					comes(t, k.Name, fmt.Sprintf(form, a), fmt.Sprintf(form, b), want, api.OK)
				}
			}
		}
	}
	// As numbers, not as texts.
	comes(t, "MaxBurstLength", "1000", "999", "999", api.OK)
	comes(t, "MaxBurstLength", "0x1000", "999", "999", api.OK)
	comes(t, "DefaultTime2Wait", "10", "9", "10", api.OK)
	comes(t, "DefaultTime2Wait", "9", "0x9", "9", api.OK)
}

// TestNumberIsOffered: what one has counts for nothing, and what is offered stays as it is written.
func TestNumberIsOffered(t *testing.T) {
	for _, name := range of(t, api.Number) {
		for _, offer := range []string{"512", "8192", "16777215", "0x200", "0xFfFfFf", "0x0000200"} {
			for _, own := range []string{"512", "1000", "0xffffff"} {
				comes(t, name, offer, own, offer, api.OK)
			}
		}
	}
}

func TestToldIsOffered(t *testing.T) {
	for _, name := range of(t, api.Told) {
		for _, offer := range []string{"a", " ", "0", "No", ",", "a,a", "iqn.2001-04.com.example:x", "\x00", "\xff", "é", strings.Repeat("x", 5000)} {
			fails(t, name, Fits(name, offer), api.OK)
			comes(t, name, offer, "z", offer, api.OK)
			comes(t, name, "z", offer, "z", api.OK)
		}
		unfit(t, name, "", "z", api.ErrForm)
	}
}

func TestFirst(t *testing.T) {
	for _, name := range of(t, api.First) {
		for _, l := range lists {
			fails(t, name, Fits(name, strings.Join(l, ",")), api.OK)
			for _, word := range l {
				comes(t, name, strings.Join(l, ","), word, word, api.OK)
				comes(t, name, word, strings.Join(l, ","), word, api.OK)
			}
			comes(t, name, strings.Join(l, ","), strings.Join(l, ","), l[0], api.OK)
		}
		for _, x := range []struct{ offer, own, want string }{
			{"CRC32C,None", "None,CRC32C", "CRC32C"},
			{"None,CRC32C", "CRC32C,None", "None"},
			{"a,b,c", "c,b", "b"},
			{"a,b,c", "c,x,y", "c"},
			{"x,c,b", "a,b,c", "c"},
			{"crc32c,None", "CRC32C,None", "None"},
		} {
			comes(t, name, x.offer, x.own, x.want, api.OK)
		}
		for _, s := range noLists {
			unfit(t, name, s, "a", api.ErrForm)
		}
	}
}

// TestFirstIsAWord: not a part of one, nor one with other letters, nor more than one.
func TestFirstIsAWord(t *testing.T) {
	for _, name := range of(t, api.First) {
		for _, x := range [][2]string{{"A", "B"}, {"None", "none"}, {"CRC32C", "CRC32"}, {"a,b", "ab"}, {"a,b", "a b"}, {"a", " a"}, {"a,b,c", "d,e,f"}, {"None", "CRC32C"}, {"x", "x1,1x,x x"}} {
			comes(t, name, x[0], x[1], "", api.ErrNone)
			comes(t, name, x[1], x[0], "", api.ErrNone)
		}
	}
}

func TestFirstOfMany(t *testing.T) {
	words := manyWords(20000)
	turned := slices.Clone(words)
	slices.Reverse(turned)
	all, back := strings.Join(words, ","), strings.Join(turned, ",")
	comes(t, "DataDigest", all, back, "w0", api.OK)
	comes(t, "DataDigest", back, all, "w19999", api.OK)
	comes(t, "DataDigest", all, "x,w19999,w7", "w7", api.OK)
	comes(t, "DataDigest", all, "x", "", api.ErrNone)
}

// TestOfferIsWrongFirst: where both are wrong, what is wrong with the offer is told.
func TestOfferIsWrongFirst(t *testing.T) {
	for _, name := range of(t, api.Least, api.Most, api.Number) {
		comes(t, name, "x", "99999999999", "", api.ErrForm)
		comes(t, name, "99999999999", "x", "", api.ErrRange)
	}
	for _, name := range of(t, api.First) {
		comes(t, name, "a,", "b", "", api.ErrForm) // ahead of ErrNone
		comes(t, name, "b", "a,", "", api.ErrForm)
	}
}

// TestResultFits: what comes of two values fits, and once it is offered, or one's own, nothing else comes of it and either of both.
func TestResultFits(t *testing.T) {
	values := []string{"Yes", "No", "0", "1", "2", "0x2", "512", "0x200", "1000", "3600", "65535", "0xffff", "16777215", "None", "CRC32C", "None,CRC32C", "CRC32C,None", "a", ""}
	for _, name := range Names() {
		for _, offer := range values {
			for _, own := range values {
				s, err := Result(name, offer, own)
				if err != nil {
					continue
				}
				fails(t, "Fits of what comes", Fits(name, s), api.OK)
				comes(t, name, s, own, s, api.OK)
				comes(t, name, s, offer, s, api.OK)
			}
		}
	}
}
