package gather

import (
	"math"
	"math/rand"
	"slices"
	"strings"
	"testing"

	"quaymaster/api"
	"quaymaster/pairs"
	"quaymaster/plain"
)

// nowhere is the place of an error that has none.
const nowhere = -1

// made is one of at most so many bytes.
func made(t *testing.T, most int) *Gather {
	t.Helper()
	g, err := New(most)
	if g == nil || err != nil {
		t.Fatalf("New of %d: %v, %v", most, g, err)
	}
	sized(t, "a new one", g, 0)
	return g
}

// sized checks that so many bytes came.
func sized(t *testing.T, what string, g *Gather, want int) {
	t.Helper()
	if n := g.Size(); n != want {
		t.Errorf("%s: Size is %d, want %d", what, n, want)
	}
}

// more adds a text behind which more comes, which is to be taken, and to stand behind all that came.
func more(t *testing.T, g *Gather, s string) {
	t.Helper()
	before := g.Size()
	if l, err := g.Add(s, true); len(l) != 0 || err != nil {
		t.Errorf("more of %.100q is %v, %v", s, l, err)
	}
	sized(t, "behind more", g, before+len(s))
}

// ends adds a text behind which nothing comes: then all that came is these pairs, and is forgotten.
func ends(t *testing.T, g *Gather, s string, want []api.Pair) {
	t.Helper()
	if l, err := g.Add(s, false); !slices.Equal(l, want) || err != nil {
		t.Errorf("the end %.100q is %v, %v, want %v", s, l, err, want)
	}
	sized(t, "behind the end", g, 0)
}

// refuses adds a text that is refused: nothing is beside the error, and what came is forgotten.
func refuses(t *testing.T, g *Gather, s string, more bool, want api.Errno, place int) {
	t.Helper()
	l, err := g.Add(s, more)
	if got, at := plain.Place(err); got != want || at != place || len(l) != 0 {
		t.Errorf("Add of %.100q, %v is %v, error %d at %d, want %d at %d", s, more, l, got, at, want, place)
	}
	sized(t, "behind an error", g, 0)
}

// goesOn checks that one with room for it takes a text in two parts.
func goesOn(t *testing.T, g *Gather) {
	t.Helper()
	more(t, g, "B=")
	ends(t, g, "2\x00", []api.Pair{{Key: "B", Value: "2"}})
}

func TestNew(t *testing.T) {
	for _, most := range []int{0, 1, 8192, api.MaxText - 1, api.MaxText} {
		g := made(t, most)
		more(t, g, strings.Repeat("x", most))
		refuses(t, g, "x", true, api.ErrFull, nowhere)
	}
	for _, most := range []int{-1, -2, api.MaxText + 1, 1 << 16, 1 << 32, math.MinInt, math.MaxInt} {
		g, err := New(most)
		if got, place := plain.Place(err); g != nil || got != api.ErrRange || place != nowhere {
			t.Errorf("New of %d: %v, error %d at %d", most, g, got, place)
		}
	}
}

func TestAdd(t *testing.T) {
	g := made(t, 100)
	one := []api.Pair{{Key: "A", Value: "x=y"}}
	two := []api.Pair{{Key: "A", Value: "x=y"}, {Key: "B"}}
	for range 3 {
		ends(t, g, "", nil)
		ends(t, g, "A=x=y\x00", one)
		ends(t, g, "A=x=y\x00B=\x00", two)
		more(t, g, "")
		ends(t, g, "", nil)
		more(t, g, "A=x")
		more(t, g, "")
		more(t, g, "=y\x00B")
		ends(t, g, "=\x00", two)
		more(t, g, "A=x=y\x00")
		ends(t, g, "", one)
	}
}

// TestParsesErrors: they have their places, counted from the beginning of all that came, and what came is forgotten then.
func TestParsesErrors(t *testing.T) {
	full := strings.Repeat("A=1\x00", 60)
	for _, x := range []struct {
		ahead, s string
		want     api.Errno
		place    int
	}{
		{"", "A", api.ErrMissing, 0},
		{"A=1", "", api.ErrMissing, 0},
		{"A=1\x00B", "=2", api.ErrMissing, 1},
		{"", "\x00", api.ErrForm, 0},
		{"A=1\x00", "B\x00", api.ErrForm, 1},
		{"A=1\x00B=", "\n\x00", api.ErrForm, 1},
		{"A=1\x00B=2\x00", "c=3\x00", api.ErrName, 2},
		{"A=1\x00=", "\x00C", api.ErrName, 1},
		{full, "A=1\x00", api.ErrLimit, nowhere},
		{full + "A=1\x00", "", api.ErrLimit, nowhere},
		{full, "A", api.ErrMissing, 60},
	} {
		g := made(t, 300)
		for range 2 {
			more(t, g, x.ahead)
			refuses(t, g, x.s, false, x.want, x.place)
			goesOn(t, g)
		}
	}
}

// TestNothingIsParsedAhead: what is wrong is told at the end, not while more comes.
func TestNothingIsParsedAhead(t *testing.T) {
	g := made(t, 1000)
	more(t, g, "\x00\x00a=1\x00")
	more(t, g, strings.Repeat("=\x00", 100))
	refuses(t, g, "", false, api.ErrForm, 0)
	goesOn(t, g)
}

// TestFull: as many bytes as may be, and not one more, in whatever parts, whatever is wrong with them, whether more comes or not.
func TestFull(t *testing.T) {
	for _, most := range []int{4, 5, 10, 255, 256, 8192, api.MaxText} {
		for _, first := range []int{0, 1, 3, most / 2, most - 1, most} {
			for _, over := range []int{1, 2, 256, 1 << 16, 1 << 20} {
				for _, comes := range []bool{true, false} {
					for _, c := range []string{"A", "\x00", "\xff"} {
						g := made(t, most)
						more(t, g, strings.Repeat(c, first))
						refuses(t, g, strings.Repeat(c, most-first+over), comes, api.ErrFull, nowhere)
						goesOn(t, g)
					}
				}
			}
		}
	}
}

// TestFullToTheBrim: what came counts no more once it is forgotten, by its end or by an error.
func TestFullToTheBrim(t *testing.T) {
	g := made(t, 8)
	two := []api.Pair{{Key: "A", Value: "1"}, {Key: "B", Value: "2"}}
	for range 5 {
		more(t, g, "A=1\x00B")
		ends(t, g, "=2\x00", two)
		ends(t, g, "A=1\x00B=2\x00", two)
		more(t, g, "A=1\x00B=2\x00")
		more(t, g, "")
		ends(t, g, "", two)
		more(t, g, "A=1\x00B=2\x00")
		refuses(t, g, "\x00", false, api.ErrFull, nowhere)
		refuses(t, g, "A=1\x00B=2=", false, api.ErrMissing, 1)
		refuses(t, g, "A=1\x00B=22\x00", false, api.ErrFull, nowhere)
		refuses(t, g, "A=1\x00B=22\x00", true, api.ErrFull, nowhere)
	}
}

// TestNoRoom: one of no bytes takes what has none.
func TestNoRoom(t *testing.T) {
	g := made(t, 0)
	for range 2 {
		more(t, g, "")
		ends(t, g, "", nil)
		refuses(t, g, "A", true, api.ErrFull, nowhere)
		refuses(t, g, "A=1\x00", false, api.ErrFull, nowhere)
	}
}

// TestHoweverItIsCut: texts, right and wrong ones, come to what they do whole, in any parts.
func TestHoweverItIsCut(t *testing.T) {
	r := rand.New(rand.NewSource(10))
	parts := []string{"A=1\x00", "Key=x=y\x00", "B=\x00", "C", "=", "\x00", "\n"}
	g := made(t, 2000)
	for range 5_000 {
		var s string
		for range r.Intn(12) {
			part := parts[r.Intn(3)]
			if r.Intn(10) == 0 {
				part = parts[r.Intn(len(parts))]
			}
			s += part
		}
		want, wantErr := pairs.Parse(s)
		e, place := plain.Place(wantErr)
		for len(s) > 0 && r.Intn(8) > 0 {
			n := r.Intn(len(s) + 1)
			more(t, g, s[:n])
			s = s[n:]
		}
		l, err := g.Add(s, false)
		if got, at := plain.Place(err); !slices.Equal(l, want) || got != e || at != place {
			t.Fatalf("it is %v, error %d at %d, want %v, %d at %d", l, got, at, want, e, place)
		}
		sized(t, "behind the end", g, 0)
	}
}

// TestByteByByte fills one as far as may be.
func TestByteByByte(t *testing.T) {
	s := strings.Repeat("K="+strings.Repeat("v", 255)+"\x00", 60)
	want, err := pairs.Parse(s)
	if err != nil {
		t.Fatal(err)
	}
	g := made(t, len(s))
	for i := range s {
		more(t, g, s[i:i+1])
	}
	ends(t, g, "", want)
}

// TestFreshPairs: what comes out is the caller's, and each Gather has its own.
func TestFreshPairs(t *testing.T) {
	g, h := made(t, 100), made(t, 100)
	one := []api.Pair{{Key: "A", Value: "1"}}
	more(t, g, "A=1")
	more(t, h, "C=3")
	l, err := g.Add("\x00", false)
	more(t, g, "D=44444")
	if !slices.Equal(l, one) || err != nil {
		t.Errorf("what came out is %v, %v", l, err)
	}
	clear(l)
	ends(t, g, "\x00", []api.Pair{{Key: "D", Value: "44444"}})
	ends(t, h, "\x00", []api.Pair{{Key: "C", Value: "3"}})
}

func TestSplit(t *testing.T) {
	for _, x := range []struct {
		s    string
		size int
		want []string
	}{
		{"", 1, []string{""}},
		{"", api.MaxText, []string{""}},
		{"a", 1, []string{"a"}},
		{"abc", 1, []string{"a", "b", "c"}},
		{"abcd", 2, []string{"ab", "cd"}},
		{"abcde", 2, []string{"ab", "cd", "e"}},
		{"abcde", 4, []string{"abcd", "e"}},
		{"abcde", 5, []string{"abcde"}},
		{"abcde", 6, []string{"abcde"}},
		{"abcde", api.MaxText, []string{"abcde"}},
		{"A=1\x00B=\x00", 4, []string{"A=1\x00", "B=\x00"}},
		{"\x00\xff\n", 2, []string{"\x00\xff", "\n"}},
	} {
		if l, err := Split(x.s, x.size); !slices.Equal(l, x.want) || err != nil {
			t.Errorf("Split(%q, %d) = %q, %v, want %q", x.s, x.size, l, err, x.want)
		}
	}
	for _, size := range []int{0, -1, -2, api.MaxText + 1, 1 << 16, 1 << 32, math.MinInt, math.MaxInt} {
		for _, s := range []string{"", "x", strings.Repeat("x", 30_000)} {
			l, err := Split(s, size)
			if got, place := plain.Place(err); len(l) != 0 || got != api.ErrRange || place != nowhere {
				t.Errorf("Split into %d: %d pieces, error %d at %d", size, len(l), got, place)
			}
		}
	}
}

// TestSplitOfEachSize: the pieces are the text, all but the last one as long as was asked for, and the last one no longer.
func TestSplitOfEachSize(t *testing.T) {
	text := strings.Repeat("0123456789,", 6000)
	for _, n := range []int{1, 2, 7, 60, 255, 256, api.MaxText - 1, api.MaxText, api.MaxText + 1, 2 * api.MaxText, 60_000} {
		for _, size := range []int{1, 2, 3, 59, 60, 61, 512, 8192, api.MaxText - 1, api.MaxText} {
			l, err := Split(text[:n], size)
			if err != nil || len(l) != (n+size-1)/size || strings.Join(l, "") != text[:n] {
				t.Fatalf("Split of %d bytes into %d: %d pieces, %v", n, size, len(l), err)
			}
			for i, piece := range l {
				if i < len(l)-1 && len(piece) != size || len(piece) < 1 || len(piece) > size {
					t.Errorf("Split of %d bytes into %d: piece %d has %d", n, size, i, len(piece))
				}
			}
		}
	}
}

// TestSplitAndAdd: a text that goes in pieces comes as it went.
func TestSplitAndAdd(t *testing.T) {
	want := slices.Repeat([]api.Pair{{Key: "A", Value: "x=y"}, {Key: "B"}}, 30)
	s, err := pairs.Print(want)
	if err != nil {
		t.Fatal(err)
	}
	for size := 1; size <= len(s)+1; size++ {
		l, err := Split(s, size)
		if err != nil {
			t.Fatal(err)
		}
		g := made(t, len(s))
		for _, piece := range l[:len(l)-1] {
			more(t, g, piece)
		}
		ends(t, g, l[len(l)-1], want)
	}
}
