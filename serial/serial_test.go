package serial

import (
	"math"
	"math/rand"
	"testing"
)

const (
	half = 1 << 31
	last = 1<<32 - 1
)

// corners are numbers at which something might turn over.
func corners() []uint32 {
	return []uint32{0, 1, 2, 3, 255, 256, 65535, 65536, half - 2, half - 1, half, half + 1, half + 2, last - 2, last - 1, last}
}

// some are corners, and numbers drawn.
func some() []uint32 {
	r := rand.New(rand.NewSource(14))
	l := corners()
	for range 20 {
		l = append(l, r.Uint32())
	}
	return l
}

func TestBefore(t *testing.T) {
	for _, x := range []struct {
		a, b uint32
		want bool
	}{
		{1, 2, true},
		{2, 1, false},
		{3, 3, false},
		{0, 0, false},
		{last, last, false},
		{last, 0, true},
		{0, last, false},
		{last, half - 2, true},
		{last, half - 1, false},
		{0, half - 1, true},
		{0, half, false},
		{half, 0, false},
		{0, half + 1, false},
		{half + 1, 0, true},
		{half - 1, half, true},
		{half, half - 1, false},
		{5, half + 4, true},
		{5, half + 5, false},
		{5, half + 6, false},
	} {
		if got := Before(x.a, x.b); got != x.want {
			t.Errorf("Before(%d, %d) is %v", x.a, x.b, got)
		}
	}
}

func TestBeforeOfAll(t *testing.T) {
	for _, a := range some() {
		for _, b := range some() {
			on := (int64(b) - int64(a) + 1<<32) % (1 << 32)
			if got, want := Before(a, b), 1 <= on && on <= half-1; got != want {
				t.Errorf("Before(%d, %d) is %v, and b is %d further on", a, b, got, on)
			}
		}
	}
}

func TestAfter(t *testing.T) {
	for _, x := range []struct {
		a    uint32
		n    int
		want uint32
	}{
		{5, 0, 5},
		{5, 1, 6},
		{last, 1, 0},
		{last, 2, 1},
		{5, -5, 0},
		{5, -6, last},
		{0, -1, last},
		{0, half, half},
		{half, half, 0},
		{0, -half, half},
		{0, last, last},
		{1, last, 0},
		{7, last + 1, 7},
		{7, -last - 1, 7},
		{7, 3*(last+1) + 5, 12},
		{7, -3*(last+1) - 5, 2},
		{0, math.MaxInt, last},
		{1, math.MaxInt, 0},
		{9, math.MinInt, 9},
		{9, math.MinInt + 1, 10},
	} {
		if got := After(x.a, x.n); got != x.want {
			t.Errorf("After(%d, %d) is %d, want %d", x.a, x.n, got, x.want)
		}
	}
}

func TestAfterOfAll(t *testing.T) {
	for _, a := range some() {
		for _, b := range some() {
			for _, round := range []int{-1 << 33, -1 << 32, 0, 1 << 32, 1 << 40} {
				if got := After(a, int(b)-int(a)+round); got != b {
					t.Errorf("After of %d as far on as %d (and %d) is %d", a, b, round, got)
				}
			}
		}
	}
}

func TestWithin(t *testing.T) {
	for _, x := range []struct {
		n, from, to uint32
		want        bool
	}{
		{5, 4, 6, true},
		{4, 4, 6, true},
		{6, 4, 6, true},
		{3, 4, 6, false},
		{7, 4, 6, false},
		{4, 4, 4, true},
		{3, 4, 4, false},
		{5, 4, 4, false},
		{4, 5, 4, false},
		{5, 5, 4, false},
		{6, 5, 4, false},
		{half, 5, 4, false},
		{last, 0, last, false},
		{0, 0, last, false},
		{0, last, 1, true},
		{last, last, 1, true},
		{1, last, 1, true},
		{2, last, 1, false},
		{last - 1, last, 1, false},
		{last, last, last - 1, false},
		{last, last, last, true},
		{0, 0, 0, true},
		{1, 0, 0, false},
		{half + 5, 0, half + 9, true},
		{half + 10, 0, half + 9, false},
		{3, 5, 3, true},
		{4, 5, 3, false},
		{5, 5, 3, true},
	} {
		if got := Within(x.n, x.from, x.to); got != x.want {
			t.Errorf("Within(%d, %d, %d) is %v", x.n, x.from, x.to, got)
		}
	}
}

// TestWithinByCounting goes from one to the other, one by one.
func TestWithinByCounting(t *testing.T) {
	const near = 12
	for _, from := range some() {
		for size := range near {
			to := After(from, size-1)
			among := map[uint32]bool{}
			for i := range size {
				among[After(from, i)] = true
			}
			for away := -near; away < 2*near; away++ {
				n := After(from, away)
				if got := Within(n, from, to); got != among[n] {
					t.Errorf("Within(%d, %d, %d) is %v", n, from, to, got)
				}
			}
		}
	}
}

// TestWithinOfAll holds it against how far on numbers are.
func TestWithinOfAll(t *testing.T) {
	const round = int64(1) << 32
	for _, from := range some() {
		for _, to := range some() {
			size := (int64(to) - int64(from) + 1 + round) % round
			for _, n := range some() {
				on := (int64(n) - int64(from) + round) % round
				if got, want := Within(n, from, to), on < size; got != want {
					t.Errorf("Within(%d, %d, %d) is %v", n, from, to, got)
				}
			}
		}
	}
}
