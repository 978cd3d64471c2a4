package many

import (
	"fmt"
	"runtime"
	"slices"
	"strings"
	"sync"
	"testing"
	"time"

	"quaymaster/api"
	"quaymaster/desk"
	"quaymaster/plain"
)

// nowhere is the place of an error that has none.
const nowhere = -1

// some are so many texts, each of which is answered otherwise, and not all of which are as long.
func some(n int) []string {
	var l []string
	for i := range n {
		s := fmt.Sprintf("target iqn.%d\nopen %d c\nsend LoginRequest 0 135 CmdSN=5 InitiatorName=me|TargetName=iqn.%d|\nstate\n", i, i, i)
		if i%3 == 0 {
			s += strings.Repeat(fmt.Sprintf("send NopOut 1 128 LUN=%d %d\n", i, i), 300-5*i)
		}
		l = append(l, s)
	}
	return l
}

// answered are what texts are answered, one by one.
func answered(l []string) []string {
	var said []string
	for _, s := range l {
		said = append(said, desk.Session(s))
	}
	return said
}

// fails checks that an error is ErrLimit, with nothing beside.
func fails(t *testing.T, what string, l []string, err error) {
	t.Helper()
	if errno, place := plain.Place(err); errno != api.ErrLimit || place != nowhere || len(l) != 0 {
		t.Errorf("%s: %q, error %d at %d", what, l, errno, place)
	}
}

// TestWorkers: however many workers there are, and however many texts, each is answered at its place.
func TestWorkers(t *testing.T) {
	texts := some(50)
	want := answered(texts)
	for i, s := range want {
		if slices.Index(want, s) != i || !strings.Contains(s, fmt.Sprintf("state false true false false 0 0 /iqn.%d\n", i)) {
			t.Fatalf("text %d is answered %.300q", i, s)
		}
	}
	for workers := 1; workers <= 16; workers++ {
		for _, n := range []int{0, 1, 2, workers - 1, workers, workers + 1, 49, 50} {
			got, err := All(texts[:n], workers)
			if err != nil || !slices.Equal(got, want[:n]) {
				t.Errorf("%d texts, %d workers: %.300q, %v", n, workers, got, err)
			}
		}
	}
}

// TestAlike: texts that are the same are answered each, and so are those that are wrong.
func TestAlike(t *testing.T) {
	texts := []string{"help", "", "help", "x", strings.Repeat("x", api.MaxText+1), "", "help\n\n", "\n", "open 7 c\nstate", "state"}
	for workers := 1; workers <= 16; workers++ {
		got, err := All(texts, workers)
		if err != nil || !slices.Equal(got, answered(texts)) {
			t.Errorf("%d workers: %q, %v", workers, got, err)
		}
	}
	if got, err := All(nil, 1); err != nil || len(got) != 0 {
		t.Errorf("no texts: %q, %v", got, err)
	}
}

// TestLimit: how many texts there may be, and how many workers.
func TestLimit(t *testing.T) {
	for _, workers := range []int{0, -1, 17, 18, 32, 1 << 40, -1 << 63, 1<<63 - 1} {
		for _, n := range []int{0, 1, 50, 51} {
			l, err := All(make([]string, n), workers)
			fails(t, fmt.Sprintf("%d texts, %d workers", n, workers), l, err)
		}
	}
	for workers := 1; workers <= 16; workers++ {
		for _, n := range []int{51, 52, 100, 100_000} {
			l, err := All(make([]string, n), workers)
			fails(t, fmt.Sprintf("%d texts, %d workers", n, workers), l, err)
		}
		if l, err := All(make([]string, 50), workers); err != nil || !slices.Equal(l, slices.Repeat([]string{"ok\n"}, 50)) {
			t.Errorf("50 texts, %d workers: %q, %v", workers, l, err)
		}
	}
}

// TestKeepsNothing: texts stay as they are, also behind the list's length, and what comes out is the caller's.
func TestKeepsNothing(t *testing.T) {
	all := some(20)
	was := slices.Clone(all)
	want := answered(all)
	got, err := All(all[:10], 4)
	if err != nil || !slices.Equal(got, want[:10]) {
		t.Fatalf("%.300q, %v", got, err)
	}
	_ = append(got, "mine", "mine")
	for i := range got {
		got[i] = "mine"
	}
	if !slices.Equal(all, was) {
		t.Errorf("%.300q is written into", all)
	}
	clear(all[:10])
	if again, err := All(was[:10], 4); err != nil || !slices.Equal(again, want[:10]) {
		t.Errorf("again: %.300q, %v", again, err)
	}
}

// TestTogether: many are asked at the same time, and nothing goes on behind what they answer.
func TestTogether(t *testing.T) {
	texts := some(12)
	want := answered(texts)
	before := runtime.NumGoroutine()
	var asking sync.WaitGroup
	for workers := 1; workers <= 16; workers++ {
		asking.Go(func() {
			for range 5 {
				if got, err := All(texts, workers); err != nil || !slices.Equal(got, want) {
					t.Errorf("%d workers: %.300q, %v", workers, got, err)
				}
			}
		})
	}
	asking.Wait()
	for range 1_000 { // one that is through is counted for a moment yet
		if runtime.NumGoroutine() <= before {
			return
		}
		time.Sleep(time.Millisecond)
	}
	t.Errorf("there were %d, and are %d", before, runtime.NumGoroutine())
}
