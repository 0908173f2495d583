package runs_test

import (
	"runtime"
	"slices"
	"sync"
	"sync/atomic"
	"testing"
	"time"
	"unsafe"

	"duet/api"
	"duet/runs"
)

// waiting is a program of 1002 processes, each of which waits for its child, till the last one has counted.
const waiting = "def main() = spawn c:!int.end () {f(1000; c)}; recv c x; print x; end c; stop\ndef f(n:int; c:!int.end) = if n < 1 {g(2000; c)} else {spawn d:!int.end () {f(n - 1; d)}; recv d x; end d; send c x + 1; end c; stop}\ndef g(n:int; c:!int.end) = if n < 1 {send c 0; end c; stop} else {g(n - 1; c)}"

// within some time a thing comes to hold.
func within(holds func() bool) bool {
	for end := time.Now().Add(20 * time.Second); time.Now().Before(end); runtime.Gosched() {
		if holds() {
			return true
		}
	}
	return false
}

// TestP30EachProcessIsAGoroutine: while a program of many processes runs there are as many goroutines.
func TestP30EachProcessIsAGoroutine(t *testing.T) {
	p, before := parsed(t, waiting), runtime.NumGoroutine()
	var seen atomic.Bool
	var wait sync.WaitGroup
	wait.Go(func() {
		for !seen.Load() {
			if said, n, e := runs.Run(p, api.MaxFuel); len(said) != 1002 || n != 5+1+1000*8+2+2000*2+4 || e != api.OK {
				t.Errorf("%d processes, %d steps, %d", len(said), n, e)
				return
			}
		}
	})
	if !within(func() bool { return runtime.NumGoroutine() >= before+1+1002 }) {
		t.Error("too few goroutines")
	}
	seen.Store(true)
	wait.Wait()
}

// TestP1GoroutinesHaveEnded: also those that had to wait when there was no fuel any more.
func TestP1GoroutinesHaveEnded(t *testing.T) {
	before := runtime.NumGoroutine()
	for _, s := range []string{hello, waiting, "def main() = spawn c:!int.end () {f(; c)}; recv c x; end c; stop\ndef f(; c:!int.end) = spawn d:!int.end () {f(; d)}; send c 1; recv d x; end c; end d; stop"} {
		p := parsed(t, s)
		for _, fuel := range []int{0, 1, 2, 3, 4, 5, 100, 5000, api.MaxFuel} {
			runs.Run(p, fuel)
		}
	}
	if !within(func() bool { return runtime.NumGoroutine() <= before }) {
		t.Errorf("%d goroutines, then %d", before, runtime.NumGoroutine())
	}
}

// TestP2AnswersAreNewMemory: what was handed in is changed behind the call, its texts included.
func TestP2AnswersAreNewMemory(t *testing.T) {
	literal := []byte("said")
	p := parsed(t, `def main() = spawn c:!text.end () {send c "x"; end c; stop}; recv c x; print x; end c; stop`)
	p.Defs[0].Body.Kids[0].Expr.Value.S = unsafe.String(&literal[0], len(literal))
	said, _, e := runs.Run(p, 99)
	copy(literal, "else")
	if told(said) != `0="said" 0.0=` || e != api.OK {
		t.Errorf("%v, %d", said, e)
	}
}

// TestP2ListsShareNothing: each list of an answer is filled up to the end of its room, and none sees what was put into another one.
func TestP2ListsShareNothing(t *testing.T) {
	p := parsed(t, "def main() = f(9)\ndef f(n:int) = print n; if n < 1 {stop} else {spawn c:end () {print 1; print 2; print 3; end c; stop}; end c; f(n - 1)}")
	said, _, _ := runs.Run(p, api.MaxFuel)
	again, _, _ := runs.Run(p, api.MaxFuel)
	want := told(said)
	for _, s := range said {
		for i := range s.Lines[len(s.Lines):cap(s.Lines)] {
			s.Lines[:cap(s.Lines)][len(s.Lines)+i] = "spare"
		}
	}
	if told(said) != want {
		t.Errorf("%v, then %s", said, want)
	}
	for _, s := range said {
		clear(s.Lines)
	}
	clear(said)
	if told(again) != want {
		t.Errorf("%v, then %s", again, want)
	}
}

// TestP2AnswersHangOnNothingElse: one program is run by many at once, beside others that are cut off.
func TestP2AnswersHangOnNothingElse(t *testing.T) {
	p := parsed(t, "def main() = spawn c:rec t.+{go:!int.t,no:end} () {f(20; c)}; g(0; c)\ndef f(n:int; d:rec t.+{go:!int.t,no:end}) = print n; if n < 1 {pick d no; end d; stop} else {pick d go; send d n; f(n - 1; d)}\ndef g(n:int; e:rec t.&{go:?int.t,no:end}) = case e {go: recv e m; print n + m; g(n + m; e), no: end e; stop}")
	want, count, e := runs.Run(p, api.MaxFuel)
	if e != api.OK {
		t.Fatal(e)
	}
	var wait sync.WaitGroup
	for range 16 {
		wait.Go(func() {
			for k := range 50 {
				said, n, e := runs.Run(p, count)
				if !slices.EqualFunc(said, want, func(a, b api.Said) bool { return a.Who == b.Who && slices.Equal(a.Lines, b.Lines) }) || n != count || e != api.OK {
					t.Errorf("%v, %d, %d", said, n, e)
				}
				if said, n, e := runs.Run(p, count-1-k); said != nil || n != 0 || e != api.ErrLarge {
					t.Errorf("%v, %d, %d", said, n, e)
				}
			}
		})
	}
	wait.Wait()
}
