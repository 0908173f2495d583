package queues_test

import (
	"sync"
	"testing"
	"unsafe"

	"duet/api"
	"duet/queues"
)

// counting is a program of many letters, processes and lines.
const counting = "def main() = spawn c:rec t.+{go:!int.t,no:end} () {f(20; c)}; g(0; c)\ndef f(n:int; d:rec t.+{go:!int.t,no:end}) = print n; if n < 1 {pick d no; end d; stop} else {spawn e:end () {print n; print n; print n; end e; stop}; pick d go; end e; send d n; f(n - 1; d)}\ndef g(n:int; e:rec t.&{go:?int.t,no:end}) = case e {go: recv e m; print n + m; g(n + m; e), no: end e; stop}"

// TestP2AnswersAreNewMemory: what was handed in is changed behind the call, its texts included.
func TestP2AnswersAreNewMemory(t *testing.T) {
	literal := []byte("said")
	p := parsed(t, `def main() = spawn c:!text.end () {send c "x"; end c; stop}; recv c x; print x; end c; stop`)
	p.Defs[0].Body.Kids[0].Expr.Value.S = unsafe.String(&literal[0], len(literal))
	said, _, _, e := queues.Run(p, nil, 1, 99)
	copy(literal, "else")
	if told(said) != `0="said" 0.0=` || e != api.OK {
		t.Errorf("%v, %d", said, e)
	}
}

// TestP2ListsShareNothing: each list of an answer is filled up to the end of its room, and none sees what was put into another one.
func TestP2ListsShareNothing(t *testing.T) {
	p := parsed(t, counting)
	said, _, _, _ := queues.Run(p, []int{1, 2, 1}, 3, api.MaxFuel)
	again, _, _, _ := queues.Run(p, []int{1, 2, 1}, 3, api.MaxFuel)
	want := told(said)
	for _, s := range said {
		behind := s.Lines[len(s.Lines):cap(s.Lines)]
		for i := range behind {
			behind[i] = "spare"
		}
	}
	if told(said) != want || len(said) != 22 {
		t.Errorf("%v, then %s", said, want)
	}
	for _, s := range said {
		clear(s.Lines)
	}
	clear(said)
	if told(again) != want {
		t.Errorf("%v, then %s", again, want)
	}
}

// TestP2AnswersHangOnNothingElse: one program is run by many at once, beside others for which there is no fuel.
func TestP2AnswersHangOnNothingElse(t *testing.T) {
	p, picks := parsed(t, counting), somePicks()
	said, count, _, e := queues.Run(p, nil, 1, api.MaxFuel)
	if e != api.OK {
		t.Fatal(e)
	}
	var wait sync.WaitGroup
	for g := range 8 {
		wait.Go(func() {
			for k := range 20 {
				room, chosen := 1+k%5, picks[(g+k)%len(picks)]
				_, _, want, _ := queues.Run(p, chosen, room, count)
				if got, n, most, e := queues.Run(p, chosen, room, count); told(got) != told(said) || n != count || most != want || e != api.OK {
					t.Errorf("%v, %d, %d, %d", got, n, most, e)
				}
				wantError(t, p, chosen, room, count-1-k, api.ErrLarge)
			}
		})
	}
	wait.Wait()
}
