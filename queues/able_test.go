package queues

import (
	"strings"
	"testing"

	"duet/api"
	"duet/lives"
	"duet/syntax"
)

// ableOf a program: behind each step who can do one then, till all are over.
func ableOf(p api.Program, picks []int, room int) string {
	r := begun(p.Defs, room)
	var out []string
	for {
		var names []string
		for _, q := range r.able {
			names = append(names, q.Name())
		}
		out = append(out, strings.Join(names, ","))
		if len(r.able) == 0 {
			return strings.Join(out, " ")
		}
		r.step(lives.Picked(picks, r.count, len(r.able)))
	}
}

// TestP31WhoCanDoAStep: in the order in which processes began; who sends needs room, and who receives a letter.
func TestP31WhoCanDoAStep(t *testing.T) {
	hello := "def main() = spawn c:!int.end () {send c 7; end c; stop}; recv c x; print x; end c; stop"
	back := "def main() = spawn c:?int.?int.end () {recv c x; recv c x; end c; stop}; send c 7; send c 8; end c; stop"
	three := "def main() = spawn c:end () {spawn d:end () {end d; stop}; end d; end c; stop}; spawn e:end () {end e; stop}; end e; end c; stop"
	given := "def main() = spawn c:?{?int.end}.end () {take c e; recv e x; end e; end c; stop}; spawn d:!int.end () {send d 5; end d; stop}; give c d; end c; stop"
	for _, x := range []struct {
		s     string
		picks []int
		room  int
		able  string
	}{
		{"def main() = stop", nil, 1, "0 "},
		{hello, nil, 1, "0 0.0 0,0.0 0,0.0 0,0.0 0,0.0 0.0 0.0 "},
		// The child is over when its letter is taken.
		{hello, []int{0, 0, 1, 1}, 1, "0 0.0 0,0.0 0,0.0 0 0 0 0 "},
		{hello, []int{-5, -5, -4, -4}, 100, "0 0.0 0,0.0 0,0.0 0 0 0 0 "},
		// The second letter waits for room, or does not.
		{back, nil, 1, "0 0 0.0 0 0,0.0 0,0.0 0.0 0.0 0.0 "},
		{back, []int{0, 0, 0, 0, 1, 1, 1}, 1, "0 0 0.0 0 0,0.0 0,0.0 0,0.0 0 0 "},
		{back, nil, 2, "0 0 0,0.0 0,0.0 0,0.0 0.0 0.0 0.0 0.0 "},
		{back, []int{0, 0, 1, 0, 1}, 2, "0 0 0,0.0 0 0,0.0 0,0.0 0,0.0 0.0 0.0 "},
		// The child of 0.0 began behind 0's second one, or ahead of it.
		{three, nil, 1, "0 0,0.0 0,0.0,0.1 0,0.0,0.1 0,0.0,0.1 0.0,0.1 0.0,0.1,0.0.0 0.0,0.1,0.0.0 0.0,0.1,0.0.0 0.1,0.0.0 0.1,0.0.0 0.0.0 0.0.0 "},
		{three, []int{0, 1, 0, 3, 3, 2, 2}, 1, "0 0,0.0 0,0.0,0.0.0 0,0.0,0.0.0,0.1 0,0.0,0.0.0,0.1 0,0.0,0.0.0 0,0.0,0.0.0 0,0.0 0,0.0 0,0.0 0.0 0.0 0.0 "},
		// An end that is on its way when a letter comes to it: who takes it waits only if there is none yet.
		{given, []int{0, 0, 0, 2, 2, 2, 1, 1, 1, 1, 1}, 1, "0 0 0,0.1 0,0.0,0.1 0,0.0,0.1 0,0.0,0.1 0,0.0 0,0.0 0,0.0 0,0.0 0,0.0 0 0 "},
		{given, []int{0, 0, 0, 1, 1, 2, 1}, 1, "0 0 0,0.1 0,0.0,0.1 0,0.1 0,0.0,0.1 0,0.0,0.1 0,0.0,0.1 0,0.0,0.1 0.0,0.1 0.0,0.1 0.0,0.1 0.1 "},
		{given, []int{0, 0, 0, 1, 0, 0}, 1, "0 0 0,0.1 0,0.0,0.1 0,0.1 0,0.1 0.1 0.0,0.1 0.0,0.1 0.0,0.1 0.0,0.1 0.1 0.1 "},
	} {
		p, f := syntax.Parse(x.s)
		if f.Code != api.OK {
			t.Fatalf("%s: %v", x.s, f)
		}
		if got := ableOf(p, x.picks, x.room); got != x.able {
			t.Errorf("%s, %v, room %d\n\t%q, want\n\t%q", x.s, x.picks, x.room, got, x.able)
		}
	}
}
