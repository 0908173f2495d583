package code

import (
	"strconv"
	"strings"
	"testing"

	"duet/api"
	"duet/lives"
	"duet/syntax"
)

func compiled(t *testing.T, s string) (*Code, api.Program) {
	t.Helper()
	p, f := syntax.Parse(s)
	if f.Code != api.OK {
		t.Fatalf("%s: %v", s, f)
	}
	c, e := Compile(p)
	if e != api.OK {
		t.Fatalf("%s: %d", s, e)
	}
	return c, p
}

// turnsOf a program: whose each is, and how many steps were made in it (of what is done together both).
func turnsOf(c *Code, turn int) string {
	m := &machine{Code: c, turn: turn, fuel: api.MaxFuel}
	m.begin(lives.Begun[*channel](), 0)
	var out []string
	for len(m.ready) > 0 {
		p, before := m.next(), m.count
		m.takeTurn(p)
		if m.count > before || p.at < len(c.list) {
			out = append(out, p.Name()+":"+strconv.Itoa(m.count-before))
		}
	}
	return strings.Join(out, " ")
}

// TestP32Turns: a process does up to turn steps, and its turn ends where it has to wait.
func TestP32Turns(t *testing.T) {
	alone := "def main() = print 1; print 2; print 3; print 4; stop"
	hello := "def main() = spawn c:!int.end () {send c 7; end c; stop}; recv c x; print x; end c; stop"
	back := "def main() = spawn c:?int.end () {print 1; print 2; recv c x; end c; stop}; send c 7; end c; stop"
	three := "def main() = spawn c:end () {print 1; end c; stop}; spawn d:end () {end d; stop}; end c; end d; stop"
	for _, x := range []struct {
		s     string
		turn  int
		turns string
	}{
		{"def main() = stop", 1, "0:1"},
		{alone, 1, "0:1 0:1 0:1 0:1 0:1"},
		{alone, 2, "0:2 0:2 0:1"},
		{alone, 3, "0:3 0:2"},
		{alone, 5, "0:5"},
		{alone, 1 << 40, "0:5"},
		// The child comes first to where both are; then 0 meets it in a turn of its own, or the other way round.
		{hello, 1, "0:1 0.0:0 0:2 0.0:1 0:1 0.0:1 0:1 0:1"},
		{hello, 2, "0:1 0.0:3 0:2 0.0:1 0:1"},
		{hello, 3, "0:1 0.0:4 0:3"},
		{hello, 9, "0:1 0.0:4 0:3"},
		{back, 1, "0:1 0.0:1 0:0 0.0:1 0.0:2 0:1 0.0:1 0:1 0.0:1"},
		{back, 2, "0:1 0.0:2 0.0:3 0:2 0.0:1"},
		{back, 9, "0:1 0.0:6 0:2"},
		{three, 1, "0:1 0.0:1 0:1 0.0:1 0.1:1 0:1 0.0:1 0.1:1 0:1 0:1"},
		{three, 2, "0:2 0.0:2 0.1:2 0:2 0.0:1 0:1"},
		{three, 9, "0:5 0.0:3 0.1:2"},
	} {
		c, _ := compiled(t, x.s)
		if got := turnsOf(c, x.turn); got != x.turns {
			t.Errorf("%s, %d\n\t%s, want\n\t%s", x.s, x.turn, got, x.turns)
		}
	}
}

// laid says whether a process lies at a place, and all its Kids where it says, and counts how often each place is come to.
func laid(c *Code, p api.Proc, place int, seen []int) bool {
	if place < 0 || place >= len(c.list) {
		return false
	}
	seen[place]++
	at := c.list[place]
	if at.Kind != p.Kind || at.Chan != p.Chan || at.Name != p.Name || at.Label != p.Label || len(at.Kids) > 0 || len(at.kids) != len(p.Kids) {
		return false
	}
	for i, kid := range p.Kids {
		if !laid(c, kid, at.kids[i], seen) {
			return false
		}
	}
	return true
}

// TestP32Instructions: there is one for each process, none has processes in it, and each definition begins at a place.
func TestP32Instructions(t *testing.T) {
	for _, s := range []string{
		"def main() = stop",
		"def main() = spawn c:!{end}.end () {spawn d:end () {end d; stop}; give c d; end c; stop}; take c d; end d; end c; stop",
		"def main() = spawn c:+{b:end} () {pick c b; end c; f(1)}; case c {a: stop, b: end c; stop, c: nobody(1)}\ndef g() = let x = 1; print x; main()\ndef f(n:int) = if n < 1 {g()} else {stop}",
	} {
		c, p := compiled(t, s)
		seen := make([]int, c.Size())
		for i, d := range p.Defs {
			begins, known := c.begins[d.Name]
			if !known || i == 0 && begins.place != 0 || !laid(c, d.Body, begins.place, seen) {
				t.Errorf("%s: %s begins at %d, %t", s, d.Name, begins.place, known)
			}
		}
		for place, n := range seen {
			if n != 1 {
				t.Errorf("%s: %d is come to %d times", s, place, n)
			}
		}
		if len(c.begins) != len(p.Defs) {
			t.Errorf("%s: %v", s, c.begins)
		}
	}
}
