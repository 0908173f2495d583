package lives_test

import (
	"math"
	"slices"
	"testing"

	"duet/api"
	"duet/lives"
	"duet/syntax"
)

// first process of a program, with numbers as ends of channels.
func first(t *testing.T, s string) (*lives.Life[int], []api.Def) {
	t.Helper()
	p, f := syntax.Parse(s)
	if f.Code != api.OK {
		t.Fatalf("Parse(%q): %v", s, f)
	}
	return lives.First[int](p.Defs), p.Defs
}

// rest of a process that does all alone: what it says.
func rest(l *lives.Life[int], defs []api.Def) []string {
	var lines []string
	for l.At != nil {
		l.Alone(defs, func(line string) { lines = append(lines, line) })
	}
	return lines
}

func TestAlone(t *testing.T) {
	l, defs := first(t, `def main() = let x = 1; let x = x + 1; print x; if x < 2 {stop} else {print "a"; f(x * 2, true)}
def g() = stop
def f(y:int, b:bool) = let x = y; print x + y; if b {f(x + 1, not b)} else {g()}`)
	if got := rest(l, defs); !slices.Equal(got, []string{"2", `"a"`, "8", "10"}) || l.At != nil {
		t.Errorf("%v", got)
	}
}

// TestSpawn: ends go to the child, and what either knows later is its own.
func TestSpawn(t *testing.T) {
	l, defs := first(t, "def main() = let x = 1; spawn c:end () {stop}; spawn d:end (c) {let x = x + 1; end c; print x; f(; d)}; print x; end d; stop\ndef f(; e:end) = end e; stop")
	l.Alone(defs, nil)
	one := l.Spawn(10, 11)
	if one.Name() != "0.0" || one.Channel() != "0:0" || len(one.Ends) != 1 || one.Ends["c"] != 10 || len(l.Ends) != 1 || l.Ends["c"] != 11 {
		t.Errorf("%s over %s, with %v, %v", one.Name(), one.Channel(), one.Ends, l.Ends)
	}
	two := l.Spawn(20, 21)
	if two.Name() != "0.1" || two.Channel() != "0:1" || len(two.Ends) != 2 || two.Ends["c"] != 11 || two.Ends["d"] != 20 || len(l.Ends) != 1 || l.Ends["d"] != 21 {
		t.Errorf("%s over %s, with %v, %v", two.Name(), two.Channel(), two.Ends, l.Ends)
	}
	if got := rest(two, defs); !slices.Equal(got, []string{"2"}) || len(two.Ends) != 0 {
		t.Errorf("child: %v, %v", got, two.Ends)
	}
	if got := rest(l, defs); !slices.Equal(got, []string{"1"}) || len(l.Ends) != 0 || l.Name() != "0" {
		t.Errorf("parent: %v, %v", got, l.Ends)
	}
}

func TestTogether(t *testing.T) {
	l, defs := first(t, "def main() = spawn c:!{end}.+{a:end,b:?int.end} () {stop}; take c d; case c {a: stop, b: send c 7; end c; end d; stop}")
	child := l.Spawn(1, 2)
	if child.At.Kind != api.Stop || l.Here() != 2 {
		t.Errorf("%d, at %d", child.At.Kind, l.Here())
	}
	l.Next()
	l.Ends["d"] = 3
	l.Branch("b")
	if v := l.Value(l.At.Expr); lives.Written(v) != "7" || l.Here() != 2 {
		t.Errorf("%v at %d", v, l.Here())
	}
	l.Next()
	if x := l.Lose("d"); x != 3 || len(l.Ends) != 1 {
		t.Errorf("%d, %v", x, l.Ends)
	}
	l.Know("y", api.Value{Sort: api.Int, N: 4})
	if v := l.Value(api.Expr{Kind: api.Name, Name: "y"}); v.N != 4 {
		t.Errorf("%v", v)
	}
	if got := rest(l, defs); len(got) != 0 {
		t.Errorf("%v", got)
	}
}

func TestOrder(t *testing.T) {
	said := []api.Said{{Who: "0.2"}, {Who: "0"}, {Who: "0.10"}, {Who: "0.1.0"}, {Who: "0.1"}}
	lives.Order(said)
	for i, name := range []string{"0", "0.1", "0.1.0", "0.10", "0.2"} {
		if said[i].Who != name {
			t.Errorf("%d: %s, want %s", i, said[i].Who, name)
		}
	}
}

// TestP29Picks: numbers below 0 count as -1 less them; all go modulo how many moves there are.
func TestP29Picks(t *testing.T) {
	picks := []int{0, 1, 2, 3, 7, -1, -2, -3, -4, math.MaxInt, math.MinInt, -math.MaxInt}
	for moves, want := range map[int][]int{
		1: make([]int, 15),
		2: {0, 1, 0, 1, 1, 0, 1, 0, 1, 1, 1, 0, 0, 0, 0},
		3: {0, 1, 2, 0, 1, 0, 1, 2, 0, math.MaxInt % 3, math.MaxInt % 3, (math.MaxInt - 1) % 3, 0, 0, 0},
	} {
		for k, n := range want {
			if got := lives.Picked(picks, k, moves); got != n {
				t.Errorf("pick %d of %d moves: %d, want %d", k, moves, got, n)
			}
		}
	}
	if got := lives.Picked(nil, 0, 5); got != 0 {
		t.Errorf("no picks: %d", got)
	}
}
