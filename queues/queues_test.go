package queues_test

import (
	"math"
	"strconv"
	"strings"
	"testing"

	"duet/api"
	"duet/check"
	"duet/queues"
	"duet/steps"
	"duet/syntax"
)

const hello = "def main() = spawn c:!int.end () {send c 7; end c; stop}; recv c x; print x; end c; stop\n"

// parsed is for texts of which a test takes it for granted that they are read.
func parsed(t *testing.T, s string) api.Program {
	t.Helper()
	p, f := syntax.Parse(s)
	if f.Code != api.OK {
		t.Fatalf("Parse(%q): %v", s, f)
	}
	return p
}

func told(said []api.Said) string {
	var out []string
	for _, s := range said {
		out = append(out, s.Who+"="+strings.Join(s.Lines, ","))
	}
	return strings.Join(out, " ")
}

// somePicks of no account for what is said.
func somePicks() [][]int {
	all := [][]int{nil, {}, {0}, {-1, -2, -3, -4, -5, -6}, {5, 0, 3, 0, 9, 1, 0, 2}, {math.MaxInt, math.MinInt, math.MaxInt, math.MinInt}}
	for k := 1; k < 5; k++ {
		picks := make([]int, 40)
		for i := range picks {
			picks[i] = k + i%k
		}
		all = append(all, picks)
	}
	return all
}

// want what is said, by how many steps, with just so much fuel, and ErrLarge with less, whatever the room and the picks.
func want(t *testing.T, s, said string, steps int) {
	t.Helper()
	p := parsed(t, s)
	for _, room := range []int{1, 2, 3, 100} {
		for _, picks := range somePicks() {
			for _, fuel := range []int{steps, steps + 1, api.MaxFuel} {
				if l, n, most, e := queues.Run(p, picks, room, min(fuel, api.MaxFuel)); told(l) != said || n != steps || most < 0 || most > room || e != api.OK {
					t.Errorf("%s, %v, %d\n\t%s, %d, %d, %d, want\n\t%s, %d", s, picks, room, told(l), n, most, e, said, steps)
					return
				}
			}
			for _, fuel := range []int{0, steps / 2, steps - 1} {
				wantError(t, p, picks, room, fuel, api.ErrLarge)
			}
		}
	}
}

// wantError looks for zeros beside it.
func wantError(t *testing.T, p api.Program, picks []int, room, fuel int, want api.Errno) {
	t.Helper()
	if l, n, most, e := queues.Run(p, picks, room, fuel); l != nil || n != 0 || most != 0 || e != want {
		t.Errorf("%v, room %d, fuel %d: %v, %d, %d, %d, want %d", picks, room, fuel, l, n, most, e, want)
	}
}

// noRooms are none from 1 to 100.
func noRooms() []int {
	return []int{0, -1, 101, 102, math.MinInt, math.MaxInt, 1<<32 + 1, -1<<32 + 1, 1 << 8, -100}
}

func TestP31Room(t *testing.T) {
	p := parsed(t, hello)
	for _, room := range noRooms() {
		for _, fuel := range []int{0, 7, 8, api.MaxFuel, -1, 20001} {
			wantError(t, p, nil, room, fuel, api.ErrArg)
		}
	}
	for room := 1; room <= 100; room++ {
		if l, n, most, e := queues.Run(p, []int{1}, room, 8); told(l) != "0=7 0.0=" || n != 8 || most != 1 || e != api.OK {
			t.Errorf("room %d: %v, %d, %d, %d", room, l, n, most, e)
		}
	}
}

// TestP31SaysWhatAskSays: whatever the room, and ahead of what is said of it.
func TestP31SaysWhatAskSays(t *testing.T) {
	for _, fuel := range []int{-1, 20001, math.MinInt, math.MaxInt, 1 << 32, -1 << 32} {
		wantError(t, parsed(t, hello), []int{1}, 1, fuel, api.ErrArg)
	}
	endless := api.Proc{Kind: api.PEnd, Chan: "c", Kids: make([]api.Proc, 1)}
	endless.Kids[0] = endless
	programs := []api.Program{{}, {Defs: []api.Def{}}, {Defs: []api.Def{{}}}, {Defs: make([]api.Def, 11)}, {Defs: []api.Def{{Name: "main", Body: endless}}}}
	for _, s := range []string{
		"def main(n:int) = stop", "def main(; c:end) = end c; stop", "def main() = print x; stop", "def main() = print 1 + true; stop", "def main() = if 1 {stop} else {stop}", "def main() = f()", "def main() = stop\ndef main() = stop", "def main() = stop\ndef f() = f(1)",
		// These would stand still, or be at odds.
		"def main() = spawn c:!int.end () {stop}; recv c x; end c; stop", "def main() = recv c x; stop", "def main() = spawn c:!int.end () {send c 1; end c; stop}; send c 1; end c; stop", "def main() = spawn c:+{a:end} () {pick c b; end c; stop}; case c {a: end c; stop}", "def main() = spawn c:!int.?int.end () {recv c x; send c 1; end c; stop}; send c 1; recv c x; end c; stop",
		// What is never come to.
		"def main() = if true {stop} else {print x; stop}", "def main() = stop\ndef f(; c:end) = stop",
	} {
		programs = append(programs, parsed(t, s))
	}
	seen := map[api.Errno]int{}
	for i, p := range programs {
		want, _ := check.Check(p)
		if want == api.OK {
			t.Errorf("%d is right", i)
		}
		seen[want]++
		for _, fuel := range []int{0, 100, 20000, -1, 20001} {
			for _, room := range append(noRooms(), 1, 100) {
				wantError(t, p, []int{2, -1}, room, fuel, want)
			}
		}
	}
	for _, e := range []api.Errno{api.ErrArg, api.ErrLarge, api.ErrName, api.ErrSort, api.ErrLinear, api.ErrType} {
		if seen[e] == 0 {
			t.Errorf("no program is %d", e)
		}
	}
}

func TestP31Alone(t *testing.T) {
	want(t, "def main() = stop", "0=", 1)
	want(t, `def main() = print -3; print true; print ""; print "a\n\"\\é"; print -3; stop`, `0=-3,true,"","a\n\"\\é",-3`, 6)
	want(t, "def main() = let x = 2; let y = x + 1; let x = y * x; print x; print y; stop", "0=6,3", 6)
	want(t, "def main() = let b = false; if b {print 1; stop} else {if not b {print 2; stop} else {print 3; stop}}", "0=2", 5)
	want(t, "def main() = let x = 5; let y = 6; f(y, x)\ndef f(x:int, y:int) = print x - y; stop", "0=1", 5)
	want(t, "def main() = f(3)\ndef f(n:int) = print n; if n < 1 {stop} else {f(n - 1)}", "0=3,2,1,0", 13)
}

func TestP31Spawn(t *testing.T) {
	want(t, "def main() = spawn c:end () {end c; stop}; end c; stop", "0= 0.0=", 5)
	want(t, "def main() = let x = 1; let y = 2; spawn c:end () {let x = 3; print x + y; end c; stop}; let y = 5; print x + y; end c; stop", "0=6 0.0=5", 11)
	// Ends go with it.
	want(t, "def main() = spawn c:!int.end () {spawn d:end (c) {send c 1; end c; end d; stop}; end d; stop}; recv c x; print x; end c; stop", "0=1 0.0= 0.0.0=", 12)
	want(t, "def main() = spawn a:!int.end () {send a 1; end a; stop}; spawn b:!int.end () {send b 2; end b; stop}; spawn c:end (b, a) {recv a x; recv b y; print x - y; end a; end b; end c; stop}; end c; stop", "0= 0.0= 0.1= 0.2=-1", 18)
	// So do letters that have come ahead of it, and those that are on their way out.
	want(t, "def main() = spawn c:!int.?int.end () {send c 1; recv c x; print x; end c; stop}; recv c x; send c x + 1; spawn d:end (c) {end c; end d; stop}; end d; stop", "0= 0.0=2 0.1=", 14)
	want(t, "def main() = spawn c:end () {end c; stop}; end c; f()\ndef f() = spawn c:end () {print 1; end c; stop}; end c; stop", "0= 0.0= 0.1=1", 11)
}

func TestP31Letters(t *testing.T) {
	want(t, hello, "0=7 0.0=", 8)
	want(t, "def main() = spawn c:?int.end () {recv c x; print x; end c; stop}; send c 7; end c; stop", "0= 0.0=7", 8)
	want(t, "def main() = spawn c:!int.?bool.!text.end () {send c 1 + 2; recv c b; print b; send c \"a\\\"\"; end c; stop}; recv c x; send c x < 2; recv c t; print t; end c; stop", `0="a\"" 0.0=false`, 13)
	// A letter is what it was when it was sent, and the first one comes first.
	want(t, "def main() = spawn c:?int.?int.?int.end () {recv c x; recv c y; recv c z; print x * 100 + y * 10 + z; end c; stop}; let x = 1; send c x; let x = x + 1; send c x; let x = x + 1; send c x; end c; stop", "0= 0.0=123", 15)
	want(t, "def main() = spawn c:+{b:end,d:end} () {pick c d; end c; stop}; case c {a: stop, b: end c; stop, c: nobody(), d: print 4; end c; stop, e: stop}", "0=4 0.0=", 8)
	want(t, "def main() = spawn c:&{a:end,b:end} () {case c {a: print 1; end c; stop, b: print 2; end c; stop}}; pick c b; end c; stop", "0= 0.0=2", 8)
	// Letters of all three kinds in one line.
	want(t, "def main() = spawn c:?int.?{!int.end}.&{a:?text.end} () {recv c x; take c d; case c {a: recv c y; print y; send d x; end d; end c; stop}}; spawn d:?int.end () {recv d x; print x; end d; stop}; send c 8; give c d; pick c a; send c \"s\"; end c; stop", `0= 0.0="s" 0.1=8`, 21)
	want(t, "def main() = spawn c:rec t.+{go:!int.t,no:end} () {f(3; c)}; g(0; c)\ndef f(n:int; d:rec t.+{go:!int.t,no:end}) = if n < 1 {pick d no; end d; stop} else {pick d go; send d n; f(n - 1; d)}\ndef g(n:int; e:rec t.&{go:?int.t,no:end}) = case e {go: recv e m; print n + m; g(n + m; e), no: end e; stop}", "0=3,5,6 0.0=", 34)
}

// TestP31Given: an end goes with both its lines, and is still the same one while it is on its way.
func TestP31Given(t *testing.T) {
	want(t, "def main() = spawn c:?{?int.end}.end () {take c e; recv e x; print x; end e; end c; stop}; spawn d:!int.end () {send d 5; end d; stop}; give c d; end c; stop", "0= 0.0=5 0.1=", 14)
	want(t, "def main() = spawn c:!{?int.end}.end () {spawn d:!int.end () {send d 5; end d; stop}; give c d; end c; stop}; take c e; recv e x; print x; end e; end c; stop", "0=5 0.0= 0.0.0=", 14)
	// What is sent ahead of it, by who takes it, and when it has come back, stays in order.
	want(t, "def main() = spawn c:?{!int.!int.end}.!{!int.end}.end () {take c e; send e 1; give c e; end c; stop}; spawn d:?int.?int.?int.end () {recv d x; recv d y; recv d z; print x + y * z; end d; stop}; send d 2; give c d; take c d; send d 3; end d; end c; stop", "0= 0.0= 0.1=5", 20)
	// One that is given up by who took it, with letters on their way.
	want(t, "def main() = spawn c:?{!int.end}.end () {take c e; send e 1; end e; end c; stop}; spawn d:?int.?int.end () {recv d x; recv d y; print x - y; end d; stop}; send d 2; give c d; end c; stop", "0= 0.0= 0.1=1", 16)
	// One that is given with another one on its way to it.
	want(t, "def main() = spawn a:?{?int.end}.end () {take a e; recv e x; print x; end e; end a; stop}; spawn d:!int.end () {send d 9; end d; stop}; give a d; spawn b:?{end}.end () {take b f; end f; end b; stop}; give b a; end b; stop", "0= 0.0=9 0.1= 0.2=", 20)
	// An end of a type below the one that is carried.
	want(t, "def main() = spawn c:!{+{a:end}}.end () {spawn d:&{a:end,b:!int.end} () {case d {a: print 1; end d; stop, b: send d 1; end d; stop}}; give c d; end c; stop}; take c d; pick d a; end d; end c; stop", "0= 0.0= 0.0.0=1", 14)
}

const (
	in    = "def main() = spawn c:!int.!int.!int.end () {send c 1; send c 2; send c 3; end c; stop}; recv c x; recv c y; recv c z; print x * 100 + y * 10 + z; end c; stop"
	out   = "def main() = spawn c:?int.?int.?int.end () {recv c x; recv c y; recv c z; end c; stop}; send c 1; send c 2; send c 3; end c; stop"
	two   = "def main() = spawn c:!int.!int.end () {send c 1; send c 2; end c; stop}; spawn d:!int.!int.!int.end () {send d 1; send d 2; send d 3; end d; stop}; recv c x; recv c x; recv d x; recv d x; recv d x; end c; end d; stop"
	picky = "def main() = spawn c:+{a:+{a:end}} () {pick c a; pick c a; end c; stop}; case c {a: case c {a: end c; stop}}"
	given = "def main() = spawn c:!{end}.!{end}.end () {spawn d:end () {end d; stop}; spawn e:end () {end e; stop}; give c d; give c e; end c; stop}; take c d; end d; take c e; end e; end c; stop"
	there = "def main() = spawn c:!int.!int.?int.end () {send c 1; send c 2; recv c x; end c; stop}; recv c x; recv c x; send c 3; end c; stop"
)

// TestP31Most: letters are counted line by line, whoever of both lets them out, and only as many as there are at once.
func TestP31Most(t *testing.T) {
	for _, x := range []struct {
		s     string
		picks []int
		rooms map[int]int // what is the most in each
	}{
		{"def main() = stop", nil, map[int]int{1: 0, 100: 0}},
		{"def main() = spawn c:end () {end c; stop}; end c; stop", []int{0, 1}, map[int]int{1: 0, 100: 0}},
		{in, nil, map[int]int{1: 1, 2: 1, 3: 1, 100: 1}},
		{in, []int{0, 0, 1}, map[int]int{1: 1, 2: 2, 3: 2, 100: 2}},
		{in, []int{0, 0, 1, 1}, map[int]int{1: 1, 2: 2, 3: 3, 4: 3, 100: 3}},
		{in, []int{0, 0, 1, 1, 1, 1}, map[int]int{1: 1, 2: 2, 3: 3, 4: 3, 100: 3}},
		{in, []int{-1, -1, -2, -2}, map[int]int{2: 2, 3: 3}},
		{in, []int{5, 7, 3, 5}, map[int]int{2: 2, 3: 3}},
		{in, []int{4, -4, 2, -3}, map[int]int{2: 1, 3: 1}},
		{in, []int{math.MaxInt, math.MinInt, math.MaxInt, math.MinInt}, map[int]int{2: 2, 3: 3}},
		{in, []int{0, 0, 0, 0, 1}, map[int]int{3: 2}},
		{out, nil, map[int]int{1: 1, 2: 2, 3: 3, 100: 3}},
		{out, []int{0, 0, 1}, map[int]int{1: 1, 2: 2, 3: 2}},
		{out, []int{0, 0, 1, 0, 1}, map[int]int{1: 1, 2: 1, 3: 1}},
		{out, []int{0, 0, 0, 1}, map[int]int{1: 1, 2: 2, 3: 2}},
		// By the second child alone, by the first one, and by both: there are four letters then, in two lines.
		{two, []int{0, 0, 1, 1, 1}, map[int]int{1: 1, 2: 2, 3: 3, 9: 3}},
		{two, []int{0, 0, 0, 1, 0, 0, 0}, map[int]int{1: 1, 2: 2, 3: 2}},
		{two, []int{0, 0, 0, 1, 2, 2, 0, 0, 0}, map[int]int{1: 1, 2: 2, 3: 2}},
		{picky, []int{0, 0, 0}, map[int]int{1: 1, 2: 1}},
		{picky, []int{0, 0, 1}, map[int]int{1: 1, 2: 2}},
		{given, []int{0, 0, 0, 0, 0}, map[int]int{1: 1, 2: 1}},
		{given, []int{0, 0, 0, 0, 1}, map[int]int{1: 1, 2: 2}},
		// What comes back goes in the other line.
		{there, []int{0, 0, 1}, map[int]int{1: 1, 2: 2, 3: 2}},
	} {
		for room, want := range x.rooms {
			if _, _, most, e := queues.Run(parsed(t, x.s), x.picks, room, 99); most != want || e != api.OK {
				t.Errorf("%s, %v, room %d: %d, %d, want %d", x.s, x.picks, room, most, e, want)
			}
		}
	}
}

// TestP31Full: who sends goes on till there is no room, and then with each letter that is taken.
func TestP31Full(t *testing.T) {
	for _, n := range []int{0, 50, 98, 99, 100, 150} {
		p := parsed(t, "def main() = spawn c:rec t.&{go:t,no:end} () {g(; c)}; f("+strconv.Itoa(n)+"; c)\ndef f(n:int; c:rec t.+{go:t,no:end}) = if n < 1 {pick c no; end c; stop} else {pick c go; f(n - 1; c)}\ndef g(; c:rec t.&{go:t,no:end}) = case c {go: g(; c), no: print 1; end c; stop}")
		_, count, _ := steps.Run(p, nil, api.MaxFuel)
		for room := 1; room <= 100; room++ {
			if l, k, most, e := queues.Run(p, nil, room, count); told(l) != "0= 0.0=1" || k != count || most != min(room, n+1) || e != api.OK {
				t.Errorf("%d letters, room %d: %v, %d, %d, %d", n+1, room, l, k, most, e)
			}
		}
	}
}

// TestP31OrderOfNames: by their bytes, whoever began first.
func TestP31OrderOfNames(t *testing.T) {
	crowd := "def f(n:int) = if n < 1 {stop} else {spawn c:end () {print n; end c; g(n == 11)}; end c; f(n - 1)}\ndef g(b:bool) = if b {spawn c:end () {end c; stop}; end c; stop} else {stop}"
	said := "0= 0.0=12 0.1=11 0.1.0= 0.10=2 0.11=1 0.2=10 0.3=9 0.4=8 0.5=7 0.6=6 0.7=5 0.8=4 0.9=3"
	want(t, "def main() = f(12)\n"+crowd, said, 1+12*(4+5)+2+4)
}

// TestP31NeverOver: there is no fuel for what goes on for ever, alone, over a channel, beside one who waits all the time, and with more and more processes.
func TestP31NeverOver(t *testing.T) {
	for _, s := range []string{
		"def main() = main()", "def main() = print 1; main()", "def main() = f(1)\ndef f(n:int) = f(n + 1)",
		"def main() = spawn c:rec t.!int.t () {f(; c)}; g(; c)\ndef f(; c:rec t.!int.t) = send c 1; f(; c)\ndef g(; c:rec t.?int.t) = recv c x; g(; c)",
		"def main() = spawn c:rec t.?int.t () {g(; c)}; f(; c)\ndef f(; c:rec t.!int.t) = send c 1; f(; c)\ndef g(; c:rec t.?int.t) = recv c x; g(; c)",
		"def main() = spawn c:!int.end () {f(; c)}; recv c x; end c; stop\ndef f(; c:!int.end) = f(; c)",
		"def main() = spawn c:!int.end () {send c 1; end c; stop}; f(; c)\ndef f(; c:?int.end) = f(; c)",
		"def main() = spawn c:end () {end c; stop}; end c; main()", "def main() = spawn c:end () {end c; main()}; end c; stop", "def main() = spawn c:end () {end c; main()}; end c; main()",
		"def main() = spawn c:!int.end () {f(; c)}; recv c x; end c; stop\ndef f(; c:!int.end) = spawn d:!int.end () {f(; d)}; send c 1; recv d x; end c; end d; stop",
		"def main() = spawn c:!int.end () {f(; c)}; recv c x; end c; stop\ndef f(; c:!int.end) = spawn d:!int.end () {f(; d)}; recv d x; send c x; end c; end d; stop",
	} {
		for _, picks := range somePicks() {
			for _, fuel := range []int{0, 1, 2, 101, api.MaxFuel} {
				for _, room := range []int{1, 2, 100} {
					wantError(t, parsed(t, s), picks, room, fuel, api.ErrLarge)
				}
			}
		}
	}
}

// TestP31Large: as many steps as there may be, and names as long as these make them.
func TestP31Large(t *testing.T) {
	count := func(n int) string {
		return "def main() = f(" + strconv.Itoa(n) + ")\ndef f(n:int) = if n < 1 {stop} else {f(n - 1)}"
	}
	want(t, count(9998), "0=", 19999)
	wantError(t, parsed(t, count(9999)), nil, 1, api.MaxFuel, api.ErrLarge)
	want(t, strings.Replace(count(9998), "{stop}", "{print 1; stop}", 1), "0=1", 20000)
	deep := parsed(t, "def main() = f(2855)\ndef f(n:int) = spawn c:end () {end c; if n < 1 {print n; stop} else {f(n - 1)}}; end c; stop")
	said, n, most, e := queues.Run(deep, []int{1, 1, 1}, 1, api.MaxFuel)
	if e != api.OK || len(said) != 2857 || n != 1+6*2856+1 || most != 0 {
		t.Fatalf("%d processes, %d, %d, %d", len(said), n, most, e)
	}
	for i, s := range said {
		if s.Who != "0"+strings.Repeat(".0", i) || len(s.Lines) > 0 != (i == 2856) {
			t.Fatalf("%d: %s, %v", i, s.Who, s.Lines)
		}
	}
}
