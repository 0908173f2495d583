package code_test

import (
	"math"
	"strconv"
	"strings"
	"testing"

	"duet/api"
	"duet/check"
	"duet/code"
	"duet/syntax"
)

const hello = "def main() = spawn c:!int.end () {send c 7; end c; stop}; recv c x; print x; end c; stop\n"

// parsed is for texts of which a test takes it for granted that they are read.
func parsed(t *testing.T, s string) api.Program {
	t.Helper()
	p, f := syntax.Parse(s)
	if f.Code != api.OK {
		t.Fatalf("Parse(%q): %v", s, f)
	}
	return p
}

// compiled is for programs that are right.
func compiled(t *testing.T, s string) *code.Code {
	t.Helper()
	c, e := code.Compile(parsed(t, s))
	if c == nil || e != api.OK {
		t.Fatalf("Compile(%q): %d", s, e)
	}
	return c
}

func told(said []api.Said) string {
	var out []string
	for _, s := range said {
		out = append(out, s.Who+"="+strings.Join(s.Lines, ","))
	}
	return strings.Join(out, " ")
}

func someTurns() []int { return []int{1, 2, 3, 4, 5, 7, 100, api.MaxFuel, math.MaxInt} }

// want what is said, by how many steps, with just so much fuel, and ErrLarge with less, whatever the turn: all of it by one Code.
func want(t *testing.T, s, said string, steps int) {
	t.Helper()
	c := compiled(t, s)
	size := c.Size()
	for _, turn := range someTurns() {
		for _, fuel := range []int{0, steps / 2, steps - 1} {
			wantError(t, c, turn, fuel, api.ErrLarge)
		}
		for _, fuel := range []int{steps, steps + 1, api.MaxFuel} {
			if l, n, e := c.Run(turn, min(fuel, api.MaxFuel)); told(l) != said || n != steps || e != api.OK {
				t.Errorf("%s, %d, %d\n\t%s, %d, %d, want\n\t%s, %d", s, turn, fuel, told(l), n, e, said, steps)
				return
			}
		}
	}
	if c.Size() != size {
		t.Errorf("%s: %d instructions, now %d", s, size, c.Size())
	}
}

// wantError looks for zeros beside it.
func wantError(t *testing.T, c *code.Code, turn, fuel int, want api.Errno) {
	t.Helper()
	if l, n, e := c.Run(turn, fuel); l != nil || n != 0 || e != want {
		t.Errorf("turn %d, fuel %d: %v, %d, %d, want %d", turn, fuel, l, n, e, want)
	}
}

func TestP32SaysWhatCheckSays(t *testing.T) {
	endless := api.Proc{Kind: api.PEnd, Chan: "c", Kids: make([]api.Proc, 1)}
	endless.Kids[0] = endless
	programs := []api.Program{{}, {Defs: []api.Def{}}, {Defs: []api.Def{{}}}, {Defs: make([]api.Def, 11)}, {Defs: []api.Def{{Name: "main", Body: endless}}}}
	for _, s := range []string{
		"def main(n:int) = stop", "def main(; c:end) = end c; stop", "def main() = print x; stop", "def main() = print 1 + true; stop", "def main() = if 1 {stop} else {stop}", "def main() = f()", "def main() = stop\ndef main() = stop", "def main() = stop\ndef f() = f(1)",
		// These would stand still, or be at odds.
		"def main() = spawn c:!int.end () {stop}; recv c x; end c; stop", "def main() = recv c x; stop", "def main() = spawn c:!int.end () {send c 1; end c; stop}; send c 1; end c; stop", "def main() = spawn c:+{a:end} () {pick c b; end c; stop}; case c {a: end c; stop}", "def main() = spawn c:!int.end () {recv c x; end c; stop}; recv c x; end c; stop",
		// What is never come to.
		"def main() = if true {stop} else {print x; stop}", "def main() = stop\ndef f(; c:end) = stop",
	} {
		programs = append(programs, parsed(t, s))
	}
	seen := map[api.Errno]int{}
	for i, p := range programs {
		want, _ := check.Check(p)
		if want == api.OK {
			t.Errorf("%d is right", i)
		}
		seen[want]++
		if c, e := code.Compile(p); c != nil || e != want {
			t.Errorf("%d: %v, %d, want %d", i, c, e, want)
		}
	}
	for _, e := range []api.Errno{api.ErrArg, api.ErrLarge, api.ErrName, api.ErrSort, api.ErrLinear, api.ErrType} {
		if seen[e] == 0 {
			t.Errorf("no program is %d", e)
		}
	}
}

// TestP32Size: all processes count, wherever they stand, and whether they are come to or not.
func TestP32Size(t *testing.T) {
	for s, size := range map[string]int{
		"def main() = stop":          1,
		"def main() = print 1; stop": 2,
		hello:                        8,
		"def main() = if true {stop} else {let x = 1; print x; stop}":                                                                                          5,
		"def main() = f(1)\ndef f(n:int) = f(n + 1)\ndef g() = print 1; g()":                                                                                   4,
		"def main() = spawn c:+{b:end} () {pick c b; end c; stop}; case c {a: stop, b: end c; stop, c: nobody(1)}":                                             9,
		"def main() = spawn c:!{end}.end () {spawn d:end () {end d; stop}; give c d; end c; stop}; take c d; end d; end c; stop":                               11,
		"def main() = " + strings.Repeat("print 1; ", 199) + "stop":                                                                                            200,
		"def main() = " + strings.Repeat("print 1; ", 99) + "f()\ndef f() = " + strings.Repeat("if true {stop} else {", 49) + "stop" + strings.Repeat("}", 49): 199,
	} {
		if got := compiled(t, s).Size(); got != size {
			t.Errorf("%s: %d, want %d", s, got, size)
		}
	}
	if c, e := code.Compile(parsed(t, "def main() = "+strings.Repeat("print 1; ", 199)+"main()")); e != api.OK || c.Size() != 200 {
		t.Errorf("200: %d", e)
	}
	p := parsed(t, "def main() = "+strings.Repeat("print 1; ", 199)+"stop")
	p.Defs = append(p.Defs, api.Def{Name: "f", Body: api.Proc{Kind: api.Stop}})
	if c, e := code.Compile(p); c != nil || e != api.ErrLarge {
		t.Errorf("201: %d", e)
	}
}

// TestP32NoTurnNoFuel: ErrArg goes ahead of ErrLarge, and one of both is enough.
func TestP32NoTurnNoFuel(t *testing.T) {
	for _, s := range []string{hello, "def main() = stop", "def main() = main()"} {
		c := compiled(t, s)
		noTurns, noFuels := []int{0, -1, -2, math.MinInt, -1 << 32}, []int{-1, 20001, math.MinInt, math.MaxInt, 1 << 32, -1 << 32}
		for _, turn := range noTurns {
			for _, fuel := range append([]int{0, 7, 8, api.MaxFuel}, noFuels...) {
				wantError(t, c, turn, fuel, api.ErrArg)
			}
		}
		for _, turn := range someTurns() {
			for _, fuel := range noFuels {
				wantError(t, c, turn, fuel, api.ErrArg)
			}
		}
	}
}

func TestP32Alone(t *testing.T) {
	want(t, "def main() = stop", "0=", 1)
	want(t, `def main() = print -3; print true; print ""; print "a\n\"\\é"; print -3; stop`, `0=-3,true,"","a\n\"\\é",-3`, 6)
	want(t, "def main() = let x = 2; let y = x + 1; let x = y * x; print x; print y; stop", "0=6,3", 6)
	want(t, "def main() = let b = false; if b {print 1; stop} else {if not b {print 2; stop} else {print 3; stop}}", "0=2", 5)
	want(t, "def main() = let x = 5; let y = 6; f(y, x)\ndef f(x:int, y:int) = print x - y; stop", "0=1", 5)
	want(t, "def main() = f(3)\ndef f(n:int) = print n; if n < 1 {stop} else {f(n - 1)}", "0=3,2,1,0", 13)
	// The first definition may be called too; the last one may be the one that goes on.
	want(t, "def main() = print 1; f(0)\ndef g(n:int) = print n; stop\ndef f(n:int) = if n < 2 {f(n + 1)} else {g(n)}", "0=1,2", 10)
	// What is reckoned without names, at its edges.
	want(t, `def main() = print 1 / 0; print 7 % 0; print 9223372036854775807 + 1; print # ("é" ++ "b"); print - (3 - 5); print 1 + 2 < 4 and not false; stop`, "0=0,7,-9223372036854775808,2,2,true", 7)
	want(t, `def main() = let x = 3; print x + 2 * 3; print 2 * 3 + x; print (1 < 2) == (x < 2); stop`, "0=9,9,false", 5)
}

func TestP32Spawn(t *testing.T) {
	want(t, "def main() = spawn c:end () {end c; stop}; end c; stop", "0= 0.0=", 5)
	// The child has all values, and what either learns later is its own.
	want(t, "def main() = let x = 1; let y = 2; spawn c:end () {let x = 3; print x + y; end c; stop}; let y = 5; print x + y; end c; stop", "0=6 0.0=5", 11)
	want(t, "def main() = let a = 1; let b = 2; let d = 3; spawn c:end () {let x = 10; print x; print x; print x; end c; stop}; let x = 20; print x; print x; print x; end c; stop", "0=20,20,20 0.0=10,10,10", 16)
	// Ends go with it.
	want(t, "def main() = spawn c:!int.end () {spawn d:end (c) {send c 1; end c; end d; stop}; end d; stop}; recv c x; print x; end c; stop", "0=1 0.0= 0.0.0=", 12)
	want(t, "def main() = spawn a:!int.end () {send a 1; end a; stop}; spawn b:!int.end () {send b 2; end b; stop}; spawn c:end (b, a) {recv a x; recv b y; print x - y; end a; end b; end c; stop}; end c; stop", "0= 0.0= 0.1= 0.2=-1", 18)
	// What is counted goes on behind a Call.
	want(t, "def main() = spawn c:end () {end c; stop}; end c; f()\ndef f() = spawn c:end () {print 1; end c; stop}; end c; stop", "0= 0.0= 0.1=1", 11)
}

func TestP32Together(t *testing.T) {
	want(t, hello, "0=7 0.0=", 8)
	want(t, "def main() = spawn c:?int.end () {recv c x; print x; end c; stop}; send c 7; end c; stop", "0= 0.0=7", 8)
	want(t, "def main() = spawn c:!int.?bool.!text.end () {send c 1 + 2; recv c b; print b; send c \"a\\\"\"; end c; stop}; recv c x; send c x < 2; recv c t; print t; end c; stop", `0="a\"" 0.0=false`, 13)
	// A case may have more labels than the type, ahead, behind and in between.
	want(t, "def main() = spawn c:+{b:end,d:end} () {pick c d; end c; stop}; case c {a: stop, b: end c; stop, c: nobody(), d: print 4; end c; stop, e: stop}", "0=4 0.0=", 8)
	want(t, "def main() = spawn c:&{a:end,b:end} () {case c {a: print 1; end c; stop, b: print 2; end c; stop}}; pick c b; end c; stop", "0= 0.0=2", 8)
	// An end goes from one to the other, may have been used ahead of it, and comes back.
	want(t, "def main() = spawn c:!{?int.end}.end () {spawn d:!int.end () {send d 5; end d; stop}; give c d; end c; stop}; take c e; recv e x; print x; end e; end c; stop", "0=5 0.0= 0.0.0=", 14)
	want(t, "def main() = spawn c:?{!int.!int.end}.!{!int.end}.end () {take c e; send e 1; give c e; end c; stop}; spawn d:?int.?int.?int.end () {recv d x; recv d y; recv d z; print x + y * z; end d; stop}; send d 2; give c d; take c d; send d 3; end d; end c; stop", "0= 0.0= 0.1=5", 20)
	// One goes while somebody waits at its other end.
	want(t, "def main() = spawn d:?int.end () {recv d x; print x; end d; stop}; spawn c:?{!int.end}.end () {take c e; print 0; print 0; send e 4; end e; end c; stop}; print 1; print 1; give c d; end c; stop", "0=1,1 0.0=4 0.1=0,0", 18)
	// An end of a type below the one that is carried.
	want(t, "def main() = spawn c:!{+{a:end}}.end () {spawn d:&{a:end,b:!int.end} () {case d {a: print 1; end d; stop, b: send d 1; end d; stop}}; give c d; end c; stop}; take c d; pick d a; end d; end c; stop", "0= 0.0= 0.0.0=1", 14)
	want(t, "def main() = spawn c:rec t.+{go:!int.t,no:end} () {f(3; c)}; g(0; c)\ndef f(n:int; d:rec t.+{go:!int.t,no:end}) = if n < 1 {pick d no; end d; stop} else {pick d go; send d n; f(n - 1; d)}\ndef g(n:int; e:rec t.&{go:?int.t,no:end}) = case e {go: recv e m; print n + m; g(n + m; e), no: end e; stop}", "0=3,5,6 0.0=", 34)
	// Two ends that change their names with each other.
	want(t, "def main() = spawn a:!int.end () {send a 1; end a; stop}; spawn b:!int.end () {send b 2; end b; stop}; f(; b, a)\ndef f(; a:?int.end, b:?int.end) = recv a x; recv b y; print x * 10 + y; end a; end b; stop", "0=21 0.0= 0.1=", 15)
}

// TestP32OrderOfNames: by their bytes, whoever began first.
func TestP32OrderOfNames(t *testing.T) {
	crowd := "def f(n:int) = if n < 1 {stop} else {spawn c:end () {print n; end c; g(n == 11)}; end c; f(n - 1)}\ndef g(b:bool) = if b {spawn c:end () {end c; stop}; end c; stop} else {stop}"
	said := "0= 0.0=12 0.1=11 0.1.0= 0.10=2 0.11=1 0.2=10 0.3=9 0.4=8 0.5=7 0.6=6 0.7=5 0.8=4 0.9=3"
	want(t, "def main() = f(12)\n"+crowd, said, 1+12*(4+5)+2+4)
}

// TestP32NeverOver: there is no fuel for what goes on for ever, alone, together, beside one who waits all the time, and with more and more processes.
func TestP32NeverOver(t *testing.T) {
	for _, s := range []string{
		"def main() = main()", "def main() = print 1; main()", "def main() = f(1)\ndef f(n:int) = f(n + 1)",
		"def main() = spawn c:rec t.!int.t () {f(; c)}; g(; c)\ndef f(; c:rec t.!int.t) = send c 1; f(; c)\ndef g(; c:rec t.?int.t) = recv c x; g(; c)",
		"def main() = spawn c:!int.end () {f(; c)}; recv c x; end c; stop\ndef f(; c:!int.end) = f(; c)",
		"def main() = spawn c:?int.end () {recv c x; end c; stop}; f(; c)\ndef f(; c:!int.end) = f(; c)",
		"def main() = spawn c:!int.end () {send c 1; end c; stop}; f(; c)\ndef f(; c:?int.end) = f(; c)",
		"def main() = spawn c:end () {end c; stop}; end c; main()", "def main() = spawn c:end () {end c; main()}; end c; stop", "def main() = spawn c:end () {end c; main()}; end c; main()",
		"def main() = spawn c:!int.end () {f(; c)}; recv c x; end c; stop\ndef f(; c:!int.end) = spawn d:!int.end () {f(; d)}; send c 1; recv d x; end c; end d; stop",
		"def main() = spawn c:!int.end () {f(; c)}; recv c x; end c; stop\ndef f(; c:!int.end) = spawn d:!int.end () {f(; d)}; recv d x; send c x; end c; end d; stop",
	} {
		c := compiled(t, s)
		for _, turn := range someTurns() {
			for _, fuel := range []int{0, 1, 2, 101, api.MaxFuel} {
				wantError(t, c, turn, fuel, api.ErrLarge)
			}
		}
	}
}

// TestP32Large: as many steps as there may be, and names as long as these make them.
func TestP32Large(t *testing.T) {
	count := func(n int) string {
		return "def main() = f(" + strconv.Itoa(n) + ")\ndef f(n:int) = if n < 1 {stop} else {f(n - 1)}"
	}
	want(t, count(9998), "0=", 19999)
	wantError(t, compiled(t, count(9999)), 3, api.MaxFuel, api.ErrLarge)
	want(t, strings.Replace(count(9998), "{stop}", "{print 1; stop}", 1), "0=1", 20000)
	deep := compiled(t, "def main() = f(2855)\ndef f(n:int) = spawn c:end () {end c; if n < 1 {print n; stop} else {f(n - 1)}}; end c; stop")
	for _, turn := range []int{1, 3, math.MaxInt} {
		said, n, e := deep.Run(turn, api.MaxFuel)
		if e != api.OK || len(said) != 2857 || n != 1+6*2856+1 {
			t.Fatalf("%d processes, %d, %d", len(said), n, e)
		}
		for i, s := range said {
			if s.Who != "0"+strings.Repeat(".0", i) || len(s.Lines) > 0 != (i == 2856) {
				t.Fatalf("%d: %s, %v", i, s.Who, s.Lines)
			}
		}
	}
}
