package runs_test

import (
	"math"
	"strconv"
	"strings"
	"testing"

	"duet/api"
	"duet/check"
	"duet/runs"
	"duet/syntax"
)

const hello = "def main() = spawn c:!int.end () {send c 7; end c; stop}; recv c x; print x; end c; stop\n"

// parsed is for texts of which a test takes it for granted that they are read.
func parsed(t *testing.T, s string) api.Program {
	t.Helper()
	p, f := syntax.Parse(s)
	if f.Code != api.OK {
		t.Fatalf("Parse(%q): %v", s, f)
	}
	return p
}

func told(said []api.Said) string {
	var out []string
	for _, s := range said {
		out = append(out, s.Who+"="+strings.Join(s.Lines, ","))
	}
	return strings.Join(out, " ")
}

// want what is said, by how many steps, with just so much fuel, and ErrLarge with less: again and again, as processes may go on otherwise each time.
func want(t *testing.T, s, said string, steps int) {
	t.Helper()
	p := parsed(t, s)
	for range 10 {
		for _, fuel := range []int{steps, steps + 1, api.MaxFuel} {
			if l, n, e := runs.Run(p, min(fuel, api.MaxFuel)); told(l) != said || n != steps || e != api.OK {
				t.Errorf("%s, %d\n\t%s, %d, %d, want\n\t%s, %d", s, fuel, told(l), n, e, said, steps)
				return
			}
		}
		for _, fuel := range []int{0, steps / 2, steps - 1} {
			wantError(t, p, fuel, api.ErrLarge)
		}
	}
}

// wantError looks for zeros beside it.
func wantError(t *testing.T, p api.Program, fuel int, want api.Errno) {
	t.Helper()
	if l, n, e := runs.Run(p, fuel); l != nil || n != 0 || e != want {
		t.Errorf("%d: %v, %d, %d, want %d", fuel, l, n, e, want)
	}
}

func TestP30SaysWhatAskSays(t *testing.T) {
	for _, fuel := range []int{-1, 20001, math.MinInt, math.MaxInt, 1 << 32, -1 << 32} {
		wantError(t, parsed(t, hello), fuel, api.ErrArg)
	}
	endless := api.Proc{Kind: api.PEnd, Chan: "c", Kids: make([]api.Proc, 1)}
	endless.Kids[0] = endless
	programs := []api.Program{{}, {Defs: []api.Def{}}, {Defs: []api.Def{{}}}, {Defs: make([]api.Def, 11)}, {Defs: []api.Def{{Name: "main", Body: endless}}}}
	for _, s := range []string{
		"def main(n:int) = stop", "def main(; c:end) = end c; stop", "def main() = print x; stop", "def main() = print 1 + true; stop", "def main() = if 1 {stop} else {stop}", "def main() = f()", "def main() = stop\ndef main() = stop", "def main() = stop\ndef f() = f(1)",
		// These would stand still, or be at odds.
		"def main() = spawn c:!int.end () {stop}; recv c x; end c; stop", "def main() = recv c x; stop", "def main() = spawn c:!int.end () {send c 1; end c; stop}; send c 1; end c; stop", "def main() = spawn c:+{a:end} () {pick c b; end c; stop}; case c {a: end c; stop}", "def main() = spawn c:!int.end () {recv c x; end c; stop}; recv c x; end c; stop",
		// What is never come to.
		"def main() = if true {stop} else {print x; stop}", "def main() = stop\ndef f(; c:end) = stop",
	} {
		programs = append(programs, parsed(t, s))
	}
	seen := map[api.Errno]int{}
	for i, p := range programs {
		want, _ := check.Check(p)
		if want == api.OK {
			t.Errorf("%d is right", i)
		}
		seen[want]++
		for _, fuel := range []int{0, 100, 20000, -1, 20001} {
			wantError(t, p, fuel, want)
		}
	}
	for _, e := range []api.Errno{api.ErrArg, api.ErrLarge, api.ErrName, api.ErrSort, api.ErrLinear, api.ErrType} {
		if seen[e] == 0 {
			t.Errorf("no program is %d", e)
		}
	}
}

func TestP30Alone(t *testing.T) {
	want(t, "def main() = stop", "0=", 1)
	want(t, `def main() = print -3; print true; print ""; print "a\n\"\\é"; print -3; stop`, `0=-3,true,"","a\n\"\\é",-3`, 6)
	want(t, "def main() = let x = 2; let y = x + 1; let x = y * x; print x; print y; stop", "0=6,3", 6)
	want(t, "def main() = let b = false; if b {print 1; stop} else {if not b {print 2; stop} else {print 3; stop}}", "0=2", 5)
	want(t, "def main() = let x = 5; let y = 6; f(y, x)\ndef f(x:int, y:int) = print x - y; stop", "0=1", 5)
	want(t, "def main() = f(3)\ndef f(n:int) = print n; if n < 1 {stop} else {f(n - 1)}", "0=3,2,1,0", 13)
}

func TestP30Spawn(t *testing.T) {
	want(t, "def main() = spawn c:end () {end c; stop}; end c; stop", "0= 0.0=", 5)
	// The child has all values, and what either learns later is its own.
	want(t, "def main() = let x = 1; let y = 2; spawn c:end () {let x = 3; print x + y; end c; stop}; let y = 5; print x + y; end c; stop", "0=6 0.0=5", 11)
	want(t, "def main() = let a = 1; let b = 2; let d = 3; spawn c:end () {let x = 10; print x; print x; print x; end c; stop}; let x = 20; print x; print x; print x; end c; stop", "0=20,20,20 0.0=10,10,10", 16)
	// Ends go with it.
	want(t, "def main() = spawn c:!int.end () {spawn d:end (c) {send c 1; end c; end d; stop}; end d; stop}; recv c x; print x; end c; stop", "0=1 0.0= 0.0.0=", 12)
	want(t, "def main() = spawn a:!int.end () {send a 1; end a; stop}; spawn b:!int.end () {send b 2; end b; stop}; spawn c:end (b, a) {recv a x; recv b y; print x - y; end a; end b; end c; stop}; end c; stop", "0= 0.0= 0.1= 0.2=-1", 18)
	// What is counted goes on behind a Call.
	want(t, "def main() = spawn c:end () {end c; stop}; end c; f()\ndef f() = spawn c:end () {print 1; end c; stop}; end c; stop", "0= 0.0= 0.1=1", 11)
}

func TestP30Together(t *testing.T) {
	want(t, hello, "0=7 0.0=", 8)
	want(t, "def main() = spawn c:?int.end () {recv c x; print x; end c; stop}; send c 7; end c; stop", "0= 0.0=7", 8)
	want(t, "def main() = spawn c:!int.?bool.!text.end () {send c 1 + 2; recv c b; print b; send c \"a\\\"\"; end c; stop}; recv c x; send c x < 2; recv c t; print t; end c; stop", `0="a\"" 0.0=false`, 13)
	// A case may have more labels than the type, ahead, behind and in between.
	want(t, "def main() = spawn c:+{b:end,d:end} () {pick c d; end c; stop}; case c {a: stop, b: end c; stop, c: nobody(), d: print 4; end c; stop, e: stop}", "0=4 0.0=", 8)
	want(t, "def main() = spawn c:&{a:end,b:end} () {case c {a: print 1; end c; stop, b: print 2; end c; stop}}; pick c b; end c; stop", "0= 0.0=2", 8)
	// An end goes from one to the other, may have been used ahead of it, and comes back.
	want(t, "def main() = spawn c:!{?int.end}.end () {spawn d:!int.end () {send d 5; end d; stop}; give c d; end c; stop}; take c e; recv e x; print x; end e; end c; stop", "0=5 0.0= 0.0.0=", 14)
	want(t, "def main() = spawn c:?{!int.!int.end}.!{!int.end}.end () {take c e; send e 1; give c e; end c; stop}; spawn d:?int.?int.?int.end () {recv d x; recv d y; recv d z; print x + y * z; end d; stop}; send d 2; give c d; take c d; send d 3; end d; end c; stop", "0= 0.0= 0.1=5", 20)
	// An end of a type below the one that is carried.
	want(t, "def main() = spawn c:!{+{a:end}}.end () {spawn d:&{a:end,b:!int.end} () {case d {a: print 1; end d; stop, b: send d 1; end d; stop}}; give c d; end c; stop}; take c d; pick d a; end d; end c; stop", "0= 0.0= 0.0.0=1", 14)
	want(t, "def main() = spawn c:rec t.+{go:!int.t,no:end} () {f(3; c)}; g(0; c)\ndef f(n:int; d:rec t.+{go:!int.t,no:end}) = if n < 1 {pick d no; end d; stop} else {pick d go; send d n; f(n - 1; d)}\ndef g(n:int; e:rec t.&{go:?int.t,no:end}) = case e {go: recv e m; print n + m; g(n + m; e), no: end e; stop}", "0=3,5,6 0.0=", 34)
}

// TestP30OrderOfNames: by their bytes, whoever began first.
func TestP30OrderOfNames(t *testing.T) {
	crowd := "def f(n:int) = if n < 1 {stop} else {spawn c:end () {print n; end c; g(n == 11)}; end c; f(n - 1)}\ndef g(b:bool) = if b {spawn c:end () {end c; stop}; end c; stop} else {stop}"
	said := "0= 0.0=12 0.1=11 0.1.0= 0.10=2 0.11=1 0.2=10 0.3=9 0.4=8 0.5=7 0.6=6 0.7=5 0.8=4 0.9=3"
	want(t, "def main() = f(12)\n"+crowd, said, 1+12*(4+5)+2+4)
}

// TestP30NeverOver: there is no fuel for what goes on for ever, alone, together, beside one who waits all the time, and with more and more processes.
func TestP30NeverOver(t *testing.T) {
	for _, s := range []string{
		"def main() = main()", "def main() = print 1; main()", "def main() = f(1)\ndef f(n:int) = f(n + 1)",
		"def main() = spawn c:rec t.!int.t () {f(; c)}; g(; c)\ndef f(; c:rec t.!int.t) = send c 1; f(; c)\ndef g(; c:rec t.?int.t) = recv c x; g(; c)",
		"def main() = spawn c:!int.end () {f(; c)}; recv c x; end c; stop\ndef f(; c:!int.end) = f(; c)",
		"def main() = spawn c:?int.end () {recv c x; end c; stop}; f(; c)\ndef f(; c:!int.end) = f(; c)",
		"def main() = spawn c:!int.end () {send c 1; end c; stop}; f(; c)\ndef f(; c:?int.end) = f(; c)",
		"def main() = spawn c:end () {end c; stop}; end c; main()", "def main() = spawn c:end () {end c; main()}; end c; stop", "def main() = spawn c:end () {end c; main()}; end c; main()",
		"def main() = spawn c:!int.end () {f(; c)}; recv c x; end c; stop\ndef f(; c:!int.end) = spawn d:!int.end () {f(; d)}; send c 1; recv d x; end c; end d; stop",
		"def main() = spawn c:!int.end () {f(; c)}; recv c x; end c; stop\ndef f(; c:!int.end) = spawn d:!int.end () {f(; d)}; recv d x; send c x; end c; end d; stop",
	} {
		for _, fuel := range []int{0, 1, 2, 101, api.MaxFuel} {
			wantError(t, parsed(t, s), fuel, api.ErrLarge)
		}
	}
}

// TestP30Large: as many steps as there may be, and names as long as these make them.
func TestP30Large(t *testing.T) {
	count := func(n int) string {
		return "def main() = f(" + strconv.Itoa(n) + ")\ndef f(n:int) = if n < 1 {stop} else {f(n - 1)}"
	}
	want(t, count(9998), "0=", 19999)
	wantError(t, parsed(t, count(9999)), api.MaxFuel, api.ErrLarge)
	want(t, strings.Replace(count(9998), "{stop}", "{print 1; stop}", 1), "0=1", 20000)
	deep := parsed(t, "def main() = f(2855)\ndef f(n:int) = spawn c:end () {end c; if n < 1 {print n; stop} else {f(n - 1)}}; end c; stop")
	said, n, e := runs.Run(deep, api.MaxFuel)
	if e != api.OK || len(said) != 2857 || n != 1+6*2856+1 {
		t.Fatalf("%d processes, %d, %d", len(said), n, e)
	}
	for i, s := range said {
		if s.Who != "0"+strings.Repeat(".0", i) || len(s.Lines) > 0 != (i == 2856) {
			t.Fatalf("%d: %s, %v", i, s.Who, s.Lines)
		}
	}
}
