package steps

import (
	"math"
	"strconv"
	"strings"
	"testing"

	"duet/api"
	"duet/check"
)

const hello = "def main() = spawn c:!int.end () {send c 7; end c; stop}; recv c x; print x; end c; stop\n"

// somePicks of no account.
func somePicks() [][]int {
	return [][]int{nil, {}, {0}, {1, 1, 1, 1, 1, 1, 1, 1}, {-1, -2, -3, -4, -5, -6}, {5, 0, 3, 0, 9, 1, 0, 2}, {math.MaxInt, math.MinInt, math.MaxInt, math.MinInt}}
}

func toldSaid(said []api.Said) string {
	var out []string
	for _, s := range said {
		out = append(out, s.Who+"="+strings.Join(s.Lines, ","))
	}
	return strings.Join(out, " ")
}

func toldLogs(logs []api.Log) string {
	var out []string
	for _, l := range logs {
		out = append(out, l.Chan+"="+strings.Join(l.Lines, ","))
	}
	return strings.Join(out, " ")
}

// want what is said, by how many steps, and what is done at the ends of children, with just so much fuel, and ErrLarge with less.
func want(t *testing.T, s, said string, steps int, logs string) {
	t.Helper()
	p := parsed(t, s)
	for _, picks := range somePicks() {
		for _, fuel := range []int{steps, steps + 1, api.MaxFuel} {
			if l, n, e := Run(p, picks, min(fuel, api.MaxFuel)); toldSaid(l) != said || n != steps || e != api.OK {
				t.Errorf("%s, %v\n\t%s, %d, %d, want\n\t%s, %d", s, picks, toldSaid(l), n, e, said, steps)
				return
			}
			if l, e := Logs(p, picks, min(fuel, api.MaxFuel)); toldLogs(l) != logs || e != api.OK {
				t.Errorf("%s, %v\n\t%s, %d, want\n\t%s", s, picks, toldLogs(l), e, logs)
				return
			}
		}
		wantError(t, p, picks, steps-1, api.ErrLarge)
		wantError(t, p, picks, 0, api.ErrLarge)
	}
}

// wantError looks for zeros beside it.
func wantError(t *testing.T, p api.Program, picks []int, fuel int, want api.Errno) {
	t.Helper()
	if l, n, e := Run(p, picks, fuel); l != nil || n != 0 || e != want {
		t.Errorf("Run(%v, %d): %v, %d, %d, want %d\n%s", picks, fuel, l, n, e, want, text(p))
	}
	if l, e := Logs(p, picks, fuel); l != nil || e != want {
		t.Errorf("Logs(%v, %d): %v, %d, want %d\n%s", picks, fuel, l, e, want, text(p))
	}
}

func TestP28Ask(t *testing.T) {
	p := parsed(t, hello)
	for _, fuel := range []int{0, 1, 7, 19999, 20000} {
		if e := Ask(p, fuel); e != api.OK {
			t.Errorf("Ask(%d): %d", fuel, e)
		}
	}
	for _, fuel := range []int{-1, 20001, math.MinInt, math.MaxInt, 1 << 32, -1 << 32} {
		if e := Ask(p, fuel); e != api.ErrArg {
			t.Errorf("Ask(%d): %d", fuel, e)
		}
		wantError(t, p, []int{1}, fuel, api.ErrArg)
	}
}

// TestP28AskSaysWhatCheckSays: whatever the fuel, and ahead of what is said of it.
func TestP28AskSaysWhatCheckSays(t *testing.T) {
	endless := api.Proc{Kind: api.PEnd, Chan: "c", Kids: make([]api.Proc, 1)}
	endless.Kids[0] = endless
	programs := []api.Program{{}, {Defs: []api.Def{}}, {Defs: []api.Def{{}}}, {Defs: make([]api.Def, 11)}, {Defs: []api.Def{{Name: "main", Body: endless}}}}
	told := map[api.Errno]int{}
	for _, s := range []string{
		"def main(n:int) = stop", "def main(; c:end) = end c; stop", "def main() = print x; stop", "def main() = print 1 + true; stop", "def main() = if 1 {stop} else {stop}", "def main() = end c; stop", "def main() = f()", "def main() = stop\ndef main() = stop",
		"def main() = spawn c:!int.end () {stop}; recv c x; end c; stop", "def main() = spawn c:!int.end () {send c 1; end c; stop}; send c 1; end c; stop", "def main() = spawn c:+{a:end} () {pick c b; end c; stop}; case c {a: end c; stop}", "def main() = stop\ndef f() = f(1)",
		// What is never come to.
		"def main() = if true {stop} else {print x; stop}", "def main() = stop\ndef f(; c:end) = stop",
	} {
		programs = append(programs, parsed(t, s))
	}
	for i, p := range programs {
		want, _ := check.Check(p)
		told[want]++
		for _, fuel := range []int{0, 100, 20000, -1, 20001} {
			if e := Ask(p, fuel); e != want || e == api.OK {
				t.Errorf("%d: Ask(%d): %d, want %d", i, fuel, e, want)
			}
			wantError(t, p, []int{2, -1}, fuel, want)
		}
	}
	for _, e := range []api.Errno{api.ErrArg, api.ErrLarge, api.ErrName, api.ErrSort, api.ErrLinear, api.ErrType} {
		if told[e] == 0 {
			t.Errorf("no program is %d", e)
		}
	}
}

func TestP28Alone(t *testing.T) {
	for _, x := range []struct {
		s, said string
		steps   int
	}{
		{"def main() = stop", "0=", 1}, {"def main() = print 1; stop", "0=1", 2}, {"def main() = print 1; print 1; print 2; stop", "0=1,1,2", 4},
		{`def main() = print -3; print true; print false; print ""; print "a\n\"\\é"; stop`, `0=-3,true,false,"","a\n\"\\é"`, 6},
		{"def main() = print 1 - 2 - 3 * 2; print 7 / 0; print 7 % 0; print 9223372036854775807 + 1; print #\"éa\"; stop", "0=-7,0,7,-9223372036854775808,2", 6},
		{"def main() = let x = 2; print x * x; stop", "0=4", 3}, {"def main() = let x = 2; let y = x + 1; let x = y * x; print x; print y; stop", "0=6,3", 6}, {"def main() = let x = 1; print x; let x = x < 2; print x; let x = \"a\"; print x; stop", `0=1,true,"a"`, 7},
		{"def main() = if 1 < 2 {print 1; stop} else {stop}", "0=1", 3}, {"def main() = if 2 < 1 {print 1; stop} else {stop}", "0=", 2}, {"def main() = let b = false; if b {print 1; stop} else {if not b {print 2; stop} else {print 3; stop}}", "0=2", 5},
		{"def main() = f(2, 3)\ndef f(x:int, y:int) = print x - y; stop", "0=-1", 3}, {"def main() = let x = 5; let y = 6; f(y, x)\ndef f(x:int, y:int) = print x - y; stop", "0=1", 5}, {"def main() = print 1; f()\ndef g() = print 3; stop\ndef f() = print 2; g()", "0=1,2,3", 6},
		{"def main() = f(3)\ndef f(n:int) = print n; if n < 1 {stop} else {f(n - 1)}", "0=3,2,1,0", 13}, {"def main() = let x = true; f(1)\ndef f(y:int) = let x = y + 1; print x; stop", "0=2", 5},
		// What was known ahead of a Call is not known behind it, and what it brings goes ahead of nothing.
		{"def main() = let x = 9; f(1, false)\ndef f(x:int, b:bool) = if b {print x; stop} else {f(x + 1, not b)}", "0=2", 7}, {"def main() = stop\ndef f() = f()", "0=", 1},
	} {
		want(t, x.s, x.said, x.steps, "")
	}
}

func TestP28Spawn(t *testing.T) {
	for _, x := range []struct {
		s, said string
		steps   int
		logs    string
	}{
		{"def main() = spawn c:end () {end c; stop}; end c; stop", "0= 0.0=", 5, "0:0="},
		// The child has all values, and what either learns later is its own.
		{"def main() = let x = 1; let y = 2; spawn c:end () {let x = 3; print x + y; end c; stop}; let y = 5; print x + y; end c; stop", "0=6 0.0=5", 11, "0:0="},
		{"def main() = let x = 1; spawn c:end () {let y = 10; print x + y; end c; stop}; let y = 20; spawn d:end () {print x + y; end d; stop}; print y; end d; end c; stop", "0=20 0.0=11 0.1=21", 15, "0:0= 0:1="},
		{"def main() = let a = 1; let b = 2; let d = 3; spawn c:end () {let x = 10; print x; print x; print x; end c; stop}; let x = 20; print x; print x; print x; end c; stop", "0=20,20,20 0.0=10,10,10", 16, "0:0="},
		// Ends go with it, and may be its and its child's.
		{"def main() = spawn c:!int.end () {send c 1; end c; stop}; spawn d:end (c) {recv c x; print x; end c; end d; stop}; end d; stop", "0= 0.0= 0.1=1", 12, "0:0=!1 0:1="},
		{"def main() = spawn c:!int.end () {spawn d:end (c) {send c 1; end c; end d; stop}; end d; stop}; recv c x; print x; end c; stop", "0=1 0.0= 0.0.0=", 12, "0.0:0= 0:0=!1"},
		{"def main() = spawn a:!int.end () {send a 1; end a; stop}; spawn b:!int.end () {send b 2; end b; stop}; spawn c:end (b, a) {recv a x; recv b y; print x - y; end a; end b; end c; stop}; end c; stop", "0= 0.0= 0.1= 0.2=-1", 18, "0:0=!1 0:1=!2 0:2="},
		// Names of ends of other processes are their own.
		{"def main() = spawn c:!int.end () {spawn d:!int.end () {send d 4; end d; stop}; recv d x; send c x + 1; end d; end c; stop}; recv c d; print d; end c; stop", "0=5 0.0= 0.0.0=", 14, "0.0:0=!4 0:0=!5"},
		// What is counted goes on behind a Call.
		{"def main() = spawn c:end () {end c; stop}; end c; f()\ndef f() = spawn c:end () {print 1; end c; stop}; end c; stop", "0= 0.0= 0.1=1", 11, "0:0= 0:1="},
		{"def main() = spawn c:&{a:!int.end} () {f(8; c)}; pick c a; recv c x; print x; end c; stop\ndef f(n:int; d:&{a:!int.end}) = case d {a: send d n; end d; stop}", "0=8 0.0=", 11, "0:0=&a,!8"},
	} {
		want(t, x.s, x.said, x.steps, x.logs)
	}
}

func TestP28Together(t *testing.T) {
	for _, x := range []struct {
		s, said string
		steps   int
		logs    string
	}{
		{hello, "0=7 0.0=", 8, "0:0=!7"},
		{"def main() = spawn c:?int.end () {recv c x; print x; end c; stop}; send c 7; end c; stop", "0= 0.0=7", 8, "0:0=?7"},
		{"def main() = spawn c:!int.?bool.!text.end () {send c 1 + 2; recv c b; print b; send c \"a\\\"\"; end c; stop}; recv c x; send c x < 2; recv c t; print t; end c; stop", `0="a\"" 0.0=false`, 13, `0:0=!3,?false,!"a\""`},
		// What comes in hides what was ahead, and not the other way round.
		{"def main() = let x = 1; spawn c:!int.!int.end () {send c x; send c x + 1; end c; stop}; recv c x; print x; let x = 9; recv c x; print x; end c; stop", "0=1,2 0.0=", 13, "0:0=!1,!2"},
		{"def main() = spawn c:+{a:end,b:end} () {pick c a; end c; stop}; case c {a: print 1; end c; stop, b: print 2; end c; stop}", "0=1 0.0=", 8, "0:0=+a"},
		{"def main() = spawn c:&{a:end,b:end} () {case c {a: print 1; end c; stop, b: print 2; end c; stop}}; pick c b; end c; stop", "0= 0.0=2", 8, "0:0=&b"},
		// A case may have more labels than the type, ahead, behind and in between.
		{"def main() = spawn c:+{b:end,d:end} () {pick c d; end c; stop}; case c {a: stop, b: end c; stop, c: nobody(), d: print 4; end c; stop, e: stop}", "0=4 0.0=", 8, "0:0=+d"},
		{"def main() = spawn c:+{b:end,d:end} () {pick c b; end c; stop}; case c {a: stop, b: print 2; end c; stop, c: nobody(), d: end c; stop}", "0=2 0.0=", 8, "0:0=+b"},
		// An end goes from one to the other; it stays the child's, whoever has it.
		{"def main() = spawn c:!{?int.end}.end () {spawn d:!int.end () {send d 5; end d; stop}; give c d; end c; stop}; take c e; recv e x; print x; end e; end c; stop", "0=5 0.0= 0.0.0=", 14, "0.0:0=!5 0:0=!{}"},
		{"def main() = spawn d:!int.end () {spawn c:!{!int.end}.end (d) {give c d; end c; stop}; take c e; end c; send e 6; end e; stop}; recv d x; print x; end d; stop", "0=6 0.0= 0.0.0=", 14, "0.0:0=!{} 0:0=!6"},
		{"def main() = spawn c:?{!int.end}.end () {take c e; end c; send e 3; end e; stop}; spawn d:?int.end () {recv d x; print x; end d; stop}; give c d; end c; stop", "0= 0.0= 0.1=3", 14, "0:0=?{} 0:1=?3"},
		// It may have been used ahead of it, and come back.
		{"def main() = spawn c:?{!int.!int.end}.!{!int.end}.end () {take c e; send e 1; give c e; end c; stop}; spawn d:?int.?int.?int.end () {recv d x; recv d y; recv d z; print x + y * z; end d; stop}; send d 2; give c d; take c d; send d 3; end d; end c; stop", "0= 0.0= 0.1=5", 20, "0:0=?{},!{} 0:1=?2,?1,?3"},
		{"def main() = spawn c:rec t.+{go:!int.t,no:end} () {f(3; c)}; g(0; c)\ndef f(n:int; d:rec t.+{go:!int.t,no:end}) = if n < 1 {pick d no; end d; stop} else {pick d go; send d n; f(n - 1; d)}\ndef g(n:int; e:rec t.&{go:?int.t,no:end}) = case e {go: recv e m; print n + m; g(n + m; e), no: end e; stop}", "0=3,5,6 0.0=", 34, "0:0=+go,!3,+go,!2,+go,!1,+no"},
		// An end of a type below the one that is carried.
		{"def main() = spawn c:!{+{a:end}}.end () {spawn d:&{a:end,b:!int.end} () {case d {a: print 1; end d; stop, b: send d 1; end d; stop}}; give c d; end c; stop}; take c d; pick d a; end d; end c; stop", "0= 0.0= 0.0.0=1", 14, "0.0:0=&a 0:0=!{}"},
	} {
		want(t, x.s, x.said, x.steps, x.logs)
	}
}

// TestP29OrderOfNames: by their bytes: a dot is ahead of all digits, a colon behind them.
func TestP29OrderOfNames(t *testing.T) {
	crowd := "def f(n:int) = if n < 1 {stop} else {spawn c:end () {print n; end c; g(n == 11)}; end c; f(n - 1)}\ndef g(b:bool) = if b {spawn c:end () {end c; stop}; end c; stop} else {stop}"
	said := "0= 0.0=12 0.1=11 0.1.0= 0.10=2 0.11=1 0.2=10 0.3=9 0.4=8 0.5=7 0.6=6 0.7=5 0.8=4 0.9=3"
	logs := "0.1:0= 0:0= 0:1= 0:10= 0:11= 0:2= 0:3= 0:4= 0:5= 0:6= 0:7= 0:8= 0:9="
	want(t, "def main() = f(12)\n"+crowd, said, 1+12*(4+5)+2+4, logs)
}

// TestP29NeverOver: there is no fuel for what goes on for ever, alone, together, and with more and more processes.
func TestP29NeverOver(t *testing.T) {
	for _, s := range []string{
		"def main() = main()", "def main() = print 1; main()", "def main() = f(1)\ndef f(n:int) = f(n + 1)",
		"def main() = spawn c:rec t.!int.t () {f(; c)}; g(; c)\ndef f(; c:rec t.!int.t) = send c 1; f(; c)\ndef g(; c:rec t.?int.t) = recv c x; g(; c)",
		"def main() = spawn c:end () {end c; stop}; end c; main()", "def main() = spawn c:end () {end c; main()}; end c; stop", "def main() = spawn c:end () {end c; main()}; end c; main()",
		"def main() = spawn c:!int.end () {f(; c)}; recv c x; end c; stop\ndef f(; c:!int.end) = spawn d:!int.end () {f(; d)}; send c 1; recv d x; end c; end d; stop",
		"def main() = spawn c:!int.end () {f(; c)}; recv c x; end c; stop\ndef f(; c:!int.end) = spawn d:!int.end () {f(; d)}; recv d x; send c x; end c; end d; stop",
	} {
		for _, picks := range somePicks() {
			for _, fuel := range []int{0, 2, 101, api.MaxFuel} {
				wantError(t, parsed(t, s), picks, fuel, api.ErrLarge)
			}
		}
	}
}

// TestP29Large: as many steps as there may be, and names as long as these make them.
func TestP29Large(t *testing.T) {
	count := func(n int) string {
		return "def main() = f(" + strconv.Itoa(n) + ")\ndef f(n:int) = if n < 1 {stop} else {f(n - 1)}"
	}
	want(t, count(9998), "0=", 19999, "")
	wantError(t, parsed(t, count(9999)), nil, api.MaxFuel, api.ErrLarge)
	want(t, strings.Replace(count(9998), "{stop}", "{print 1; stop}", 1), "0=1", 20000, "")
	deep := parsed(t, "def main() = f(2855)\ndef f(n:int) = spawn c:end () {end c; if n < 1 {print n; stop} else {f(n - 1)}}; end c; stop")
	said, n, e := Run(deep, nil, api.MaxFuel)
	if e != api.OK || len(said) != 2857 || n != 1+6*2856+1 {
		t.Fatalf("%d processes, %d, %d", len(said), n, e)
	}
	for i, s := range said {
		if s.Who != "0"+strings.Repeat(".0", i) || len(s.Lines) > 0 != (i == 2856) {
			t.Fatalf("%d: %s, %v", i, s.Who, s.Lines)
		}
	}
	logs, e := Logs(deep, []int{1, 1, 1}, api.MaxFuel)
	if e != api.OK || len(logs) != 2856 || logs[0].Chan != "0"+strings.Repeat(".0", 2855)+":0" || logs[2855].Chan != "0:0" {
		t.Fatalf("%d channels, %d", len(logs), e)
	}
}
