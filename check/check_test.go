package check_test

import (
	"slices"
	"strings"
	"testing"

	"duet/api"
	"duet/check"
	"duet/syntax"
	"duet/types"
)

// parsed is for texts of which a test takes it for granted that they are read.
func parsed(t *testing.T, s string) api.Program {
	t.Helper()
	p, f := syntax.Parse(s)
	if f.Code != api.OK {
		t.Fatalf("Parse(%q): %v", s, f)
	}
	return p
}

func want(t *testing.T, s string, e api.Errno, k int) {
	t.Helper()
	if got, at := check.Check(parsed(t, s)); got != e || at != k {
		t.Errorf("%s\n\t%d in %d, want %d in %d", s, got, at, e, k)
	}
}

// wantBody looks at a body in the scope that a head brings: "n:int; c:end". Behind it stands what Calls may call.
func wantBody(t *testing.T, head, body string, e api.Errno) {
	t.Helper()
	k := 1
	if e == api.OK {
		k = 0
	}
	want(t, "def main() = stop\ndef f("+head+") = "+body+"\n"+called, e, k)
}

const called = `def none() = stop
def vals(i:int, b:bool, t:text) = stop
def one(; c:end) = end c; stop
def two(; c:+{a:end}, d:!int.end) = pick c a; end c; send d 1; end d; stop
def both(n:int; c:rec t.&{go:?int.t,no:end}) = case c {go: recv c m; both(n + m; c), no: print n; end c; stop}
`

// bodies are told with the head that brings their scope.
type body struct{ head, body string }

func TestP27WhatKeepsToItsTypes(t *testing.T) {
	for _, x := range []body{
		{"", "stop"}, {"n:int", "stop"}, {"; c:end", "end c; stop"}, {"; c:rec t.end", "end c; stop"}, {"; c:end, d:end", "end d; end c; stop"},
		{"; c:!int.end", "send c 1; end c; stop"}, {"; c:!bool.end", "send c 1 < 2; end c; stop"}, {"; c:!text.end", `send c "a" ++ "b"; end c; stop`}, {"n:text; c:!int.end", "send c #n; end c; stop"},
		{"; c:?int.end", "recv c x; print x + 1; end c; stop"}, {"; c:?bool.end", "recv c x; if x {end c; stop} else {end c; stop}"}, {"; c:?text.!int.end", "recv c x; send c #x; end c; stop"},
		{"; c:!{end}.end, d:end", "give c d; end c; stop"}, {"; c:!{!int.end}.?int.end, d:!int.end", "give c d; recv c x; end c; stop"}, {"; c:?{!int.end}.end", "take c d; end c; send d 1; end d; stop"}, {"; c:?{!int.end}.?int.end", "take c d; recv c x; send d x; end d; end c; stop"},
		{"; c:+{a:end,b:!int.end}", "pick c a; end c; stop"}, {"; c:+{a:end,b:!int.end}", "pick c b; send c 1; end c; stop"}, {"; c:&{a:end,b:!int.end}", "case c {a: end c; stop, b: send c 1; end c; stop}"},
		{"", "let x = 1; print x + 1; stop"}, {"", `let x = "a"; print #x; stop`}, {"b:bool", "if b {stop} else {none()}"}, {"i:int", "if i == 1 {none()} else {if i < 2 {stop} else {stop}}"},
		{"", `vals(1, true, "a")`}, {"i:int, b:bool, t:text", "vals(i, not b, t ++ t)"}, {"; c:end", "one(; c)"}, {"; c:+{a:end}, d:!int.end", "two(; c, d)"}, {"; d:+{a:end}, c:!int.end", "two(; d, c)"},
		{"n:int; c:rec t.&{go:?int.t,no:end}", "both(n; c)"}, {"; c:?int.rec t.&{go:?int.t,no:end}", "recv c n; both(n; c)"}, {"; c:rec t.?int.&{go:t,no:end}", "recv c n; both(n; c)"},
		{"; c:rec t.!int.t", "send c 1; send c 2; f(; c)"}, {"n:int; c:rec t.+{go:!int.t,no:end}", "if n < 1 {pick c no; end c; stop} else {pick c go; send c n; f(n - 1; c)}"},
		{"", "f()"}, {"n:int", "f(n + 1)"}, {"", "main()"},
	} {
		wantBody(t, x.head, x.body, api.OK)
	}
}

func TestP27Stop(t *testing.T) {
	for _, x := range []body{{"; c:end", "stop"}, {"; c:!int.end", "stop"}, {"; c:end, d:end", "end c; stop"}, {"; c:?{end}.end", "take c d; end c; stop"}, {"; c:?{end}.end", "take c d; end d; stop"}, {"", "spawn c:end () {end c; stop}; stop"}, {"", "spawn c:end () {stop}; end c; stop"}, {"; d:end", "spawn c:end (d) {end c; stop}; end c; stop"}, {"; d:end", "spawn c:end () {end c; stop}; end c; stop"}} {
		wantBody(t, x.head, x.body, api.ErrLinear)
	}
}

// doings at the end c, one of each kind from PSend on, with the type that does that.
var doings = []struct{ does, body string }{
	{"!int.end", "send c 1; end c; stop"}, {"?int.end", "recv c x; end c; stop"}, {"!{end}.end", "give c d; end c; stop"}, {"?{end}.end", "take c e; end e; end c; stop"}, {"+{a:end}", "pick c a; end c; stop"}, {"&{a:end}", "case c {a: end c; stop}"}, {"end", "end c; stop"},
}

// TestP27EachKindAtEachType: a kind goes with one type, whatever else is wrong at another one.
func TestP27EachKindAtEachType(t *testing.T) {
	for i, x := range doings {
		for j, y := range doings {
			scope, e := "; c:"+y.does, api.ErrType
			if i == j {
				e = api.OK
			}
			if strings.HasPrefix(x.body, "give") && i == j {
				scope += ", d:end"
			}
			wantBody(t, scope, x.body, e)
			wantBody(t, strings.Replace(scope, "c:", "c:rec t.rec u.", 1), x.body, e)
		}
		wantBody(t, "", x.body, api.ErrName)
		wantBody(t, "; d:"+x.does, x.body, api.ErrName)
		// Names of values are no names of ends.
		wantBody(t, "c:int; d:"+x.does, x.body, api.ErrName)
		wantBody(t, "; c:end", "end c; "+x.body, api.ErrName)
	}
}

func TestP27NoSuchEndGoesAheadOfWhatIsDone(t *testing.T) {
	for _, s := range []string{"send c true + 1; stop", "recv c d; stop", "give c c; stop", "give c d; stop", "take c d; stop", "pick c b; stop", "case c {b: stop}", "case c {a: send c true + 1; stop}"} {
		wantBody(t, "; d:?int.end", s, api.ErrName)
	}
	// And that the type does something else goes ahead of it too.
	for _, s := range []string{"send c true + 1; stop", "send c x; stop", "give c c; stop", "give c x; stop", "take c c; stop", "take c d; stop", "pick c b; stop", "case c {b: stop}"} {
		wantBody(t, "; c:?int.end, d:end", s, api.ErrType)
	}
}

func TestP27SendAndRecv(t *testing.T) {
	for _, x := range []struct {
		head, body string
		e          api.Errno
	}{
		{"; c:!int.end", "send c true; end c; stop", api.ErrSort}, {"; c:!int.end", `send c "a"; end c; stop`, api.ErrSort}, {"; c:!bool.end", "send c 1; end c; stop", api.ErrSort}, {"; c:!text.end", "send c 1; end c; stop", api.ErrSort},
		{"; c:!int.end", "send c x; end c; stop", api.ErrName}, {"; c:!int.end", "send c c; end c; stop", api.ErrName}, {"; c:!int.end", "send c 1 + true; end c; stop", api.ErrSort}, {"; c:!int.end", "send c true + x; end c; stop", api.ErrSort}, {"; c:!int.end", "send c x + true; end c; stop", api.ErrName},
		// What is wrong here goes ahead of what comes next.
		{"; c:!int.end", "send c true; stop", api.ErrSort}, {"; c:!int.end", "send c 1; stop", api.ErrLinear}, {"; c:!int.end", "send c 1; send c 1; end c; stop", api.ErrType},
		{"; c:?int.end", "recv c x; if x {end c; stop} else {end c; stop}", api.ErrSort}, {"; c:?bool.end", "recv c x; print x + 1; end c; stop", api.ErrSort}, {"; c:?text.end", "recv c x; print x + 1; end c; stop", api.ErrSort}, {"; c:?int.end", "recv c x; print y; end c; stop", api.ErrName}, {"; c:?int.end", "recv c x; recv c x; end c; stop", api.ErrType},
		// It is a value from here on, not ahead.
		{"; c:?int.end", "print x; recv c x; end c; stop", api.ErrName},
		// A name that comes later hides the ones ahead, of whatever sort.
		{"x:bool; c:?int.end", "recv c x; print x + 1; end c; stop", api.OK}, {"x:bool; c:?int.end", "recv c x; if x {end c; stop} else {end c; stop}", api.ErrSort}, {"; c:?int.?bool.end", "recv c x; recv c x; if x {end c; stop} else {end c; stop}", api.OK}, {"; c:?int.?bool.end", "recv c x; recv c x; print x + 1; end c; stop", api.ErrSort}, {"x:text; c:?int.?bool.!text.end", "recv c y; recv c z; send c x; end c; stop", api.OK},
		// A value may have the name of an end: that is still there.
		{"; c:?int.!int.end", "recv c c; send c c; end c; stop", api.OK}, {"c:text; c:!text.end", "send c c; end c; stop", api.OK}, {"; c:?int.end, d:end", "recv c d; print d; end d; end c; stop", api.OK},
	} {
		wantBody(t, x.head, x.body, x.e)
	}
}

func TestP27GiveAndTake(t *testing.T) {
	for _, x := range []struct {
		head, body string
		e          api.Errno
	}{
		{"; c:!{end}.end", "give c d; end c; stop", api.ErrName}, {"d:int; c:!{end}.end", "give c d; end c; stop", api.ErrName}, {"; c:rec t.!{t}.end", "give c c; stop", api.ErrName}, {"; c:!{end}.end", "give c c; end c; stop", api.ErrName}, {"; c:!{!int.end}.end, d:end", "give c d; end c; stop", api.ErrType}, {"; c:!{end}.end, d:!int.end", "give c d; end c; stop", api.ErrType},
		// What is given is gone.
		{"; c:!{end}.end, d:end", "give c d; end d; end c; stop", api.ErrName}, {"; c:!{end}.!{end}.end, d:end", "give c d; give c d; end c; stop", api.ErrName}, {"; c:!{end}.end, d:end", "give c d; stop", api.ErrLinear}, {"; c:!{end}.end, d:end, e:end", "give c d; end c; stop", api.ErrLinear}, {"; c:!{end}.end, d:end", "give c d; spawn d:end () {end d; stop}; end d; end c; stop", api.OK},
		// Below what is carried, as it is here.
		{"; c:!{+{a:end}}.end, d:+{a:end,b:end}", "give c d; end c; stop", api.OK}, {"; c:!{+{a:end,b:end}}.end, d:+{a:end}", "give c d; end c; stop", api.ErrType}, {"; c:!{&{a:end,b:end}}.end, d:&{b:end}", "give c d; end c; stop", api.OK}, {"; c:!{&{b:end}}.end, d:&{a:end,b:end}", "give c d; end c; stop", api.ErrType}, {"; c:!{!{+{a:end,b:end}}.end}.end, d:!{+{a:end}}.end", "give c d; end c; stop", api.OK}, {"; c:!{!{+{a:end}}.end}.end, d:!{+{a:end,b:end}}.end", "give c d; end c; stop", api.ErrType},
		{"; c:!{rec t.!int.t}.end, d:!int.rec u.!int.!int.u", "give c d; end c; stop", api.OK}, {"; c:!{?int.end}.end, d:!int.?int.end", "give c d; end c; stop", api.ErrType}, {"; c:!{?int.end}.end, d:!int.?int.end", "send d 1; give c d; end c; stop", api.OK}, {"; c:!int.!{?int.end}.end, d:?int.end", "send c 1; give c d; end c; stop", api.OK}, {"; c:rec t.!{t}.end, d:rec t.!{t}.end", "give c d; end c; stop", api.OK},
		{"; c:?{end}.end, d:end", "take c d; end d; end c; stop", api.ErrName}, {"; c:?{end}.end", "take c c; end c; stop", api.ErrName}, {"; c:?{?int.end}.end", "take c d; send d 1; end d; end c; stop", api.ErrType}, {"; c:?{?int.end}.end", "take c d; recv c x; end c; stop", api.ErrType}, {"; c:?{end}.?{end}.end", "take c d; take c d; end c; stop", api.ErrName}, {"; c:?{end}.?{end}.end", "take c d; end d; take c d; end d; end c; stop", api.OK},
		// A value's name is no end's.
		{"d:int; c:?{end}.end", "take c d; print d + 1; end d; end c; stop", api.OK}, {"; c:?{end}.?bool.end", "take c d; recv c d; end d; if d {end c; stop} else {end c; stop}", api.OK},
		{"; c:rec t.?{t}.end", "take c d; take d e; end c; end d; take e c; end e; one(; c)", api.ErrType}, {"; c:rec t.?{t}.end", "take c d; end c; f(; d)", api.OK}, {"; c:rec t.?{t}.end", "take c d; take d e; end c; end d; f(; e)", api.OK},
		// What was taken may be given on.
		{"; c:?{!int.end}.!{!int.end}.end", "take c d; give c d; end c; stop", api.OK}, {"; c:?{+{a:end,b:end}}.!{+{b:end}}.end", "take c d; give c d; end c; stop", api.OK}, {"; c:?{!int.end}.!{!int.end}.end", "take c d; send d 1; give c d; end c; stop", api.ErrType},
	} {
		wantBody(t, x.head, x.body, x.e)
	}
}

func TestP27PickAndCase(t *testing.T) {
	for _, x := range []struct {
		head, body string
		e          api.Errno
	}{
		{"; c:+{a:end,b:end}", "pick c c; end c; stop", api.ErrType}, {"; c:+{a:end,b:!int.end}", "pick c a; send c 1; end c; stop", api.ErrType}, {"; c:+{a:end,b:!int.end}", "pick c b; end c; stop", api.ErrType}, {"; c:+{a:end}", "pick c a; stop", api.ErrLinear}, {"; c:+{a:end,b:end,c:end,d:end,e:end,f:!int.end}", "pick c f; send c 1; end c; stop", api.OK},
		{"; c:&{a:end,b:end}", "case c {a: end c; stop}", api.ErrType}, {"; c:&{a:end,b:end}", "case c {b: end c; stop}", api.ErrType}, {"; c:&{a:end,b:end}", "case c {a: stop, b: end c; stop}", api.ErrLinear}, {"; c:&{a:end,b:end}", "case c {a: end c; stop, b: stop}", api.ErrLinear},
		// Label by label: a Kid goes ahead of the label behind it.
		{"; c:&{a:end,b:end}", "case c {a: stop}", api.ErrLinear}, {"; c:&{a:end,b:end,c:end}", "case c {a: print x; end c; stop, c: stop}", api.ErrName}, {"; c:&{a:end,b:end,c:end}", "case c {a: end c; stop, c: stop}", api.ErrType}, {"; c:&{a:end,b:end}", "case c {b: stop}", api.ErrType}, {"; c:&{a:end,b:end}", "case c {a: if 1 {stop} else {stop}, b: stop}", api.ErrSort},
		// Kids of other labels are not looked at.
		{"; c:&{b:end}", "case c {a: stop, b: end c; stop, c: print x; nobody(1; z)}", api.OK}, {"; c:&{b:end}", "case c {a: stop, c: stop}", api.ErrType}, {"; c:&{a:end,c:!int.end}", "case c {a: end c; stop, b: stop, c: send c 1; end c; stop}", api.OK}, {"; c:&{a:end,c:!int.end}", "case c {a: end c; stop, b: stop, c: end c; stop}", api.ErrType},
		// Each Kid begins with the same scope.
		{"; c:&{a:end,b:end}, d:end", "case c {a: end d; end c; stop, b: end d; end c; stop}", api.OK}, {"; c:&{a:end,b:end}, d:end", "case c {a: end d; end c; stop, b: end c; stop}", api.ErrLinear}, {"; c:&{a:?int.end,b:end}", "case c {a: recv c x; end c; stop, b: print x; end c; stop}", api.ErrName}, {"x:text; c:&{a:?int.end,b:?bool.!text.end}", "case c {a: recv c x; print x + 1; end c; stop, b: recv c y; send c x; end c; stop}", api.OK}, {"; c:&{a:?{end}.end,b:?{end}.end}", "case c {a: take c d; end d; end c; stop, b: take c d; end d; end c; stop}", api.OK},
	} {
		wantBody(t, x.head, x.body, x.e)
	}
}

func TestP27Spawn(t *testing.T) {
	for _, x := range []struct {
		head, body string
		e          api.Errno
	}{
		{"", "spawn c:!int.end () {send c 7; end c; stop}; recv c x; print x; end c; stop", api.OK}, {"; c:end", "spawn c:end () {end c; stop}; end c; stop", api.ErrName}, {"c:int", "spawn c:end () {end c; stop}; end c; stop", api.OK}, {"; c:end", "end c; spawn c:end () {end c; stop}; end c; stop", api.OK},
		{"", "spawn c:end (d) {end c; end d; stop}; end c; stop", api.ErrName}, {"d:int", "spawn c:end (d) {end c; end d; stop}; end c; stop", api.ErrName}, {"", "spawn c:end (c) {end c; stop}; end c; stop", api.ErrName}, {"; d:end", "spawn c:end (d, c) {end d; end c; stop}; end c; stop", api.ErrName}, {"; d:end", "spawn c:end (d, d) {end d; end c; stop}; end c; stop", api.ErrName}, {"; d:end, e:end", "spawn c:end (d, e, d) {end d; end e; end c; stop}; end c; stop", api.ErrName},
		// Ends go to the child as they are, and are gone here.
		{"; d:end", "spawn c:end (d) {end d; end c; stop}; end c; stop", api.OK}, {"; d:end", "spawn c:end (d) {end d; end c; stop}; end d; end c; stop", api.ErrName}, {"; d:end", "spawn c:end () {end d; end c; stop}; end c; stop", api.ErrName}, {"; d:!int.?int.end", "send d 1; spawn c:end (d) {recv d x; end d; end c; stop}; end c; stop", api.OK}, {"; d:!int.end, e:?int.end", "spawn c:end (e, d) {recv e x; send d x; end d; end e; end c; stop}; end c; stop", api.OK}, {"; d:end, e:end", "spawn c:end (d) {end d; end c; stop}; end e; end c; stop", api.OK}, {"; d:end", "spawn c:end (d) {end d; end c; stop}; spawn d:end () {end d; stop}; end d; end c; stop", api.OK},
		// All values go to the child, and stay; those of the child are its own.
		{"n:int", "let m = true; spawn c:!int.!bool.end () {send c n; send c m; end c; stop}; recv c x; recv c y; print n; print m; end c; stop", api.OK}, {"", "spawn c:end () {let x = 1; end c; stop}; print x; end c; stop", api.ErrName}, {"x:text", "spawn c:end () {let x = 1; end c; stop}; print #x; end c; stop", api.OK},
		// The child's end is of the type, the other one of what the other end does.
		{"", "spawn c:!int.end () {recv c x; end c; stop}; recv c x; end c; stop", api.ErrType}, {"", "spawn c:!int.end () {send c 1; end c; stop}; send c 1; end c; stop", api.ErrType}, {"", "spawn c:+{a:end,b:?int.end} () {pick c b; recv c x; end c; stop}; case c {a: end c; stop, b: send c 1; end c; stop}", api.OK}, {"", "spawn c:+{a:end,b:?int.end} () {pick c b; recv c x; end c; stop}; case c {b: send c 1; end c; stop}", api.ErrType}, {"", "spawn c:?int.!bool.end () {recv c x; send c x < 1; end c; stop}; send c 1; recv c y; if y {end c; stop} else {end c; stop}", api.OK},
		// What is carried is not turned.
		{"", "spawn c:!{!int.end}.end () {spawn d:?int.end () {recv d x; end d; stop}; give c d; end c; stop}; take c d; send d 1; end d; end c; stop", api.OK}, {"", "spawn c:!{!int.end}.end () {spawn d:!int.end () {send d 1; end d; stop}; give c d; end c; stop}; take c d; end c; stop", api.ErrType}, {"; d:end", "spawn c:?{end}.end () {take c d; end d; end c; stop}; give c d; end c; stop", api.OK}, {"; d:+{a:end,b:end}", "spawn c:?{+{b:end}}.end () {take c d; pick d b; end d; end c; stop}; give c d; end c; stop", api.OK},
		{"", "spawn c:rec t.&{go:?int.t,no:end} () {both(0; c)}; pick c go; send c 1; pick c no; end c; stop", api.OK}, {"", "spawn c:rec t.+{go:!int.t,no:end} () {pick c go; send c 7; pick c no; end c; stop}; both(0; c)", api.OK},
		// The child goes ahead of what comes next; what is wrong here ahead of both.
		{"", "spawn c:end () {stop}; print x; stop", api.ErrLinear}, {"", "spawn c:end () {end c; stop}; print x; stop", api.ErrName}, {"", "spawn c:end () {end c; send c 1; stop}; stop", api.ErrName}, {"; c:end", "spawn c:end (d) {stop}; stop", api.ErrName}, {"; d:end", "spawn c:end (d, e) {stop}; stop", api.ErrName},
	} {
		wantBody(t, x.head, x.body, x.e)
	}
}

func TestP27LetPrintAndIf(t *testing.T) {
	for _, x := range []struct {
		head, body string
		e          api.Errno
	}{
		{"", "let x = y; stop", api.ErrName}, {"", "let x = x; stop", api.ErrName}, {"", "let x = 1 + true; stop", api.ErrSort}, {"; c:end", "let x = c; end c; stop", api.ErrName}, {"x:int", "let x = x < 1; if x {stop} else {stop}", api.OK}, {"x:bool", "let x = 1; if x {stop} else {stop}", api.ErrSort}, {"x:bool", "let y = 1; if x {stop} else {stop}", api.OK},
		{"", "print x; stop", api.ErrName}, {"", "print 1 + true; stop", api.ErrSort}, {"b:bool", `print b; print ""; print 1; stop`, api.OK}, {"; c:end", "print 1; stop", api.ErrLinear},
		{"", "if 1 {stop} else {stop}", api.ErrSort}, {"t:text", "if t {stop} else {stop}", api.ErrSort}, {"", "if x {stop} else {stop}", api.ErrName}, {"", "if not 1 {stop} else {stop}", api.ErrSort}, {"; c:end", "if 1 {stop} else {stop}", api.ErrSort},
		// Both Kids, in order, each in this scope.
		{"; c:end", "if true {stop} else {end c; stop}", api.ErrLinear}, {"; c:end", "if true {end c; stop} else {stop}", api.ErrLinear}, {"; c:end", "if true {end c; stop} else {end c; stop}", api.OK}, {"; c:end", "if true {end c; end c; stop} else {stop}", api.ErrName}, {"; c:end", "if true {stop} else {end c; end c; stop}", api.ErrLinear}, {"", "if true {let x = 1; stop} else {print x; stop}", api.ErrName}, {"x:text", "if true {let x = 1; print x + 1; stop} else {print #x; stop}", api.OK}, {"; c:!int.end", "if true {send c 1; end c; stop} else {end c; stop}", api.ErrType},
	} {
		wantBody(t, x.head, x.body, x.e)
	}
}

func TestP27Call(t *testing.T) {
	for _, x := range []struct {
		head, body string
		e          api.Errno
	}{
		{"", "nobody()", api.ErrName}, {"nobody:int", "nobody()", api.ErrName}, {"", "nobody(x + true; c)", api.ErrName},
		{"", "none(1)", api.ErrArg}, {"; c:end", "none(; c)", api.ErrArg}, {"", "one()", api.ErrArg}, {"", "vals(1, true)", api.ErrArg}, {"", `vals(1, true, "a", 1)`, api.ErrArg}, {"; c:end, d:end", "one(; c, d)", api.ErrArg}, {"; c:end", "one(1; c)", api.ErrArg}, {"; c:end", "end c; none()", api.OK},
		// How many there are goes ahead of what they are.
		{"", "none(x)", api.ErrArg}, {"", "vals(x, y)", api.ErrArg}, {"", "none(; c)", api.ErrArg}, {"", "vals(x, 1, 1; c)", api.ErrArg},
		{"", `vals(true, true, "")`, api.ErrSort}, {"", `vals(1, 1, "")`, api.ErrSort}, {"", "vals(1, true, 1)", api.ErrSort}, {"", `vals(x, true, "")`, api.ErrName}, {"", `vals(1, x, "")`, api.ErrName}, {"", `vals(true, x, "")`, api.ErrSort}, {"", "vals(x, 1, 1)", api.ErrName}, {"", "vals(1, 1 + true, x)", api.ErrSort}, {"", "vals(1, x, 1 + true)", api.ErrName},
		// Values go ahead of ends.
		{"", "both(true; c)", api.ErrSort}, {"; c:end", "both(x; c)", api.ErrName}, {"; c:end", "both(true; c)", api.ErrSort}, {"; c:end", "both(1; c)", api.ErrType}, {"; c:end", "both(1; d)", api.ErrName},
		{"", "one(; c)", api.ErrName}, {"c:int", "one(; c)", api.ErrName}, {"; c:!int.end", "one(; c)", api.ErrType}, {"; c:+{a:end}, d:!int.end", "two(; d, c)", api.ErrType}, {"; c:+{a:end}", "two(; c, d)", api.ErrName}, {"; c:end", "two(; c, d)", api.ErrType}, {"; c:!int.end", "two(; d, c)", api.ErrName}, {"; c:+{a:end}, d:!bool.end", "two(; c, d)", api.ErrType},
		// An end that went is gone.
		{"; c:+{a:end}, d:!int.end", "two(; c, c)", api.ErrName}, {"; c:end", "end c; one(; c)", api.ErrName},
		// Below the definition's, as it is here.
		{"; c:+{a:end,b:end}, d:!int.end", "two(; c, d)", api.OK}, {"; c:+{b:end}, d:!int.end", "two(; c, d)", api.ErrType}, {"; c:+{a:end}, d:!int.!int.end", "two(; c, d)", api.ErrType}, {"; c:+{a:end}, d:!int.!int.end", "send d 1; two(; c, d)", api.OK}, {"; c:rec t.&{no:end}", "both(1; c)", api.OK}, {"; c:&{go:?int.&{no:end}}", "both(1; c)", api.OK}, {"; c:rec t.&{go:?int.t,no:end,x:end}", "both(1; c)", api.ErrType}, {"; c:rec t.&{go:?int.?int.t,no:end}", "both(1; c)", api.ErrType},
		// No end stays behind.
		{"; c:end", "none()", api.ErrLinear}, {"; c:end, d:end", "one(; c)", api.ErrLinear}, {"; c:end, d:end", "one(; d)", api.ErrLinear}, {"; c:end, d:!int.end", "one(; d)", api.ErrType}, {"; c:end", `vals(1, 1, "")`, api.ErrSort},
	} {
		wantBody(t, x.head, x.body, x.e)
	}
}

func TestP27ThePlaceOfAnError(t *testing.T) {
	for _, x := range []struct {
		s string
		e api.Errno
		k int
	}{
		{"def main() = stop", api.OK, 0}, {"def f() = f()", api.OK, 0}, {"def main() = f(1)\ndef f(n:int) = f(n + 1)", api.OK, 0},
		{"def main(x:int) = stop", api.ErrArg, 0}, {"def main(; c:end) = end c; stop", api.ErrArg, 0}, {"def main(x:int; c:end) = end c; stop", api.ErrArg, 0},
		// The first definition's head goes ahead of all heads, these ahead of all Bodies.
		{"def main(x:int, x:int) = stop", api.ErrArg, 0}, {"def main(x:int) = print y; stop\ndef main() = stop", api.ErrArg, 0}, {"def main() = print x; stop\ndef main() = stop", api.ErrName, 1}, {"def main() = if 1 {stop} else {stop}\ndef f() = stop\ndef g(x:int, x:bool) = stop", api.ErrName, 2}, {"def main() = if 1 {stop} else {stop}\ndef f() = stop\ndef f() = stop", api.ErrName, 2},
		{"def main() = stop\ndef f(x:int, y:int, x:bool) = stop", api.ErrName, 1}, {"def main() = stop\ndef f(; c:end, d:end, c:!int.end) = stop", api.ErrName, 1}, {"def main() = stop\ndef f(x:int, y:bool; x:end, y:end) = end x; end y; print y; stop", api.OK, 0}, {"def main() = stop\ndef f(main:int; f:end) = end f; stop", api.OK, 0},
		{"def main() = stop\ndef f() = stop\ndef main() = stop", api.ErrName, 2}, {"def main() = stop\ndef f() = stop\ndef g() = stop\ndef f() = stop\ndef g(x:int, x:int) = stop", api.ErrName, 3}, {"def main() = stop\ndef f(x:int, x:int) = stop\ndef main() = stop", api.ErrName, 1},
		// Bodies in order, each in its own scope.
		{"def main() = stop\ndef f() = print x; stop\ndef g() = if 1 {stop} else {stop}", api.ErrName, 1}, {"def main() = stop\ndef f() = if 1 {stop} else {stop}\ndef g() = print x; stop", api.ErrSort, 1}, {"def main() = stop\ndef f(x:int) = stop\ndef g() = print x; stop", api.ErrName, 2}, {"def main() = stop\ndef f(; c:end) = end c; stop\ndef g() = end c; stop", api.ErrName, 2}, {"def main() = stop\ndef f(; c:end) = end c; stop\ndef g(; c:!int.end) = end c; stop", api.ErrType, 2}, {"def main() = g()\ndef f() = stop", api.ErrName, 0}, {"def main() = f()\ndef f() = g()", api.ErrName, 1},
		// What is never come to is looked at too.
		{"def main() = stop\ndef f() = stop\ndef g() = stop\ndef h(; c:end) = stop", api.ErrLinear, 3},
	} {
		want(t, x.s, x.e, x.k)
	}
	ten := "def main() = stop\n"
	for _, name := range strings.Fields("a b c d e f g h") {
		ten += "def " + name + "() = a()\n"
	}
	want(t, ten+"def i() = i(1)", api.ErrArg, 9)
	want(t, ten+"def a() = stop", api.ErrName, 9)
	want(t, ten+"def i() = main()", api.OK, 0)
}

func typed(t *testing.T, s string) api.Type {
	t.Helper()
	x, f := types.Parse(s)
	if f.Code != api.OK {
		t.Fatalf("Parse(%q): %v", s, f)
	}
	return x
}

// TestP27SaysWhatShapeSays: at 0, wherever it is, and ahead of all else.
func TestP27SaysWhatShapeSays(t *testing.T) {
	stop, free := api.Proc{Kind: api.Stop}, []api.Type{{Kind: api.Var, Name: "t"}}
	idle := []api.Type{{Kind: api.Rec, Name: "t", Kids: free}}
	endless := api.Proc{Kind: api.PEnd, Chan: "c", Kids: make([]api.Proc, 1)}
	endless.Kids[0] = endless
	wide := api.Expr{Kind: api.Op, Name: "+", Kids: make([]api.Expr, 2)}
	wide.Kids[0], wide.Kids[1] = wide, wide
	bad := api.Def{Name: "main", Values: []string{"x", "x"}, Sorts: []int{1, 1}, Body: stop}
	for i, x := range []struct {
		defs []api.Def
		e    api.Errno
	}{
		{nil, api.ErrArg}, {[]api.Def{}, api.ErrArg}, {[]api.Def{{}}, api.ErrArg}, {slices.Repeat([]api.Def{bad}, 11), api.ErrLarge}, {[]api.Def{bad, {Name: "f"}}, api.ErrArg},
		{[]api.Def{bad, {Name: "f", Chans: []string{"c"}, Types: free, Body: stop}}, api.ErrName}, {[]api.Def{bad, {Name: "f", Chans: []string{"c"}, Types: idle, Body: stop}}, api.ErrType}, {[]api.Def{bad, {Name: "f", Body: endless}}, api.ErrLarge}, {[]api.Def{bad, {Name: "f", Body: api.Proc{Kind: api.Print, Expr: wide, Kids: []api.Proc{stop}}}}, api.ErrLarge},
		{[]api.Def{bad, {Name: "f", Body: api.Proc{Kind: api.Spawn, Chan: "c", Type: free[0], Kids: []api.Proc{stop, stop}}}}, api.ErrName}, {[]api.Def{bad, {Name: "f", Body: api.Proc{Kind: 14}}}, api.ErrArg}, {[]api.Def{{Name: "main", Body: api.Proc{Kind: api.Print, Expr: wide, Kids: []api.Proc{{}}}}}, api.ErrLarge},
	} {
		p := api.Program{Defs: x.defs}
		if e, k := check.Check(p); e != x.e || k != 0 || e != syntax.Shape(p) {
			t.Errorf("%d: %d in %d, want %d", i, e, k, x.e)
		}
	}
}

// TestP27EmptyLists: a list that has nothing in it is none.
func TestP27EmptyLists(t *testing.T) {
	stop := api.Proc{Kind: api.Stop, Exprs: []api.Expr{}, Names: []string{}, Labels: []string{}, Kids: []api.Proc{}}
	call := api.Proc{Kind: api.Call, Name: "main", Exprs: []api.Expr{}, Names: []string{}}
	main := api.Def{Name: "main", Values: []string{}, Sorts: []int{}, Chans: []string{}, Types: []api.Type{}, Body: stop}
	if e, k := check.Check(api.Program{Defs: []api.Def{main, {Name: "f", Body: call}}}); e != api.OK || k != 0 {
		t.Errorf("%d in %d", e, k)
	}
}

// TestP27OtherEndsOfLargeTypes: what is carried comes back to the type itself, so that its other end has nearly twice as many nodes as it, and could not be written as a type.
func TestP27OtherEndsOfLargeTypes(t *testing.T) {
	own := "rec t.&{go:?{t}." + strings.Repeat("!int.?int.", 26) + "t,no:end}"
	main := "def main() = spawn c:" + own + " () {f(; c)}; spawn x:!{" + own + "}.end () {spawn y:" + own + " (x) {give x y; end x; stop}; pick y no; end y; stop}; take x d; end x; pick c go; give c d; "
	f := "def f(; c:" + own + ") = case c {go: take c e; " + strings.Repeat("send c 1;recv c n;", 26) + "spawn d:end (e) {end d; f(; e)}; end d; f(; c), no: end c; stop}"
	for _, x := range []struct {
		last string
		e    api.Errno
	}{{"pick c no; end c; stop", api.OK}, {"pick c go; end c; stop", api.ErrType}, {"recv c n; end c; stop", api.ErrType}, {"pick c no; stop", api.ErrLinear}} {
		p := parsed(t, main+strings.Repeat("recv c n;send c n;", 26)+x.last)
		p.Defs = append(p.Defs, parsed(t, f).Defs...)
		if e, k := check.Check(p); e != x.e || k != 0 {
			t.Errorf("%s: %d in %d, want %d", x.last, e, k, x.e)
		}
	}
}

// turning is a type that goes round by so many turns, with one choice that is more than the others.
func turning(t *testing.T, turns int, first string) api.Type {
	t.Helper()
	return typed(t, "rec t."+first+strings.Repeat("&{a:+{a:", turns-1)+"t"+strings.Repeat("}}", turns-1)+"}}")
}

// TestP27ManyLargeCalls: as many Calls as there may be, with ends of types that are held against each other at as many places as may be.
func TestP27ManyLargeCalls(t *testing.T) {
	names := strings.Fields("a b c d e g")
	less, more := turning(t, 28, "&{a:+{a:"), turning(t, 27, "&{a:+{a:")
	less.Kids[0].Kids[0].Labels = []string{"a", "b"}
	less.Kids[0].Kids[0].Kids = append(less.Kids[0].Kids[0].Kids, api.Type{Kind: api.End})
	more.Kids[0].Labels = []string{"a", "b"}
	more.Kids[0].Kids = append(more.Kids[0].Kids, api.Type{Kind: api.End})
	p := parsed(t, "def main() = stop\ndef f() = stop\ndef h() = stop")
	for k, x := range []api.Type{less, more} {
		p.Defs[k+1].Chans, p.Defs[k+1].Types = names, slices.Repeat([]api.Type{x}, 6)
	}
	p.Defs[1].Body = forks(98, api.Proc{Kind: api.Call, Name: "h", Names: names})
	p.Defs[2].Body = api.Proc{Kind: api.Call, Name: "h", Names: names}
	if e, k := check.Check(p); e != api.OK || k != 0 {
		t.Errorf("%d in %d", e, k)
	}
	p.Defs[2].Body.Name = "f"
	if e, k := check.Check(p); e != api.ErrType || k != 2 {
		t.Errorf("%d in %d", e, k)
	}
}

// forks is so many Ifs, each of which has p as its first Kid; so has the last one as its second.
func forks(n int, p api.Proc) api.Proc {
	out := p
	for range n {
		yes := api.Expr{Kind: api.Lit, Value: api.Value{Sort: api.Bool, N: 1}}
		out = api.Proc{Kind: api.If, Expr: yes, Kids: []api.Proc{p, out}}
	}
	return out
}

// TestP27Deep: as many processes one behind the other as there may be, each of which brings a value, or an end.
func TestP27Deep(t *testing.T) {
	lets := "def main() = " + strings.Repeat("let x = 1;", 150) + "let x = true;"
	want(t, lets+"if x {stop} else {stop}", api.OK, 0)
	want(t, lets+"print x + 1; stop", api.ErrSort, 0)
	spawns, ends := "def main() = ", ""
	for i := range 64 {
		name := string([]byte{byte('a' + i/26), byte('a' + i%26)})
		spawns, ends = spawns+"spawn "+name+":end(){f(;"+name+")};", ends+"end "+name+";"
	}
	f := "\ndef f(;c:end) = end c;stop"
	want(t, spawns+ends+"stop"+f, api.OK, 0)
	want(t, spawns+ends[len("end aa;"):]+"stop"+f, api.ErrLinear, 0)
	want(t, spawns+ends+"end aa;stop"+f, api.ErrName, 0)
}
