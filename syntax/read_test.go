package syntax_test

import (
	"reflect"
	"strings"
	"testing"

	"duet/api"
	"duet/syntax"
)

func TestP26ParseOfEachKind(t *testing.T) {
	for _, x := range sound() {
		p, f := syntax.Parse("def main() = " + x.s + "\n")
		if f != (api.Fault{}) || !reflect.DeepEqual(p, main(x.p)) {
			t.Errorf("Parse(%q): %v, %v", x.s, p, f)
		}
	}
}

func TestP26ParseTakesBlanks(t *testing.T) {
	for s, want := range map[string]string{
		"def f()=stop":                                                     "def f() = stop\n",
		"\n def\nf \n(\n)\n=\nstop\n\n ":                                   "def f() = stop\n",
		"def f()=stop def g()=stop":                                        "def f() = stop\ndef g() = stop\n",
		"def f()=g()def g()=f()":                                           "def f() = g()\ndef g() = f()\n",
		"def f(a:int,b:text;c:end,d:!int.end)=f()":                         "def f(a:int, b:text; c:end, d:!int.end) = f()\n",
		"def f ( a : int , b : text ; c : end , d : ! int . end ) = f ( )": "def f(a:int, b:text; c:end, d:!int.end) = f()\n",
		"def f\n(\na\n:\nint\n,\nb\n:\ntext\n;\nc\n:\nend\n,\nd\n:\n!int.end\n)\n=\nf\n(\n)": "def f(a:int, b:text; c:end, d:!int.end) = f()\n",
		"def f(;c:end)=f(;c)": "def f(; c:end) = f(; c)\n",
		"def f()=send c-5;send c(x);send c\"a\";send c#x;print-5;print(x);print\"a\";if(x){stop}else{stop}":  "def f() = send c -5; send c x; send c \"a\"; send c #x; print -5; print x; print \"a\"; if x {stop} else {stop}\n",
		"def f()=send\nc\n5\n;\nrecv\nc\nx\n;\ngive\nc\nd\n;\ntake\nc\nd\n;\npick\nc\na\n;\nend\nc\n;\nstop": "def f() = send c 5; recv c x; give c d; take c d; pick c a; end c; stop\n",
		"def f()=case\nc\n{\na\n:\nstop\n,\nb\n:\nstop\n}":                                                   "def f() = case c {a: stop, b: stop}\n",
		"def f()=case c{a:stop,b:stop}":                                      "def f() = case c {a: stop, b: stop}\n",
		"def f()=spawn\nc\n:\nend\n(\nd\n,\ne\n)\n{\nstop\n}\n;\nstop":       "def f() = spawn c:end (d, e) {stop}; stop\n",
		"def f()=spawn c:end(d,e){stop};stop":                                "def f() = spawn c:end (d, e) {stop}; stop\n",
		"def f()=spawn c:end(){stop};stop":                                   "def f() = spawn c:end () {stop}; stop\n",
		"def f()=if\nx\n{\nstop\n}\nelse\n{\nstop\n}":                        "def f() = if x {stop} else {stop}\n",
		"def f()=let\nx\n=\n5\n;\nprint\nx\n;\nf\n(\nx\n,\n5\n;\nc\n,\nd\n)": "def f() = let x = 5; print x; f(x, 5; c, d)\n",
		"def f()=let x=5;print x;f(x,5;c,d)":                                 "def f() = let x = 5; print x; f(x, 5; c, d)\n",
		"def f()=print  1  -  2  -  3  *  x  ;stop":                          "def f() = print 1 - 2 - 3 * x; stop\n",
		"def f()=let x= -5;let y=x==-5;stop":                                 "def f() = let x = -5; let y = x == -5; stop\n",
		// A word is all letters that stand there.
		"def f()=stops()":      "def f() = stops()\n",
		"def f()=sendc()":      "def f() = sendc()\n",
		"def defs()=elsee()":   "def defs() = elsee()\n",
		"def f()=iff(x)":       "def f() = iff(x)\n",
		"def f()=end end;stop": "def f() = end end; stop\n",
		"def f()=send send send;recv recv recv;pick pick pick;let let=let;print print;case case{case:stop}": "def f() = send send send; recv recv recv; pick pick pick; let let = let; print print; case case {case: stop}\n",
		"def int(int:int,else:bool;stop:end)=spawn def:end(def){stop};if else{stop}else{int(def;def)}":      "def int(int:int, else:bool; stop:end) = spawn def:end (def) {stop}; if else {stop} else {int(def; def)}\n",
		// The same names twice are none of the text's business.
		"def f(a:int,a:int;a:end,a:end)=f()def f()=f()":  "def f(a:int, a:int; a:end, a:end) = f()\ndef f() = f()\n",
		"def f()=case c{a:case d{a:stop,b:stop},b:stop}": "def f() = case c {a: case d {a: stop, b: stop}, b: stop}\n",
	} {
		p, f := syntax.Parse(s)
		if w, e := syntax.Write(p); w != want || e != api.OK || f != (api.Fault{}) {
			t.Errorf("Parse(%q): %q, %v, want %q", s, w, f, want)
		}
	}
}

// wantFault of texts in which the place of the fault is marked by an @ that is left out.
func wantFault(t *testing.T, marked string, code api.Errno) {
	t.Helper()
	at := strings.Index(marked, "@")
	s := strings.Replace(marked, "@", "", 1)
	p, f := syntax.Parse(s)
	if want := (api.Fault{Code: code, At: at}); at < 0 || f != want || !reflect.DeepEqual(p, api.Program{}) {
		t.Errorf("Parse(%.60q): %v, %v, want %v", s, p, f, want)
	}
}

func TestP26ParseTellsWhereADefinitionCantGoOn(t *testing.T) {
	for _, s := range []string{
		"@", "  @", "\n@", " \n \n@", "@5", "@stop", "  @stop", "@de f() = stop", "@defs f() = stop", "@deff() = stop", "@Def f() = stop", "@(", "@\t", "\n@\x00", "@é", "@\xff",
		"def@", "def @", "def\n@", "def @(", "def @5", "def @def() = stop", "def @stop() = stop", "def @send() = stop", "def @else() = stop", "def @end() = stop", "def @true() = stop", "def @abcdefghi() = stop", "def @F() = stop", "def\n @or() = stop",
		"def f@", "def f @", "def f @g() = stop", "def f@5() = stop", "def f@F() = stop", "def f@{}", "def f @= stop", "def f@;",
		"def f(@", "def f( @", "def f(@5", "def f(@,", "def f(@(", "def f(@:", "def f(@}", "def f(@true:int) = stop", "def f(@abcdefghi:int) = stop", "def f(@A:int) = stop",
		"def f(a@", "def f(a@) = stop", "def f(a @b:int) = stop", "def f(a@, b:int) = stop", "def f(a@;", "def f(a@=", "def f(a:@", "def f(a:@) = stop", "def f(a:@nat) = stop", "def f(a:@ints) = stop", "def f(a:@end) = stop", "def f(a:@!int.end) = stop", "def f(a:@5) = stop", "def f(a:@:int) = stop", "def f(a:@Int) = stop",
		"def f(a:int@", "def f(a:int@5", "def f(a:int @b:int) = stop", "def f(a:int@:", "def f(a:int@} = stop", "def f(a:int,@) = stop", "def f(a:int, @", "def f(a:int,@;c:end) = stop", "def f(a:int,@,", "def f(a:int, @not:int) = stop", "def f(a:int,@5:int) = stop",
		"def f(a:int;@) = stop", "def f(a:int; @", "def f(;@) = stop", "def f(;@;", "def f(;@,", "def f(;@5", "def f(; @and:end) = stop", "def f(;c@) = stop", "def f(;c @= stop", "def f(; c @end) = stop",
		"def f(;c:end@", "def f(;c:end@;", "def f(;c:end @d:end) = stop", "def f(;c:end@;d:end) = stop", "def f(;c:end,@) = stop", "def f(;c:end,@;", "def f(;c:end,d@,", "def f(;c:end@.end) = stop", "def f(a:int;c:end@;d:end) = stop",
		"def f()@", "def f() @", "def f() @stop", "def f()@:= stop", "def f()@(", "def f()@{stop}", "def f() =@", "def f() = @", "def f() =@= stop", "def f() =\n@", "def f() = @)", "def f() = @5", "def f() = @{stop}", "def f() = @(f())",
		"def f() = stop@;", "def f() = stop @stop", "def f() = stop @f()", "def f() = stop@, def g() = stop", "def f() = stop @defg() = stop", "def f() = stop\n@}", "def f() = stop@(", "def f() = stop@5", "def f() = stop@\t", "def f() = stop@S", "def f() = stop def@", "def f() = stop def @end() = stop", "def f() = stop\ndef g() = @", "def f() = stop\n@g() = stop", "def f() = stop\ndef f() = stop@.",
		strings.Repeat(" ", 2000) + "@", "def f() = stop" + strings.Repeat("\n", 1985) + "@5", "@" + strings.Repeat("a", 2000), strings.Repeat("def f() = stop\n", 20) + "@5",
	} {
		wantFault(t, s, api.ErrSyntax)
	}
}

func TestP26ParseTellsWhereAProcessCantGoOn(t *testing.T) {
	for _, s := range []string{
		"@def", "@else", "@true", "@not", "@abcdefghi()", "@A()", "@;", "@,", "@}", "@=", "@\"a\"", "@-5", "@é",
		"send@", "send @", "send @5", "send @;", "send @true 5; stop", "send @abcdefghi 5; stop", "send @C 5; stop", "send @(c) 5; stop", "send c@", "send c @", "send c\n@", "send c@;", "send c @; stop", "send c@:", "send c 5@", "send c 5 @", "send c 5 @stop", "send c 5@, stop", "send c 5;@", "send c 5; @", "send c 5;@;", "send c 5; @}", "send c 5 @6; stop", "send c x @y; stop", "send c x@\t; stop", "sendc @x; stop",
		"recv@", "recv @;", "recv @or x; stop", "recv c@", "recv c@;", "recv c @5; stop", "recv c @true; stop", "recv c @abcdefghi; stop", "recv c @(x); stop", "recv c x@", "recv c x @stop", "recv c x@, stop", "recv c x @+ 1; stop", "recv c x;@", "recv c@, x; stop",
		"give@", "give c@;", "give c @5; stop", "give c @and; stop", "give c d@", "give c d@}", "give c d;@", "take@", "take c@;", "take c @\"d\"; stop", "take c @not; stop", "take c d@", "take c d;@;",
		"pick@", "pick c@;", "pick c @5; stop", "pick c @false; stop", "pick c @abcdefghi; stop", "pick c a@", "pick c a@: stop", "pick c a;@", "end@", "end @;", "end @true; stop", "end c@", "end c @d; stop", "end c@}", "end c;@", "end c; @5",
		"case@", "case @{", "case @or {a: stop}", "case c@", "case c@(a: stop)", "case c @a: stop", "case c {@", "case c {@}", "case c { @}", "case c {@,", "case c {@:", "case c {@5: stop}", "case c {@true: stop}", "case c {@abcdefghi: stop}", "case c {a@", "case c {a@}", "case c {a @stop}", "case c {a@, b: stop}", "case c {a:@", "case c {a:@}", "case c {a:@, b: stop}", "case c {a: stop@", "case c {a: stop @b: stop}", "case c {a: stop@; b: stop}", "case c {a: stop@)", "case c {a: stop,@", "case c {a: stop,@}", "case c {a: stop, @,", "case c {a: stop}@; stop", "case c {a: stop}@}",
		"case c {a: stop, @a: stop}", "case c {b: stop, @a: stop}", "case c {a: stop, c: stop, @b: stop}", "case c {ab: stop, @aa: stop}", "case c {aa: stop, @a: stop}", "case c {a: case d {b: stop, @a: stop}}", "case c {b: case d {a: stop}, @a: stop}", "case c {a: stop, b: stop, c: stop, d: stop, e: stop, f: stop, g: stop, @a: stop}", "case c {a: stop, b: stop, c: stop, d: stop, e: stop, f: stop, g: stop@",
		"spawn@", "spawn @:", "spawn @not:end () {stop}; stop", "spawn c@", "spawn c @end () {stop}; stop", "spawn c @() {stop}; stop", "spawn c:end@", "spawn c:end @", "spawn c:end @{stop}; stop", "spawn c:end @d", "spawn c:end (@", "spawn c:end (@5", "spawn c:end (@,", "spawn c:end (@;", "spawn c:end (@true) {stop}; stop", "spawn c:end (d@", "spawn c:end (d @e) {stop}; stop", "spawn c:end (d@; e) {stop}; stop", "spawn c:end (d,@) {stop}; stop", "spawn c:end (d, @or) {stop}; stop", "spawn c:end (d, e@:",
		"spawn c:end ()@", "spawn c:end () @stop", "spawn c:end () @; stop", "spawn c:end () {@", "spawn c:end () {@}; stop", "spawn c:end () {stop@", "spawn c:end () {stop@; stop}", "spawn c:end () {stop@)", "spawn c:end () {stop}@", "spawn c:end () {stop} @stop", "spawn c:end () {stop}@}", "spawn c:end () {stop};@", "spawn c:end () {stop};@;",
		"if@", "if @", "if @{stop} else {stop}", "if@;", "if x@", "if x @stop", "if x@;", "if x @y {stop} else {stop}", "if x {@", "if x {@} else {stop}", "if x {stop@", "if x {stop@; stop}", "if x {stop}@", "if x {stop}@; stop", "if x {stop} @{stop}", "if x {stop} @elsee {stop}", "if x {stop} @els {stop}", "if x {stop} @stop", "if x {stop} else@", "if x {stop} else @stop", "if x {stop} else @if x {stop} else {stop}", "if x {stop} else {@", "if x {stop} else {@}", "if x {stop} else {stop@", "if x {stop} else {stop@,", "if x {stop} else {stop}@; stop", "if x {stop} else {stop}@}",
		"let@", "let @=", "let @5 = 5; stop", "let @true = 5; stop", "let @abcdefghi = 5; stop", "let x@", "let x@; stop", "let x @5; stop", "let x@: 5; stop", "let x =@", "let x = @", "let x =@;", "let x =@= 5; stop", "let x = 5@", "let x = 5 @stop", "let x = 5@, stop", "let x = 5@= 5; stop", "let x = 5;@", "let x = 5; @)",
		"print@", "print @", "print@;", "print @; stop", "print 5@", "print 5 @stop", "print 5@, 6; stop", "print 5;@", "print 5; @=", "printx @5; stop",
		"f@", "f @", "f@;", "f @x", "f@{", "f@5", "f(@", "f( @", "f(@,", "f(@}", "f(@:", "f(@=", "f(@and)", "f(x@", "f(x @y)", "f(x@:", "f(x@}", "f(x,@)", "f(x, @", "f(x,@;", "f(x,@,", "f(x;@)", "f(;@)", "f(; @", "f(;@;", "f(;@,", "f(;@5)", "f(; @true)", "f(;@(c))", "f(;c@", "f(;c @d)", "f(;c@;", "f(;c@+ 1)", "f(;c,@)", "f(; c, @not)", "f(x; c, d@;", "f()@;", "f()@; stop", "f() @g()", "f()@)", "f(\n@", "f(\n@,",
	} {
		wantFault(t, "def f() = "+s, api.ErrSyntax)
		wantFault(t, "def f() = stop\n\ndef  g(x:int; c:end)= print 5 ;"+s, api.ErrSyntax)
	}
}

func TestP26ParseTellsWhatBeginSays(t *testing.T) {
	long, parts := `"`+strings.Repeat("a", 101)+`"`, strings.Repeat("x+", 30)+"x"
	for _, x := range []struct {
		code api.Errno
		s    string
	}{
		{api.ErrSyntax, "print 1 +@; stop"}, {api.ErrSyntax, "print (1@; stop"}, {api.ErrSyntax, "print @007; stop"}, {api.ErrSyntax, "print 1 + @-0; stop"}, {api.ErrSyntax, "print @\"a; stop"}, {api.ErrSyntax, "send c @\"\\t\"; stop"}, {api.ErrSyntax, "if not @{stop} else {stop}"}, {api.ErrSyntax, "let x = @and; stop"}, {api.ErrSyntax, "f(1, 2 *@)"}, {api.ErrSyntax, "f(1, @abcdefghi)"}, {api.ErrSyntax, "print (@); stop"}, {api.ErrSyntax, "print x and@"}, {api.ErrSyntax, "print x == @= y; stop"},
		// Bytes 10 stand around an expression, or a type, but not inside.
		{api.ErrSyntax, "print 1 +@\n2; stop"}, {api.ErrSyntax, "print 1\n@+ 2; stop"}, {api.ErrSyntax, "print 1 + @\n2; stop"}, {api.ErrSyntax, "print (@\n1); stop"}, {api.ErrSyntax, "print (1@\n); stop"}, {api.ErrSyntax, "print not@\nx; stop"}, {api.ErrSyntax, "print -@\n5; stop"}, {api.ErrSyntax, "print 1 +@\n"}, {api.ErrSyntax, "print #  @\n"}, {api.ErrSyntax, "print x\n@and y; stop"},
		{api.ErrSyntax, "spawn c:!int.@\nend () {stop}; stop"}, {api.ErrSyntax, "spawn c:@() {stop}; stop"}, {api.ErrSyntax, "spawn c:!@nat.end () {stop}; stop"}, {api.ErrSyntax, "spawn c:+{b:end,@a:end} () {stop}; stop"}, {api.ErrSyntax, "spawn c:rec @end.end () {stop}; stop"}, {api.ErrSyntax, "spawn c:!int@\n.end () {stop}; stop"}, {api.ErrSyntax, "spawn c:@true () {stop}; stop"}, {api.ErrSyntax, "spawn c:!int.@"}, {api.ErrSyntax, "spawn c:!{end}@() {stop}; stop"}, {api.ErrSyntax, "spawn c:+{a:end,b:end,c:end,d:end,e:end,f:end,@g:end} () {stop}; stop"},
		{api.ErrLarge, "print @" + long + "; stop"}, {api.ErrLarge, "print 1 + @" + long + "; stop"}, {api.ErrLarge, "print @" + long}, {api.ErrLarge, "f(x, @" + long + ")"}, {api.ErrLarge, "if @" + long + " 5"}, {api.ErrLarge, "let x = @" + long + " )"},
	} {
		wantFault(t, "def f() = "+x.s, x.code)
		wantFault(t, "def f() = stop\n\ndef  g(x:int; c:end)= print 5 ;"+x.s, x.code)
	}
	// What is told at 0 is told as soon as it has been read: ahead of what can't stand behind it.
	for _, x := range []struct {
		code api.Errno
		s    string
	}{
		{api.ErrLarge, "print " + parts + "; stop"}, {api.ErrLarge, "print " + parts}, {api.ErrLarge, "print " + parts + " }"}, {api.ErrLarge, "f(1, " + parts + " ;;"}, {api.ErrLarge, "send c " + parts + "; print 1 +"}, {api.ErrLarge, "print " + parts + "; spawn c:t () {stop}; stop"},
		{api.ErrName, "spawn c:t () {stop}; stop"}, {api.ErrName, "spawn c:t"}, {api.ErrName, "spawn c:t t"}, {api.ErrName, "spawn c:t () {stop}; print " + parts + "; stop"}, {api.ErrName, "spawn c:t () {stop}; print " + long}, {api.ErrName, "spawn c: rec t.!int.s ;"}, {api.ErrType, "spawn c:rec t.t () {stop}; stop"}, {api.ErrType, "spawn c:rec t.t"}, {api.ErrLarge, "spawn c:" + strings.Repeat("!int.", 60) + "end ()"},
	} {
		wantFault(t, "@def f() = "+x.s, x.code)
		wantFault(t, "@\n def g(x:int; c:end)= print 5 ;"+x.s, x.code)
	}
	wantFault(t, "@def f(; c:t) = stop", api.ErrName)
	wantFault(t, "@def f(; c:t", api.ErrName)
	wantFault(t, "@ def f(a:int; c:end, d:rec t.t def", api.ErrType)
	wantFault(t, "def f(a:int; c:end, d:@) def", api.ErrSyntax)
	wantFault(t, "def f(; c:+{a:end,@a:t}", api.ErrSyntax)
	wantFault(t, "def f(; c:!int.@\nend) = stop", api.ErrSyntax)
}

// many is what one makes of each number from 0 on.
func many(n int, between string, one func(i int) string) string {
	var out []string
	for i := range n {
		out = append(out, one(i))
	}
	return strings.Join(out, between)
}

func TestP26ParseTellsWhatShapeSays(t *testing.T) {
	letter := func(i int) string { return letters(16)[i] }
	values := func(n int) string { return many(n, ",", func(i int) string { return letter(i) + ":int" }) }
	chans := func(n int) string { return many(n, ",", func(i int) string { return letter(i) + ":end" }) }
	names := func(n int) string { return many(n, ",", letter) }
	cases := func(n int) string { return many(n, ",", func(i int) string { return letter(i) + ":stop" }) }
	for s, want := range map[string]api.Errno{
		"def f(" + values(6) + ")=stop": api.OK, "def f(" + values(7) + ")=stop": api.ErrArg, "def f(;" + chans(6) + ")=stop": api.OK, "def f(;" + chans(7) + ")=stop": api.ErrArg, "def f(" + values(6) + ";" + chans(6) + ")=stop": api.OK, "def f(" + values(6) + ";" + chans(9) + ")=stop": api.ErrArg,
		"def f()=case c{" + cases(6) + "}": api.OK, "def f()=case c{" + cases(7) + "}": api.ErrArg, "def f()=case c{" + cases(16) + "}": api.ErrArg, "def f()=case c {a:case c {" + cases(7) + "}}": api.ErrArg,
		"def f()=f(" + names(6) + ")": api.OK, "def f()=f(" + names(7) + ")": api.ErrArg, "def f()=f(;" + names(6) + ")": api.OK, "def f()=f(;" + names(7) + ")": api.ErrArg, "def f()=f(" + names(6) + ";" + names(6) + ")": api.OK,
		"def f()=spawn c:end(" + names(6) + "){stop};stop": api.OK, "def f()=spawn c:end(" + names(7) + "){stop};stop": api.ErrArg,
		strings.Repeat("def f()=stop ", 10): api.OK, strings.Repeat("def f()=stop ", 11): api.ErrLarge, strings.Repeat("def f()=stop ", 150): api.ErrLarge,
		"def f()=" + strings.Repeat("end c;", 199) + "stop": api.OK, "def f()=" + strings.Repeat("end c;", 200) + "stop": api.ErrLarge, "def f()=" + strings.Repeat("end c;", 330) + "stop": api.ErrLarge,
		"def f()=" + strings.Repeat("end c;", 99) + "stop def f()=" + strings.Repeat("end c;", 99) + "stop": api.OK, "def f()=" + strings.Repeat("end c;", 99) + "stop def f()=" + strings.Repeat("end c;", 100) + "stop": api.ErrLarge,
		"def f()=" + strings.Repeat("if x{stop}else{", 99) + "stop" + strings.Repeat("}", 99): api.OK, "def f()=" + strings.Repeat("if x{stop}else{", 100) + "stop" + strings.Repeat("}", 100): api.ErrLarge,
		// The first one in going through is told.
		strings.Repeat("def f("+values(7)+")=stop ", 11): api.ErrLarge, "def f(" + values(7) + ")=" + strings.Repeat("end c;", 200) + "stop": api.ErrArg, "def f()=" + strings.Repeat("end c;", 200) + "f(" + names(7) + ")": api.ErrLarge, "def f()=" + strings.Repeat("end c;", 199) + "f(" + names(7) + ")": api.ErrArg,
		"def f()=" + strings.Repeat("end c;", 200) + "stop def g(" + values(7) + ")=stop": api.ErrLarge,
		// More than 2000 bytes, whatever they are.
		strings.Repeat(" ", 2001): api.ErrLarge, "def f()=stop" + strings.Repeat(" ", 1989): api.ErrLarge, "def f()=stop" + strings.Repeat("\n", 1988): api.OK, strings.Repeat("}", 2001): api.ErrLarge, strings.Repeat("if x{", 100000): api.ErrLarge,
	} {
		p, f := syntax.Parse(s)
		if f != (api.Fault{Code: want}) || (want != api.OK) != reflect.DeepEqual(p, api.Program{}) {
			t.Errorf("Parse(%.60q): %v, want %d at 0", s, f, want)
		}
	}
	// What can't stand is told ahead of what Shape says.
	wantFault(t, "def f("+values(7)+")=stop @stop", api.ErrSyntax)
	wantFault(t, "def f()=case c{"+cases(7)+"}@;", api.ErrSyntax)
	wantFault(t, "def f()=case c{"+cases(7)+",@a:stop}", api.ErrSyntax)
	wantFault(t, "def f()="+strings.Repeat("end c;", 300)+"@", api.ErrSyntax)
	wantFault(t, strings.Repeat("def f()=stop ", 11)+"@stop", api.ErrSyntax)
	wantFault(t, "@def f("+values(7)+")=spawn c:t(){stop};stop", api.ErrName)
	wantFault(t, "def f()="+strings.Repeat("if x{", 398)+"@", api.ErrSyntax)
}

func FuzzParse(f *testing.F) {
	for _, x := range sound() {
		f.Add("def main(a:int; c:end) = " + x.s + "\n")
	}
	f.Fuzz(func(t *testing.T, s string) {
		p, fault := syntax.Parse(s)
		if fault.Code != api.OK {
			if !reflect.DeepEqual(p, api.Program{}) || fault.At < 0 || fault.At > len(s) {
				t.Fatalf("Parse(%q): %v, %v", s, p, fault)
			}
			return
		}
		w, e := syntax.Write(p)
		q, again := syntax.Parse(w)
		if e != api.OK || len(w) <= api.MaxSource && (again != (api.Fault{}) || !reflect.DeepEqual(p, q)) {
			t.Fatalf("Parse(%q) is written %q, %d, and read %v, %v", s, w, e, q, again)
		}
	})
}
