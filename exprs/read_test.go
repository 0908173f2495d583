package exprs_test

import (
	"math"
	"reflect"
	"strings"
	"testing"

	"duet/api"
	"duet/exprs"
)

func TestP7Parse(t *testing.T) {
	for s, want := range map[string]string{
		"5": "5", "-5": "-5", "0": "0", "- 5": "[neg 5]", "--5": "[neg -5]", "- -5": "[neg -5]", "---5": "[neg [neg -5]]", "-(5)": "[neg 5]", "-x": "[neg x]", "-\"a\"": `[neg "a"]`,
		"- 0": "[neg 0]", "9223372036854775807": "9223372036854775807", "-9223372036854775808": "-9223372036854775808",
		"true": "true", "false": "false", "truer": "truer", "x": "x", "abcdefgh": "abcdefgh", "neg": "neg", "stop": "stop",
		`""`: `""`, `"a b"`: `"a b"`, `"a\n\"\\"`: `"a\n\"\\"`, `"é("`: `"é("`, `"true"`: `"true"`, `"\\" ++ "\""`: `[++ "\\" "\""]`,
		"not x": "[not x]", "not not x": "[not [not x]]", "not(x)": "[not x]", "not5": "[not 5]", "not-5": "[not -5]", "not- 5": "[not [neg 5]]", "not\"a\"": `[not "a"]`, "not#x": "[not [# x]]",
		"notx": "notx", "nots": "nots", "#x": "[# x]", "# x": "[# x]", "##x": "[# [# x]]", "#-5": "[# -5]", "#- 5": "[# [neg 5]]", `#"a"`: `[# "a"]`, "#not x": "[# [not x]]",
		"(x)": "x", "((x))": "x", " ( ( x ) ) ": "x", "(-5)": "-5",
		"1 - 2 - 3 * x": "[- [- 1 2] [* 3 x]]", "1-2": "[- 1 2]", "1 -2": "[- 1 2]", "1- 2": "[- 1 2]", "1--2": "[- 1 -2]", "1---2": "[- 1 [neg -2]]", "1- -2": "[- 1 -2]", "1 - - 2": "[- 1 [neg 2]]",
		"-5-5": "[- -5 5]", "x-5": "[- x 5]", "(x)-5": "[- x 5]", "- x - y": "[- [neg x] y]", "-5 * x": "[* -5 x]", "- 5 * x": "[* [neg 5] x]", "x+-5": "[+ x -5]", "x+-y": "[+ x [neg y]]",
		"not x == 2": "[== [not x] 2]", "not x and y": "[and [not x] y]", "#x + y": "[+ [# x] y]", "#x++y": "[++ [# x] y]", "- x * y": "[* [neg x] y]",
		"x++y": "[++ x y]", "x + y ++ z": "[++ [+ x y] z]", "x ++ y + z": "[+ [++ x y] z]", "x++-y": "[++ x [neg y]]",
		"x<y": "[< x y]", "x<=y": "[<= x y]", "x==y": "[== x y]", "x<-5": "[< x -5]", "x<=-5": "[<= x -5]", "x < y == z": "[== [< x y] z]", "x == y <= z": "[<= [== x y] z]",
		"a or b and c": "[or a [and b c]]", "a and b or c": "[or [and a b] c]", "a or b or c": "[or [or a b] c]", "a and b and c": "[and [and a b] c]",
		"a and b == c + d * e": "[and a [== b [+ c [* d e]]]]", "a * b + c == d and e or f": "[or [and [== [+ [* a b] c] d] e] f]", "a * (b + c)": "[* a [+ b c]]", "a*b/c%d": "[% [/ [* a b] c] d]",
		"1and 2": "[and 1 2]", "1and2": "[and 1 2]", "(x)and(y)": "[and x y]", `"a"and"b"`: `[and "a" "b"]`, "1or-2": "[or 1 -2]", "x and not y": "[and x [not y]]",
		"1 -0": "[- 1 0]", "  x  ": "x", "     1     +     2     ": "[+ 1 2]",
	} {
		x, f := exprs.Parse(s)
		if prefix(x) != want || f != (api.Fault{}) || exprs.Check(x) != api.OK {
			t.Errorf("Parse(%q) = %s, %v, want %s", s, prefix(x), f, want)
		}
	}
}

func TestP7ParseTellsWhere(t *testing.T) {
	many := strings.Repeat("a", 101)
	for s, at := range map[string]int{
		"": 0, "   ": 3, "1 +": 3, "1 + ": 4, "(1": 2, "(1 ": 3, "((1)": 4, "(": 1, "()": 1, "( )": 2, ")": 0, "1)": 1, "1 )": 2, "(1))": 3, "(1 2)": 3, "(1 2": 3,
		"1 2": 2, "x y": 2, "x 1": 2, "x1": 1, "1x": 1, "1 x": 2, "x(": 1, "x (y)": 2, "x #y": 2, "x not y": 2, "true false": 5, `"a""b"`: 3, `1 "a"`: 2, `1 "a`: 2,
		"abcdefghi": 0, " abcdefghi": 1, "1 + abcdefghi * 2": 4, "not abcdefghi": 4, "1 abcdefghi": 2, "and": 0, "or": 0, " and x": 1, "1 + or": 4, "x and": 5, "x and or y": 6, "not": 3, "not ": 4, "not and": 4, "x orr y": 2, "x an y": 2, "x andand": 2,
		"007": 0, "1 + 007": 4, "00": 0, "-0": 0, "-007": 0, "1 - -0": 4, "- 007": 2, "1-007": 2, "9223372036854775808": 0, "-9223372036854775809": 0, "- 9223372036854775808": 2, "1-9223372036854775808": 2,
		strings.Repeat("9", 1999): 0, "1 007": 2,
		"x = 1": 2, "x === 1": 4, "x == = 1": 5, "x =": 2, "x <== y": 4, "x < = y": 4, "x => y": 2, "x > y": 2, "x != y": 2, "x +++ y": 4, "x + + y": 4, "x ++ + y": 5, "x + ++ y": 4, "+1": 0, "++x": 0, "x * * y": 4, "x ** y": 3, "x // y": 3, "x & y": 2, "!x": 0,
		`"a`: 0, `"`: 0, ` "`: 1, `1 + "a`: 4, `"a\"`: 0, `"\t"`: 0, `1 + "\t" 2`: 4, "\"a\nb\"": 0, "\"\xff\"": 0, `x ++ "a\"`: 5, `"a\`: 0, `"a" "`: 4, `'a'`: 0, `"a"b`: 3,
		"x\n": 1, "\nx": 0, "x\t+ y": 1, "x\x00": 1, "\x00": 0, "é": 0, "xé": 1, "X": 0, "xX": 1, "x_y": 1, "x.y": 1, "1.5": 1, "1e5": 1, "0x1": 1, "x,": 1, "x;": 1, "x }": 2, "-": 1, "- ": 2, "--": 2, "#": 1, "#)": 1, "-)": 1, "- and": 2,
		// Too large, but also ill written: a text that is none.
		`"` + many: 0, `"` + many + `\t"`: 0, `1 + "` + many + "\xff\"": 4,
		// A text that may not stand there, whatever it has.
		`1 "` + many + `"`: 2,
		// The first piece is told, whatever comes behind it.
		`x y "` + many + `"`: 2, "x = (": 2,
		strings.Repeat("(", 2000): 2000, strings.Repeat("-", 2000): 2000, strings.Repeat("#", 2000): 2000, strings.Repeat("not ", 500): 2000, strings.Repeat(" ", 2000): 2000,
		// Too many parts is told last.
		strings.Repeat("x+", 100): 200, strings.Repeat("x+", 100) + "x y": 202, strings.Repeat("(x+", 100) + "x": 301, strings.Repeat("#", 100) + "x)": 101,
	} {
		if x, f := exprs.Parse(s); !reflect.DeepEqual(x, api.Expr{}) || f != (api.Fault{Code: api.ErrSyntax, At: at}) {
			t.Errorf("Parse(%q) = %s, %v, want ErrSyntax at %d", s, prefix(x), f, at)
		}
	}
}

func TestP7ParseTellsWhatIsLarge(t *testing.T) {
	many := strings.Repeat("a", 101)
	for s, at := range map[string]int{
		strings.Repeat(" ", 2001): 0, strings.Repeat(" ", 2000) + "x": 0, "x" + strings.Repeat(" ", 2000): 0, "= " + strings.Repeat("x", 2000): 0, strings.Repeat("(", 100000): 0,
		`"` + many + `"`: 0, ` "` + many + `"`: 1, `1 + "` + many + `"`: 4, `1 + "` + many + `" 2`: 4, `("` + many + `" = `: 1, `"` + many + `" ++ "`: 0, `"` + strings.Repeat(`\n`, 101) + `"`: 0, `"` + strings.Repeat("é", 51) + `"`: 0,
		// The text is ahead of what else is too large.
		strings.Repeat("x+", 100) + `"` + many + `"`: 200,
		// Too many parts: brackets are none.
		strings.Repeat("x+", 30) + "x": 0, strings.Repeat("not ", 60) + "x": 0, strings.Repeat("- ", 60) + "5": 0, strings.Repeat("#", 60) + "x": 0, strings.Repeat("#", 1999) + "x": 0, "(" + strings.Repeat("x+", 30) + "x)": 0,
		strings.Repeat("(", 30) + strings.Repeat("x+", 30) + "x" + strings.Repeat(")", 30): 0, strings.Repeat("x+", 999) + "x ": 0, strings.Repeat("(x+", 400) + "x" + strings.Repeat(")", 400): 0,
	} {
		if x, f := exprs.Parse(s); !reflect.DeepEqual(x, api.Expr{}) || f != (api.Fault{Code: api.ErrLarge, At: at}) {
			t.Errorf("Parse(%q) = %s, %v, want ErrLarge at %d", s, prefix(x), f, at)
		}
	}
	for _, s := range []string{
		strings.Repeat(" ", 1999) + "x", "x" + strings.Repeat(" ", 1999), strings.Repeat("(", 999) + "ab" + strings.Repeat(")", 999),
		strings.Repeat("x+", 29) + "x", "#" + strings.Repeat("x+", 29) + "x", strings.Repeat("not ", 59) + "x", strings.Repeat("- ", 59) + "-5",
		`"` + strings.Repeat("a", 100) + `"`, `"` + strings.Repeat(`\n`, 100) + `"`, `"` + strings.Repeat("é", 50) + `"`,
	} {
		if x, f := exprs.Parse(s); f != (api.Fault{}) || exprs.Check(x) != api.OK {
			t.Errorf("Parse(%q): %v", s, f)
		}
	}
}

func TestP7Begin(t *testing.T) {
	for _, c := range []struct {
		s    string
		at   int
		want string
		end  int
	}{
		{"x", 0, "x", 1}, {"x", -1, "x", 1}, {"x", math.MinInt, "x", 1}, {"  x  ", 0, "x", 5}, {"  x  ", 2, "x", 5}, {"  x  )", 0, "x", 5}, {"x y", 0, "x", 2}, {"x y", 1, "y", 3}, {"x y", 2, "y", 3},
		{"1 2", 0, "1", 2}, {"12", 1, "2", 2}, {"abc", 1, "bc", 3}, {"andx", 3, "x", 4}, {"abcdefghij", 2, "cdefghij", 10}, {"1007", 3, "7", 4}, {"007", 1, "", 1}, {"007", 2, "7", 3},
		{"send c x + 1; stop", 7, "[+ x 1]", 12}, {"if x < 1 {stop}", 2, "[< x 1]", 9}, {"p(x, y)", 2, "x", 3}, {"p(x, y)", 4, "y", 6}, {"p(x)", 1, "x", 4}, {"(x)(y)", 0, "x", 3},
		{"x = 1", 0, "x", 2}, {"x=", 0, "x", 1}, {"x == 1 = 2", 0, "[== x 1]", 7}, {"x\n+ 1", 0, "x", 1}, {"x abcdefghi", 0, "x", 2}, {"x not y", 0, "x", 2}, {"x andy", 0, "x", 2}, {"x \"", 0, "x", 2}, {"x 007", 0, "x", 2}, {"5x", 0, "5", 1}, {"5 -x", 0, "[- 5 x]", 4}, {"5 -3;", 0, "[- 5 3]", 4}, {"5 -3;", 2, "-3", 4},
		{`"a" "b"`, 0, `"a"`, 4}, {`"a" "b"`, 3, `"b"`, 7}, {`x "` + strings.Repeat("a", 101) + `"`, 0, "x", 2}, {"x)))", 0, "x", 1}, {"not x}", 0, "[not x]", 5}, {"x é", 0, "x", 2}, {"é x", 2, "x", 4},
		{strings.Repeat(" ", 1999) + "x", 5, "x", 2000}, {"x\xff", 0, "x", 1},
		// Of errors the byte is that of the whole text, and the expression that has begun must go on.
		{"", 0, "", 0}, {"", 5, "", 0}, {"", -5, "", 0}, {"x", 1, "", 1}, {"x", 2, "", 1}, {"x", math.MaxInt, "", 1}, {"x  ", 1, "", 3}, {"x +", 0, "", 3}, {"x + ;", 0, "", 4}, {"x +)", 0, "", 3}, {"x ++", 0, "", 4}, {"x and", 0, "", 5}, {"x == = y", 0, "", 5},
		{"ab (c", 3, "", 5}, {"ab (c d)", 3, "", 6}, {"ab )", 3, "", 3}, {"ab and", 3, "", 3}, {"ab  abcdefghi;", 2, "", 4}, {"ab 007", 3, "", 3}, {`ab "c`, 2, "", 3}, {`"a"`, 2, "", 2}, {"é x", 0, "", 0}, {"é x", 1, "", 1},
	} {
		x, end, f := exprs.Begin(c.s, c.at)
		if c.want != "" && (prefix(x) != c.want || end != c.end || f != (api.Fault{})) {
			t.Errorf("Begin(%q, %d) = %s, %d, %v, want %s, %d", c.s, c.at, prefix(x), end, f, c.want, c.end)
		}
		if c.want == "" && (!reflect.DeepEqual(x, api.Expr{}) || end != 0 || f != (api.Fault{Code: api.ErrSyntax, At: c.end})) {
			t.Errorf("Begin(%q, %d) = %s, %d, %v, want ErrSyntax at %d", c.s, c.at, prefix(x), end, f, c.end)
		}
	}
}

func TestP7BeginTellsWhatIsLarge(t *testing.T) {
	many := strings.Repeat("a", 101)
	for _, c := range []struct {
		s      string
		at, to int
	}{
		{"x" + strings.Repeat(" ", 2000), 0, 0}, {strings.Repeat("(", 2000) + "x", 2000, 0}, {"x; " + strings.Repeat("y", 2000), 1, 0},
		{`ab "` + many + `";`, 3, 3}, {`ab  "` + many + `";`, 2, 4}, {"; " + strings.Repeat("x+", 30) + "x;", 1, 0}, {"; " + strings.Repeat("x+", 30) + "x y", 1, 0},
	} {
		if x, end, f := exprs.Begin(c.s, c.at); !reflect.DeepEqual(x, api.Expr{}) || end != 0 || f != (api.Fault{Code: api.ErrLarge, At: c.to}) {
			t.Errorf("Begin(%q, %d) = %s, %d, %v, want ErrLarge at %d", c.s, c.at, prefix(x), end, f, c.to)
		}
	}
}

// standing is where the next of some pieces would stand: what goes ahead of it tells whether it may.
type standing struct {
	inBrackets int
	wantsX     bool
}

// take says whether a piece may stand there: by what is ahead of it alone, with no tree.
func (s *standing) take(piece string) bool {
	switch {
	case s.wantsX && (piece == "(" || piece == "not" || piece == "#" || piece == "-"):
		if piece == "(" {
			s.inBrackets++
		}
		return true
	case s.wantsX && (piece == "x" || piece == "5" || piece == "-5" || piece == `"a"`):
		s.wantsX = false
		return true
	case !s.wantsX && levels[piece] > 0:
		s.wantsX = true
		return true
	case !s.wantsX && piece == "-5":
		return true
	case !s.wantsX && piece == ")" && s.inBrackets > 0:
		s.inBrackets--
		return true
	}
	return false
}

// faultOf says where pieces, each at its place, can't go on; -1 if all is well.
func faultOf(pieces []string, places []int, length int) int {
	s := standing{wantsX: true}
	for i, p := range pieces {
		if !s.take(p) {
			return places[i]
		}
	}
	if s.wantsX || s.inBrackets > 0 {
		return length
	}
	return -1
}

// treeOf cuts pieces that are well at the last operator of the least level outside of brackets.
func treeOf(pieces []string) string {
	cut, s := -1, standing{wantsX: true}
	for i, p := range pieces {
		if s.inBrackets == 0 && !s.wantsX && (cut < 0 || levels[sign(p)] <= levels[sign(pieces[cut])]) {
			cut = i
		}
		s.take(p)
	}
	switch first := pieces[0]; {
	case cut >= 0 && pieces[cut] == "-5":
		return "[- " + treeOf(pieces[:cut]) + " " + treeOf(append([]string{"5"}, pieces[cut+1:]...)) + "]"
	case cut >= 0:
		return "[" + pieces[cut] + " " + treeOf(pieces[:cut]) + " " + treeOf(pieces[cut+1:]) + "]"
	case first == "(":
		return treeOf(pieces[1 : len(pieces)-1])
	case first == "-":
		return "[neg " + treeOf(pieces[1:]) + "]"
	case first == "not" || first == "#":
		return "[" + first + " " + treeOf(pieces[1:]) + "]"
	}
	return pieces[0]
}

// sign of a piece that stands where an operator of two may.
func sign(piece string) string {
	if piece == "-5" {
		return "-"
	}
	return piece
}

// runTogether says whether two pieces side by side would be read as others.
func runTogether(a, b string) bool {
	end, begin := a[len(a)-1:], b[:1]
	for _, s := range []string{"abcdefghijklmnopqrstuvwxyz", "0123456789", "="} {
		if strings.Contains(s, end) && strings.Contains(s, begin) {
			return true
		}
	}
	return a == "-" && begin == "5"
}

// laid puts blanks between pieces, or one where there must be one, and says where each of them begins.
func laid(pieces []string, blanks string) (text string, places []int) {
	for i, p := range pieces {
		text += blanks
		if i > 0 && blanks == "" && runTogether(pieces[i-1], p) {
			text += " "
		}
		places = append(places, len(text))
		text += p
	}
	return text + blanks, places
}

func TestP7AllRowsOfPieces(t *testing.T) {
	pieces := []string{"x", "5", "-5", `"a"`, "(", ")", "not", "#", "-", "or", "==", "++", "*", "="}
	row := make([]string, 0, 5)
	var all func()
	all = func() {
		for _, blanks := range []string{"", " ", "   "} {
			s, places := laid(row, blanks)
			wantRow(t, row, s, faultOf(row, places, len(s)))
		}
		if len(row) == cap(row) {
			return
		}
		for _, p := range pieces {
			row = append(row, p)
			all()
			row = row[:len(row)-1]
		}
	}
	all()
}

func wantRow(t *testing.T, row []string, s string, at int) {
	x, f := exprs.Parse(s)
	if at >= 0 {
		if f != (api.Fault{Code: api.ErrSyntax, At: at}) {
			t.Fatalf("Parse(%q) = %s, %v, want ErrSyntax at %d", s, prefix(x), f, at)
		}
		return
	}
	if want := treeOf(row); f != (api.Fault{}) || prefix(x) != want {
		t.Fatalf("Parse(%q) = %s, %v, want %s", s, prefix(x), f, want)
	}
}

// wantRead says what must hold of Parse and Begin, whatever the text.
func wantRead(t *testing.T, s string, at int) {
	x, end, f := exprs.Begin(s, at)
	from := min(max(at, 0), len(s))
	if f.Code != api.OK {
		if !reflect.DeepEqual(x, api.Expr{}) || end != 0 || f.At < 0 || f.At > len(s) || f.Code != api.ErrSyntax && f.Code != api.ErrLarge {
			t.Fatalf("Begin(%q, %d) = %s, %d, %v", s, at, prefix(x), end, f)
		}
		return
	}
	if f.At != 0 || end <= from || end > len(s) || end < len(s) && s[end] == ' ' || exprs.Check(x) != api.OK {
		t.Fatalf("Begin(%q, %d) = %s, %d, %v", s, at, prefix(x), end, f)
	}
	if y, f := exprs.Parse(s[from:end]); f != (api.Fault{}) || !reflect.DeepEqual(x, y) {
		t.Fatalf("Parse(%q) = %s, %v, but Begin reads %s", s[from:end], prefix(y), f, prefix(x))
	}
	if _, f := exprs.Parse(s[from:]); end < len(s) && f != (api.Fault{Code: api.ErrSyntax, At: end - from}) {
		t.Fatalf("Parse(%q): %v, but Begin stops at %d", s[from:], f, end-from)
	}
	written, _ := exprs.Write(x)
	if y, f := exprs.Parse(written); len(written) <= api.MaxSource && (f != (api.Fault{}) || !reflect.DeepEqual(x, y)) {
		t.Fatalf("Parse(%q) = %s, %v, want %s", written, prefix(y), f, prefix(x))
	}
}

func TestP7BeginReadsWhatParseReads(t *testing.T) {
	for _, s := range []string{"x + 1; stop", "not - #x == (y ++ \"a\\n\") and -5 < 7) =", "  a or b and c == d + e * f % g  ", "1--2---3 - - 4 007"} {
		for at := -2; at < len(s)+3; at++ {
			wantRead(t, s, at)
		}
	}
}

func FuzzBegin(f *testing.F) {
	for _, s := range []string{"1 - 2 - 3 * x", "- 5", "-5", `#"a\n" ++ x`, "not (a or b) and c == d", "x = 1", "(((", "007", "a<=b%c"} {
		f.Add(s, 0)
		f.Add(s, 2)
	}
	f.Fuzz(wantRead)
}
