package exprs_test

import (
	"math"
	"reflect"
	"slices"
	"strings"
	"testing"

	"duet/api"
	"duet/exprs"
	"duet/values"
)

func number(n int64) api.Value { return api.Value{Sort: api.Int, N: n} }

func truth(n int64) api.Value { return api.Value{Sort: api.Bool, N: n} }

func text(s string) api.Value { return api.Value{Sort: api.Text, S: s} }

func lit(v api.Value) api.Expr { return api.Expr{Kind: api.Lit, Value: v} }

func name(s string) api.Expr { return api.Expr{Kind: api.Name, Name: s} }

func op(s string, kids ...api.Expr) api.Expr { return api.Expr{Kind: api.Op, Name: s, Kids: kids} }

// ofOne and ofTwo stand in the order of the document; levels are those of ofTwo.
var (
	ofOne  = []string{"not", "neg", "#"}
	ofTwo  = []string{"or", "and", "==", "<", "<=", "+", "-", "++", "*", "/", "%"}
	levels = map[string]int{"or": 1, "and": 2, "==": 3, "<": 3, "<=": 3, "+": 4, "-": 4, "++": 4, "*": 5, "/": 5, "%": 5}
)

// deeper is all leaves, and every operator of these.
func deeper(leaves []api.Expr) []api.Expr {
	out := slices.Clone(leaves)
	for _, o := range ofOne {
		for _, x := range leaves {
			out = append(out, op(o, x))
		}
	}
	for _, o := range ofTwo {
		for _, x := range leaves {
			for _, y := range leaves {
				out = append(out, op(o, x, y))
			}
		}
	}
	return out
}

// prefix writes an expression so that no brackets are in question.
func prefix(x api.Expr) string {
	switch x.Kind {
	case api.Lit:
		s, _ := values.Write(x.Value)
		return s
	case api.Name:
		return x.Name
	}
	s := "[" + x.Name
	for _, kid := range x.Kids {
		s += " " + prefix(kid)
	}
	return s + "]"
}

// chain is an expression of so many parts, all in one another.
func chain(parts int, innermost api.Expr) api.Expr {
	for range parts - 1 {
		innermost = op("not", innermost)
	}
	return innermost
}

// sum is one of 2*n+1 parts.
func sum(n int) api.Expr {
	x := name("x")
	for range n {
		x = op("+", x, name("x"))
	}
	return x
}

// endless is an expression that is its own Kid.
func endless() api.Expr {
	kids := make([]api.Expr, 1)
	kids[0] = op("not", kids...)
	return kids[0]
}

type spoiltExpr struct {
	x    api.Expr
	want api.Errno
}

// spoilt holds what is no expression, with what Check says of it.
func spoilt() []spoiltExpr {
	large := lit(text(strings.Repeat("a", 101)))
	none := api.Expr{}
	v := lit(number(1))
	return []spoiltExpr{
		{none, api.ErrArg},
		{api.Expr{Kind: 4}, api.ErrArg},
		{api.Expr{Kind: -1, Name: "x"}, api.ErrArg},
		{api.Expr{Kind: math.MinInt, Value: number(1)}, api.ErrArg},
		{api.Expr{Kind: api.Lit}, api.ErrArg},
		{api.Expr{Kind: api.Lit, Name: "x", Value: number(1)}, api.ErrArg},
		{api.Expr{Kind: api.Lit, Value: number(1), Kids: []api.Expr{v}}, api.ErrArg},
		{api.Expr{Kind: api.Lit, Name: "x", Value: large.Value}, api.ErrArg},
		{api.Expr{Kind: api.Lit, Value: large.Value, Kids: []api.Expr{v}}, api.ErrArg},
		{lit(truth(2)), api.ErrArg},
		{lit(text("\xff")), api.ErrArg},
		{large, api.ErrLarge},
		{name(""), api.ErrArg},
		{name("not"), api.ErrArg},
		{name("true"), api.ErrArg},
		{name("abcdefghi"), api.ErrArg},
		{api.Expr{Kind: api.Name, Name: "x", Value: number(0)}, api.ErrArg},
		{api.Expr{Kind: api.Name, Name: "x", Value: large.Value}, api.ErrArg},
		{api.Expr{Kind: api.Name, Name: "x", Value: api.Value{S: "a"}}, api.ErrArg},
		{api.Expr{Kind: api.Name, Name: "x", Value: api.Value{N: 1}}, api.ErrArg},
		{api.Expr{Kind: api.Name, Name: "x", Kids: []api.Expr{v}}, api.ErrArg},
		{op(""), api.ErrArg},
		{op("", v), api.ErrArg},
		{op("", v, v), api.ErrArg},
		{op("x"), api.ErrArg},
		{op("not"), api.ErrArg},
		{op("not", v, v), api.ErrArg},
		{op("-", v), api.ErrArg},
		{op("neg", v, v), api.ErrArg},
		{op("#", v, v), api.ErrArg},
		{op("+"), api.ErrArg},
		{op("+", v), api.ErrArg},
		{op("+", v, v, v), api.ErrArg},
		{op(">", v, v), api.ErrArg},
		{op("=", v, v), api.ErrArg},
		{op("+ ", v, v), api.ErrArg},
		{op("!=", v, v), api.ErrArg},
		{op("+", make([]api.Expr, 100)...), api.ErrArg},
		{api.Expr{Kind: api.Op, Name: "+", Value: number(1), Kids: []api.Expr{v, v}}, api.ErrArg},
		{api.Expr{Kind: api.Op, Name: "not", Value: large.Value, Kids: []api.Expr{v}}, api.ErrArg},
		// The first one in going through is told: outermost first, then Kids in order.
		{op("+", large, none), api.ErrLarge},
		{op("+", none, large), api.ErrArg},
		{op("+", op("not", large), none), api.ErrLarge},
		{op("+", op("not", none), large), api.ErrArg},
		{op("++", large, large, large), api.ErrArg},
		{op("not", op("+", v, op("*", v, large))), api.ErrLarge},
		// Too many parts.
		{chain(61, name("x")), api.ErrLarge},
		{chain(61, none), api.ErrLarge},
		{chain(60, none), api.ErrArg},
		{chain(60, large), api.ErrLarge},
		{op("+", sum(29), none), api.ErrLarge},
		{op("+", sum(30), none), api.ErrLarge},
		{op("+", none, sum(30)), api.ErrArg},
		{sum(30), api.ErrLarge},
		{endless(), api.ErrLarge},
	}
}

func TestP6IsName(t *testing.T) {
	for _, s := range []string{"a", "z", "x", "abcdefgh", "zzzzzzzz", "nota", "ands", "an", "o", "orr", "tru", "truee", "neg", "stop", "end", "int"} {
		if !exprs.IsName(s) {
			t.Errorf("%q is a name", s)
		}
	}
	for _, s := range []string{
		"", "true", "false", "and", "or", "not", "abcdefghi", strings.Repeat("a", 100000), "A", "aB", "a1", "1", "a b", " a", "a ", "a_b",
		"é", "a\x00", "\xff", "`", "{", "a`", "a{", "#", "+", "a\n",
	} {
		if exprs.IsName(s) {
			t.Errorf("%q is no name", s)
		}
	}
	for c := range 256 {
		if got, want := exprs.IsName(string([]byte{byte(c)})), 97 <= c && c <= 122; got != want {
			t.Errorf("byte %d: %v", c, got)
		}
	}
}

func TestP6CheckTakesExpressions(t *testing.T) {
	leaves := []api.Expr{name("abcdefgh"), lit(number(math.MinInt64)), lit(truth(0)), lit(text(strings.Repeat("a", 100)))}
	more := append(deeper(leaves), chain(60, name("x")), sum(29), op("not", sum(29)),
		api.Expr{Kind: api.Lit, Value: number(0), Kids: []api.Expr{}}, api.Expr{Kind: api.Name, Name: "x", Kids: []api.Expr{}})
	for _, x := range more {
		if e := exprs.Check(x); e != api.OK {
			t.Errorf("Check(%s) = %d", prefix(x), e)
		}
	}
}

func TestP6CheckRefusesOthers(t *testing.T) {
	for i, s := range spoilt() {
		if e := exprs.Check(s.x); e != s.want {
			t.Errorf("spoilt %d: %d, want %d", i, e, s.want)
		}
	}
}

func TestP6EachOperatorIsOfItsNumberOfKids(t *testing.T) {
	for kids := range 4 {
		x := slices.Repeat([]api.Expr{name("x")}, kids)
		for _, o := range ofOne {
			if e := exprs.Check(op(o, x...)); (e == api.OK) != (kids == 1) {
				t.Errorf("%s of %d: %d", o, kids, e)
			}
		}
		for _, o := range ofTwo {
			if e := exprs.Check(op(o, x...)); (e == api.OK) != (kids == 2) {
				t.Errorf("%s of %d: %d", o, kids, e)
			}
		}
	}
}

func TestP6CallsSayWhatCheckSaysFirst(t *testing.T) {
	wrong := api.Value{Sort: 9}
	for i, s := range spoilt() {
		if w, e := exprs.Write(s.x); w != "" || e != s.want {
			t.Errorf("Write of %d: %q, %d", i, w, e)
		}
		if n, e := exprs.Sort(s.x, []string{"x"}, nil); n != 0 || e != s.want {
			t.Errorf("Sort of %d: %d, %d", i, n, e)
		}
		if v, e := exprs.Eval(s.x, []api.Bind{{Name: "x", Value: wrong}}); v != (api.Value{}) || e != s.want {
			t.Errorf("Eval of %d: %v, %d", i, v, e)
		}
		if x, e := exprs.Put(s.x, "x", wrong); !reflect.DeepEqual(x, api.Expr{}) || e != s.want {
			t.Errorf("Put of %d: %v, %d", i, x, e)
		}
		if n, e := exprs.Names(s.x); n != nil || e != s.want {
			t.Errorf("Names of %d: %v, %d", i, n, e)
		}
		if x, e := exprs.Fold(s.x); !reflect.DeepEqual(x, api.Expr{}) || e != s.want {
			t.Errorf("Fold of %d: %v, %d", i, x, e)
		}
	}
}

// parsed is for texts of which a test takes it for granted that they are read.
func parsed(t *testing.T, s string) api.Expr {
	t.Helper()
	x, f := exprs.Parse(s)
	if f.Code != api.OK {
		t.Fatalf("Parse(%q): %v", s, f)
	}
	return x
}

func TestP10Put(t *testing.T) {
	for _, x := range []struct {
		s, name string
		v       api.Value
		want    string
	}{
		{"x", "x", number(5), "5"},
		{"x", "y", number(5), "x"},
		{"x", "", number(5), "x"},
		{"x + y * x", "x", number(-1), "-1 + y * -1"},
		{"not x == - #x", "x", text("x"), `not "x" == - #"x"`},
		{"xx + x", "x", truth(1), "xx + true"},
		// Neither an operator nor a text is a name.
		{"not x", "not", number(5), "not x"},
		{"- neg", "neg", number(5), "- 5"},
		{"x + 1", "+", number(5), "x + 1"},
		{`"x" ++ x`, "x", text(""), `"x" ++ ""`},
		{"1", "x", number(5), "1"},
	} {
		y, e := exprs.Put(parsed(t, x.s), x.name, x.v)
		if want := parsed(t, x.want); e != api.OK || prefix(y) != prefix(want) || exprs.Check(y) != api.OK {
			t.Errorf("Put(%s, %s): %s, %d, want %s", x.s, x.name, prefix(y), e, x.want)
		}
	}
	if y, e := exprs.Put(sum(29), "x", number(7)); e != api.OK || strings.Count(prefix(y), "7") != 30 {
		t.Errorf("Put into 30 names: %v, %d", y, e)
	}
}

func TestP10PutRefusesWhatIsNoValue(t *testing.T) {
	for v, want := range map[api.Value]api.Errno{
		{}: api.ErrArg, truth(2): api.ErrArg, text("\xff"): api.ErrArg, text(strings.Repeat("a", 101)): api.ErrLarge,
	} {
		for _, x := range []api.Expr{name("x"), name("y"), lit(number(1))} {
			if y, e := exprs.Put(x, "x", v); !reflect.DeepEqual(y, api.Expr{}) || e != want {
				t.Errorf("Put of %v: %v, %d, want %d", v, y, e, want)
			}
		}
	}
}

func TestP10Names(t *testing.T) {
	for s, want := range map[string]string{
		"1": "", "x": "x", "x + x": "x", "b + a * c": "a b c", "z == (y == (x == z))": "x y z", "not #- q": "q",
		`"x" ++ y`: "y", "ab + a + b + abc + aa": "a aa ab abc b", "neg": "neg", "true and false": "",
	} {
		names, e := exprs.Names(parsed(t, s))
		if strings.Join(names, " ") != want || e != api.OK {
			t.Errorf("Names(%s) = %v, %d, want %s", s, names, e, want)
		}
	}
}

func TestP10Fold(t *testing.T) {
	for s, want := range map[string]string{
		"1":                       "1",
		"x":                       "x",
		"1 + 2 * 3":               "7",
		"x + 2 * 3":               "x + 6",
		"x + 2 + 3":               "x + 2 + 3",
		"2 + 3 + x":               "5 + x",
		"- 5":                     "-5",
		"- - 5":                   "5",
		"- x":                     "- x",
		"not (1 < 2)":             "false",
		`#("a" ++ "b") + x`:       "2 + x",
		"1 / 0 + x % (7 % 0)":     "0 + x % 7",
		"(1 < 2 or y) and 2 <= 2": "(true or y) and true",
		// What has no sort stays, with what is folded inside of it, and what is around it.
		"1 + true":                 "1 + true",
		"(1 + 2) + true":           "3 + true",
		"1 + (not false)":          "1 + true",
		"not (1 + 2)":              "not 3",
		"(1 + true) == (2 + 3)":    "1 + true == 5",
		"1 == true":                "1 == true",
		"#5 + (1 - 2)":             "#5 + -1",
		"-9223372036854775808 - 1": "9223372036854775807",
	} {
		y, e := exprs.Fold(parsed(t, s))
		if w := parsed(t, want); prefix(y) != prefix(w) || e != api.OK || exprs.Check(y) != api.OK {
			t.Errorf("Fold(%s) = %s, %d, want %s", s, prefix(y), e, want)
		}
	}
	if y, e := exprs.Fold(chain(60, lit(truth(0)))); prefix(y) != "true" || e != api.OK {
		t.Errorf("Fold of 60 parts: %s, %d", prefix(y), e)
	}
}

// hasFoldable says whether an operator in x has values alone, and a sort.
func hasFoldable(x api.Expr) bool {
	values := true
	for _, kid := range x.Kids {
		if hasFoldable(kid) {
			return true
		}
		values = values && kid.Kind == api.Lit
	}
	_, e := exprs.Sort(x, nil, nil)
	return x.Kind == api.Op && values && e == api.OK
}

func TestP10FoldSaysWhatEvalSays(t *testing.T) {
	env := []api.Bind{{Name: "x", Value: number(7)}}
	for _, x := range deeper(deeper([]api.Expr{name("x"), lit(number(3)), lit(text("ab"))})) {
		y, e := exprs.Fold(x)
		if e != api.OK || hasFoldable(y) {
			t.Fatalf("Fold(%s) = %s, %d", prefix(x), prefix(y), e)
		}
		v, e := exprs.Eval(x, env)
		w, f := exprs.Eval(y, env)
		if v != w || e != f {
			t.Fatalf("%s is %v, %d, but folded %v, %d", prefix(x), v, e, w, f)
		}
		if u, e := exprs.Eval(x, nil); e == api.OK && prefix(y) != prefix(lit(u)) {
			t.Fatalf("Fold(%s) = %s, not %v", prefix(x), prefix(y), u)
		}
	}
}
