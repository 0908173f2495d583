package exprs_test

import (
	"math"
	"reflect"
	"strings"
	"testing"

	"duet/api"
	"duet/exprs"
)

func TestP8Write(t *testing.T) {
	x, y, z := name("x"), name("y"), name("z")
	five, minus := lit(number(5)), lit(number(-5))
	for _, c := range []struct {
		x    api.Expr
		want string
	}{
		{five, "5"}, {minus, "-5"}, {x, "x"}, {lit(truth(1)), "true"}, {lit(text("a\n\"\\")), `"a\n\"\\"`}, {lit(number(math.MinInt64)), "-9223372036854775808"},
		{op("not", x), "not x"}, {op("neg", x), "- x"}, {op("#", x), "#x"},
		{op("neg", five), "- 5"}, {op("neg", minus), "- -5"}, {op("#", minus), "#-5"}, {op("not", minus), "not -5"},
		{op("neg", op("neg", x)), "- - x"}, {op("not", op("not", x)), "not not x"}, {op("#", op("#", x)), "##x"},
		{op("#", op("not", op("neg", x))), "#not - x"}, {op("neg", op("#", x)), "- #x"},
		{op("+", minus, minus), "-5 + -5"}, {op("-", x, op("neg", y)), "x - - y"}, {op("-", op("neg", x), y), "- x - y"},
		{op("neg", op("-", x, y)), "- (x - y)"}, {op("#", op("++", x, y)), "#(x ++ y)"}, {op("not", op("or", x, y)), "not (x or y)"},
		{op("-", op("-", x, y), z), "x - y - z"}, {op("-", x, op("-", y, z)), "x - (y - z)"},
		{op("+", x, op("++", y, z)), "x + (y ++ z)"}, {op("++", op("+", x, y), z), "x + y ++ z"},
		{op("*", op("+", x, y), z), "(x + y) * z"}, {op("*", x, op("+", y, z)), "x * (y + z)"},
		{op("+", op("*", x, y), z), "x * y + z"}, {op("+", x, op("*", y, z)), "x + y * z"},
		{op("==", op("<", x, y), z), "x < y == z"}, {op("==", x, op("<", y, z)), "x == (y < z)"},
		{op("and", op("or", x, y), z), "(x or y) and z"}, {op("or", op("and", x, y), z), "x and y or z"},
		{op("or", x, op("or", y, z)), "x or (y or z)"}, {op("and", x, op("==", y, z)), "x and y == z"},
		{op("%", op("not", op("/", x, y)), op("<=", x, y)), "not (x / y) % (x <= y)"},
	} {
		if s, e := exprs.Write(c.x); s != c.want || e != api.OK {
			t.Errorf("Write(%s) = %q, %d, want %q", prefix(c.x), s, e, c.want)
		}
	}
}

func TestP8BracketsByLevels(t *testing.T) {
	a, b, c := name("a"), name("b"), name("c")
	for outer, high := range levels {
		for inner, low := range levels {
			left, right := "a "+inner+" b", "b "+inner+" c"
			if low < high {
				left = "(" + left + ")"
			}
			if low <= high {
				right = "(" + right + ")"
			}
			if s, e := exprs.Write(op(outer, op(inner, a, b), c)); s != left+" "+outer+" c" || e != api.OK {
				t.Errorf("%s on the left of %s: %q, %d", inner, outer, s, e)
			}
			if s, e := exprs.Write(op(outer, a, op(inner, b, c))); s != "a "+outer+" "+right || e != api.OK {
				t.Errorf("%s on the right of %s: %q, %d", inner, outer, s, e)
			}
		}
	}
}

// withoutBrackets takes one pair away: the one that begins at open.
func withoutBrackets(s string, open int) string {
	depth := 0
	for i := open; ; i++ {
		switch s[i] {
		case '(':
			depth++
		case ')':
			depth--
		}
		if depth == 0 {
			return s[:open] + s[open+1:i] + s[i+1:]
		}
	}
}

func TestP8WhatIsWrittenIsReadAsItWasAndNeedsItsBrackets(t *testing.T) {
	for _, x := range deeper(deeper([]api.Expr{name("x"), lit(number(-5))})) {
		s, e := exprs.Write(x)
		if e != api.OK {
			t.Fatalf("Write(%s): %d", prefix(x), e)
		}
		if y, f := exprs.Parse(s); !reflect.DeepEqual(x, y) || f != (api.Fault{}) {
			t.Fatalf("Parse(%q) = %s, %v, want %s", s, prefix(y), f, prefix(x))
		}
		for i := range len(s) {
			if s[i] != '(' {
				continue
			}
			if y, _ := exprs.Parse(withoutBrackets(s, i)); prefix(y) == prefix(x) {
				t.Fatalf("%q has brackets that it does not need", s)
			}
		}
	}
}

func TestP8WritesTheLargest(t *testing.T) {
	x := lit(text(strings.Repeat("\n", 100)))
	for range 29 {
		x = op("++", lit(text(strings.Repeat("\n", 100))), x)
	}
	one := `"` + strings.Repeat(`\n`, 100) + `"`
	want := strings.Repeat(one+" ++ (", 28) + one + " ++ " + one + strings.Repeat(")", 28)
	if s, e := exprs.Write(x); s != want || e != api.OK {
		t.Errorf("%d bytes, %d, want %d", len(s), e, len(want))
	}
}
