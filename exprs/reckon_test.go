package exprs_test

import (
	"math"
	"strings"
	"testing"

	"duet/api"
	"duet/exprs"
	"duet/values"
)

func TestP9SortOfOperators(t *testing.T) {
	// The three letters: Int, Bool, Text; then what it is.
	for o, want := range map[string]string{
		"not": "-2-", "neg": "1--", "#": "--1",
	} {
		for i, v := range []api.Value{number(1), truth(1), text("a")} {
			wantSort(t, op(o, lit(v)), want[i])
		}
	}
	// Pairs: II IB IT BI BB BT TI TB TT.
	for o, want := range map[string]string{
		"or": "----2----", "and": "----2----", "==": "2---2---2", "<": "2---2---2", "<=": "2---2---2",
		"+": "1--------", "-": "1--------", "*": "1--------", "/": "1--------", "%": "1--------", "++": "--------3",
	} {
		for i, v := range []api.Value{number(1), truth(1), text("a")} {
			for j, w := range []api.Value{number(1), truth(1), text("a")} {
				wantSort(t, op(o, lit(v), lit(w)), want[3*i+j])
			}
		}
	}
}

// wantSort takes a digit for a sort, anything else for ErrSort.
func wantSort(t *testing.T, x api.Expr, want byte) {
	t.Helper()
	n, e := exprs.Sort(x, nil, nil)
	if want == '-' && (n != 0 || e != api.ErrSort) || want != '-' && (n != int(want-'0') || e != api.OK) {
		t.Errorf("Sort(%s) = %d, %d, want %c", prefix(x), n, e, want)
	}
}

func TestP9SortOfNames(t *testing.T) {
	names, sorts := []string{"x", "y", "x", "odd", "nought", "", "not"}, []int{api.Int, api.Bool, api.Text, -7, 0, 1, 2}
	for s, want := range map[string]int{
		"x": api.Text, "y": api.Bool, "odd": -7, "nought": 0, "5": api.Int, "#x": api.Int, "y or y": api.Bool, "x ++ x": api.Text,
		"odd == odd": api.Bool, "nought < nought": api.Bool, "nought <= nought": api.Bool,
	} {
		if n, e := exprs.Sort(parsed(t, s), names, sorts); n != want || e != api.OK {
			t.Errorf("Sort(%s) = %d, %d, want %d", s, n, e, want)
		}
	}
	for s, want := range map[string]api.Errno{
		"z": api.ErrName, "xx": api.ErrName, "x + 1": api.ErrSort, "odd + 1": api.ErrSort, "- odd": api.ErrSort, "nought + nought": api.ErrSort,
		"#nought": api.ErrSort, "nought and y": api.ErrSort, "odd == nought": api.ErrSort, "nought == odd": api.ErrSort, "nought == 1": api.ErrSort,
	} {
		if n, e := exprs.Sort(parsed(t, s), names, sorts); n != 0 || e != want {
			t.Errorf("Sort(%s) = %d, %d, want error %d", s, n, e, want)
		}
	}
}

func TestP9SortTellsTheFirstError(t *testing.T) {
	for s, want := range map[string]api.Errno{
		"y":                api.ErrName,
		"1 + true":         api.ErrSort,
		"true + y":         api.ErrSort,
		"y + true":         api.ErrName,
		"1 + y":            api.ErrName,
		"1 + (y + true)":   api.ErrName,
		"1 + (true + y)":   api.ErrSort,
		"(1 ++ y) + y":     api.ErrSort,
		"(y ++ 1) + true":  api.ErrName,
		"(1 < 2) + y":      api.ErrSort,
		"1 == y":           api.ErrName,
		"y == 1":           api.ErrName,
		"1 == true":        api.ErrSort,
		"1 == (true + y)":  api.ErrSort,
		"#1 + y":           api.ErrSort,
		"#y + #1":          api.ErrName,
		"not y":            api.ErrName,
		"not (1 + y)":      api.ErrName,
		"not 1 or y":       api.ErrSort,
		"(1 == 2) == 1":    api.ErrSort,
		"true and 1 and y": api.ErrSort,
	} {
		if n, e := exprs.Sort(parsed(t, s), nil, nil); n != 0 || e != want {
			t.Errorf("Sort(%s) = %d, %d, want error %d", s, n, e, want)
		}
		if v, e := exprs.Eval(parsed(t, s), nil); v != (api.Value{}) || e != want {
			t.Errorf("Eval(%s) = %v, %d, want error %d", s, v, e, want)
		}
	}
}

func TestP9SortWantsAsManyNamesAsSorts(t *testing.T) {
	for _, x := range []struct {
		names []string
		sorts []int
	}{{nil, []int{1}}, {[]string{"x"}, nil}, {[]string{"x"}, []int{1, 1}}, {[]string{"x", "y"}, []int{1}}} {
		// Ahead of ErrName and ErrSort, and also where no name is asked for.
		for _, s := range []string{"1", "x", "q", "1 + true"} {
			if n, e := exprs.Sort(parsed(t, s), x.names, x.sorts); n != 0 || e != api.ErrArg {
				t.Errorf("Sort(%s, %v, %v) = %d, %d", s, x.names, x.sorts, n, e)
			}
		}
	}
	if n, e := exprs.Sort(lit(number(1)), []string{}, nil); n != api.Int || e != api.OK {
		t.Errorf("no names, no sorts: %d, %d", n, e)
	}
}

func TestP9Eval(t *testing.T) {
	env := []api.Bind{
		{Name: "x", Value: text("old")}, {Name: "x", Value: number(2)}, {Name: "min", Value: number(math.MinInt64)}, {Name: "max", Value: number(math.MaxInt64)},
		{Name: "t", Value: truth(1)}, {Name: "f", Value: truth(0)}, {Name: "long", Value: text(strings.Repeat("é", 50))},
	}
	for s, want := range map[string]string{
		"1 - 2 - 3 * x": "-7", "7": "7", "x": "2", "long == long": "true", `"a"`: `"a"`,
		"7 / 2": "3", "-7 / 2": "-3", "7 / -2": "-3", "-7 / -2": "3", "7 / 0": "0", "-7 / 0": "0", "0 / 0": "0", "min / 0": "0",
		"7 % 2": "1", "-7 % 2": "-1", "7 % -2": "1", "-7 % -2": "-1", "7 % 0": "7", "-7 % 0": "-7", "0 % 0": "0", "min % 0": "-9223372036854775808",
		"min / -1": "-9223372036854775808", "min % -1": "0", "max % min": "9223372036854775807", "min % max": "-1",
		"max + 1": "-9223372036854775808", "min - 1": "9223372036854775807", "max * max": "1", "min * -1": "-9223372036854775808", "max * 2": "-2",
		"- min": "-9223372036854775808", "- max": "-9223372036854775807", "- - x": "2", "- 0": "0",
		"t or t": "true", "t or f": "true", "f or t": "true", "f or f": "false",
		"t and t": "true", "t and f": "false", "f and t": "false", "f and f": "false", "not t": "false", "not f": "true",
		"1 == 1": "true", "1 == 2": "false", "1 < 1": "false", "1 < 2": "true", "2 < 1": "false", "1 <= 1": "true", "1 <= 2": "true", "2 <= 1": "false",
		"min < max": "true", "max < min": "false", "-1 < 0": "true", "f < t": "true", "t < f": "false", "t <= t": "true", "t == t": "true", "t == f": "false",
		`"a" < "b"`: "true", `"b" <= "a"`: "false", `"" < "a"`: "true", `"Z" < "a"`: "true", `"é" < "z"`: "false", `"a" == "a"`: "true", `"a" <= "a"`: "true",
		`"10" < "9"`: "true", "10 < 9": "false", "1 < 2 == t": "true",
		`"a" ++ "b"`: `"ab"`, `"" ++ ""`: `""`, `long ++ "a" == long`: "true", `#("a" ++ long)`: "50", `#(long ++ long)`: "50",
		`#""`: "0", `#"ab" + x`: "4", `#"é"`: "1", "#long": "50", `"a\n" ++ "\"\\"`: `"a\n\"\\"`,
	} {
		v, e := exprs.Eval(parsed(t, s), env)
		if w, _ := values.Write(v); w != want || e != api.OK {
			t.Errorf("Eval(%s) = %v, %d, want %s", s, v, e, want)
		}
	}
}

func TestP9EvalChecksItsValuesAheadOfSorts(t *testing.T) {
	none, large := api.Bind{Name: "q", Value: api.Value{}}, api.Bind{Name: "q", Value: text(strings.Repeat("a", 101))}
	good := api.Bind{Name: "x", Value: number(1)}
	for _, x := range []struct {
		env  []api.Bind
		want api.Errno
	}{
		{[]api.Bind{none}, api.ErrArg}, {[]api.Bind{large}, api.ErrLarge}, {[]api.Bind{good, large, none}, api.ErrLarge}, {[]api.Bind{none, large, good}, api.ErrArg},
		// One that a later one of its name hides counts too.
		{[]api.Bind{{Name: "x", Value: truth(2)}, good}, api.ErrArg},
	} {
		for _, s := range []string{"1", "x", "missing", "1 + true"} {
			if v, e := exprs.Eval(parsed(t, s), x.env); v != (api.Value{}) || e != x.want {
				t.Errorf("Eval(%s, %v) = %v, %d, want %d", s, x.env, v, e, x.want)
			}
		}
	}
}

func TestP9EvalTakesTheLastOfAName(t *testing.T) {
	env := []api.Bind{{Name: "x", Value: number(1)}, {Name: "x", Value: truth(1)}, {Name: "y", Value: number(3)}, {Name: "", Value: number(4)}}
	if v, e := exprs.Eval(name("x"), env); v != truth(1) || e != api.OK {
		t.Errorf("x: %v, %d", v, e)
	}
	if v, e := exprs.Eval(op("neg", name("x")), env); v != (api.Value{}) || e != api.ErrSort {
		t.Errorf("- x: %v, %d", v, e)
	}
}

func TestP9EvalKeepsToSort(t *testing.T) {
	env := []api.Bind{{Name: "x", Value: number(0)}, {Name: "y", Value: truth(1)}}
	names, sorts := []string{"x", "y"}, []int{api.Int, api.Bool}
	for _, x := range deeper(deeper([]api.Expr{name("x"), name("y"), name("z"), lit(text("é"))})) {
		n, e := exprs.Sort(x, names, sorts)
		v, f := exprs.Eval(x, env)
		if n != v.Sort || e != f {
			t.Fatalf("%s: sort %d, %d, but %v, %d", prefix(x), n, e, v, f)
		}
		if e == api.OK && values.Check(v) != api.OK {
			t.Fatalf("%s is %v", prefix(x), v)
		}
	}
}

func TestP9NumbersRunOver(t *testing.T) {
	edges := []int64{0, 1, -1, 2, -2, 3, 10, math.MaxInt32, math.MinInt32, 1 << 32, math.MaxInt64, math.MaxInt64 - 1, math.MinInt64, math.MinInt64 + 1}
	for _, a := range edges {
		for _, b := range edges {
			want := map[string]int64{
				"+": int64(uint64(a) + uint64(b)), "-": int64(uint64(a) - uint64(b)), "*": int64(uint64(a) * uint64(b)),
			}
			for o, n := range want {
				if v, e := exprs.Eval(op(o, lit(number(a)), lit(number(b))), nil); v != number(n) || e != api.OK {
					t.Errorf("%d %s %d = %v, %d, want %d", a, o, b, v, e, n)
				}
			}
			q, _ := exprs.Eval(op("/", lit(number(a)), lit(number(b))), nil)
			r, _ := exprs.Eval(op("%", lit(number(a)), lit(number(b))), nil)
			if int64(uint64(q.N)*uint64(b)+uint64(r.N)) != a {
				t.Errorf("%d by %d: %d leaves %d", a, b, q.N, r.N)
			}
		}
	}
}
