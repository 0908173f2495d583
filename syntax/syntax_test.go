package syntax_test

import (
	"math"
	"slices"
	"strings"
	"testing"

	"duet/api"
	"duet/exprs"
	"duet/syntax"
	"duet/types"
)

// expr is for texts of which a test takes it for granted that they are read.
func expr(s string) api.Expr {
	x, f := exprs.Parse(s)
	if f.Code != api.OK {
		panic(s)
	}
	return x
}

// typed is as expr.
func typed(s string) api.Type {
	t, f := types.Parse(s)
	if f.Code != api.OK {
		panic(s)
	}
	return t
}

func stop() api.Proc { return api.Proc{Kind: api.Stop} }

func ends(next ...api.Proc) api.Proc { return api.Proc{Kind: api.PEnd, Chan: "c", Kids: next} }

// row is a process of so many ones.
func row(procs int) api.Proc {
	p := stop()
	for range procs - 1 {
		p = ends(p)
	}
	return p
}

func main(body api.Proc) api.Program {
	return api.Program{Defs: []api.Def{{Name: "main", Body: body}}}
}

func letters(n int) []string { return strings.Split("abcdefghijklmnop", "")[:n] }

func stops(n int) []api.Proc {
	var out []api.Proc
	for range n {
		out = append(out, stop())
	}
	return out
}

// soundProc is a process, the text that is written of it, and what its kind has.
type soundProc struct {
	p    api.Proc
	s    string
	has  string
	kids int
}

// sound has one process of each kind, in the order of kinds.
func sound() []soundProc {
	return []soundProc{
		{stop(), "stop", "", 0},
		{api.Proc{Kind: api.PSend, Chan: "c", Expr: expr("x + 1"), Kids: stops(1)}, "send c x + 1; stop", "Chan Expr", 1},
		{api.Proc{Kind: api.PRecv, Chan: "c", Name: "x", Kids: stops(1)}, "recv c x; stop", "Chan Name", 1},
		{api.Proc{Kind: api.PGive, Chan: "c", Name: "d", Kids: stops(1)}, "give c d; stop", "Chan Name", 1},
		{api.Proc{Kind: api.PTake, Chan: "c", Name: "d", Kids: stops(1)}, "take c d; stop", "Chan Name", 1},
		{api.Proc{Kind: api.PPick, Chan: "c", Label: "go", Kids: stops(1)}, "pick c go; stop", "Chan Label", 1},
		{api.Proc{Kind: api.PCase, Chan: "c", Labels: []string{"go", "no"}, Kids: []api.Proc{ends(stop()), stop()}}, "case c {go: end c; stop, no: stop}", "Chan Labels", 2},
		{ends(stop()), "end c; stop", "Chan", 1},
		{api.Proc{Kind: api.Spawn, Chan: "c", Type: typed("rec t.!int.t"), Names: []string{"d", "e"}, Kids: []api.Proc{ends(stop()), stop()}}, "spawn c:rec t.!int.t (d, e) {end c; stop}; stop", "Chan Type Names", 2},
		{api.Proc{Kind: api.If, Expr: expr("x < 1"), Kids: []api.Proc{ends(stop()), stop()}}, "if x < 1 {end c; stop} else {stop}", "Expr", 2},
		{api.Proc{Kind: api.Let, Name: "x", Expr: expr("- 5"), Kids: stops(1)}, "let x = - 5; stop", "Name Expr", 1},
		{api.Proc{Kind: api.Print, Expr: expr(`"a\n"`), Kids: stops(1)}, `print "a\n"; stop`, "Expr", 1},
		{api.Proc{Kind: api.Call, Name: "f", Exprs: []api.Expr{expr("x"), expr("not y")}, Names: []string{"c", "d"}}, "f(x, not y; c, d)", "Proc Exprs Names", 0},
	}
}

func TestP24IsProc(t *testing.T) {
	for _, s := range []string{"a", "z", "main", "abcdefgh", "neg", "int", "rec", "stops", "sto", "ende", "en", "iff", "i", "defs", "lets", "elsee", "fi"} {
		if !syntax.IsProc(s) {
			t.Errorf("%q is a name of a process", s)
		}
	}
	for _, s := range []string{
		"def", "stop", "send", "recv", "give", "take", "pick", "case", "end", "spawn", "if", "else", "let", "print",
		"true", "false", "and", "or", "not", "", "abcdefghi", "A", "a1", "a ", " a", "é", "\xff", "a\x00", "`", "{", strings.Repeat("a", 100000),
	} {
		if syntax.IsProc(s) {
			t.Errorf("%.20q is no name of a process", s)
		}
	}
}

func TestP24ShapeTakesPrograms(t *testing.T) {
	many := api.Def{Name: "f", Values: letters(6), Sorts: []int{1, 2, 3, 3, 2, 1}, Chans: letters(6), Types: slices.Repeat([]api.Type{typed("end")}, 6), Body: stop()}
	programs := []api.Program{
		main(row(200)),
		{Defs: []api.Def{many}},
		{Defs: slices.Repeat([]api.Def{many}, 10)},
		{Defs: slices.Repeat([]api.Def{{Name: "f", Body: row(20)}}, 10)},
		// Lists that have nothing in them, and names that are words elsewhere.
		{Defs: []api.Def{{Name: "f", Values: []string{}, Sorts: []int{}, Chans: []string{}, Types: []api.Type{}, Body: api.Proc{Kind: api.Stop, Expr: api.Expr{Kids: []api.Expr{}}, Exprs: []api.Expr{}, Names: []string{}, Type: api.Type{Labels: []string{}, Kids: []api.Type{}}, Labels: []string{}, Kids: []api.Proc{}}}}},
		{Defs: []api.Def{{Name: "f", Values: []string{"def", "def"}, Sorts: []int{1, 1}, Chans: []string{"stop", "def"}, Types: []api.Type{typed("end"), typed("end")}, Body: api.Proc{Kind: api.PSend, Chan: "send", Expr: expr("send"), Kids: stops(1)}}}},
	}
	for _, x := range sound() {
		programs = append(programs, main(x.p))
	}
	for i, p := range programs {
		if e := syntax.Shape(p); e != api.OK {
			t.Errorf("program %d: %d", i, e)
		}
	}
}

func TestP25ShapeOfHowManyDefinitions(t *testing.T) {
	good, bad := api.Def{Name: "f", Body: stop()}, api.Def{}
	for i, x := range []struct {
		defs []api.Def
		want api.Errno
	}{
		{nil, api.ErrArg}, {[]api.Def{}, api.ErrArg}, {slices.Repeat([]api.Def{good}, 10), api.OK}, {slices.Repeat([]api.Def{good}, 11), api.ErrLarge}, {slices.Repeat([]api.Def{bad}, 11), api.ErrLarge}, {slices.Repeat([]api.Def{bad}, 10), api.ErrArg}, {slices.Repeat([]api.Def{good}, 1000), api.ErrLarge},
	} {
		if e := syntax.Shape(api.Program{Defs: x.defs}); e != x.want {
			t.Errorf("%d: %d, want %d", i, e, x.want)
		}
	}
}

func TestP25ShapeOfHeads(t *testing.T) {
	end, none, free, large := typed("end"), api.Type{}, api.Type{Kind: api.Var, Name: "t"}, endlessType()
	idle := api.Type{Kind: api.Rec, Name: "t", Kids: []api.Type{free}}
	typesOf := func(ts ...api.Type) api.Def {
		return api.Def{Name: "f", Chans: letters(len(ts)), Types: ts, Body: stop()}
	}
	for i, x := range []struct {
		d    api.Def
		want api.Errno
	}{
		{api.Def{Body: stop()}, api.ErrArg}, {api.Def{Name: "stop", Body: stop()}, api.ErrArg}, {api.Def{Name: "true", Body: stop()}, api.ErrArg}, {api.Def{Name: "def", Body: stop()}, api.ErrArg}, {api.Def{Name: "F", Body: stop()}, api.ErrArg}, {api.Def{Name: "f"}, api.ErrArg},
		{api.Def{Name: "f", Values: []string{"a"}, Sorts: []int{1}, Body: stop()}, api.OK}, {api.Def{Name: "f", Values: []string{"a"}, Body: stop()}, api.ErrArg}, {api.Def{Name: "f", Sorts: []int{1}, Body: stop()}, api.ErrArg}, {api.Def{Name: "f", Values: []string{"a"}, Sorts: []int{1, 1}, Body: stop()}, api.ErrArg},
		{api.Def{Name: "f", Values: []string{"a", "true"}, Sorts: []int{1, 1}, Body: stop()}, api.ErrArg}, {api.Def{Name: "f", Values: []string{""}, Sorts: []int{1}, Body: stop()}, api.ErrArg}, {api.Def{Name: "f", Values: []string{"abcdefghi"}, Sorts: []int{1}, Body: stop()}, api.ErrArg},
		{api.Def{Name: "f", Values: letters(2), Sorts: []int{1, 0}, Body: stop()}, api.ErrArg}, {api.Def{Name: "f", Values: letters(2), Sorts: []int{4, 1}, Body: stop()}, api.ErrArg}, {api.Def{Name: "f", Values: letters(1), Sorts: []int{-1}, Body: stop()}, api.ErrArg}, {api.Def{Name: "f", Values: letters(1), Sorts: []int{math.MinInt}, Body: stop()}, api.ErrArg},
		{api.Def{Name: "f", Values: letters(6), Sorts: slices.Repeat([]int{1}, 6), Body: stop()}, api.OK}, {api.Def{Name: "f", Values: letters(7), Sorts: slices.Repeat([]int{1}, 7), Body: stop()}, api.ErrArg},
		{api.Def{Name: "f", Chans: []string{"a"}, Body: stop()}, api.ErrArg}, {api.Def{Name: "f", Types: []api.Type{end}, Body: stop()}, api.ErrArg}, {api.Def{Name: "f", Chans: letters(2), Types: []api.Type{end}, Body: stop()}, api.ErrArg},
		{api.Def{Name: "f", Chans: []string{"not"}, Types: []api.Type{end}, Body: stop()}, api.ErrArg}, {api.Def{Name: "f", Chans: []string{"a", ""}, Types: []api.Type{end, end}, Body: stop()}, api.ErrArg},
		{typesOf(slices.Repeat([]api.Type{end}, 6)...), api.OK}, {typesOf(slices.Repeat([]api.Type{end}, 7)...), api.ErrArg},
		{typesOf(free), api.ErrName}, {typesOf(idle), api.ErrType}, {typesOf(none), api.ErrArg}, {typesOf(large), api.ErrLarge}, {typesOf(end, free, idle), api.ErrName}, {typesOf(end, idle, free), api.ErrType}, {typesOf(large, none), api.ErrLarge}, {typesOf(none, large), api.ErrArg}, {typesOf(end, end, large), api.ErrLarge},
		// What is said of names, and of how many there are, goes ahead of what is said of types.
		{api.Def{Name: "f", Chans: letters(1), Types: []api.Type{free, free}, Body: stop()}, api.ErrArg}, {api.Def{Name: "end", Chans: letters(1), Types: []api.Type{large}, Body: stop()}, api.ErrArg}, {api.Def{Name: "f", Values: letters(1), Sorts: []int{9}, Chans: letters(1), Types: []api.Type{large}, Body: stop()}, api.ErrArg}, {api.Def{Name: "f", Chans: []string{"or"}, Types: []api.Type{large}, Body: stop()}, api.ErrArg}, {typesOf(slices.Repeat([]api.Type{large}, 7)...), api.ErrArg},
	} {
		if e := syntax.Shape(api.Program{Defs: []api.Def{x.d}}); e != x.want {
			t.Errorf("%d: %d, want %d", i, e, x.want)
		}
	}
}

// change of one field: what is said of a process that has the field, and of one that has it not. (A field is "Name", also where it is "Proc".)
type change struct {
	field      string
	do         func(p *api.Proc)
	had, unhad api.Errno
}

func changesOfNames() []change {
	var out []change
	for _, x := range []struct {
		name       string
		had, unhad api.Errno
	}{
		{"", api.ErrArg, api.OK}, {"q", api.OK, api.ErrArg}, {"abcdefgh", api.OK, api.ErrArg}, {"def", api.OK, api.ErrArg}, {"stop", api.OK, api.ErrArg}, {"print", api.OK, api.ErrArg},
		{"true", api.ErrArg, api.ErrArg}, {"not", api.ErrArg, api.ErrArg}, {"abcdefghi", api.ErrArg, api.ErrArg}, {"Q", api.ErrArg, api.ErrArg}, {"q ", api.ErrArg, api.ErrArg}, {"é", api.ErrArg, api.ErrArg}, {"\x00", api.ErrArg, api.ErrArg},
	} {
		out = append(out,
			change{"Chan", func(p *api.Proc) { p.Chan = x.name }, x.had, x.unhad},
			change{"Name", func(p *api.Proc) { p.Name = x.name }, x.had, x.unhad},
			change{"Label", func(p *api.Proc) { p.Label = x.name }, x.had, x.unhad},
			change{"Names", func(p *api.Proc) { p.Names = []string{"a", x.name} }, x.had, api.ErrArg})
	}
	for n, had := range map[int]api.Errno{1: api.OK, 5: api.OK, 6: api.OK, 7: api.ErrArg, 16: api.ErrArg} {
		out = append(out, change{"Names", func(p *api.Proc) { p.Names = letters(n) }, had, api.ErrArg})
	}
	return append(out,
		change{"Names", func(p *api.Proc) { p.Names = nil }, api.OK, api.OK},
		change{"Names", func(p *api.Proc) { p.Names = []string{} }, api.OK, api.OK},
		change{"Names", func(p *api.Proc) { p.Names = []string{"a", "a"} }, api.OK, api.ErrArg})
}

func endlessExpr() api.Expr {
	x := api.Expr{Kind: api.Op, Name: "#", Kids: make([]api.Expr, 1)}
	x.Kids[0] = x
	return x
}

func changesOfExprs() []change {
	large, long, none := endlessExpr(), api.Expr{Kind: api.Lit, Value: api.Value{Sort: api.Text, S: strings.Repeat("a", 101)}}, api.Expr{Kind: 9}
	var out []change
	for _, x := range []struct {
		x          api.Expr
		had, unhad api.Errno
	}{
		{api.Expr{}, api.ErrArg, api.OK}, {api.Expr{Kids: []api.Expr{}}, api.ErrArg, api.OK}, {expr("1"), api.OK, api.ErrArg}, {expr("x"), api.OK, api.ErrArg}, {large, api.ErrLarge, api.ErrArg}, {long, api.ErrLarge, api.ErrArg}, {none, api.ErrArg, api.ErrArg},
		{api.Expr{Name: "x"}, api.ErrArg, api.ErrArg}, {api.Expr{Value: api.Value{N: 1}}, api.ErrArg, api.ErrArg}, {api.Expr{Value: api.Value{S: "x"}}, api.ErrArg, api.ErrArg}, {api.Expr{Value: api.Value{Sort: 1}}, api.ErrArg, api.ErrArg}, {api.Expr{Kids: []api.Expr{{}}}, api.ErrArg, api.ErrArg}, {api.Expr{Kind: api.Name, Name: "true"}, api.ErrArg, api.ErrArg},
	} {
		out = append(out,
			change{"Expr", func(p *api.Proc) { p.Expr = x.x }, x.had, x.unhad},
			change{"Exprs", func(p *api.Proc) { p.Exprs = []api.Expr{expr("1"), x.x} }, x.had, api.ErrArg})
	}
	for _, x := range []struct {
		xs         []api.Expr
		had, unhad api.Errno
	}{
		{nil, api.OK, api.OK}, {[]api.Expr{}, api.OK, api.OK}, {slices.Repeat([]api.Expr{expr("x")}, 6), api.OK, api.ErrArg}, {slices.Repeat([]api.Expr{expr("x")}, 7), api.ErrArg, api.ErrArg}, {slices.Repeat([]api.Expr{large}, 7), api.ErrArg, api.ErrArg}, {slices.Repeat([]api.Expr{large}, 6), api.ErrLarge, api.ErrArg},
		{[]api.Expr{none, large}, api.ErrArg, api.ErrArg}, {[]api.Expr{large, none}, api.ErrLarge, api.ErrArg}, {[]api.Expr{expr("1"), long, none}, api.ErrLarge, api.ErrArg},
	} {
		out = append(out, change{"Exprs", func(p *api.Proc) { p.Exprs = x.xs }, x.had, x.unhad})
	}
	return out
}

func endlessType() api.Type {
	t := api.Type{Kind: api.Send, Sort: api.Int, Kids: make([]api.Type, 1)}
	t.Kids[0] = t
	return t
}

func changesOfTypesAndLabels() []change {
	large := endlessType()
	var out []change
	for _, x := range []struct {
		t          api.Type
		had, unhad api.Errno
	}{
		{api.Type{}, api.ErrArg, api.OK}, {api.Type{Labels: []string{}, Kids: []api.Type{}}, api.ErrArg, api.OK}, {typed("end"), api.OK, api.ErrArg}, {typed("rec t.+{a:t,b:!{t}.end}"), api.OK, api.ErrArg}, {large, api.ErrLarge, api.ErrArg},
		{api.Type{Kind: api.Var, Name: "t"}, api.ErrName, api.ErrArg}, {api.Type{Kind: api.Rec, Name: "t", Kids: []api.Type{{Kind: api.Var, Name: "t"}}}, api.ErrType, api.ErrArg}, {api.Type{Kind: 12}, api.ErrArg, api.ErrArg},
		{api.Type{Sort: 1}, api.ErrArg, api.ErrArg}, {api.Type{Name: "t"}, api.ErrArg, api.ErrArg}, {api.Type{Labels: []string{""}}, api.ErrArg, api.ErrArg}, {api.Type{Kids: []api.Type{{}}}, api.ErrArg, api.ErrArg},
	} {
		out = append(out, change{"Type", func(p *api.Proc) { p.Type = x.t }, x.had, x.unhad})
	}
	for labels, had := range map[string]api.Errno{
		"a": api.OK, "a b": api.OK, "a b c d e f": api.OK, "case stop": api.OK, "a aa ab": api.OK, "a b c d e f g": api.ErrArg, "b a": api.ErrArg, "a a": api.ErrArg, "a c b": api.ErrArg, "a true": api.ErrArg, "abcdefghi": api.ErrArg, "A": api.ErrArg,
	} {
		list := strings.Fields(labels)
		out = append(out, change{"Labels", func(p *api.Proc) { setLabels(p, list) }, had, api.ErrArg})
	}
	return append(out,
		change{"Labels", func(p *api.Proc) { setLabels(p, nil) }, api.ErrArg, api.OK},
		change{"Labels", func(p *api.Proc) { setLabels(p, []string{}) }, api.ErrArg, api.OK},
		change{"Labels", func(p *api.Proc) { setLabels(p, []string{""}) }, api.ErrArg, api.ErrArg},
		change{"Labels", func(p *api.Proc) { p.Labels = []string{"a", "b", "c"} }, api.ErrArg, api.ErrArg})
}

// setLabels gives a case as many Kids, so that it is of the labels alone what is said.
func setLabels(p *api.Proc, labels []string) {
	p.Labels = labels
	if p.Kind == api.PCase {
		p.Kids = stops(len(labels))
	}
}

func allChanges() []change {
	return slices.Concat(changesOfNames(), changesOfExprs(), changesOfTypesAndLabels())
}

// said of a process of that kind when it is changed.
func (c change) said(x soundProc) api.Errno {
	if c.field == "Name" && strings.Contains(x.has, "Proc") {
		p := api.Proc{}
		c.do(&p)
		if !syntax.IsProc(p.Name) {
			return api.ErrArg
		}
		return api.OK
	}
	if slices.Contains(strings.Fields(x.has), c.field) {
		return c.had
	}
	return c.unhad
}

func TestP25EachKindHasJustWhatItHas(t *testing.T) {
	for _, x := range sound() {
		for i, c := range allChanges() {
			p := x.p
			c.do(&p)
			want := c.said(x)
			for _, around := range []api.Program{main(p), main(ends(p)), {Defs: []api.Def{{Name: "f", Body: stop()}, {Name: "f", Body: p}}}} {
				if e := syntax.Shape(around); e != want {
					t.Errorf("%s, change %d (%s): %d, want %d", x.s, i, c.field, e, want)
				}
			}
		}
	}
}

func TestP25EachKindHasItsKids(t *testing.T) {
	for _, x := range sound() {
		for kids := range 9 {
			p, want := x.p, api.ErrArg
			p.Kids = stops(kids)
			if kids == x.kids {
				want = api.OK
			}
			if e := syntax.Shape(main(p)); e != want {
				t.Errorf("%s with %d Kids: %d", x.s, kids, e)
			}
		}
	}
	for _, kind := range []int{0, -1, 14, 15, math.MaxInt, math.MinInt} {
		for kids := range 3 {
			if e := syntax.Shape(main(api.Proc{Kind: kind, Kids: stops(kids)})); e != api.ErrArg {
				t.Errorf("kind %d: %d", kind, e)
			}
		}
	}
}

func TestP25WhatAProcessHasGoesAheadOfWhatIsInside(t *testing.T) {
	large := endlessExpr()
	for i, x := range []struct {
		p    api.Proc
		want api.Errno
	}{
		{api.Proc{Kind: api.PSend, Expr: large, Kids: stops(1)}, api.ErrArg},
		{api.Proc{Kind: api.PSend, Chan: "c", Expr: large}, api.ErrArg},
		{api.Proc{Kind: api.PSend, Chan: "c", Expr: large, Kids: []api.Proc{{}}}, api.ErrLarge},
		{api.Proc{Kind: api.Print, Expr: large, Name: "x", Kids: stops(1)}, api.ErrArg},
		{api.Proc{Kind: api.Call, Name: "f", Exprs: []api.Expr{large}, Names: []string{"or"}}, api.ErrArg},
		{api.Proc{Kind: api.Call, Name: "f", Exprs: []api.Expr{large}, Kids: stops(1)}, api.ErrArg},
		{api.Proc{Kind: api.Spawn, Chan: "c", Type: api.Type{Kind: api.Var, Name: "t"}, Kids: stops(1)}, api.ErrArg},
		{api.Proc{Kind: api.Spawn, Chan: "c", Type: api.Type{Kind: api.Var, Name: "t"}, Kids: []api.Proc{{}, {}}}, api.ErrName},
		{api.Proc{Kind: api.If, Expr: expr("x"), Kids: []api.Proc{{Kind: api.Print, Expr: large, Kids: stops(1)}, {}}}, api.ErrLarge},
		{api.Proc{Kind: api.If, Expr: expr("x"), Kids: []api.Proc{{}, {Kind: api.Print, Expr: large, Kids: stops(1)}}}, api.ErrArg},
		// With all in each: what is deep in the first Kid goes ahead of the second one.
		{api.Proc{Kind: api.If, Expr: expr("x"), Kids: []api.Proc{ends(ends(api.Proc{Kind: api.Print, Expr: large, Kids: stops(1)})), {}}}, api.ErrLarge},
		{api.Proc{Kind: api.Spawn, Chan: "c", Type: typed("end"), Kids: []api.Proc{ends(ends(api.Proc{})), {Kind: api.Print, Expr: large, Kids: stops(1)}}}, api.ErrArg},
	} {
		if e := syntax.Shape(main(x.p)); e != x.want {
			t.Errorf("%d: %d, want %d", i, e, x.want)
		}
	}
}

func TestP25OneDefinitionBehindTheOther(t *testing.T) {
	free := []api.Type{{Kind: api.Var, Name: "t"}}
	large := api.Proc{Kind: api.Print, Expr: endlessExpr(), Kids: stops(1)}
	spoilt := []struct {
		d    api.Def
		want api.Errno
	}{
		{api.Def{Name: "stop", Body: stop()}, api.ErrArg}, {api.Def{Name: "f", Chans: letters(1), Types: free, Body: api.Proc{}}, api.ErrName}, {api.Def{Name: "f", Body: large}, api.ErrLarge}, {api.Def{Name: "f", Body: api.Proc{}}, api.ErrArg}, {api.Def{Name: "f", Body: row(201)}, api.ErrLarge},
		{api.Def{Name: "f", Body: api.Proc{Kind: api.Spawn, Chan: "c", Type: typed("!int.end"), Kids: []api.Proc{{Kind: api.Spawn, Chan: "c", Type: free[0], Kids: stops(2)}, {}}}}, api.ErrName},
	}
	for i, x := range spoilt {
		for j, y := range spoilt {
			good := api.Def{Name: "f", Body: stop()}
			if e := syntax.Shape(api.Program{Defs: []api.Def{good, x.d, good, y.d}}); e != x.want {
				t.Errorf("%d, %d: %d, want %d", i, j, e, x.want)
			}
		}
	}
}

func endlessProc(p api.Proc) api.Proc {
	p.Kids = slices.Clone(p.Kids)
	p.Kids[len(p.Kids)-1] = p
	return p
}

func TestP25ProcessesOfTheWholeProgramAreCounted(t *testing.T) {
	fork := func(a, b api.Proc) api.Proc {
		return api.Proc{Kind: api.If, Expr: expr("x"), Kids: []api.Proc{a, b}}
	}
	last := func(procs int, p api.Proc) api.Proc {
		for range procs {
			p = ends(p)
		}
		return p
	}
	two := func(a, b api.Proc) api.Program {
		return api.Program{Defs: []api.Def{{Name: "f", Body: a}, {Name: "g", Body: b}}}
	}
	none, large := api.Proc{}, api.Proc{Kind: api.Print, Expr: endlessExpr(), Kids: stops(1)}
	for i, x := range []struct {
		p    api.Program
		want api.Errno
	}{
		{main(row(200)), api.OK}, {main(row(201)), api.ErrLarge}, {main(row(60000)), api.ErrLarge},
		{main(last(199, none)), api.ErrArg}, {main(last(200, none)), api.ErrLarge}, {main(last(199, large)), api.ErrLarge},
		{main(fork(row(100), row(99))), api.OK}, {main(fork(row(100), row(100))), api.ErrLarge}, {main(fork(row(199), none)), api.ErrLarge}, {main(fork(row(198), none)), api.ErrArg}, {main(fork(none, row(201))), api.ErrArg}, {main(fork(row(201), none)), api.ErrLarge},
		{two(row(100), row(100)), api.OK}, {two(row(100), row(101)), api.ErrLarge}, {two(row(200), stop()), api.ErrLarge}, {two(row(200), none), api.ErrLarge}, {two(row(199), none), api.ErrArg}, {two(none, row(201)), api.ErrArg}, {two(row(201), none), api.ErrLarge},
		{api.Program{Defs: []api.Def{{Name: "f", Body: row(200)}, {Name: "def", Body: stop()}}}, api.ErrArg},
		{api.Program{Defs: []api.Def{{Name: "f", Body: row(201)}, {Name: "def", Body: stop()}}}, api.ErrLarge},
		{main(endlessProc(ends(stop()))), api.ErrLarge}, {main(endlessProc(fork(stop(), stop()))), api.ErrLarge}, {main(endlessProc(fork(none, stop()))), api.ErrArg},
	} {
		if e := syntax.Shape(x.p); e != x.want {
			t.Errorf("%d: %d, want %d", i, e, x.want)
		}
	}
}
